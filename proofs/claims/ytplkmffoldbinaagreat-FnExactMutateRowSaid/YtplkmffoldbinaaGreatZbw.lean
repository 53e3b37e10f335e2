import Derived.Test.YtplkmffoldbinaaGreatZbv
import Derived.Test.YtplkmffoldbinaaGreatZay
import Derived.Test.YtplkmffoldbinaaGreatZaa
namespace Go.Proofs.YtplkmffoldbinaaGreat
open Go.RowKit
set_option linter.unusedSimpArgs false
theorem rowM_I {t : Tb} : ∀ {list : List MutV} {cs : List (List At)}, RowI t cs → (∀ k (h : k < list.length), mutB list[k] = true ∧ mutC t list[k] = 0) → (rowM t cs list).1 = 0 → RowI t (rowM t cs list).2
  | [], cs, hI, _, _ => hI
  | c :: l, cs, hI, hq, h0 => by
    have h1 : mutB c = true ∧ mutC t c = 0 := hq 0 (by simp)
    obtain ⟨k, hk, hp, hm⟩ := mutC_place h1.2
    have hkc : k < cs.length := by have := hI.1; omega
    have hC := CanM.row hI hk h1.1 hm
    have e1 : t.cols.getD k clZ = t.cols[k] := by rw [List.getD_eq_getElem?_getD, List.getElem?_eq_getElem hk]; rfl
    have e2 : cs.getD k [] = cs[k] := by rw [List.getD_eq_getElem?_getD, List.getElem?_eq_getElem hkc]; rfl
    unfold rowM at h0 ⊢
    rw [hp, Int.toNat_natCast, e1, e2] at h0 ⊢
    by_cases hz : (mutP t.cols[k] cs[k] c).1 = 0
    · rw [if_pos hz] at h0 ⊢
      exact rowM_I (hI.set hk (mutP_ok hC hz).1 (mutP_ok hC hz).2.1) (fun k h => by have := hq (k + 1) (by simpa using h); simpa using this) h0
    · rw [if_neg hz] at h0
      exact absurd h0 hz
theorem mr_le {t : Tb} {r : RowV} {list : List MutV} (hid : iOK r.id) : (∀ j, j < 2 → (dRow (mrR t r list) j).le maxLen) ∧ (dAtomSS (mrR t r list).cells).sz ≤ 100000000 := by
  unfold mrR
  split
  · rename_i h
    unfold rowR
    split
    · rename_i h0
      have hI := rowM_I (rok_I h.2.1) (muts_each h.2.2.1 h.2.2.2) h0
      have h6 : t.cols.length ≤ 6 := by
        have := h.2.1
        unfold rokM at this
        simp only [Bool.and_eq_true] at this
        have hT : TabP t := by have := this.1; unfold tabB at this; exact @of_decide_eq_true _ (Classical.propDecidable _) this
        exact hT.len.2
      have hle := rowI_le hI h6
      refine ⟨fun j hj => ?_, by have := hle.2; show (dAtomSS (rowM t r.cells list).2).sz ≤ _; omega⟩
      rcases (by omega : j = 0 ∨ j = 1) with rfl | rfl
      · exact hid
      · exact hle.1
    · exact rowZ_le
  · exact rowZ_le
end Go.Proofs.YtplkmffoldbinaaGreat
namespace Go.Proofs.YtplkmffoldbinaaGreat
open Go.RowKit
set_option linter.unusedSimpArgs false
set_option maxRecDepth 100000 in
set_option maxHeartbeats 6400000 in
theorem mkDColumnS (l : List Cl) (a : Option Addr) (c k : Nat) (B : Nat → Prop) (w : World) (ho : (dColumnS l).le maxLen) (h0 : 0 < k) (h1 : k + (dColumnS l).wd < 100000000000) (hS : Own w (dColumnS l) B (.slice a l.length c)) :
    Calls Tryz.prog 43 #[.slice a l.length c, .int .i64 k] w fun e w' => e = .returned (.int .i64 (k + (dColumnS l).wd : Nat)) ∧ Own w' ((dColumnS l).mkd k) B (.slice a l.length c) ∧ Frm B w w' := by
  have hl : l.length ≤ maxLen := (Ls_le.1 ho).2.1
  unfold maxLen at hl
  have HX : Hid (∀ i (h : i < l.length) j, j < 8 → (dColumn l[i] j).le maxLen) := (Ls_le.1 ho).2.2
  have HWD : Hid (∀ i j, i < l.length → j ≤ 8 → k ≤ atN (lsF dColumn l) 8 k i j ∧ atN (lsF dColumn l) 8 k i j < 100000000000) := fun i j hi hj => ⟨atN_ge _ _ _ _ _, Nat.lt_of_le_of_lt (atN_le hi hj) h1⟩
  have HAL : Hid (atN (lsF dColumn l) 8 k l.length 0 = k + (dColumnS l).wd) := atN_all _ _ _ _
  have HS : Hid (l.length = 0 ∨ ∃ b off X, a = some ⟨b, off, none⟩ ∧ MS w w 8 l.length (lsF dColumn l) k B b off X 0 0) := by
    obtain ⟨a', c', e, hO⟩ := Own.open hS
    simp only [Value.slice.injEq] at e
    obtain ⟨rfl, -, -⟩ := e
    exact hO.imp id (fun ⟨b, off, X, ha, h⟩ => ⟨b, off, X, ha, MS.start h⟩)
  have H0 := Lib.hid h0
  clear hS ho h1 h0
  go_enter Tryz.func43, Tryz.ntmps43
  go_wp2_with fail
  go_loopw [1, 5] (fun q i wr => ∃ m kk : Nat, m ≤ l.length ∧ i = .int .i64 m ∧ q = .int .i64 (kk : Int) ∧ Hid (atN (lsF dColumn l) 8 k m 0 = kk ∧ ((l.length = 0 ∧ wr = w) ∨ ∃ b off X, a = some ⟨b, off, none⟩ ∧ MS w wr 8 l.length (lsF dColumn l) k B b off X m 0))) (fun _ i _ => l.length - (intOf i).toNat)
  case atStart => exact ⟨0, k, Nat.zero_le _, rfl, rfl, atN_zero _ _ _, HS.out.imp (fun h => ⟨h, rfl⟩) id⟩
  case round =>
    obtain ⟨m, kk, hm, rfl, rfl, HR⟩ := hrel
    by_cases hlt : m < l.length
    case neg =>
      have hm' : m = l.length := by omega
      have hmi : decide ((m : Int) < (l.length : Int)) = false := decide_eq_false (by omega)
      have HF : Hid ((kk : Int) = ((k + (dColumnS l).wd : Nat) : Int) ∧ Own wr ((dColumnS l).mkd k) B (.slice a l.length c) ∧ Frm B w wr) := by
        obtain ⟨hk, h⟩ := HR.out
        have hal := HAL.out
        rw [hm'] at hk
        rw [hk] at hal
        refine ⟨by rw [hal], ?_⟩
        rcases h with ⟨h, rfl⟩ | ⟨b, off, X, rfl, h⟩
        · exact ⟨⟨a, c, rfl, .inl h⟩, Frm.refl _ _⟩
        · rw [hm'] at h
          exact ⟨h.done c, h.frm⟩
      clear hm' HR
      go_wp2_with fail
      go_ret
      exact ⟨ret_i HF.out.1, HF.out.2⟩
    obtain ⟨hk0, hz⟩ := HR.out
    clear HS HR
    obtain ⟨b, off, X, rfl, h⟩ : ∃ b off X, a = some ⟨b, off, none⟩ ∧ MS w wr 8 l.length (lsF dColumn l) k B b off X m 0 := by
      rcases hz with ⟨h, -⟩ | h
      · omega
      · exact h
    clear hz
    have M0 := Lib.hid h
    have HFA : Hid (lsF dColumn l m = dColumn l[m]) := lsF_at hlt
    have N0 := Lib.hid hk0
    have HXK := Lib.hid (HX.out m hlt)
    have HM := Lib.hid hlt
    have hmi : (m : Int) < (l.length : Int) := by omega
    have hb : kk < 100000000000 ∧ 0 < kk := by have h1 := HWD.out m 0 hlt (by omega); have := H0.out; rw [hk0] at h1; omega
    obtain ⟨hb0, hp0⟩ := hb
    clear h hk0 HX
    generalize l[m] = x at *
    have hbd0 : kk < 100000000000 ∧ 0 < kk := by have h1 := HWD.out m 0 HM.out (by omega); have := H0.out; rw [N0.out] at h1; omega
    go_wp2_with fail
    refine (markText (kk) _ hbd0.2 (by have := hbd0.1; omega)).mono ?_
    rintro e v0 ⟨rfl, hB0⟩
    have K0 := Lib.hid (M0.out.later hB0)
    clear hB0 M0 hbd0
    obtain ⟨u0, e0, z0, o0⟩ := K0.out.peek HFA.out HM.out (j' := 0) (by omega) (by omega)
    clear o0
    replace e0 : v0.cell? ⟨b, off + m * 8, none⟩ = _ := e0
    replace z0 : v0.frozen? ⟨b, off + m * 8, none⟩ = false := z0
    obtain ⟨u1, e1, z1, o1⟩ := K0.out.peek HFA.out HM.out (j' := 1) (by omega) (by omega)
    clear o1
    obtain ⟨u2, e2, z2, o2⟩ := K0.out.peek HFA.out HM.out (j' := 2) (by omega) (by omega)
    clear o2
    obtain ⟨u3, e3, z3, o3⟩ := K0.out.peek HFA.out HM.out (j' := 3) (by omega) (by omega)
    clear o3
    obtain ⟨u4, e4, z4, o4⟩ := K0.out.peek HFA.out HM.out (j' := 4) (by omega) (by omega)
    clear o4
    obtain ⟨u5, e5, z5, o5⟩ := K0.out.peek HFA.out HM.out (j' := 5) (by omega) (by omega)
    clear o5
    have M1 : Hid (MS w (v0.setCell ⟨b, off + m * 8, none⟩ (.string ⟨(mt (kk)).toArray⟩)) 8 l.length (lsF dColumn l) k B b off X m 1) := K0.out.scalar (x := .s x.nm) (q := kk) HM.out (by omega) (by rw [HFA.out]; rfl) N0.out.symm trivial rfl (by omega)
    have N1 : Hid (atN (lsF dColumn l) 8 k m 1 = kk + 1) := atN_next HFA.out N0.out
    have M2 : Hid (MS w ((v0.setCell ⟨b, off + m * 8, none⟩ (.string ⟨(mt (kk)).toArray⟩)).setCell ⟨b, off + m * 8 + 1, none⟩ (.int .i64 ((kk : Int) + 1))) 8 l.length (lsF dColumn l) k B b off X m 2) := M1.out.scalar (x := .i x.k) (q := kk + 1) HM.out (by omega) (by rw [HFA.out]; rfl) N1.out.symm trivial rfl (by omega)
    have N2 : Hid (atN (lsF dColumn l) 8 k m 2 = kk + 1 + 1) := atN_next HFA.out N1.out
    have M3 : Hid (MS w (((v0.setCell ⟨b, off + m * 8, none⟩ (.string ⟨(mt (kk)).toArray⟩)).setCell ⟨b, off + m * 8 + 1, none⟩ (.int .i64 ((kk : Int) + 1))).setCell ⟨b, off + m * 8 + 2, none⟩ (.int .i64 ((kk : Int) + 1 + 1))) 8 l.length (lsF dColumn l) k B b off X m 3) := M2.out.scalar (x := .i x.mn) (q := kk + 1 + 1) HM.out (by omega) (by rw [HFA.out]; rfl) N2.out.symm trivial rfl (by omega)
    have N3 : Hid (atN (lsF dColumn l) 8 k m 3 = kk + 1 + 1 + 1) := atN_next HFA.out N2.out
    have M4 : Hid (MS w ((((v0.setCell ⟨b, off + m * 8, none⟩ (.string ⟨(mt (kk)).toArray⟩)).setCell ⟨b, off + m * 8 + 1, none⟩ (.int .i64 ((kk : Int) + 1))).setCell ⟨b, off + m * 8 + 2, none⟩ (.int .i64 ((kk : Int) + 1 + 1))).setCell ⟨b, off + m * 8 + 3, none⟩ (.int .i64 ((kk : Int) + 1 + 1 + 1))) 8 l.length (lsF dColumn l) k B b off X m 4) := M3.out.scalar (x := .i x.mx) (q := kk + 1 + 1 + 1) HM.out (by omega) (by rw [HFA.out]; rfl) N3.out.symm trivial rfl (by omega)
    have N4 : Hid (atN (lsF dColumn l) 8 k m 4 = kk + 1 + 1 + 1 + 1) := atN_next HFA.out N3.out
    have M5 : Hid (MS w (((((v0.setCell ⟨b, off + m * 8, none⟩ (.string ⟨(mt (kk)).toArray⟩)).setCell ⟨b, off + m * 8 + 1, none⟩ (.int .i64 ((kk : Int) + 1))).setCell ⟨b, off + m * 8 + 2, none⟩ (.int .i64 ((kk : Int) + 1 + 1))).setCell ⟨b, off + m * 8 + 3, none⟩ (.int .i64 ((kk : Int) + 1 + 1 + 1))).setCell ⟨b, off + m * 8 + 4, none⟩ (.int .i64 ((kk : Int) + 1 + 1 + 1 + 1))) 8 l.length (lsF dColumn l) k B b off X m 5) := M4.out.scalar (x := .i x.lo) (q := kk + 1 + 1 + 1 + 1) HM.out (by omega) (by rw [HFA.out]; rfl) N4.out.symm trivial rfl (by omega)
    have N5 : Hid (atN (lsF dColumn l) 8 k m 5 = kk + 1 + 1 + 1 + 1 + 1) := atN_next HFA.out N4.out
    have M6 : Hid (MS w ((((((v0.setCell ⟨b, off + m * 8, none⟩ (.string ⟨(mt (kk)).toArray⟩)).setCell ⟨b, off + m * 8 + 1, none⟩ (.int .i64 ((kk : Int) + 1))).setCell ⟨b, off + m * 8 + 2, none⟩ (.int .i64 ((kk : Int) + 1 + 1))).setCell ⟨b, off + m * 8 + 3, none⟩ (.int .i64 ((kk : Int) + 1 + 1 + 1))).setCell ⟨b, off + m * 8 + 4, none⟩ (.int .i64 ((kk : Int) + 1 + 1 + 1 + 1))).setCell ⟨b, off + m * 8 + 5, none⟩ (.int .i64 ((kk : Int) + 1 + 1 + 1 + 1 + 1))) 8 l.length (lsF dColumn l) k B b off X m 6) := M5.out.scalar (x := .i x.hi) (q := kk + 1 + 1 + 1 + 1 + 1) HM.out (by omega) (by rw [HFA.out]; rfl) N5.out.symm trivial rfl (by omega)
    have N6 : Hid (atN (lsF dColumn l) 8 k m 6 = kk + 1 + 1 + 1 + 1 + 1 + 1) := atN_next HFA.out N5.out
    generalize mt (kk) = yt0 at *
    have hbd6 : kk + 1 + 1 + 1 + 1 + 1 + 1 < 100000000000 ∧ 0 < kk + 1 + 1 + 1 + 1 + 1 + 1 := by have h1 := HWD.out m 6 HM.out (by omega); have := H0.out; rw [N6.out] at h1; omega
    go_wp2_with fail
    rw [show ((kk : Int) + 1 + 1 + 1 + 1 + 1 + 1) = ((kk + 1 + 1 + 1 + 1 + 1 + 1 : Nat) : Int) from rfl]
    refine (markText (kk + 1 + 1 + 1 + 1 + 1 + 1) _ hbd6.2 (by have := hbd6.1; omega)).mono ?_
    rintro e v6 ⟨rfl, hB6⟩
    have K6 := Lib.hid (M6.out.later hB6)
    clear hB6 M6 hbd6 e0 z0 e1 z1 e2 z2 e3 z3 e4 z4 e5 z5
    obtain ⟨b6, hb6⟩ : ∃ y : Nat, y = kk + 1 + 1 + 1 + 1 + 1 + 1 := ⟨_, rfl⟩
    rw [← hb6] at N6 ⊢
    have hlb6 : 0 < b6 ∧ b6 < 100000000000 := by have h1 := HWD.out m 6 HM.out (by omega); have := H0.out; rw [N6.out] at h1; omega
    obtain ⟨hlb61, hlb62⟩ := hlb6
    clear hb6
    obtain ⟨u6, e6, z6, o6⟩ := K6.out.peek HFA.out HM.out (j' := 6) (by omega) (by omega)
    clear o6
    obtain ⟨u7, e7, z7, o7⟩ := K6.out.peek HFA.out HM.out (j' := 7) (by omega) (by omega)
    clear o7
    have M7 : Hid (MS w (v6.setCell ⟨b, off + m * 8 + 6, none⟩ (.string ⟨(mt (b6)).toArray⟩)) 8 l.length (lsF dColumn l) k B b off X m 7) := K6.out.scalar (x := .s x.rf) (q := b6) HM.out (by omega) (by rw [HFA.out]; rfl) N6.out.symm trivial rfl (by omega)
    have N7 : Hid (atN (lsF dColumn l) 8 k m 7 = b6 + 1) := atN_next HFA.out N6.out
    have M8 : Hid (MS w ((v6.setCell ⟨b, off + m * 8 + 6, none⟩ (.string ⟨(mt (b6)).toArray⟩)).setCell ⟨b, off + m * 8 + 7, none⟩ (.bool (rem3 (b6 + 1)))) 8 l.length (lsF dColumn l) k B b off X m 8) := M7.out.scalar (x := .b x.st) (q := b6 + 1) HM.out (by omega) (by rw [HFA.out]; rfl) N7.out.symm trivial rfl (by omega)
    have N8 : Hid (atN (lsF dColumn l) 8 k m 8 = b6 + 1 + 1) := atN_next HFA.out N7.out
    obtain ⟨r7, ra7, rb7, rc7, rd7, re7⟩ := rem3T (b6 + 1) (by omega)
    rw [show ((b6 + 1 : Nat) : Int) = (b6 : Int) + 1 from rfl] at ra7 rc7 rd7
    obtain ⟨y7, hy7⟩ : ∃ y, y = rem3 (b6 + 1) := ⟨_, rfl⟩
    rw [← hy7] at re7 M8
    clear hy7
    generalize mt (b6) = yt6 at *
    go_wp2_with fail
    go_roundw
    case rel => exact ⟨m + 1, b6 + 1 + 1, by omega, by go_num, by first | rfl | go_num, by rw [atN_row]; exact N8.out, .inr ⟨b, off, X, rfl, M8.out.row⟩⟩
    case measure => simp [intOf]; omega
set_option maxRecDepth 100000 in
set_option maxHeartbeats 6400000 in
theorem mkDIntS (l : List Int) (a : Option Addr) (c k : Nat) (B : Nat → Prop) (w : World) (ho : (dIntS l).le maxLen) (h0 : 0 < k) (h1 : k + (dIntS l).wd < 100000000000) (hS : Own w (dIntS l) B (.slice a l.length c)) :
    Calls Tryz.prog 44 #[.slice a l.length c, .int .i64 k] w fun e w' => e = .returned (.int .i64 (k + (dIntS l).wd : Nat)) ∧ Own w' ((dIntS l).mkd k) B (.slice a l.length c) ∧ Frm B w w' := by
  have hl : l.length ≤ maxLen := (Ls_le.1 ho).2.1
  unfold maxLen at hl
  have HX : Hid (∀ i (h : i < l.length) j, j < 1 → (cInt l[i] j).le maxLen) := (Ls_le.1 ho).2.2
  have HWD : Hid (∀ i j, i < l.length → j ≤ 1 → k ≤ atN (lsF cInt l) 1 k i j ∧ atN (lsF cInt l) 1 k i j < 100000000000) := fun i j hi hj => ⟨atN_ge _ _ _ _ _, Nat.lt_of_le_of_lt (atN_le hi hj) h1⟩
  have HAL : Hid (atN (lsF cInt l) 1 k l.length 0 = k + (dIntS l).wd) := atN_all _ _ _ _
  have HS : Hid (l.length = 0 ∨ ∃ b off X, a = some ⟨b, off, none⟩ ∧ MS w w 1 l.length (lsF cInt l) k B b off X 0 0) := by
    obtain ⟨a', c', e, hO⟩ := Own.open hS
    simp only [Value.slice.injEq] at e
    obtain ⟨rfl, -, -⟩ := e
    exact hO.imp id (fun ⟨b, off, X, ha, h⟩ => ⟨b, off, X, ha, MS.start h⟩)
  have H0 := Lib.hid h0
  clear hS ho h1 h0
  go_enter Tryz.func44, Tryz.ntmps44
  go_wp2_with fail
  go_loopw [1, 5] (fun q i wr => ∃ m kk : Nat, m ≤ l.length ∧ i = .int .i64 m ∧ q = .int .i64 (kk : Int) ∧ Hid (atN (lsF cInt l) 1 k m 0 = kk ∧ ((l.length = 0 ∧ wr = w) ∨ ∃ b off X, a = some ⟨b, off, none⟩ ∧ MS w wr 1 l.length (lsF cInt l) k B b off X m 0))) (fun _ i _ => l.length - (intOf i).toNat)
  case atStart => exact ⟨0, k, Nat.zero_le _, rfl, rfl, atN_zero _ _ _, HS.out.imp (fun h => ⟨h, rfl⟩) id⟩
  case round =>
    obtain ⟨m, kk, hm, rfl, rfl, HR⟩ := hrel
    by_cases hlt : m < l.length
    case neg =>
      have hm' : m = l.length := by omega
      have hmi : decide ((m : Int) < (l.length : Int)) = false := decide_eq_false (by omega)
      have HF : Hid ((kk : Int) = ((k + (dIntS l).wd : Nat) : Int) ∧ Own wr ((dIntS l).mkd k) B (.slice a l.length c) ∧ Frm B w wr) := by
        obtain ⟨hk, h⟩ := HR.out
        have hal := HAL.out
        rw [hm'] at hk
        rw [hk] at hal
        refine ⟨by rw [hal], ?_⟩
        rcases h with ⟨h, rfl⟩ | ⟨b, off, X, rfl, h⟩
        · exact ⟨⟨a, c, rfl, .inl h⟩, Frm.refl _ _⟩
        · rw [hm'] at h
          exact ⟨h.done c, h.frm⟩
      clear hm' HR
      go_wp2_with fail
      go_ret
      exact ⟨ret_i HF.out.1, HF.out.2⟩
    obtain ⟨hk0, hz⟩ := HR.out
    clear HS HR
    obtain ⟨b, off, X, rfl, h⟩ : ∃ b off X, a = some ⟨b, off, none⟩ ∧ MS w wr 1 l.length (lsF cInt l) k B b off X m 0 := by
      rcases hz with ⟨h, -⟩ | h
      · omega
      · exact h
    clear hz
    have M0 := Lib.hid h
    have HFA : Hid (lsF cInt l m = cInt l[m]) := lsF_at hlt
    have N0 := Lib.hid hk0
    have HXK := Lib.hid (HX.out m hlt)
    have HM := Lib.hid hlt
    have hmi : (m : Int) < (l.length : Int) := by omega
    have hb : kk < 100000000000 ∧ 0 < kk := by have h1 := HWD.out m 0 hlt (by omega); have := H0.out; rw [hk0] at h1; omega
    obtain ⟨hb0, hp0⟩ := hb
    clear h hk0 HX
    generalize l[m] = x at *
    obtain ⟨u0, e0, z0, o0⟩ := M0.out.peek HFA.out HM.out (j' := 0) (by omega) (by omega)
    clear o0
    rw [Nat.mul_one] at e0 z0
    replace e0 : wr.cell? ⟨b, off + m, none⟩ = _ := e0
    replace z0 : wr.frozen? ⟨b, off + m, none⟩ = false := z0
    have M1 : Hid (MS w (wr.setCell ⟨b, off + m, none⟩ (.int .i64 ((kk : Int)))) 1 l.length (lsF cInt l) k B b off X m 1) := M0.out.scalar (x := .i x) (q := kk) HM.out (by omega) (by rw [HFA.out]; rfl) N0.out.symm trivial rfl (by omega)
    have N1 : Hid (atN (lsF cInt l) 1 k m 1 = kk + 1) := atN_next HFA.out N0.out
    go_wp2_with fail
    go_roundw
    case rel => exact ⟨m + 1, kk + 1, by omega, by go_num, by first | rfl | go_num, by rw [atN_row]; exact N1.out, .inr ⟨b, off, X, rfl, M1.out.row⟩⟩
    case measure => simp [intOf]; omega
end Go.Proofs.YtplkmffoldbinaaGreat
namespace Go.Proofs.YtplkmffoldbinaaGreat
open Go.RowKit
set_option linter.unusedSimpArgs false
set_option maxRecDepth 100000 in
set_option maxHeartbeats 3200000 in
theorem mkDTable (x : Tb) (a1 : Option Addr) (c1 : Nat) (a2 : Option Addr) (c2 : Nat) (k : Nat) (B1 B2 : Nat → Prop) (w : World) (l1 : (dColumnS x.cols).le maxLen) (l2 : (dIntS x.uq).le maxLen) (h0 : 0 < k) (h1 : k + (dColumnS x.cols).wd + (dIntS x.uq).wd < 100000000000) (o1 : Own w (dColumnS x.cols) B1 (.slice a1 x.cols.length c1)) (o2 : Own w (dIntS x.uq) B2 (.slice a2 x.uq.length c2)) (n1_2 : ∀ b, B1 b → ¬ B2 b) (n2_1 : ∀ b, B2 b → ¬ B1 b) :
    Calls Tryz.prog 15 #[.agg #[.string ⟨x.nm.toArray⟩, .slice a1 x.cols.length c1, .slice a2 x.uq.length c2, .bool x.rt], .int .i64 k] w fun e w' => e = .returned (.int .i64 (k + (dColumnS x.cols).wd + (dIntS x.uq).wd : Nat)) ∧ (Own w' ((dColumnS x.cols).mkd (k)) B1 (.slice a1 x.cols.length c1) ∧ Own w' ((dIntS x.uq).mkd (k + (dColumnS x.cols).wd)) B2 (.slice a2 x.uq.length c2)) ∧ Frm (fun b => B1 b ∨ B2 b) w w' := by
  have hx := boxD 40 w #[.string ⟨x.nm.toArray⟩, .slice a1 x.cols.length c1, .slice a2 x.uq.length c2, .bool x.rt]
  have F0 : Hid (Frm (fun b => B1 b ∨ B2 b) w (w.alloc (.cells #[.string ⟨x.nm.toArray⟩, .slice a1 x.cols.length c1, .slice a2 x.uq.length c2, .bool x.rt] 40))) := Frm.of_below (below_allocD _ _)
  have O1 := Lib.hid ((Own.inside _ _ _ o1).later hx.2)
  have O2 := Lib.hid ((Own.inside _ _ _ o2).later hx.2)
  have x0 := cell_at (o := 0) hx.1 rfl
  have x1 := cell_at (o := 1) hx.1 rfl
  have x2 := cell_at (o := 2) hx.1 rfl
  have x3 := cell_at (o := 3) hx.1 rfl
  have HX := Lib.hid hx.1
  have L1 := Lib.hid l1
  have L2 := Lib.hid l2
  have D1_2 := Lib.hid n1_2
  have D2_1 := Lib.hid n2_1
  have HB := Lib.hid (And.intro h0 h1)
  clear hx h0 h1 o1 l1 o2 l2 n1_2 n2_1
  go_enter Tryz.func15, Tryz.ntmps15
  go_wp2_with fail
  refine (mkDColumnS x.cols a1 c1 (k) (fun b => B1 b ∧ b < w.heap.size) _ L1.out (by have := HB.out; omega) (by have := HB.out; omega) O1.out).mono ?_
  rintro e v1 ⟨rfl, p1, f1⟩
  have Q1 := Lib.hid p1
  have F2 : Hid (Frm (fun b => B1 b ∨ B2 b) w v1) := F0.out.trans (f1.mono (fun b h => .inl h.1))
  have P2 := Lib.hid (O2.out.frm f1 (fun b h h2 => D2_1.out b h.1 h2.1))
  clear O2
  have O2 := P2
  clear P2
  have hx : v1.heap[w.heap.size]? = some (.cells #[.string ⟨x.nm.toArray⟩, .slice a1 x.cols.length c1, .slice a2 x.uq.length c2, .bool x.rt] 40) := (f1.block _ (Array.getElem?_eq_some_iff.1 HX.out).1 (fun h => by have := h.2; omega)).trans HX.out
  clear p1 f1 F0 O1 HX x0 x1 x2 x3
  have HX1 := Lib.hid hx
  have x0 := cell_at (o := 0) hx rfl
  have x1 := cell_at (o := 1) hx rfl
  have x2 := cell_at (o := 2) hx rfl
  have x3 := cell_at (o := 3) hx rfl
  clear hx
  go_wp2_with fail
  refine (mkDIntS x.uq a2 c2 (k + (dColumnS x.cols).wd) (fun b => B2 b ∧ b < w.heap.size) _ L2.out (by have := HB.out; omega) (by have := HB.out; omega) O2.out).mono ?_
  rintro e v2 ⟨rfl, p2, f2⟩
  have Q2 := Lib.hid p2
  have F3 : Hid (Frm (fun b => B1 b ∨ B2 b) w v2) := F2.out.trans (f2.mono (fun b h => .inr h.1))
  have P1 := Lib.hid (Q1.out.frm f2 (fun b h h2 => D1_2.out b h.1 h2.1))
  clear Q1
  have Q1 := P1
  clear P1
  have hx : v2.heap[w.heap.size]? = some (.cells #[.string ⟨x.nm.toArray⟩, .slice a1 x.cols.length c1, .slice a2 x.uq.length c2, .bool x.rt] 40) := (f2.block _ (Array.getElem?_eq_some_iff.1 HX1.out).1 (fun h => by have := h.2; omega)).trans HX1.out
  clear p2 f2 F2 O2 HX1 x0 x1 x2 x3
  have HX2 := Lib.hid hx
  have x0 := cell_at (o := 0) hx rfl
  have x1 := cell_at (o := 1) hx rfl
  have x2 := cell_at (o := 2) hx rfl
  have x3 := cell_at (o := 3) hx rfl
  clear hx
  go_wp2_with fail
  go_ret
  exact ⟨rfl, ⟨Q1.out.mono (fun _ h => h.1), Q2.out.mono (fun _ h => h.1)⟩, F3.out⟩
end Go.Proofs.YtplkmffoldbinaaGreat
