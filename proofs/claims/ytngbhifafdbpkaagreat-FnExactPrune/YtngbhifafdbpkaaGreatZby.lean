import Derived.Test.YtngbhifafdbpkaaGreatZao
import Derived.Test.YtngbhifafdbpkaaGreatZaa
namespace Go.Proofs.YtngbhifafdbpkaaGreat
open Go.RowKit
set_option linter.unusedSimpArgs false
set_option maxRecDepth 100000 in
set_option maxHeartbeats 6400000 in
theorem mkDColumnS (l : List Cl) (a : Option Addr) (c k : Nat) (B : Nat → Prop) (w : World) (ho : (dColumnS l).le maxLen) (h0 : 0 < k) (h1 : k + (dColumnS l).wd < 100000000000) (hS : Own w (dColumnS l) B (.slice a l.length c)) :
    Calls Tryz.prog 53 #[.slice a l.length c, .int .i64 k] w fun e w' => e = .returned (.int .i64 (k + (dColumnS l).wd : Nat)) ∧ Own w' ((dColumnS l).mkd k) B (.slice a l.length c) ∧ Frm B w w' := by
  have hl : l.length ≤ maxLen := (Ls_le.1 ho).2.1
  unfold maxLen at hl
  have HX : Hid (∀ i (h : i < l.length) j, j < 8 → (dColumn l[i] j).le maxLen) := (Ls_le.1 ho).2.2
  have HWD : Hid (∀ i j, i < l.length → j ≤ 8 → k ≤ atN (lsF dColumn l) 8 k i j ∧ atN (lsF dColumn l) 8 k i j < 100000000000) := fun i j hi hj => ⟨atN_ge _ _ _ _ _, Nat.lt_of_le_of_lt (atN_le hi hj) h1⟩
  have HAL : Hid (atN (lsF dColumn l) 8 k l.length 0 = k + (dColumnS l).wd) := atN_all _ _ _ _
  have HMC : Hid (l.length ≤ c) := by
    obtain ⟨a', c', e, hmc, -⟩ := Own.open hS
    simp only [Value.slice.injEq] at e
    obtain ⟨-, -, rfl⟩ := e
    exact hmc
  have HS : Hid (l.length = 0 ∨ ∃ b off X, a = some ⟨b, off, none⟩ ∧ MS w w 8 l.length (lsF dColumn l) k B b off X 0 0) := by
    obtain ⟨a', c', e, -, hO⟩ := Own.open hS
    simp only [Value.slice.injEq] at e
    obtain ⟨rfl, -, -⟩ := e
    exact hO.imp id (fun ⟨b, off, X, ha, h⟩ => ⟨b, off, X, ha, MS.start h⟩)
  have H0 := Lib.hid h0
  clear hS ho h1 h0
  go_enter Tryz.func53, Tryz.ntmps53
  go_wp2_with fail
  go_loopw [1, 5] (fun q i wr => ∃ m kk : Nat, m ≤ l.length ∧ i = .int .i64 m ∧ q = .int .i64 (kk : Int) ∧ Hid (atN (lsF dColumn l) 8 k m 0 = kk ∧ ((l.length = 0 ∧ wr = w) ∨ ∃ b off X, a = some ⟨b, off, none⟩ ∧ MS w wr 8 l.length (lsF dColumn l) k B b off X m 0))) (fun _ i _ => l.length - (intOf i).toNat)
  case atStart => exact ⟨0, k, Nat.zero_le _, rfl, rfl, atN_zero _ _ _, HS.out.imp (fun h => ⟨h, rfl⟩) id⟩
  case round =>
    obtain ⟨m, kk, hm, rfl, rfl, HR⟩ := hrel
    by_cases hlt : m < l.length
    case neg =>
      have hm' : m = l.length := by omega
      have hmi : decide ((m : Int) < (l.length : Int)) = false := decide_eq_false (by omega)
      have HF : Hid ((kk : Int) = ((k + (dColumnS l).wd : Nat) : Int) ∧ Own wr ((dColumnS l).mkd k) B (.slice a l.length c) ∧ Frm B w wr) := by
        obtain ⟨hk, h⟩ := HR.out
        have hal := HAL.out
        rw [hm'] at hk
        rw [hk] at hal
        refine ⟨by rw [hal], ?_⟩
        rcases h with ⟨h, rfl⟩ | ⟨b, off, X, rfl, h⟩
        · exact ⟨⟨a, c, rfl, HMC.out, .inl h⟩, Frm.refl _ _⟩
        · rw [hm'] at h
          exact ⟨h.done c HMC.out, h.frm⟩
      clear hm' HR
      go_wp2_with fail
      go_ret
      exact ⟨ret_i HF.out.1, HF.out.2⟩
    obtain ⟨hk0, hz⟩ := HR.out
    clear HS HR
    obtain ⟨b, off, X, rfl, h⟩ : ∃ b off X, a = some ⟨b, off, none⟩ ∧ MS w wr 8 l.length (lsF dColumn l) k B b off X m 0 := by
      rcases hz with ⟨h, -⟩ | h
      · omega
      · exact h
    clear hz
    have M0 := Lib.hid h
    have HFA : Hid (lsF dColumn l m = dColumn l[m]) := lsF_at hlt
    have N0 := Lib.hid hk0
    have HXK := Lib.hid (HX.out m hlt)
    have HM := Lib.hid hlt
    have hmi : (m : Int) < (l.length : Int) := by omega
    have hb : kk < 100000000000 ∧ 0 < kk := by have h1 := HWD.out m 0 hlt (by omega); have := H0.out; rw [hk0] at h1; omega
    obtain ⟨hb0, hp0⟩ := hb
    clear h hk0 HX
    generalize l[m] = x at *
    have hbd0 : kk < 100000000000 ∧ 0 < kk := by have h1 := HWD.out m 0 HM.out (by omega); have := H0.out; rw [N0.out] at h1; omega
    go_wp2_with fail
    refine (markText (kk) _ hbd0.2 (by have := hbd0.1; omega)).mono ?_
    rintro e v0 ⟨rfl, hB0⟩
    have K0 := Lib.hid (M0.out.later hB0)
    clear hB0 M0 hbd0
    obtain ⟨u0, e0, z0, o0⟩ := K0.out.peek HFA.out HM.out (j' := 0) (by omega) (by omega)
    clear o0
    replace e0 : v0.cell? ⟨b, off + m * 8, none⟩ = _ := e0
    replace z0 : v0.frozen? ⟨b, off + m * 8, none⟩ = false := z0
    obtain ⟨u1, e1, z1, o1⟩ := K0.out.peek HFA.out HM.out (j' := 1) (by omega) (by omega)
    clear o1
    obtain ⟨u2, e2, z2, o2⟩ := K0.out.peek HFA.out HM.out (j' := 2) (by omega) (by omega)
    clear o2
    obtain ⟨u3, e3, z3, o3⟩ := K0.out.peek HFA.out HM.out (j' := 3) (by omega) (by omega)
    clear o3
    obtain ⟨u4, e4, z4, o4⟩ := K0.out.peek HFA.out HM.out (j' := 4) (by omega) (by omega)
    clear o4
    obtain ⟨u5, e5, z5, o5⟩ := K0.out.peek HFA.out HM.out (j' := 5) (by omega) (by omega)
    clear o5
    have M1 : Hid (MS w (v0.setCell ⟨b, off + m * 8, none⟩ (.string ⟨(mt (kk)).toArray⟩)) 8 l.length (lsF dColumn l) k B b off X m 1) := K0.out.scalar (x := .s x.nm) (q := kk) HM.out (by omega) (by rw [HFA.out]; rfl) N0.out.symm trivial rfl (by omega)
    have N1 : Hid (atN (lsF dColumn l) 8 k m 1 = kk + 1) := atN_next HFA.out N0.out
    have M2 : Hid (MS w ((v0.setCell ⟨b, off + m * 8, none⟩ (.string ⟨(mt (kk)).toArray⟩)).setCell ⟨b, off + m * 8 + 1, none⟩ (.int .i64 ((kk : Int) + 1))) 8 l.length (lsF dColumn l) k B b off X m 2) := M1.out.scalar (x := .i x.k) (q := kk + 1) HM.out (by omega) (by rw [HFA.out]; rfl) N1.out.symm trivial rfl (by omega)
    have N2 : Hid (atN (lsF dColumn l) 8 k m 2 = kk + 1 + 1) := atN_next HFA.out N1.out
    have M3 : Hid (MS w (((v0.setCell ⟨b, off + m * 8, none⟩ (.string ⟨(mt (kk)).toArray⟩)).setCell ⟨b, off + m * 8 + 1, none⟩ (.int .i64 ((kk : Int) + 1))).setCell ⟨b, off + m * 8 + 2, none⟩ (.int .i64 ((kk : Int) + 1 + 1))) 8 l.length (lsF dColumn l) k B b off X m 3) := M2.out.scalar (x := .i x.mn) (q := kk + 1 + 1) HM.out (by omega) (by rw [HFA.out]; rfl) N2.out.symm trivial rfl (by omega)
    have N3 : Hid (atN (lsF dColumn l) 8 k m 3 = kk + 1 + 1 + 1) := atN_next HFA.out N2.out
    have M4 : Hid (MS w ((((v0.setCell ⟨b, off + m * 8, none⟩ (.string ⟨(mt (kk)).toArray⟩)).setCell ⟨b, off + m * 8 + 1, none⟩ (.int .i64 ((kk : Int) + 1))).setCell ⟨b, off + m * 8 + 2, none⟩ (.int .i64 ((kk : Int) + 1 + 1))).setCell ⟨b, off + m * 8 + 3, none⟩ (.int .i64 ((kk : Int) + 1 + 1 + 1))) 8 l.length (lsF dColumn l) k B b off X m 4) := M3.out.scalar (x := .i x.mx) (q := kk + 1 + 1 + 1) HM.out (by omega) (by rw [HFA.out]; rfl) N3.out.symm trivial rfl (by omega)
    have N4 : Hid (atN (lsF dColumn l) 8 k m 4 = kk + 1 + 1 + 1 + 1) := atN_next HFA.out N3.out
    have M5 : Hid (MS w (((((v0.setCell ⟨b, off + m * 8, none⟩ (.string ⟨(mt (kk)).toArray⟩)).setCell ⟨b, off + m * 8 + 1, none⟩ (.int .i64 ((kk : Int) + 1))).setCell ⟨b, off + m * 8 + 2, none⟩ (.int .i64 ((kk : Int) + 1 + 1))).setCell ⟨b, off + m * 8 + 3, none⟩ (.int .i64 ((kk : Int) + 1 + 1 + 1))).setCell ⟨b, off + m * 8 + 4, none⟩ (.int .i64 ((kk : Int) + 1 + 1 + 1 + 1))) 8 l.length (lsF dColumn l) k B b off X m 5) := M4.out.scalar (x := .i x.lo) (q := kk + 1 + 1 + 1 + 1) HM.out (by omega) (by rw [HFA.out]; rfl) N4.out.symm trivial rfl (by omega)
    have N5 : Hid (atN (lsF dColumn l) 8 k m 5 = kk + 1 + 1 + 1 + 1 + 1) := atN_next HFA.out N4.out
    have M6 : Hid (MS w ((((((v0.setCell ⟨b, off + m * 8, none⟩ (.string ⟨(mt (kk)).toArray⟩)).setCell ⟨b, off + m * 8 + 1, none⟩ (.int .i64 ((kk : Int) + 1))).setCell ⟨b, off + m * 8 + 2, none⟩ (.int .i64 ((kk : Int) + 1 + 1))).setCell ⟨b, off + m * 8 + 3, none⟩ (.int .i64 ((kk : Int) + 1 + 1 + 1))).setCell ⟨b, off + m * 8 + 4, none⟩ (.int .i64 ((kk : Int) + 1 + 1 + 1 + 1))).setCell ⟨b, off + m * 8 + 5, none⟩ (.int .i64 ((kk : Int) + 1 + 1 + 1 + 1 + 1))) 8 l.length (lsF dColumn l) k B b off X m 6) := M5.out.scalar (x := .i x.hi) (q := kk + 1 + 1 + 1 + 1 + 1) HM.out (by omega) (by rw [HFA.out]; rfl) N5.out.symm trivial rfl (by omega)
    have N6 : Hid (atN (lsF dColumn l) 8 k m 6 = kk + 1 + 1 + 1 + 1 + 1 + 1) := atN_next HFA.out N5.out
    generalize mt (kk) = yt0 at *
    have hbd6 : kk + 1 + 1 + 1 + 1 + 1 + 1 < 100000000000 ∧ 0 < kk + 1 + 1 + 1 + 1 + 1 + 1 := by have h1 := HWD.out m 6 HM.out (by omega); have := H0.out; rw [N6.out] at h1; omega
    go_wp2_with fail
    rw [show ((kk : Int) + 1 + 1 + 1 + 1 + 1 + 1) = ((kk + 1 + 1 + 1 + 1 + 1 + 1 : Nat) : Int) from rfl]
    refine (markText (kk + 1 + 1 + 1 + 1 + 1 + 1) _ hbd6.2 (by have := hbd6.1; omega)).mono ?_
    rintro e v6 ⟨rfl, hB6⟩
    have K6 := Lib.hid (M6.out.later hB6)
    clear hB6 M6 hbd6 e0 z0 e1 z1 e2 z2 e3 z3 e4 z4 e5 z5
    obtain ⟨b6, hb6⟩ : ∃ y : Nat, y = kk + 1 + 1 + 1 + 1 + 1 + 1 := ⟨_, rfl⟩
    rw [← hb6] at N6 ⊢
    have hlb6 : 0 < b6 ∧ b6 < 100000000000 := by have h1 := HWD.out m 6 HM.out (by omega); have := H0.out; rw [N6.out] at h1; omega
    obtain ⟨hlb61, hlb62⟩ := hlb6
    clear hb6
    obtain ⟨u6, e6, z6, o6⟩ := K6.out.peek HFA.out HM.out (j' := 6) (by omega) (by omega)
    clear o6
    obtain ⟨u7, e7, z7, o7⟩ := K6.out.peek HFA.out HM.out (j' := 7) (by omega) (by omega)
    clear o7
    have M7 : Hid (MS w (v6.setCell ⟨b, off + m * 8 + 6, none⟩ (.string ⟨(mt (b6)).toArray⟩)) 8 l.length (lsF dColumn l) k B b off X m 7) := K6.out.scalar (x := .s x.rf) (q := b6) HM.out (by omega) (by rw [HFA.out]; rfl) N6.out.symm trivial rfl (by omega)
    have N7 : Hid (atN (lsF dColumn l) 8 k m 7 = b6 + 1) := atN_next HFA.out N6.out
    have M8 : Hid (MS w ((v6.setCell ⟨b, off + m * 8 + 6, none⟩ (.string ⟨(mt (b6)).toArray⟩)).setCell ⟨b, off + m * 8 + 7, none⟩ (.bool (rem3 (b6 + 1)))) 8 l.length (lsF dColumn l) k B b off X m 8) := M7.out.scalar (x := .b x.st) (q := b6 + 1) HM.out (by omega) (by rw [HFA.out]; rfl) N7.out.symm trivial rfl (by omega)
    have N8 : Hid (atN (lsF dColumn l) 8 k m 8 = b6 + 1 + 1) := atN_next HFA.out N7.out
    obtain ⟨r7, ra7, rb7, rc7, rd7, re7⟩ := rem3T (b6 + 1) (by omega)
    rw [show ((b6 + 1 : Nat) : Int) = (b6 : Int) + 1 from rfl] at ra7 rc7 rd7
    obtain ⟨y7, hy7⟩ : ∃ y, y = rem3 (b6 + 1) := ⟨_, rfl⟩
    rw [← hy7] at re7 M8
    clear hy7
    generalize mt (b6) = yt6 at *
    go_wp2_with fail
    go_roundw
    case rel => exact ⟨m + 1, b6 + 1 + 1, by omega, by go_num, by first | rfl | go_num, by rw [atN_row]; exact N8.out, .inr ⟨b, off, X, rfl, M8.out.row⟩⟩
    case measure => simp [intOf]; omega
set_option maxRecDepth 100000 in
set_option maxHeartbeats 6400000 in
theorem mkDIntS (l : List Int) (a : Option Addr) (c k : Nat) (B : Nat → Prop) (w : World) (ho : (dIntS l).le maxLen) (h0 : 0 < k) (h1 : k + (dIntS l).wd < 100000000000) (hS : Own w (dIntS l) B (.slice a l.length c)) :
    Calls Tryz.prog 54 #[.slice a l.length c, .int .i64 k] w fun e w' => e = .returned (.int .i64 (k + (dIntS l).wd : Nat)) ∧ Own w' ((dIntS l).mkd k) B (.slice a l.length c) ∧ Frm B w w' := by
  have hl : l.length ≤ maxLen := (Ls_le.1 ho).2.1
  unfold maxLen at hl
  have HX : Hid (∀ i (h : i < l.length) j, j < 1 → (cInt l[i] j).le maxLen) := (Ls_le.1 ho).2.2
  have HWD : Hid (∀ i j, i < l.length → j ≤ 1 → k ≤ atN (lsF cInt l) 1 k i j ∧ atN (lsF cInt l) 1 k i j < 100000000000) := fun i j hi hj => ⟨atN_ge _ _ _ _ _, Nat.lt_of_le_of_lt (atN_le hi hj) h1⟩
  have HAL : Hid (atN (lsF cInt l) 1 k l.length 0 = k + (dIntS l).wd) := atN_all _ _ _ _
  have HMC : Hid (l.length ≤ c) := by
    obtain ⟨a', c', e, hmc, -⟩ := Own.open hS
    simp only [Value.slice.injEq] at e
    obtain ⟨-, -, rfl⟩ := e
    exact hmc
  have HS : Hid (l.length = 0 ∨ ∃ b off X, a = some ⟨b, off, none⟩ ∧ MS w w 1 l.length (lsF cInt l) k B b off X 0 0) := by
    obtain ⟨a', c', e, -, hO⟩ := Own.open hS
    simp only [Value.slice.injEq] at e
    obtain ⟨rfl, -, -⟩ := e
    exact hO.imp id (fun ⟨b, off, X, ha, h⟩ => ⟨b, off, X, ha, MS.start h⟩)
  have H0 := Lib.hid h0
  clear hS ho h1 h0
  go_enter Tryz.func54, Tryz.ntmps54
  go_wp2_with fail
  go_loopw [1, 5] (fun q i wr => ∃ m kk : Nat, m ≤ l.length ∧ i = .int .i64 m ∧ q = .int .i64 (kk : Int) ∧ Hid (atN (lsF cInt l) 1 k m 0 = kk ∧ ((l.length = 0 ∧ wr = w) ∨ ∃ b off X, a = some ⟨b, off, none⟩ ∧ MS w wr 1 l.length (lsF cInt l) k B b off X m 0))) (fun _ i _ => l.length - (intOf i).toNat)
  case atStart => exact ⟨0, k, Nat.zero_le _, rfl, rfl, atN_zero _ _ _, HS.out.imp (fun h => ⟨h, rfl⟩) id⟩
  case round =>
    obtain ⟨m, kk, hm, rfl, rfl, HR⟩ := hrel
    by_cases hlt : m < l.length
    case neg =>
      have hm' : m = l.length := by omega
      have hmi : decide ((m : Int) < (l.length : Int)) = false := decide_eq_false (by omega)
      have HF : Hid ((kk : Int) = ((k + (dIntS l).wd : Nat) : Int) ∧ Own wr ((dIntS l).mkd k) B (.slice a l.length c) ∧ Frm B w wr) := by
        obtain ⟨hk, h⟩ := HR.out
        have hal := HAL.out
        rw [hm'] at hk
        rw [hk] at hal
        refine ⟨by rw [hal], ?_⟩
        rcases h with ⟨h, rfl⟩ | ⟨b, off, X, rfl, h⟩
        · exact ⟨⟨a, c, rfl, HMC.out, .inl h⟩, Frm.refl _ _⟩
        · rw [hm'] at h
          exact ⟨h.done c HMC.out, h.frm⟩
      clear hm' HR
      go_wp2_with fail
      go_ret
      exact ⟨ret_i HF.out.1, HF.out.2⟩
    obtain ⟨hk0, hz⟩ := HR.out
    clear HS HR
    obtain ⟨b, off, X, rfl, h⟩ : ∃ b off X, a = some ⟨b, off, none⟩ ∧ MS w wr 1 l.length (lsF cInt l) k B b off X m 0 := by
      rcases hz with ⟨h, -⟩ | h
      · omega
      · exact h
    clear hz
    have M0 := Lib.hid h
    have HFA : Hid (lsF cInt l m = cInt l[m]) := lsF_at hlt
    have N0 := Lib.hid hk0
    have HXK := Lib.hid (HX.out m hlt)
    have HM := Lib.hid hlt
    have hmi : (m : Int) < (l.length : Int) := by omega
    have hb : kk < 100000000000 ∧ 0 < kk := by have h1 := HWD.out m 0 hlt (by omega); have := H0.out; rw [hk0] at h1; omega
    obtain ⟨hb0, hp0⟩ := hb
    clear h hk0 HX
    generalize l[m] = x at *
    obtain ⟨u0, e0, z0, o0⟩ := M0.out.peek HFA.out HM.out (j' := 0) (by omega) (by omega)
    clear o0
    rw [Nat.mul_one] at e0 z0
    replace e0 : wr.cell? ⟨b, off + m, none⟩ = _ := e0
    replace z0 : wr.frozen? ⟨b, off + m, none⟩ = false := z0
    have M1 : Hid (MS w (wr.setCell ⟨b, off + m, none⟩ (.int .i64 ((kk : Int)))) 1 l.length (lsF cInt l) k B b off X m 1) := M0.out.scalar (x := .i x) (q := kk) HM.out (by omega) (by rw [HFA.out]; rfl) N0.out.symm trivial rfl (by omega)
    have N1 : Hid (atN (lsF cInt l) 1 k m 1 = kk + 1) := atN_next HFA.out N0.out
    go_wp2_with fail
    go_roundw
    case rel => exact ⟨m + 1, kk + 1, by omega, by go_num, by first | rfl | go_num, by rw [atN_row]; exact N1.out, .inr ⟨b, off, X, rfl, M1.out.row⟩⟩
    case measure => simp [intOf]; omega
set_option maxRecDepth 100000 in
set_option maxHeartbeats 6400000 in
theorem mkDTableS (l : List Tb) (a : Option Addr) (c k : Nat) (B : Nat → Prop) (w : World) (ho : (dTableS l).le maxLen) (h0 : 0 < k) (h1 : k + (dTableS l).wd < 100000000000) (hS : Own w (dTableS l) B (.slice a l.length c)) :
    Calls Tryz.prog 27 #[.slice a l.length c, .int .i64 k] w fun e w' => e = .returned (.int .i64 (k + (dTableS l).wd : Nat)) ∧ Own w' ((dTableS l).mkd k) B (.slice a l.length c) ∧ Frm B w w' := by
  have hl : l.length ≤ maxLen := (Ls_le.1 ho).2.1
  unfold maxLen at hl
  have HX : Hid (∀ i (h : i < l.length) j, j < 4 → (dTable l[i] j).le maxLen) := (Ls_le.1 ho).2.2
  have HWD : Hid (∀ i j, i < l.length → j ≤ 4 → k ≤ atN (lsF dTable l) 4 k i j ∧ atN (lsF dTable l) 4 k i j < 100000000000) := fun i j hi hj => ⟨atN_ge _ _ _ _ _, Nat.lt_of_le_of_lt (atN_le hi hj) h1⟩
  have HAL : Hid (atN (lsF dTable l) 4 k l.length 0 = k + (dTableS l).wd) := atN_all _ _ _ _
  have HMC : Hid (l.length ≤ c) := by
    obtain ⟨a', c', e, hmc, -⟩ := Own.open hS
    simp only [Value.slice.injEq] at e
    obtain ⟨-, -, rfl⟩ := e
    exact hmc
  have HS : Hid (l.length = 0 ∨ ∃ b off X, a = some ⟨b, off, none⟩ ∧ MS w w 4 l.length (lsF dTable l) k B b off X 0 0) := by
    obtain ⟨a', c', e, -, hO⟩ := Own.open hS
    simp only [Value.slice.injEq] at e
    obtain ⟨rfl, -, -⟩ := e
    exact hO.imp id (fun ⟨b, off, X, ha, h⟩ => ⟨b, off, X, ha, MS.start h⟩)
  have H0 := Lib.hid h0
  clear hS ho h1 h0
  go_enter Tryz.func27, Tryz.ntmps27
  go_wp2_with fail
  go_loopw [1, 5] (fun q i wr => ∃ m kk : Nat, m ≤ l.length ∧ i = .int .i64 m ∧ q = .int .i64 (kk : Int) ∧ Hid (atN (lsF dTable l) 4 k m 0 = kk ∧ ((l.length = 0 ∧ wr = w) ∨ ∃ b off X, a = some ⟨b, off, none⟩ ∧ MS w wr 4 l.length (lsF dTable l) k B b off X m 0))) (fun _ i _ => l.length - (intOf i).toNat)
  case atStart => exact ⟨0, k, Nat.zero_le _, rfl, rfl, atN_zero _ _ _, HS.out.imp (fun h => ⟨h, rfl⟩) id⟩
  case round =>
    obtain ⟨m, kk, hm, rfl, rfl, HR⟩ := hrel
    by_cases hlt : m < l.length
    case neg =>
      have hm' : m = l.length := by omega
      have hmi : decide ((m : Int) < (l.length : Int)) = false := decide_eq_false (by omega)
      have HF : Hid ((kk : Int) = ((k + (dTableS l).wd : Nat) : Int) ∧ Own wr ((dTableS l).mkd k) B (.slice a l.length c) ∧ Frm B w wr) := by
        obtain ⟨hk, h⟩ := HR.out
        have hal := HAL.out
        rw [hm'] at hk
        rw [hk] at hal
        refine ⟨by rw [hal], ?_⟩
        rcases h with ⟨h, rfl⟩ | ⟨b, off, X, rfl, h⟩
        · exact ⟨⟨a, c, rfl, HMC.out, .inl h⟩, Frm.refl _ _⟩
        · rw [hm'] at h
          exact ⟨h.done c HMC.out, h.frm⟩
      clear hm' HR
      go_wp2_with fail
      go_ret
      exact ⟨ret_i HF.out.1, HF.out.2⟩
    obtain ⟨hk0, hz⟩ := HR.out
    clear HS HR
    obtain ⟨b, off, X, rfl, h⟩ : ∃ b off X, a = some ⟨b, off, none⟩ ∧ MS w wr 4 l.length (lsF dTable l) k B b off X m 0 := by
      rcases hz with ⟨h, -⟩ | h
      · omega
      · exact h
    clear hz
    have M0 := Lib.hid h
    have HFA : Hid (lsF dTable l m = dTable l[m]) := lsF_at hlt
    have N0 := Lib.hid hk0
    have HXK := Lib.hid (HX.out m hlt)
    have HM := Lib.hid hlt
    have hmi : (m : Int) < (l.length : Int) := by omega
    have hb : kk < 100000000000 ∧ 0 < kk := by have h1 := HWD.out m 0 hlt (by omega); have := H0.out; rw [hk0] at h1; omega
    obtain ⟨hb0, hp0⟩ := hb
    clear h hk0 HX
    generalize l[m] = x at *
    have hbd0 : kk < 100000000000 ∧ 0 < kk := by have h1 := HWD.out m 0 HM.out (by omega); have := H0.out; rw [N0.out] at h1; omega
    go_wp2_with fail
    refine (markText (kk) _ hbd0.2 (by have := hbd0.1; omega)).mono ?_
    rintro e v0 ⟨rfl, hB0⟩
    have K0 := Lib.hid (M0.out.later hB0)
    clear hB0 M0 hbd0
    obtain ⟨u0, e0, z0, o0⟩ := K0.out.peek HFA.out HM.out (j' := 0) (by omega) (by omega)
    clear o0
    replace e0 : v0.cell? ⟨b, off + m * 4, none⟩ = _ := e0
    replace z0 : v0.frozen? ⟨b, off + m * 4, none⟩ = false := z0
    obtain ⟨u1, e1, z1, o1⟩ := K0.out.peek HFA.out HM.out (j' := 1) (by omega) (by omega)
    replace o1 : Own v0 (dColumnS x.cols) (X m 1) u1 := o1
    obtain ⟨a1, q1, rfl⟩ := o1.rd'.lsSlice
    have O1 := Lib.hid o1
    clear o1
    have M1 : Hid (MS w (v0.setCell ⟨b, off + m * 4, none⟩ (.string ⟨(mt (kk)).toArray⟩)) 4 l.length (lsF dTable l) k B b off X m 1) := K0.out.scalar (x := .s x.nm) (q := kk) HM.out (by omega) (by rw [HFA.out]; rfl) N0.out.symm trivial rfl (by omega)
    have N1 : Hid (atN (lsF dTable l) 4 k m 1 = kk + 1) := atN_next HFA.out N0.out
    generalize mt (kk) = yt0 at *
    have hbd1 : kk + 1 < 100000000000 ∧ 0 < kk + 1 := by have h1 := HWD.out m 1 HM.out (by omega); have := H0.out; rw [N1.out] at h1; omega
    go_wp2_with fail
    rw [show ((kk : Int) + 1) = ((kk + 1 : Nat) : Int) from rfl]
    have FR1 : Frm (· = b) v0 (v0.setCell ⟨b, off + m * 4, none⟩ (.string ⟨yt0.toArray⟩)) := by
      refine Frm.set (B := (· = b)) ?_ rfl _
      exact Frm.refl _ _
    have CC := Lib.hid (mkDColumnS x.cols a1 q1 (kk + 1) (X m 1) _ (HXK.out 1 (by omega)) hbd1.2 (by have h1 := HWD.out m 2 HM.out (by omega); rw [atN_next HFA.out N1.out] at h1; exact h1.2) (O1.out.frm FR1 (fun c hc => (K0.out.own.sub m 1 c hc).2)))
    clear FR1
    refine CC.out.mono ?_
    rintro e v1 ⟨rfl, ho1, hF1⟩
    have K1 : Hid (MS w v1 4 l.length (lsF dTable l) k B b off X m 2) := M1.out.child (x := dColumnS x.cols) HM.out (by omega) (by rw [HFA.out]; rfl) N1.out.symm hF1 (cell_skip e1 (by omega)) ho1
    have N2 : Hid (atN (lsF dTable l) 4 k m 2 = kk + 1 + (dColumnS x.cols).wd) := atN_next HFA.out N1.out
    clear CC ho1 hF1 O1 M1 hbd1 e0 z0 e1 z1
    obtain ⟨b1, hb1⟩ : ∃ y : Nat, y = kk + 1 + (dColumnS x.cols).wd := ⟨_, rfl⟩
    rw [← hb1] at N2 ⊢
    have hlb1 : 0 < b1 ∧ b1 < 100000000000 := by have h1 := HWD.out m 2 HM.out (by omega); have := H0.out; rw [N2.out] at h1; omega
    obtain ⟨hlb11, hlb12⟩ := hlb1
    clear hb1
    obtain ⟨u2, e2, z2, o2⟩ := K1.out.peek HFA.out HM.out (j' := 2) (by omega) (by omega)
    replace o2 : Own v1 (dIntS x.uq) (X m 2) u2 := o2
    obtain ⟨a2, q2, rfl⟩ := o2.rd'.lsSlice
    have O2 := Lib.hid o2
    clear o2
    have hbd2 : b1 < 100000000000 ∧ 0 < b1 := by have h1 := HWD.out m 2 HM.out (by omega); have := H0.out; rw [N2.out] at h1; omega
    go_wp2_with fail
    have CC := Lib.hid (mkDIntS x.uq a2 q2 (b1) (X m 2) _ (HXK.out 2 (by omega)) hbd2.2 (by have h1 := HWD.out m 3 HM.out (by omega); rw [atN_next HFA.out N2.out] at h1; exact h1.2) (O2.out))
    refine CC.out.mono ?_
    rintro e v2 ⟨rfl, ho2, hF2⟩
    have K2 : Hid (MS w v2 4 l.length (lsF dTable l) k B b off X m 3) := K1.out.child (x := dIntS x.uq) HM.out (by omega) (by rw [HFA.out]; rfl) N2.out.symm hF2 e2 ho2
    have N3 : Hid (atN (lsF dTable l) 4 k m 3 = b1 + (dIntS x.uq).wd) := atN_next HFA.out N2.out
    clear CC ho2 hF2 O2 K1 hbd2 e2 z2
    obtain ⟨b2, hb2⟩ : ∃ y : Nat, y = b1 + (dIntS x.uq).wd := ⟨_, rfl⟩
    rw [← hb2] at N3 ⊢
    have hlb2 : 0 < b2 ∧ b2 < 100000000000 := by have h1 := HWD.out m 3 HM.out (by omega); have := H0.out; rw [N3.out] at h1; omega
    obtain ⟨hlb21, hlb22⟩ := hlb2
    clear hb2
    obtain ⟨u3, e3, z3, o3⟩ := K2.out.peek HFA.out HM.out (j' := 3) (by omega) (by omega)
    clear o3
    have M4 : Hid (MS w (v2.setCell ⟨b, off + m * 4 + 3, none⟩ (.bool (rem3 (b2)))) 4 l.length (lsF dTable l) k B b off X m 4) := K2.out.scalar (x := .b x.rt) (q := b2) HM.out (by omega) (by rw [HFA.out]; rfl) N3.out.symm trivial rfl (by omega)
    have N4 : Hid (atN (lsF dTable l) 4 k m 4 = b2 + 1) := atN_next HFA.out N3.out
    obtain ⟨r3, ra3, rb3, rc3, rd3, re3⟩ := rem3T (b2) (by omega)
    obtain ⟨y3, hy3⟩ : ∃ y, y = rem3 (b2) := ⟨_, rfl⟩
    rw [← hy3] at re3 M4
    clear hy3
    go_wp2_with fail
    go_roundw
    case rel => exact ⟨m + 1, b2 + 1, by omega, by go_num, by first | rfl | go_num, by rw [atN_row]; exact N4.out, .inr ⟨b, off, X, rfl, M4.out.row⟩⟩
    case measure => simp [intOf]; omega
set_option maxRecDepth 100000 in
set_option maxHeartbeats 3200000 in
theorem mkDSchema (x : ScV) (a0 : Option Addr) (c0 : Nat) (k : Nat) (B0 : Nat → Prop) (w : World) (l0 : (dTableS x.tables).le maxLen) (h0 : 0 < k) (h1 : k + (dTableS x.tables).wd < 100000000000) (o0 : Own w (dTableS x.tables) B0 (.slice a0 x.tables.length c0)) :
    Calls Tryz.prog 12 #[.agg #[.slice a0 x.tables.length c0], .int .i64 k] w fun e w' => e = .returned (.int .i64 (k + (dTableS x.tables).wd : Nat)) ∧ (Own w' ((dTableS x.tables).mkd (k)) B0 (.slice a0 x.tables.length c0)) ∧ Frm (fun b => B0 b) w w' := by
  have hx := boxD 37 w #[.slice a0 x.tables.length c0]
  have F0 : Hid (Frm (fun b => B0 b) w (w.alloc (.cells #[.slice a0 x.tables.length c0] 37))) := Frm.of_below (below_allocD _ _)
  have O0 := Lib.hid (o0.later hx.2)
  have HX0 := Lib.hid hx
  have x0 := cell_at (o := 0) hx.1 rfl
  have L0 := Lib.hid l0
  have HB := Lib.hid (And.intro h0 h1)
  clear hx h0 h1 o0 l0
  go_enter Tryz.func12, Tryz.ntmps12
  go_wp2_with fail
  refine (mkDTableS x.tables a0 c0 (k) B0 _ L0.out (by have := HB.out; omega) (by have := HB.out; omega) O0.out).mono ?_
  rintro e v0 ⟨rfl, p0, f0⟩
  have Q0 := Lib.hid p0
  have F1 : Hid (Frm (fun b => B0 b) w v0) := F0.out.trans (f0.mono (fun b h => h))
  clear p0 f0 F0
  obtain ⟨b0, hb0⟩ : ∃ y : Nat, y = k + (dTableS x.tables).wd := ⟨_, rfl⟩
  go_wp2_with fail
  go_ret
  exact ⟨rfl, Q0.out, F1.out⟩
end Go.Proofs.YtngbhifafdbpkaaGreat
