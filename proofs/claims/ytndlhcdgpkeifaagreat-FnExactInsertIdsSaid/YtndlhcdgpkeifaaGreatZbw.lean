import Derived.Test.YtndlhcdgpkeifaaGreatZbp
import Derived.Test.YtndlhcdgpkeifaaGreatZbt
import Derived.Test.YtndlhcdgpkeifaaGreatZbu
import Derived.Test.YtndlhcdgpkeifaaGreatZbv
namespace Go.Proofs.YtndlhcdgpkeifaaGreat
open Go.RowKit
set_option linter.unusedSimpArgs false
set_option maxRecDepth 100000 in
set_option maxHeartbeats 6400000 in
theorem mkDOpS (l : List OpV) (a : Option Addr) (c k : Nat) (B : Nat → Prop) (w : World) (ho : (dOpS l).le maxLen) (h0 : 0 < k) (h1 : k + (dOpS l).wd < 100000000000) (hS : Own w (dOpS l) B (.slice a l.length c)) :
    Calls Tryz.prog 10 #[.slice a l.length c, .int .i64 k] w fun e w' => e = .returned (.int .i64 (k + (dOpS l).wd : Nat)) ∧ Own w' ((dOpS l).mkd k) B (.slice a l.length c) ∧ Frm B w w' := by
  have hl : l.length ≤ maxLen := (Ls_le.1 ho).2.1
  unfold maxLen at hl
  have HX : Hid (∀ i (h : i < l.length) j, j < 8 → (dOp l[i] j).le maxLen) := (Ls_le.1 ho).2.2
  have HWD : Hid (∀ i j, i < l.length → j ≤ 8 → k ≤ atN (lsF dOp l) 8 k i j ∧ atN (lsF dOp l) 8 k i j < 100000000000) := fun i j hi hj => ⟨atN_ge _ _ _ _ _, Nat.lt_of_le_of_lt (atN_le hi hj) h1⟩
  have HAL : Hid (atN (lsF dOp l) 8 k l.length 0 = k + (dOpS l).wd) := atN_all _ _ _ _
  have HS : Hid (l.length = 0 ∨ ∃ b off X, a = some ⟨b, off, none⟩ ∧ MS w w 8 l.length (lsF dOp l) k B b off X 0 0) := by
    obtain ⟨a', c', e, hO⟩ := Own.open hS
    simp only [Value.slice.injEq] at e
    obtain ⟨rfl, -, -⟩ := e
    exact hO.imp id (fun ⟨b, off, X, ha, h⟩ => ⟨b, off, X, ha, MS.start h⟩)
  have H0 := Lib.hid h0
  clear hS ho h1 h0
  go_enter Tryz.func10, Tryz.ntmps10
  go_wp2_with fail
  go_loopw [1, 5] (fun q i wr => ∃ m kk : Nat, m ≤ l.length ∧ i = .int .i64 m ∧ q = .int .i64 (kk : Int) ∧ Hid (atN (lsF dOp l) 8 k m 0 = kk ∧ ((l.length = 0 ∧ wr = w) ∨ ∃ b off X, a = some ⟨b, off, none⟩ ∧ MS w wr 8 l.length (lsF dOp l) k B b off X m 0))) (fun _ i _ => l.length - (intOf i).toNat)
  case atStart => exact ⟨0, k, Nat.zero_le _, rfl, rfl, atN_zero _ _ _, HS.out.imp (fun h => ⟨h, rfl⟩) id⟩
  case round =>
    obtain ⟨m, kk, hm, rfl, rfl, HR⟩ := hrel
    by_cases hlt : m < l.length
    case neg =>
      have hm' : m = l.length := by omega
      have hmi : decide ((m : Int) < (l.length : Int)) = false := decide_eq_false (by omega)
      have HF : Hid ((kk : Int) = ((k + (dOpS l).wd : Nat) : Int) ∧ Own wr ((dOpS l).mkd k) B (.slice a l.length c) ∧ Frm B w wr) := by
        obtain ⟨hk, h⟩ := HR.out
        have hal := HAL.out
        rw [hm'] at hk
        rw [hk] at hal
        refine ⟨by rw [hal], ?_⟩
        rcases h with ⟨h, rfl⟩ | ⟨b, off, X, rfl, h⟩
        · exact ⟨⟨a, c, rfl, .inl h⟩, Frm.refl _ _⟩
        · rw [hm'] at h
          exact ⟨h.done c, h.frm⟩
      clear hm' HR
      go_wp2_with fail
      go_ret
      exact ⟨ret_i HF.out.1, HF.out.2⟩
    obtain ⟨hk0, hz⟩ := HR.out
    clear HS HR
    obtain ⟨b, off, X, rfl, h⟩ : ∃ b off X, a = some ⟨b, off, none⟩ ∧ MS w wr 8 l.length (lsF dOp l) k B b off X m 0 := by
      rcases hz with ⟨h, -⟩ | h
      · omega
      · exact h
    clear hz
    have M0 := Lib.hid h
    have HFA : Hid (lsF dOp l m = dOp l[m]) := lsF_at hlt
    have N0 := Lib.hid hk0
    have HXK := Lib.hid (HX.out m hlt)
    have HM := Lib.hid hlt
    have hmi : (m : Int) < (l.length : Int) := by omega
    have hb : kk < 100000000000 ∧ 0 < kk := by have h1 := HWD.out m 0 hlt (by omega); have := H0.out; rw [hk0] at h1; omega
    obtain ⟨hb0, hp0⟩ := hb
    clear h hk0 HX
    generalize l[m] = x at *
    obtain ⟨u0, e0, z0, o0⟩ := M0.out.peek HFA.out HM.out (j' := 0) (by omega) (by omega)
    clear o0
    replace e0 : wr.cell? ⟨b, off + m * 8, none⟩ = _ := e0
    replace z0 : wr.frozen? ⟨b, off + m * 8, none⟩ = false := z0
    have M1 : Hid (MS w (wr.setCell ⟨b, off + m * 8, none⟩ (.int .i64 ((kk : Int)))) 8 l.length (lsF dOp l) k B b off X m 1) := M0.out.scalar (x := .i x.kd) (q := kk) HM.out (by omega) (by rw [HFA.out]; rfl) N0.out.symm trivial rfl (by omega)
    have N1 : Hid (atN (lsF dOp l) 8 k m 1 = kk + 1) := atN_next HFA.out N0.out
    have hbd1 : kk + 1 < 100000000000 ∧ 0 < kk + 1 := by have h1 := HWD.out m 1 HM.out (by omega); have := H0.out; rw [N1.out] at h1; omega
    go_wp2_with fail
    rw [show ((kk : Int) + 1) = ((kk + 1 : Nat) : Int) from rfl]
    refine (markText (kk + 1) _ hbd1.2 (by have := hbd1.1; omega)).mono ?_
    rintro e v1 ⟨rfl, hB1⟩
    have K1 := Lib.hid (M1.out.later hB1)
    clear hB1 M1 hbd1 e0 z0
    obtain ⟨b1, hb1⟩ : ∃ y : Nat, y = kk + 1 := ⟨_, rfl⟩
    rw [← hb1] at N1 ⊢
    have hlb1 : 0 < b1 ∧ b1 < 100000000000 := by have h1 := HWD.out m 1 HM.out (by omega); have := H0.out; rw [N1.out] at h1; omega
    obtain ⟨hlb11, hlb12⟩ := hlb1
    clear hb1
    obtain ⟨u1, e1, z1, o1⟩ := K1.out.peek HFA.out HM.out (j' := 1) (by omega) (by omega)
    clear o1
    have M2 : Hid (MS w (v1.setCell ⟨b, off + m * 8 + 1, none⟩ (.string ⟨(mt (b1)).toArray⟩)) 8 l.length (lsF dOp l) k B b off X m 2) := K1.out.scalar (x := .s x.tb) (q := b1) HM.out (by omega) (by rw [HFA.out]; rfl) N1.out.symm trivial rfl (by omega)
    have N2 : Hid (atN (lsF dOp l) 8 k m 2 = b1 + 1) := atN_next HFA.out N1.out
    generalize mt (b1) = yt1 at *
    have hbd2 : b1 + 1 < 100000000000 ∧ 0 < b1 + 1 := by have h1 := HWD.out m 2 HM.out (by omega); have := H0.out; rw [N2.out] at h1; omega
    go_wp2_with fail
    rw [show ((b1 : Int) + 1) = ((b1 + 1 : Nat) : Int) from rfl]
    refine (markText (b1 + 1) _ hbd2.2 (by have := hbd2.1; omega)).mono ?_
    rintro e v2 ⟨rfl, hB2⟩
    have K2 := Lib.hid (M2.out.later hB2)
    clear hB2 M2 hbd2 e1 z1
    obtain ⟨b2, hb2⟩ : ∃ y : Nat, y = b1 + 1 := ⟨_, rfl⟩
    rw [← hb2] at N2 ⊢
    have hlb2 : 0 < b2 ∧ b2 < 100000000000 := by have h1 := HWD.out m 2 HM.out (by omega); have := H0.out; rw [N2.out] at h1; omega
    obtain ⟨hlb21, hlb22⟩ := hlb2
    clear hb2
    obtain ⟨u2, e2, z2, o2⟩ := K2.out.peek HFA.out HM.out (j' := 2) (by omega) (by omega)
    clear o2
    obtain ⟨u3, e3, z3, o3⟩ := K2.out.peek HFA.out HM.out (j' := 3) (by omega) (by omega)
    replace o3 : Own v2 (dCondS x.wh) (X m 3) u3 := o3
    obtain ⟨a3, q3, rfl⟩ := o3.rd'.lsSlice
    have O3 := Lib.hid o3
    clear o3
    have M3 : Hid (MS w (v2.setCell ⟨b, off + m * 8 + 2, none⟩ (.string ⟨(mt (b2)).toArray⟩)) 8 l.length (lsF dOp l) k B b off X m 3) := K2.out.scalar (x := .s x.nm) (q := b2) HM.out (by omega) (by rw [HFA.out]; rfl) N2.out.symm trivial rfl (by omega)
    have N3 : Hid (atN (lsF dOp l) 8 k m 3 = b2 + 1) := atN_next HFA.out N2.out
    generalize mt (b2) = yt2 at *
    have hbd3 : b2 + 1 < 100000000000 ∧ 0 < b2 + 1 := by have h1 := HWD.out m 3 HM.out (by omega); have := H0.out; rw [N3.out] at h1; omega
    go_wp2_with fail
    rw [show ((b2 : Int) + 1) = ((b2 + 1 : Nat) : Int) from rfl]
    have FR3 : Frm (· = b) v2 (v2.setCell ⟨b, off + m * 8 + 2, none⟩ (.string ⟨yt2.toArray⟩)) := by
      refine Frm.set (B := (· = b)) ?_ rfl _
      exact Frm.refl _ _
    have CC := Lib.hid (mkDCondS x.wh a3 q3 (b2 + 1) (X m 3) _ (HXK.out 3 (by omega)) hbd3.2 (by have h1 := HWD.out m 4 HM.out (by omega); rw [atN_next HFA.out N3.out] at h1; exact h1.2) (O3.out.frm FR3 (fun c hc => (K2.out.own.sub m 3 c hc).2)))
    clear FR3
    refine CC.out.mono ?_
    rintro e v3 ⟨rfl, ho3, hF3⟩
    have K3 : Hid (MS w v3 8 l.length (lsF dOp l) k B b off X m 4) := M3.out.child (x := dCondS x.wh) HM.out (by omega) (by rw [HFA.out]; rfl) N3.out.symm hF3 (cell_skip e3 (by omega)) ho3
    have N4 : Hid (atN (lsF dOp l) 8 k m 4 = b2 + 1 + (dCondS x.wh).wd) := atN_next HFA.out N3.out
    clear CC ho3 hF3 O3 M3 hbd3 e2 z2 e3 z3
    obtain ⟨b3, hb3⟩ : ∃ y : Nat, y = b2 + 1 + (dCondS x.wh).wd := ⟨_, rfl⟩
    rw [← hb3] at N4 ⊢
    have hlb3 : 0 < b3 ∧ b3 < 100000000000 := by have h1 := HWD.out m 4 HM.out (by omega); have := H0.out; rw [N4.out] at h1; omega
    obtain ⟨hlb31, hlb32⟩ := hlb3
    clear hb3
    obtain ⟨u4, e4, z4, o4⟩ := K3.out.peek HFA.out HM.out (j' := 4) (by omega) (by omega)
    replace o4 : Own v3 (dSetS x.row) (X m 4) u4 := o4
    obtain ⟨a4, q4, rfl⟩ := o4.rd'.lsSlice
    have O4 := Lib.hid o4
    clear o4
    have hbd4 : b3 < 100000000000 ∧ 0 < b3 := by have h1 := HWD.out m 4 HM.out (by omega); have := H0.out; rw [N4.out] at h1; omega
    go_wp2_with fail
    have CC := Lib.hid (mkDSetS x.row a4 q4 (b3) (X m 4) _ (HXK.out 4 (by omega)) hbd4.2 (by have h1 := HWD.out m 5 HM.out (by omega); rw [atN_next HFA.out N4.out] at h1; exact h1.2) (O4.out))
    refine CC.out.mono ?_
    rintro e v4 ⟨rfl, ho4, hF4⟩
    have K4 : Hid (MS w v4 8 l.length (lsF dOp l) k B b off X m 5) := K3.out.child (x := dSetS x.row) HM.out (by omega) (by rw [HFA.out]; rfl) N4.out.symm hF4 e4 ho4
    have N5 : Hid (atN (lsF dOp l) 8 k m 5 = b3 + (dSetS x.row).wd) := atN_next HFA.out N4.out
    clear CC ho4 hF4 O4 K3 hbd4 e4 z4
    obtain ⟨b4, hb4⟩ : ∃ y : Nat, y = b3 + (dSetS x.row).wd := ⟨_, rfl⟩
    rw [← hb4] at N5 ⊢
    have hlb4 : 0 < b4 ∧ b4 < 100000000000 := by have h1 := HWD.out m 5 HM.out (by omega); have := H0.out; rw [N5.out] at h1; omega
    obtain ⟨hlb41, hlb42⟩ := hlb4
    clear hb4
    obtain ⟨u5, e5, z5, o5⟩ := K4.out.peek HFA.out HM.out (j' := 5) (by omega) (by omega)
    replace o5 : Own v4 (dMutS x.mu) (X m 5) u5 := o5
    obtain ⟨a5, q5, rfl⟩ := o5.rd'.lsSlice
    have O5 := Lib.hid o5
    clear o5
    have hbd5 : b4 < 100000000000 ∧ 0 < b4 := by have h1 := HWD.out m 5 HM.out (by omega); have := H0.out; rw [N5.out] at h1; omega
    go_wp2_with fail
    have CC := Lib.hid (mkDMutS x.mu a5 q5 (b4) (X m 5) _ (HXK.out 5 (by omega)) hbd5.2 (by have h1 := HWD.out m 6 HM.out (by omega); rw [atN_next HFA.out N5.out] at h1; exact h1.2) (O5.out))
    refine CC.out.mono ?_
    rintro e v5 ⟨rfl, ho5, hF5⟩
    have K5 : Hid (MS w v5 8 l.length (lsF dOp l) k B b off X m 6) := K4.out.child (x := dMutS x.mu) HM.out (by omega) (by rw [HFA.out]; rfl) N5.out.symm hF5 e5 ho5
    have N6 : Hid (atN (lsF dOp l) 8 k m 6 = b4 + (dMutS x.mu).wd) := atN_next HFA.out N5.out
    clear CC ho5 hF5 O5 K4 hbd5 e5 z5
    obtain ⟨b5, hb5⟩ : ∃ y : Nat, y = b4 + (dMutS x.mu).wd := ⟨_, rfl⟩
    rw [← hb5] at N6 ⊢
    have hlb5 : 0 < b5 ∧ b5 < 100000000000 := by have h1 := HWD.out m 6 HM.out (by omega); have := H0.out; rw [N6.out] at h1; omega
    obtain ⟨hlb51, hlb52⟩ := hlb5
    clear hb5
    obtain ⟨u6, e6, z6, o6⟩ := K5.out.peek HFA.out HM.out (j' := 6) (by omega) (by omega)
    replace o6 : Own v5 (dStringS x.cs) (X m 6) u6 := o6
    obtain ⟨a6, q6, rfl⟩ := o6.rd'.lsSlice
    have O6 := Lib.hid o6
    clear o6
    have hbd6 : b5 < 100000000000 ∧ 0 < b5 := by have h1 := HWD.out m 6 HM.out (by omega); have := H0.out; rw [N6.out] at h1; omega
    go_wp2_with fail
    have CC := Lib.hid (mkDStringS x.cs a6 q6 (b5) (X m 6) _ (HXK.out 6 (by omega)) hbd6.2 (by have h1 := HWD.out m 7 HM.out (by omega); rw [atN_next HFA.out N6.out] at h1; exact h1.2) (O6.out))
    refine CC.out.mono ?_
    rintro e v6 ⟨rfl, ho6, hF6⟩
    have K6 : Hid (MS w v6 8 l.length (lsF dOp l) k B b off X m 7) := K5.out.child (x := dStringS x.cs) HM.out (by omega) (by rw [HFA.out]; rfl) N6.out.symm hF6 e6 ho6
    have N7 : Hid (atN (lsF dOp l) 8 k m 7 = b5 + (dStringS x.cs).wd) := atN_next HFA.out N6.out
    clear CC ho6 hF6 O6 K5 hbd6 e6 z6
    obtain ⟨b6, hb6⟩ : ∃ y : Nat, y = b5 + (dStringS x.cs).wd := ⟨_, rfl⟩
    rw [← hb6] at N7 ⊢
    have hlb6 : 0 < b6 ∧ b6 < 100000000000 := by have h1 := HWD.out m 7 HM.out (by omega); have := H0.out; rw [N7.out] at h1; omega
    obtain ⟨hlb61, hlb62⟩ := hlb6
    clear hb6
    obtain ⟨u7, e7, z7, o7⟩ := K6.out.peek HFA.out HM.out (j' := 7) (by omega) (by omega)
    clear o7
    have M8 : Hid (MS w (v6.setCell ⟨b, off + m * 8 + 7, none⟩ (.bool (rem3 (b6)))) 8 l.length (lsF dOp l) k B b off X m 8) := K6.out.scalar (x := .b x.un) (q := b6) HM.out (by omega) (by rw [HFA.out]; rfl) N7.out.symm trivial rfl (by omega)
    have N8 : Hid (atN (lsF dOp l) 8 k m 8 = b6 + 1) := atN_next HFA.out N7.out
    obtain ⟨r7, ra7, rb7, rc7, rd7, re7⟩ := rem3T (b6) (by omega)
    obtain ⟨y7, hy7⟩ : ∃ y, y = rem3 (b6) := ⟨_, rfl⟩
    rw [← hy7] at re7 M8
    clear hy7
    go_wp2_with fail
    go_roundw
    case rel => exact ⟨m + 1, b6 + 1, by omega, by go_num, by first | rfl | go_num, by rw [atN_row]; exact N8.out, .inr ⟨b, off, X, rfl, M8.out.row⟩⟩
    case measure => simp [intOf]; omega
end Go.Proofs.YtndlhcdgpkeifaaGreat
