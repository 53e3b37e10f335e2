import Derived.Test.YtndlhcdgpkeifaaGreatZbs
import Derived.Test.YtndlhcdgpkeifaaGreatZar
namespace Go.Proofs.YtndlhcdgpkeifaaGreat
open Go.RowKit
set_option linter.unusedSimpArgs false
set_option maxRecDepth 100000 in
set_option maxHeartbeats 6400000 in
theorem mkDCondS (l : List CondV) (a : Option Addr) (c k : Nat) (B : Nat → Prop) (w : World) (ho : (dCondS l).le maxLen) (h0 : 0 < k) (h1 : k + (dCondS l).wd < 100000000000) (hS : Own w (dCondS l) B (.slice a l.length c)) :
    Calls Tryz.prog 23 #[.slice a l.length c, .int .i64 k] w fun e w' => e = .returned (.int .i64 (k + (dCondS l).wd : Nat)) ∧ Own w' ((dCondS l).mkd k) B (.slice a l.length c) ∧ Frm B w w' := by
  have hl : l.length ≤ maxLen := (Ls_le.1 ho).2.1
  unfold maxLen at hl
  have HX : Hid (∀ i (h : i < l.length) j, j < 3 → (dCond l[i] j).le maxLen) := (Ls_le.1 ho).2.2
  have HWD : Hid (∀ i j, i < l.length → j ≤ 3 → k ≤ atN (lsF dCond l) 3 k i j ∧ atN (lsF dCond l) 3 k i j < 100000000000) := fun i j hi hj => ⟨atN_ge _ _ _ _ _, Nat.lt_of_le_of_lt (atN_le hi hj) h1⟩
  have HAL : Hid (atN (lsF dCond l) 3 k l.length 0 = k + (dCondS l).wd) := atN_all _ _ _ _
  have HS : Hid (l.length = 0 ∨ ∃ b off X, a = some ⟨b, off, none⟩ ∧ MS w w 3 l.length (lsF dCond l) k B b off X 0 0) := by
    obtain ⟨a', c', e, hO⟩ := Own.open hS
    simp only [Value.slice.injEq] at e
    obtain ⟨rfl, -, -⟩ := e
    exact hO.imp id (fun ⟨b, off, X, ha, h⟩ => ⟨b, off, X, ha, MS.start h⟩)
  have H0 := Lib.hid h0
  clear hS ho h1 h0
  go_enter Tryz.func23, Tryz.ntmps23
  go_wp2_with fail
  go_loopw [1, 5] (fun q i wr => ∃ m kk : Nat, m ≤ l.length ∧ i = .int .i64 m ∧ q = .int .i64 (kk : Int) ∧ Hid (atN (lsF dCond l) 3 k m 0 = kk ∧ ((l.length = 0 ∧ wr = w) ∨ ∃ b off X, a = some ⟨b, off, none⟩ ∧ MS w wr 3 l.length (lsF dCond l) k B b off X m 0))) (fun _ i _ => l.length - (intOf i).toNat)
  case atStart => exact ⟨0, k, Nat.zero_le _, rfl, rfl, atN_zero _ _ _, HS.out.imp (fun h => ⟨h, rfl⟩) id⟩
  case round =>
    obtain ⟨m, kk, hm, rfl, rfl, HR⟩ := hrel
    by_cases hlt : m < l.length
    case neg =>
      have hm' : m = l.length := by omega
      have hmi : decide ((m : Int) < (l.length : Int)) = false := decide_eq_false (by omega)
      have HF : Hid ((kk : Int) = ((k + (dCondS l).wd : Nat) : Int) ∧ Own wr ((dCondS l).mkd k) B (.slice a l.length c) ∧ Frm B w wr) := by
        obtain ⟨hk, h⟩ := HR.out
        have hal := HAL.out
        rw [hm'] at hk
        rw [hk] at hal
        refine ⟨by rw [hal], ?_⟩
        rcases h with ⟨h, rfl⟩ | ⟨b, off, X, rfl, h⟩
        · exact ⟨⟨a, c, rfl, .inl h⟩, Frm.refl _ _⟩
        · rw [hm'] at h
          exact ⟨h.done c, h.frm⟩
      clear hm' HR
      go_wp2_with fail
      go_ret
      exact ⟨ret_i HF.out.1, HF.out.2⟩
    obtain ⟨hk0, hz⟩ := HR.out
    clear HS HR
    obtain ⟨b, off, X, rfl, h⟩ : ∃ b off X, a = some ⟨b, off, none⟩ ∧ MS w wr 3 l.length (lsF dCond l) k B b off X m 0 := by
      rcases hz with ⟨h, -⟩ | h
      · omega
      · exact h
    clear hz
    have M0 := Lib.hid h
    have HFA : Hid (lsF dCond l m = dCond l[m]) := lsF_at hlt
    have N0 := Lib.hid hk0
    have HXK := Lib.hid (HX.out m hlt)
    have HM := Lib.hid hlt
    have hmi : (m : Int) < (l.length : Int) := by omega
    have hb : kk < 100000000000 ∧ 0 < kk := by have h1 := HWD.out m 0 hlt (by omega); have := H0.out; rw [hk0] at h1; omega
    obtain ⟨hb0, hp0⟩ := hb
    clear h hk0 HX
    generalize l[m] = x at *
    have hbd0 : kk < 100000000000 ∧ 0 < kk := by have h1 := HWD.out m 0 HM.out (by omega); have := H0.out; rw [N0.out] at h1; omega
    go_wp2_with fail
    refine (markText (kk) _ hbd0.2 (by have := hbd0.1; omega)).mono ?_
    rintro e v0 ⟨rfl, hB0⟩
    have K0 := Lib.hid (M0.out.later hB0)
    clear hB0 M0 hbd0
    obtain ⟨u0, e0, z0, o0⟩ := K0.out.peek HFA.out HM.out (j' := 0) (by omega) (by omega)
    clear o0
    replace e0 : v0.cell? ⟨b, off + m * 3, none⟩ = _ := e0
    replace z0 : v0.frozen? ⟨b, off + m * 3, none⟩ = false := z0
    obtain ⟨u1, e1, z1, o1⟩ := K0.out.peek HFA.out HM.out (j' := 1) (by omega) (by omega)
    clear o1
    obtain ⟨u2, e2, z2, o2⟩ := K0.out.peek HFA.out HM.out (j' := 2) (by omega) (by omega)
    replace o2 : Own v0 (dAtomS x.val) (X m 2) u2 := o2
    obtain ⟨a2, q2, rfl⟩ := o2.rd'.lsSlice
    have O2 := Lib.hid o2
    clear o2
    have M1 : Hid (MS w (v0.setCell ⟨b, off + m * 3, none⟩ (.string ⟨(mt (kk)).toArray⟩)) 3 l.length (lsF dCond l) k B b off X m 1) := K0.out.scalar (x := .s x.col) (q := kk) HM.out (by omega) (by rw [HFA.out]; rfl) N0.out.symm trivial rfl (by omega)
    have N1 : Hid (atN (lsF dCond l) 3 k m 1 = kk + 1) := atN_next HFA.out N0.out
    have M2 : Hid (MS w ((v0.setCell ⟨b, off + m * 3, none⟩ (.string ⟨(mt (kk)).toArray⟩)).setCell ⟨b, off + m * 3 + 1, none⟩ (.int .i64 ((kk : Int) + 1))) 3 l.length (lsF dCond l) k B b off X m 2) := M1.out.scalar (x := .i x.fn) (q := kk + 1) HM.out (by omega) (by rw [HFA.out]; rfl) N1.out.symm trivial rfl (by omega)
    have N2 : Hid (atN (lsF dCond l) 3 k m 2 = kk + 1 + 1) := atN_next HFA.out N1.out
    generalize mt (kk) = yt0 at *
    have hbd2 : kk + 1 + 1 < 100000000000 ∧ 0 < kk + 1 + 1 := by have h1 := HWD.out m 2 HM.out (by omega); have := H0.out; rw [N2.out] at h1; omega
    go_wp2_with fail
    rw [show ((kk : Int) + 1 + 1) = ((kk + 1 + 1 : Nat) : Int) from rfl]
    have FR2 : Frm (· = b) v0 ((v0.setCell ⟨b, off + m * 3, none⟩ (.string ⟨yt0.toArray⟩)).setCell ⟨b, off + m * 3 + 1, none⟩ (.int .i64 ((kk : Int) + 1))) := by
      refine Frm.set (B := (· = b)) ?_ rfl _
      refine Frm.set (B := (· = b)) ?_ rfl _
      exact Frm.refl _ _
    have CC := Lib.hid (mkDAtomS x.val a2 q2 (kk + 1 + 1) (X m 2) _ (HXK.out 2 (by omega)) hbd2.2 (by have h1 := HWD.out m 3 HM.out (by omega); rw [atN_next HFA.out N2.out] at h1; exact h1.2) (O2.out.frm FR2 (fun c hc => (K0.out.own.sub m 2 c hc).2)))
    clear FR2
    refine CC.out.mono ?_
    rintro e v2 ⟨rfl, ho2, hF2⟩
    have K2 : Hid (MS w v2 3 l.length (lsF dCond l) k B b off X m 3) := M2.out.child (x := dAtomS x.val) HM.out (by omega) (by rw [HFA.out]; rfl) N2.out.symm hF2 (cell_skip (cell_skip e2 (by omega)) (by omega)) ho2
    have N3 : Hid (atN (lsF dCond l) 3 k m 3 = kk + 1 + 1 + (dAtomS x.val).wd) := atN_next HFA.out N2.out
    clear CC ho2 hF2 O2 M2 hbd2 e0 z0 e1 z1 e2 z2
    obtain ⟨b2, hb2⟩ : ∃ y : Nat, y = kk + 1 + 1 + (dAtomS x.val).wd := ⟨_, rfl⟩
    rw [← hb2] at N3 ⊢
    have hlb2 : 0 < b2 ∧ b2 < 100000000000 := by have h1 := HWD.out m 3 HM.out (by omega); have := H0.out; rw [N3.out] at h1; omega
    obtain ⟨hlb21, hlb22⟩ := hlb2
    clear hb2
    go_wp2_with fail
    go_roundw
    case rel => exact ⟨m + 1, b2, by omega, by go_num, rfl, by rw [atN_row]; exact N3.out, .inr ⟨b, off, X, rfl, K2.out.row⟩⟩
    case measure => simp [intOf]; omega
end Go.Proofs.YtndlhcdgpkeifaaGreat
