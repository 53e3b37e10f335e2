import Derived.Test.YtdhlndpobpdfmaaYav
import Derived.Test.YtdhlndpobpdfmaaYbv
namespace Go.Proofs.Ytdhlndpobpdfmaa
open Go.RowKit
set_option linter.unusedSimpArgs false
set_option maxRecDepth 100000 in
set_option maxHeartbeats 6400000 in
theorem mkDChangeS (l : List ChV) (a : Option Addr) (c k : Nat) (B : Nat → Prop) (w : World) (ho : (dChangeS l).le maxLen) (h0 : 0 < k) (h1 : k + (dChangeS l).wd < 100000000000) (hS : Own w (dChangeS l) B (.slice a l.length c)) :
    Calls Try.prog 14 #[.slice a l.length c, .int .i64 k] w fun e w' => e = .returned (.int .i64 (k + (dChangeS l).wd : Nat)) ∧ Own w' ((dChangeS l).mkd k) B (.slice a l.length c) ∧ Frm B w w' := by
  have hl : l.length ≤ maxLen := (Ls_le.1 ho).2.1
  unfold maxLen at hl
  have HX : Hid (∀ i (h : i < l.length) j, j < 6 → (dChange l[i] j).le maxLen) := (Ls_le.1 ho).2.2
  have HWD : Hid (∀ i j, i < l.length → j ≤ 6 → k ≤ atN (lsF dChange l) 6 k i j ∧ atN (lsF dChange l) 6 k i j < 100000000000) := fun i j hi hj => ⟨atN_ge _ _ _ _ _, Nat.lt_of_le_of_lt (atN_le hi hj) h1⟩
  have HAL : Hid (atN (lsF dChange l) 6 k l.length 0 = k + (dChangeS l).wd) := atN_all _ _ _ _
  have HS : Hid (l.length = 0 ∨ ∃ b off X, a = some ⟨b, off, none⟩ ∧ MS w w 6 l.length (lsF dChange l) k B b off X 0 0) := by
    obtain ⟨a', c', e, hO⟩ := Own.open hS
    simp only [Value.slice.injEq] at e
    obtain ⟨rfl, -, -⟩ := e
    exact hO.imp id (fun ⟨b, off, X, ha, h⟩ => ⟨b, off, X, ha, MS.start h⟩)
  have H0 := Lib.hid h0
  clear hS ho h1 h0
  go_enter Try.func14, Try.ntmps14
  go_wp2_with fail
  go_loopw [1, 5] (fun q i wr => ∃ m kk : Nat, m ≤ l.length ∧ i = .int .i64 m ∧ q = .int .i64 (kk : Int) ∧ Hid (atN (lsF dChange l) 6 k m 0 = kk ∧ ((l.length = 0 ∧ wr = w) ∨ ∃ b off X, a = some ⟨b, off, none⟩ ∧ MS w wr 6 l.length (lsF dChange l) k B b off X m 0))) (fun _ i _ => l.length - (intOf i).toNat)
  case atStart => exact ⟨0, k, Nat.zero_le _, rfl, rfl, atN_zero _ _ _, HS.out.imp (fun h => ⟨h, rfl⟩) id⟩
  case round =>
    obtain ⟨m, kk, hm, rfl, rfl, HR⟩ := hrel
    by_cases hlt : m < l.length
    case neg =>
      have hm' : m = l.length := by omega
      have hmi : decide ((m : Int) < (l.length : Int)) = false := decide_eq_false (by omega)
      have HF : Hid ((kk : Int) = ((k + (dChangeS l).wd : Nat) : Int) ∧ Own wr ((dChangeS l).mkd k) B (.slice a l.length c) ∧ Frm B w wr) := by
        obtain ⟨hk, h⟩ := HR.out
        have hal := HAL.out
        rw [hm'] at hk
        rw [hk] at hal
        refine ⟨by rw [hal], ?_⟩
        rcases h with ⟨h, rfl⟩ | ⟨b, off, X, rfl, h⟩
        · exact ⟨⟨a, c, rfl, .inl h⟩, Frm.refl _ _⟩
        · rw [hm'] at h
          exact ⟨h.done c, h.frm⟩
      clear hm' HR
      go_wp2_with fail
      go_ret
      exact ⟨ret_i HF.out.1, HF.out.2⟩
    obtain ⟨hk0, hz⟩ := HR.out
    clear HS HR
    obtain ⟨b, off, X, rfl, h⟩ : ∃ b off X, a = some ⟨b, off, none⟩ ∧ MS w wr 6 l.length (lsF dChange l) k B b off X m 0 := by
      rcases hz with ⟨h, -⟩ | h
      · omega
      · exact h
    clear hz
    have M0 := Lib.hid h
    have HFA : Hid (lsF dChange l m = dChange l[m]) := lsF_at hlt
    have N0 := Lib.hid hk0
    have HXK := Lib.hid (HX.out m hlt)
    have HM := Lib.hid hlt
    have hmi : (m : Int) < (l.length : Int) := by omega
    have hb : kk < 100000000000 ∧ 0 < kk := by have h1 := HWD.out m 0 hlt (by omega); have := H0.out; rw [hk0] at h1; omega
    obtain ⟨hb0, hp0⟩ := hb
    clear h hk0 HX
    generalize l[m] = x at *
    obtain ⟨u0, e0, z0, o0⟩ := M0.out.peek HFA.out HM.out (j' := 0) (by omega) (by omega)
    clear o0
    replace e0 : wr.cell? ⟨b, off + m * 6, none⟩ = _ := e0
    replace z0 : wr.frozen? ⟨b, off + m * 6, none⟩ = false := z0
    obtain ⟨u1, e1, z1, o1⟩ := M0.out.peek HFA.out HM.out (j' := 1) (by omega) (by omega)
    clear o1
    obtain ⟨u2, e2, z2, o2⟩ := M0.out.peek HFA.out HM.out (j' := 2) (by omega) (by omega)
    clear o2
    obtain ⟨u3, e3, z3, o3⟩ := M0.out.peek HFA.out HM.out (j' := 3) (by omega) (by omega)
    replace o3 : Own wr (dAtomSS x.ocs) (X m 3) u3 := o3
    obtain ⟨a3, q3, rfl⟩ := o3.rd'.lsSlice
    have O3 := Lib.hid o3
    clear o3
    have M1 : Hid (MS w (wr.setCell ⟨b, off + m * 6, none⟩ (.int .i64 ((kk : Int)))) 6 l.length (lsF dChange l) k B b off X m 1) := M0.out.scalar (x := .i x.tab) (q := kk) HM.out (by omega) (by rw [HFA.out]; rfl) N0.out.symm trivial rfl (by omega)
    have N1 : Hid (atN (lsF dChange l) 6 k m 1 = kk + 1) := atN_next HFA.out N0.out
    have M2 : Hid (MS w ((wr.setCell ⟨b, off + m * 6, none⟩ (.int .i64 ((kk : Int)))).setCell ⟨b, off + m * 6 + 1, none⟩ (.int .i64 ((kk : Int) + 1))) 6 l.length (lsF dChange l) k B b off X m 2) := M1.out.scalar (x := .i x.cid) (q := kk + 1) HM.out (by omega) (by rw [HFA.out]; rfl) N1.out.symm trivial rfl (by omega)
    have N2 : Hid (atN (lsF dChange l) 6 k m 2 = kk + 1 + 1) := atN_next HFA.out N1.out
    have M3 : Hid (MS w (((wr.setCell ⟨b, off + m * 6, none⟩ (.int .i64 ((kk : Int)))).setCell ⟨b, off + m * 6 + 1, none⟩ (.int .i64 ((kk : Int) + 1))).setCell ⟨b, off + m * 6 + 2, none⟩ (.int .i64 ((kk : Int) + 1 + 1))) 6 l.length (lsF dChange l) k B b off X m 3) := M2.out.scalar (x := .i x.oid) (q := kk + 1 + 1) HM.out (by omega) (by rw [HFA.out]; rfl) N2.out.symm trivial rfl (by omega)
    have N3 : Hid (atN (lsF dChange l) 6 k m 3 = kk + 1 + 1 + 1) := atN_next HFA.out N2.out
    have hbd3 : kk + 1 + 1 + 1 < 100000000000 ∧ 0 < kk + 1 + 1 + 1 := by have h1 := HWD.out m 3 HM.out (by omega); have := H0.out; rw [N3.out] at h1; omega
    go_wp2_with fail
    rw [show ((kk : Int) + 1 + 1 + 1) = ((kk + 1 + 1 + 1 : Nat) : Int) from rfl]
    have FR3 : Frm (· = b) wr (((wr.setCell ⟨b, off + m * 6, none⟩ (.int .i64 ((kk : Int)))).setCell ⟨b, off + m * 6 + 1, none⟩ (.int .i64 ((kk : Int) + 1))).setCell ⟨b, off + m * 6 + 2, none⟩ (.int .i64 ((kk : Int) + 1 + 1))) := by
      refine Frm.set (B := (· = b)) ?_ rfl _
      refine Frm.set (B := (· = b)) ?_ rfl _
      refine Frm.set (B := (· = b)) ?_ rfl _
      exact Frm.refl _ _
    have CC := Lib.hid (mkDAtomSS x.ocs a3 q3 (kk + 1 + 1 + 1) (X m 3) _ (HXK.out 3 (by omega)) hbd3.2 (by have h1 := HWD.out m 4 HM.out (by omega); rw [atN_next HFA.out N3.out] at h1; exact h1.2) (O3.out.frm FR3 (fun c hc => (M0.out.own.sub m 3 c hc).2)))
    clear FR3
    refine CC.out.mono ?_
    rintro e v3 ⟨rfl, ho3, hF3⟩
    have K3 : Hid (MS w v3 6 l.length (lsF dChange l) k B b off X m 4) := M3.out.child (x := dAtomSS x.ocs) HM.out (by omega) (by rw [HFA.out]; rfl) N3.out.symm hF3 (cell_skip (cell_skip (cell_skip e3 (by omega)) (by omega)) (by omega)) ho3
    have N4 : Hid (atN (lsF dChange l) 6 k m 4 = kk + 1 + 1 + 1 + (dAtomSS x.ocs).wd) := atN_next HFA.out N3.out
    clear CC ho3 hF3 O3 M3 hbd3 e0 z0 e1 z1 e2 z2 e3 z3
    obtain ⟨b3, hb3⟩ : ∃ y : Nat, y = kk + 1 + 1 + 1 + (dAtomSS x.ocs).wd := ⟨_, rfl⟩
    rw [← hb3] at N4 ⊢
    have hlb3 : 0 < b3 ∧ b3 < 100000000000 := by have h1 := HWD.out m 4 HM.out (by omega); have := H0.out; rw [N4.out] at h1; omega
    obtain ⟨hlb31, hlb32⟩ := hlb3
    clear hb3
    obtain ⟨u4, e4, z4, o4⟩ := K3.out.peek HFA.out HM.out (j' := 4) (by omega) (by omega)
    clear o4
    obtain ⟨u5, e5, z5, o5⟩ := K3.out.peek HFA.out HM.out (j' := 5) (by omega) (by omega)
    replace o5 : Own v3 (dAtomSS x.ncs) (X m 5) u5 := o5
    obtain ⟨a5, q5, rfl⟩ := o5.rd'.lsSlice
    have O5 := Lib.hid o5
    clear o5
    have M5 : Hid (MS w (v3.setCell ⟨b, off + m * 6 + 4, none⟩ (.int .i64 ((b3 : Int)))) 6 l.length (lsF dChange l) k B b off X m 5) := K3.out.scalar (x := .i x.nid) (q := b3) HM.out (by omega) (by rw [HFA.out]; rfl) N4.out.symm trivial rfl (by omega)
    have N5 : Hid (atN (lsF dChange l) 6 k m 5 = b3 + 1) := atN_next HFA.out N4.out
    have hbd5 : b3 + 1 < 100000000000 ∧ 0 < b3 + 1 := by have h1 := HWD.out m 5 HM.out (by omega); have := H0.out; rw [N5.out] at h1; omega
    go_wp2_with fail
    rw [show ((b3 : Int) + 1) = ((b3 + 1 : Nat) : Int) from rfl]
    have FR5 : Frm (· = b) v3 (v3.setCell ⟨b, off + m * 6 + 4, none⟩ (.int .i64 ((b3 : Int)))) := by
      refine Frm.set (B := (· = b)) ?_ rfl _
      exact Frm.refl _ _
    have CC := Lib.hid (mkDAtomSS x.ncs a5 q5 (b3 + 1) (X m 5) _ (HXK.out 5 (by omega)) hbd5.2 (by have h1 := HWD.out m 6 HM.out (by omega); rw [atN_next HFA.out N5.out] at h1; exact h1.2) (O5.out.frm FR5 (fun c hc => (K3.out.own.sub m 5 c hc).2)))
    clear FR5
    refine CC.out.mono ?_
    rintro e v5 ⟨rfl, ho5, hF5⟩
    have K5 : Hid (MS w v5 6 l.length (lsF dChange l) k B b off X m 6) := M5.out.child (x := dAtomSS x.ncs) HM.out (by omega) (by rw [HFA.out]; rfl) N5.out.symm hF5 (cell_skip e5 (by omega)) ho5
    have N6 : Hid (atN (lsF dChange l) 6 k m 6 = b3 + 1 + (dAtomSS x.ncs).wd) := atN_next HFA.out N5.out
    clear CC ho5 hF5 O5 M5 hbd5 e4 z4 e5 z5
    obtain ⟨b5, hb5⟩ : ∃ y : Nat, y = b3 + 1 + (dAtomSS x.ncs).wd := ⟨_, rfl⟩
    rw [← hb5] at N6 ⊢
    have hlb5 : 0 < b5 ∧ b5 < 100000000000 := by have h1 := HWD.out m 6 HM.out (by omega); have := H0.out; rw [N6.out] at h1; omega
    obtain ⟨hlb51, hlb52⟩ := hlb5
    clear hb5
    go_wp2_with fail
    go_roundw
    case rel => exact ⟨m + 1, b5, by omega, by go_num, rfl, by rw [atN_row]; exact N6.out, .inr ⟨b, off, X, rfl, K5.out.row⟩⟩
    case measure => simp [intOf]; omega
end Go.Proofs.Ytdhlndpobpdfmaa
