import Derived.Test.YtnegmpdllbbnhaaZbb
import Derived.Test.YtnegmpdllbbnhaaZbv
namespace Go.Proofs.Ytnegmpdllbbnhaa
open Go.RowKit
set_option linter.unusedSimpArgs false
set_option maxRecDepth 100000 in
set_option maxHeartbeats 6400000 in
theorem mkDUpdateS (l : List UpV) (a : Option Addr) (c k : Nat) (B : Nat → Prop) (w : World) (ho : (dUpdateS l).le maxLen) (h0 : 0 < k) (h1 : k + (dUpdateS l).wd < 100000000000) (hS : Own w (dUpdateS l) B (.slice a l.length c)) :
    Calls Try.prog 13 #[.slice a l.length c, .int .i64 k] w fun e w' => e = .returned (.int .i64 (k + (dUpdateS l).wd : Nat)) ∧ Own w' ((dUpdateS l).mkd k) B (.slice a l.length c) ∧ Frm B w w' := by
  have hl : l.length ≤ maxLen := (Ls_le.1 ho).2.1
  unfold maxLen at hl
  have HX : Hid (∀ i (h : i < l.length) j, j < 5 → (dUpdate l[i] j).le maxLen) := (Ls_le.1 ho).2.2
  have HWD : Hid (∀ i j, i < l.length → j ≤ 5 → k ≤ atN (lsF dUpdate l) 5 k i j ∧ atN (lsF dUpdate l) 5 k i j < 100000000000) := fun i j hi hj => ⟨atN_ge _ _ _ _ _, Nat.lt_of_le_of_lt (atN_le hi hj) h1⟩
  have HAL : Hid (atN (lsF dUpdate l) 5 k l.length 0 = k + (dUpdateS l).wd) := atN_all _ _ _ _
  have HS : Hid (l.length = 0 ∨ ∃ b off X, a = some ⟨b, off, none⟩ ∧ MS w w 5 l.length (lsF dUpdate l) k B b off X 0 0) := by
    obtain ⟨a', c', e, hO⟩ := Own.open hS
    simp only [Value.slice.injEq] at e
    obtain ⟨rfl, -, -⟩ := e
    exact hO.imp id (fun ⟨b, off, X, ha, h⟩ => ⟨b, off, X, ha, MS.start h⟩)
  have H0 := Lib.hid h0
  clear hS ho h1 h0
  go_enter Try.func13, Try.ntmps13
  go_wp2_with fail
  go_loopw [1, 5] (fun q i wr => ∃ m kk : Nat, m ≤ l.length ∧ i = .int .i64 m ∧ q = .int .i64 (kk : Int) ∧ Hid (atN (lsF dUpdate l) 5 k m 0 = kk ∧ ((l.length = 0 ∧ wr = w) ∨ ∃ b off X, a = some ⟨b, off, none⟩ ∧ MS w wr 5 l.length (lsF dUpdate l) k B b off X m 0))) (fun _ i _ => l.length - (intOf i).toNat)
  case atStart => exact ⟨0, k, Nat.zero_le _, rfl, rfl, atN_zero _ _ _, HS.out.imp (fun h => ⟨h, rfl⟩) id⟩
  case round =>
    obtain ⟨m, kk, hm, rfl, rfl, HR⟩ := hrel
    by_cases hlt : m < l.length
    case neg =>
      have hm' : m = l.length := by omega
      have hmi : decide ((m : Int) < (l.length : Int)) = false := decide_eq_false (by omega)
      have HF : Hid ((kk : Int) = ((k + (dUpdateS l).wd : Nat) : Int) ∧ Own wr ((dUpdateS l).mkd k) B (.slice a l.length c) ∧ Frm B w wr) := by
        obtain ⟨hk, h⟩ := HR.out
        have hal := HAL.out
        rw [hm'] at hk
        rw [hk] at hal
        refine ⟨by rw [hal], ?_⟩
        rcases h with ⟨h, rfl⟩ | ⟨b, off, X, rfl, h⟩
        · exact ⟨⟨a, c, rfl, .inl h⟩, Frm.refl _ _⟩
        · rw [hm'] at h
          exact ⟨h.done c, h.frm⟩
      clear hm' HR
      go_wp2_with fail
      go_ret
      exact ⟨ret_i HF.out.1, HF.out.2⟩
    obtain ⟨hk0, hz⟩ := HR.out
    clear HS HR
    obtain ⟨b, off, X, rfl, h⟩ : ∃ b off X, a = some ⟨b, off, none⟩ ∧ MS w wr 5 l.length (lsF dUpdate l) k B b off X m 0 := by
      rcases hz with ⟨h, -⟩ | h
      · omega
      · exact h
    clear hz
    have M0 := Lib.hid h
    have HFA : Hid (lsF dUpdate l m = dUpdate l[m]) := lsF_at hlt
    have N0 := Lib.hid hk0
    have HXK := Lib.hid (HX.out m hlt)
    have HM := Lib.hid hlt
    have hmi : (m : Int) < (l.length : Int) := by omega
    have hb : kk < 100000000000 ∧ 0 < kk := by have h1 := HWD.out m 0 hlt (by omega); have := H0.out; rw [hk0] at h1; omega
    obtain ⟨hb0, hp0⟩ := hb
    clear h hk0 HX
    generalize l[m] = x at *
    obtain ⟨u0, e0, z0, o0⟩ := M0.out.peek HFA.out HM.out (j' := 0) (by omega) (by omega)
    clear o0
    replace e0 : wr.cell? ⟨b, off + m * 5, none⟩ = _ := e0
    replace z0 : wr.frozen? ⟨b, off + m * 5, none⟩ = false := z0
    obtain ⟨u1, e1, z1, o1⟩ := M0.out.peek HFA.out HM.out (j' := 1) (by omega) (by omega)
    clear o1
    obtain ⟨u2, e2, z2, o2⟩ := M0.out.peek HFA.out HM.out (j' := 2) (by omega) (by omega)
    replace o2 : Own wr (dAtomSS x.ocs) (X m 2) u2 := o2
    obtain ⟨a2, q2, rfl⟩ := o2.rd'.lsSlice
    have O2 := Lib.hid o2
    clear o2
    have M1 : Hid (MS w (wr.setCell ⟨b, off + m * 5, none⟩ (.int .i64 ((kk : Int)))) 5 l.length (lsF dUpdate l) k B b off X m 1) := M0.out.scalar (x := .i x.uid) (q := kk) HM.out (by omega) (by rw [HFA.out]; rfl) N0.out.symm trivial rfl (by omega)
    have N1 : Hid (atN (lsF dUpdate l) 5 k m 1 = kk + 1) := atN_next HFA.out N0.out
    have M2 : Hid (MS w ((wr.setCell ⟨b, off + m * 5, none⟩ (.int .i64 ((kk : Int)))).setCell ⟨b, off + m * 5 + 1, none⟩ (.int .i64 ((kk : Int) + 1))) 5 l.length (lsF dUpdate l) k B b off X m 2) := M1.out.scalar (x := .i x.oid) (q := kk + 1) HM.out (by omega) (by rw [HFA.out]; rfl) N1.out.symm trivial rfl (by omega)
    have N2 : Hid (atN (lsF dUpdate l) 5 k m 2 = kk + 1 + 1) := atN_next HFA.out N1.out
    have hbd2 : kk + 1 + 1 < 100000000000 ∧ 0 < kk + 1 + 1 := by have h1 := HWD.out m 2 HM.out (by omega); have := H0.out; rw [N2.out] at h1; omega
    go_wp2_with fail
    rw [show ((kk : Int) + 1 + 1) = ((kk + 1 + 1 : Nat) : Int) from rfl]
    have FR2 : Frm (· = b) wr ((wr.setCell ⟨b, off + m * 5, none⟩ (.int .i64 ((kk : Int)))).setCell ⟨b, off + m * 5 + 1, none⟩ (.int .i64 ((kk : Int) + 1))) := by
      refine Frm.set (B := (· = b)) ?_ rfl _
      refine Frm.set (B := (· = b)) ?_ rfl _
      exact Frm.refl _ _
    have CC := Lib.hid (mkDAtomSS x.ocs a2 q2 (kk + 1 + 1) (X m 2) _ (HXK.out 2 (by omega)) hbd2.2 (by have h1 := HWD.out m 3 HM.out (by omega); rw [atN_next HFA.out N2.out] at h1; exact h1.2) (O2.out.frm FR2 (fun c hc => (M0.out.own.sub m 2 c hc).2)))
    clear FR2
    refine CC.out.mono ?_
    rintro e v2 ⟨rfl, ho2, hF2⟩
    have K2 : Hid (MS w v2 5 l.length (lsF dUpdate l) k B b off X m 3) := M2.out.child (x := dAtomSS x.ocs) HM.out (by omega) (by rw [HFA.out]; rfl) N2.out.symm hF2 (cell_skip (cell_skip e2 (by omega)) (by omega)) ho2
    have N3 : Hid (atN (lsF dUpdate l) 5 k m 3 = kk + 1 + 1 + (dAtomSS x.ocs).wd) := atN_next HFA.out N2.out
    clear CC ho2 hF2 O2 M2 hbd2 e0 z0 e1 z1 e2 z2
    obtain ⟨b2, hb2⟩ : ∃ y : Nat, y = kk + 1 + 1 + (dAtomSS x.ocs).wd := ⟨_, rfl⟩
    rw [← hb2] at N3 ⊢
    have hlb2 : 0 < b2 ∧ b2 < 100000000000 := by have h1 := HWD.out m 3 HM.out (by omega); have := H0.out; rw [N3.out] at h1; omega
    obtain ⟨hlb21, hlb22⟩ := hlb2
    clear hb2
    obtain ⟨u3, e3, z3, o3⟩ := K2.out.peek HFA.out HM.out (j' := 3) (by omega) (by omega)
    clear o3
    obtain ⟨u4, e4, z4, o4⟩ := K2.out.peek HFA.out HM.out (j' := 4) (by omega) (by omega)
    replace o4 : Own v2 (dAtomSS x.ncs) (X m 4) u4 := o4
    obtain ⟨a4, q4, rfl⟩ := o4.rd'.lsSlice
    have O4 := Lib.hid o4
    clear o4
    have M4 : Hid (MS w (v2.setCell ⟨b, off + m * 5 + 3, none⟩ (.int .i64 ((b2 : Int)))) 5 l.length (lsF dUpdate l) k B b off X m 4) := K2.out.scalar (x := .i x.nid) (q := b2) HM.out (by omega) (by rw [HFA.out]; rfl) N3.out.symm trivial rfl (by omega)
    have N4 : Hid (atN (lsF dUpdate l) 5 k m 4 = b2 + 1) := atN_next HFA.out N3.out
    have hbd4 : b2 + 1 < 100000000000 ∧ 0 < b2 + 1 := by have h1 := HWD.out m 4 HM.out (by omega); have := H0.out; rw [N4.out] at h1; omega
    go_wp2_with fail
    rw [show ((b2 : Int) + 1) = ((b2 + 1 : Nat) : Int) from rfl]
    have FR4 : Frm (· = b) v2 (v2.setCell ⟨b, off + m * 5 + 3, none⟩ (.int .i64 ((b2 : Int)))) := by
      refine Frm.set (B := (· = b)) ?_ rfl _
      exact Frm.refl _ _
    have CC := Lib.hid (mkDAtomSS x.ncs a4 q4 (b2 + 1) (X m 4) _ (HXK.out 4 (by omega)) hbd4.2 (by have h1 := HWD.out m 5 HM.out (by omega); rw [atN_next HFA.out N4.out] at h1; exact h1.2) (O4.out.frm FR4 (fun c hc => (K2.out.own.sub m 4 c hc).2)))
    clear FR4
    refine CC.out.mono ?_
    rintro e v4 ⟨rfl, ho4, hF4⟩
    have K4 : Hid (MS w v4 5 l.length (lsF dUpdate l) k B b off X m 5) := M4.out.child (x := dAtomSS x.ncs) HM.out (by omega) (by rw [HFA.out]; rfl) N4.out.symm hF4 (cell_skip e4 (by omega)) ho4
    have N5 : Hid (atN (lsF dUpdate l) 5 k m 5 = b2 + 1 + (dAtomSS x.ncs).wd) := atN_next HFA.out N4.out
    clear CC ho4 hF4 O4 M4 hbd4 e3 z3 e4 z4
    obtain ⟨b4, hb4⟩ : ∃ y : Nat, y = b2 + 1 + (dAtomSS x.ncs).wd := ⟨_, rfl⟩
    rw [← hb4] at N5 ⊢
    have hlb4 : 0 < b4 ∧ b4 < 100000000000 := by have h1 := HWD.out m 5 HM.out (by omega); have := H0.out; rw [N5.out] at h1; omega
    obtain ⟨hlb41, hlb42⟩ := hlb4
    clear hb4
    go_wp2_with fail
    go_roundw
    case rel => exact ⟨m + 1, b4, by omega, by go_num, rfl, by rw [atN_row]; exact N5.out, .inr ⟨b, off, X, rfl, K4.out.row⟩⟩
    case measure => simp [intOf]; omega
end Go.Proofs.Ytnegmpdllbbnhaa
