import Derived.Test.YtoalhminembpkaaUbu
import Derived.Test.YtoalhminembpkaaUbw
import Derived.Deep.RegionHeld3
import Derived.Deep.CutRange
namespace Go.Proofs.Ytoalhminembpkaa
open Go.RowKit
set_option linter.unusedSimpArgs false
set_option maxRecDepth 100000 in
set_option maxHeartbeats 12800000 in
theorem lawLeaveAll (x0 : List LkV) (x1 : Int) (a0_ : Option Addr) (c0_ : Nat) (w : World) (l0_ : (dLockS x0).le maxLen) (l1 : iOK x1) (r0_ : Rd w (· < w.heap.size) (dLockS x0) (.slice a0_ x0.length c0_)) :
    Calls Try.prog 7 #[.slice a0_ x0.length c0_, .int .i64 x1] w fun e w' => e = .returned (.bool true) ∧ Below w.heap.size w w' := by
  have HL0_ := Lib.hid l0_
  have HO0 := Lib.hid l0_
  have RA0_ : Hid (∀ W, Below w.heap.size w W → Rd W (· < w.heap.size) (dLockS x0) (.slice a0_ x0.length c0_)) := fun W h => Rd.same (fun b hb => h.block b hb) (fun _ h => h) _ _ r0_
  have HW1 := Lib.hid l1
  have ALAT : Hid (∀ W W', (Below w.heap.size w W) → Below W.heap.size W W' → (Below w.heap.size w W')) := fun W W' h hB => h.trans (hB.mono h.size)
  have A0 : Hid (Below w.heap.size w w) := Below.refl _ _
  clear l0_ r0_ l1
  go_enter Try.func7, Try.ntmps7
  go_wp2_with fail
  have bl : Hid ((0 : Int) ≤ 1048576 ∧ (1048576 : Int) ≤ 1048576) := by show _ ∧ _; omega
  refine (szDLockS x0 a0_ c0_ 1048576 _ _ bl.out.1 bl.out.2 HO0.out (RA0_.out _ A0.out)).mono ?_
  rintro e ws0 ⟨rfl, hB⟩
  have AS0 := Lib.hid (ALAT.out _ _ A0.out hB)
  clear hB A0
  by_cases hz0 : (1048576 : Int) - ((dLockS x0).sz : Int) < 0
  case pos =>
    rw [less_no hz0]
    go_wp2_with fail
    go_ret
    exact ⟨rfl, AS0.out⟩
  rw [less_yes (by omega)]
  obtain ⟨L0, hL0⟩ : ∃ L0 : Int, L0 = 1048576 - ((dLockS x0).sz : Int) := ⟨_, rfl⟩
  rw [← hL0]
  have dL0 : decide (L0 < 0) = false := decide_eq_false (by omega)
  have HZ0 : Hid ((dLockS x0).sz ≤ 1048576) := by have := bl.out; show _ ≤ _; omega
  have b2 : Hid (0 ≤ L0 ∧ L0 ≤ 1048576) := by have := bl.out; show _ ∧ _; omega
  clear hz0 hL0 bl
  have bl := b2
  clear b2
  go_wp2_with fail
  have HK0 : Hid ((dLockS x0).le 1048576) := D.le_of_sz _ HO0.out HZ0.out
  have TO0 : Hid (∀ W, (Below w.heap.size w W) → Calls Try.prog 11 #[.slice a0_ x0.length c0_] W fun e w' => ∃ p : Nat, e = .returned (.slice (some ⟨p, 0, none⟩) x0.length x0.length) ∧ Own w' (dLockS x0) (fun c => W.heap.size ≤ c ∧ c < w'.heap.size) (.slice (some ⟨p, 0, none⟩) x0.length x0.length) ∧ Below W.heap.size W w' ∧ (Below w.heap.size w w')) := fun W h => (toDLockS x0 a0_ c0_ _ W HK0.out (RA0_.out W h)).mono (fun e w' ⟨he, ho, hB⟩ => ⟨_, he, ho, hB, ALAT.out _ _ h hB⟩)
  obtain ⟨R0, hR0⟩ : ∃ r, r = laoR x0 x1 := ⟨_, rfl⟩
  obtain ⟨R1, hR1⟩ : ∃ r, r = laoT x0 x1 := ⟨_, rfl⟩
  obtain ⟨R2, hR2⟩ : ∃ r, r = obC x0 x1 := ⟨_, rfl⟩
  have CS : Hid (∀ (W : World) (b0_ : Option Addr) (e0_ : Nat), Rd W (fun _ => True) (dLockS x0) (.slice b0_ x0.length e0_) → Calls Try.prog 25 #[.slice b0_ x0.length e0_, .int .i64 x1] W fun e w' => ∃ (ra0 : Option Addr) (rc0 : Nat) (ra1 : Option Addr) (rc1 : Nat), e = .returned (.tuple #[.slice ra0 R0.length rc0, .slice ra1 R1.length rc1, .int .i64 R2]) ∧ Rd w' (· < w'.heap.size) (dLockS R0) (.slice ra0 R0.length rc0) ∧ Rd w' (· < w'.heap.size) (dToldS R1) (.slice ra1 R1.length rc1) ∧ Below W.heap.size W w') := fun W b0_ e0_ h0_ => by rw [hR0, hR1, hR2]; exact leaveAllS x0 x1 b0_ e0_ _ W (D.le.mono (by unfold maxLen; omega) _ HK0.out) h0_
  have CI : Hid (∀ (W : World) (b0_ : Option Addr) (e0_ : Nat), Rd W (fun _ => True) (dLockS x0) (.slice b0_ x0.length e0_) → Calls Try.prog 26 #[.slice b0_ x0.length e0_, .int .i64 x1] W fun e w' => ∃ (ra0 : Option Addr) (rc0 : Nat) (ra1 : Option Addr) (rc1 : Nat) (G0 : Nat → Prop) (G1 : Nat → Prop), e = .returned (.tuple #[.slice ra0 R0.length rc0, .slice ra1 R1.length rc1, .int .i64 R2]) ∧ Own w' (dLockS R0) G0 (.slice ra0 R0.length rc0) ∧ Own w' (dToldS R1) G1 (.slice ra1 R1.length rc1) ∧ (∀ b, G0 b ∨ G1 b → W.heap.size ≤ b ∧ b < w'.heap.size) ∧ (∀ b, G0 b → ¬ G1 b) ∧ Below W.heap.size W w') := fun W b0_ e0_ h0_ => by rw [hR0, hR1, hR2]; exact leaveAllI x0 x1 b0_ e0_ _ W (D.le.mono (by unfold maxLen; omega) _ HK0.out) h0_
  have HRB : Hid ((dLockS R0).le maxLen ∧ (dLockS R0).sz ≤ 100000000 ∧ (dToldS R1).le maxLen ∧ (dToldS R1).sz ≤ 100000000) := by rw [hR0, hR1]; exact la_le _ _
  have HRW : Hid (1 + (dLockS R0).wd + (dToldS R1).wd < 100000000000) := by have h0 := D.wd_le (dLockS R0) (HRB.out.1); have z0 := HRB.out.2.1; have h1 := D.wd_le (dToldS R1) (HRB.out.2.2.1); have z1 := HRB.out.2.2.2; show _ < _; omega
  have nq2 : (R2 != R2) = false := by simp
  clear hR0 hR1 hR2
  have EQ0 : Hid (∀ (W : World) (b : Option Addr) (e : Nat) (f : Option Addr) (g : Nat), Rd W (fun _ => True) (dLockS x0) (.slice b x0.length e) → Rd W (fun _ => True) (dLockS x0) (.slice f x0.length g) → Calls Try.prog 13 #[.slice b x0.length e, .slice f x0.length g] W fun e w' => e = .returned (.bool true) ∧ Below W.heap.size W w') := fun W b e f g h i => eqDLockS x0 b e f g _ _ W HO0.out h i
  have EQR0 : Hid (∀ (W : World) (b : Option Addr) (e : Nat) (f : Option Addr) (g : Nat), Rd W (fun _ => True) (dLockS R0) (.slice b R0.length e) → Rd W (fun _ => True) (dLockS R0) (.slice f R0.length g) → Calls Try.prog 13 #[.slice b R0.length e, .slice f R0.length g] W fun e w' => e = .returned (.bool true) ∧ Below W.heap.size W w') := fun W b e f g h i => eqDLockS R0 b e f g _ _ W HRB.out.1 h i
  have EQR1 : Hid (∀ (W : World) (b : Option Addr) (e : Nat) (f : Option Addr) (g : Nat), Rd W (fun _ => True) (dToldS R1) (.slice b R1.length e) → Rd W (fun _ => True) (dToldS R1) (.slice f R1.length g) → Calls Try.prog 20 #[.slice b R1.length e, .slice f R1.length g] W fun e w' => e = .returned (.bool true) ∧ Below W.heap.size W w') := fun W b e f g h i => eqDToldS R1 b e f g _ _ W HRB.out.2.2.1 h i
  refine (TO0.out _ AS0.out).mono ?_
  rintro e w1 ⟨p0_, rfl, ho1, hB1, hA1⟩
  have RC0_ : Hid (Rd _ (fun _ => True) (dLockS x0) (.slice (some ⟨p0_, 0, none⟩) x0.length x0.length)) := ho1.rd'.any
  have A1 := Lib.hid hA1
  clear ho1 hB1 hA1 AS0
  go_wp2_with fail
  refine (CS.out _ _ _ RC0_.out).mono ?_
  rintro e w2 ⟨ra0, rc0, ra1, rc1, rfl, hr0, hr1, hB2⟩
  have A2 := ALAT.out _ _ A1.out hB2
  have S0L : Hid (∀ W W', (Below w.heap.size w W ∧ Rd W (· < w2.heap.size) (dLockS R0) (.slice ra0 R0.length rc0) ∧ Rd W (· < w2.heap.size) (dToldS R1) (.slice ra1 R1.length rc1)) → Below W.heap.size W W' → (Below w.heap.size w W' ∧ Rd W' (· < w2.heap.size) (dLockS R0) (.slice ra0 R0.length rc0) ∧ Rd W' (· < w2.heap.size) (dToldS R1) (.slice ra1 R1.length rc1))) := fun W W' h hB => ⟨h.1.trans (hB.mono h.1.size), h.2.1.later hB, h.2.2.later hB⟩
  have M0 : Hid (Below w.heap.size w w2 ∧ Rd w2 (· < w2.heap.size) (dLockS R0) (.slice ra0 R0.length rc0) ∧ Rd w2 (· < w2.heap.size) (dToldS R1) (.slice ra1 R1.length rc1)) := ⟨A2.trans ((Below.refl _ _).mono A2.size), hr0.later (Below.refl _ _), hr1.later (Below.refl _ _)⟩
  have O0 : Hid (w.heap.size + 0 ≤ w2.heap.size) := A2.size
  clear A2 hr0 hr1 hB2 A1 RC0_
  go_wp2_with fail
  refine (TO0.out _ M0.out.1).mono ?_
  rintro e wx0 ⟨p0_, rfl, ho, hB, -⟩
  have hm := S0L.out _ _ M0.out hB
  obtain ⟨u0, hu0⟩ : ∃ u, u = w2.heap.size := ⟨_, rfl⟩
  have U0 : Hid (w2.heap.size ≤ u0 ∧ u0 ≤ wx0.heap.size) := by refine ⟨by first | omega | (rw [hu0]), by rw [hu0]; exact hB.size⟩
  rw [← hu0] at ho
  have S1L : Hid (∀ W W', (Below w.heap.size w W ∧ Rd W (· < w2.heap.size) (dLockS R0) (.slice ra0 R0.length rc0) ∧ Rd W (· < w2.heap.size) (dToldS R1) (.slice ra1 R1.length rc1) ∧ Own W (dLockS x0) (fun c => u0 ≤ c ∧ c < wx0.heap.size) (.slice (some ⟨p0_, 0, none⟩) x0.length x0.length)) → Below W.heap.size W W' → (Below w.heap.size w W' ∧ Rd W' (· < w2.heap.size) (dLockS R0) (.slice ra0 R0.length rc0) ∧ Rd W' (· < w2.heap.size) (dToldS R1) (.slice ra1 R1.length rc1) ∧ Own W' (dLockS x0) (fun c => u0 ≤ c ∧ c < wx0.heap.size) (.slice (some ⟨p0_, 0, none⟩) x0.length x0.length))) := fun W W' h hB => ⟨h.1.trans (hB.mono h.1.size), h.2.1.later hB, h.2.2.1.later hB, h.2.2.2.later hB⟩
  have M1 : Hid (Below w.heap.size w wx0 ∧ Rd wx0 (· < w2.heap.size) (dLockS R0) (.slice ra0 R0.length rc0) ∧ Rd wx0 (· < w2.heap.size) (dToldS R1) (.slice ra1 R1.length rc1) ∧ Own wx0 (dLockS x0) (fun c => u0 ≤ c ∧ c < wx0.heap.size) (.slice (some ⟨p0_, 0, none⟩) x0.length x0.length)) := ⟨hm.1.trans ((Below.refl _ _).mono hm.1.size), hm.2.1.later (Below.refl _ _), hm.2.2.later (Below.refl _ _), ho.later (Below.refl _ _)⟩
  clear hm hB ho hu0 M0
  go_wp2_with fail
  refine (CI.out _ _ _ (Rd.any (Own.rd' (M1.out.2.2.2)))).mono ?_
  rintro e wg ⟨ga0, gc0, ga1, gc1, G0, G1, rfl, ho0, ho1, hgs, hgd, hB⟩
  have hm := S1L.out _ _ M1.out hB
  obtain ⟨ug, hug⟩ : ∃ u, u = wx0.heap.size := ⟨_, rfl⟩
  have UG : Hid (wx0.heap.size ≤ ug ∧ ug ≤ wg.heap.size) := by refine ⟨by first | omega | (rw [hug]), by rw [hug]; exact hB.size⟩
  rw [← hug] at hgs
  have GS := Lib.hid hgs
  have GD := Lib.hid hgd
  clear hgs hgd
  have SGL : Hid (∀ W W', (Below w.heap.size w W ∧ Rd W (· < w2.heap.size) (dLockS R0) (.slice ra0 R0.length rc0) ∧ Rd W (· < w2.heap.size) (dToldS R1) (.slice ra1 R1.length rc1) ∧ Own W (dLockS x0) (fun c => u0 ≤ c ∧ c < wx0.heap.size) (.slice (some ⟨p0_, 0, none⟩) x0.length x0.length) ∧ Own W (dLockS R0) G0 (.slice ga0 R0.length gc0) ∧ Own W (dToldS R1) G1 (.slice ga1 R1.length gc1)) → Below W.heap.size W W' → (Below w.heap.size w W' ∧ Rd W' (· < w2.heap.size) (dLockS R0) (.slice ra0 R0.length rc0) ∧ Rd W' (· < w2.heap.size) (dToldS R1) (.slice ra1 R1.length rc1) ∧ Own W' (dLockS x0) (fun c => u0 ≤ c ∧ c < wx0.heap.size) (.slice (some ⟨p0_, 0, none⟩) x0.length x0.length) ∧ Own W' (dLockS R0) G0 (.slice ga0 R0.length gc0) ∧ Own W' (dToldS R1) G1 (.slice ga1 R1.length gc1))) := fun W W' h hB => ⟨h.1.trans (hB.mono h.1.size), h.2.1.later hB, h.2.2.1.later hB, h.2.2.2.1.later hB, h.2.2.2.2.1.later hB, h.2.2.2.2.2.later hB⟩
  have MG : Hid (Below w.heap.size w wg ∧ Rd wg (· < w2.heap.size) (dLockS R0) (.slice ra0 R0.length rc0) ∧ Rd wg (· < w2.heap.size) (dToldS R1) (.slice ra1 R1.length rc1) ∧ Own wg (dLockS x0) (fun c => u0 ≤ c ∧ c < wx0.heap.size) (.slice (some ⟨p0_, 0, none⟩) x0.length x0.length) ∧ Own wg (dLockS R0) G0 (.slice ga0 R0.length gc0) ∧ Own wg (dToldS R1) G1 (.slice ga1 R1.length gc1)) := ⟨hm.1.trans ((Below.refl _ _).mono hm.1.size), hm.2.1.later (Below.refl _ _), hm.2.2.1.later (Below.refl _ _), hm.2.2.2.later (Below.refl _ _), ho0.later (Below.refl _ _), ho1.later (Below.refl _ _)⟩
  clear hm hB ho0 ho1 hug M1
  have ORD := Lib.hid (And.intro (O0.out) (And.intro (U0.out) (UG.out)))
  go_wp2_with fail
  refine (EQR0.out _ _ _ _ _ (Rd.any (Own.rd' (MG.out.2.2.2.2.1))) (Rd.any (MG.out.2.1))).mono ?_
  rintro e wc0 ⟨rfl, hB⟩
  have N1 := Lib.hid (SGL.out _ _ MG.out hB)
  clear hB MG
  go_wp2_with fail
  refine (EQR1.out _ _ _ _ _ (Rd.any (Own.rd' (N1.out.2.2.2.2.2))) (Rd.any (N1.out.2.2.1))).mono ?_
  rintro e wc1 ⟨rfl, hB⟩
  have N2 := Lib.hid (SGL.out _ _ N1.out hB)
  clear hB N1
  go_wp2_with fail
  have CE0 : Hid (∀ W, (Below w.heap.size w W ∧ Rd W (· < w2.heap.size) (dLockS R0) (.slice ra0 R0.length rc0) ∧ Rd W (· < w2.heap.size) (dToldS R1) (.slice ra1 R1.length rc1) ∧ Own W (dLockS x0) (fun c => u0 ≤ c ∧ c < wx0.heap.size) (.slice (some ⟨p0_, 0, none⟩) x0.length x0.length) ∧ Own W (dLockS R0) G0 (.slice ga0 R0.length gc0) ∧ Own W (dToldS R1) G1 (.slice ga1 R1.length gc1)) → (True)) := fun W h => trivial
  have XA0 : Hid (∀ W, (Below w.heap.size w W ∧ Rd W (· < w2.heap.size) (dLockS R0) (.slice ra0 R0.length rc0) ∧ Rd W (· < w2.heap.size) (dToldS R1) (.slice ra1 R1.length rc1) ∧ Own W (dLockS x0) (fun c => u0 ≤ c ∧ c < wx0.heap.size) (.slice (some ⟨p0_, 0, none⟩) x0.length x0.length) ∧ Own W (dLockS R0) G0 (.slice ga0 R0.length gc0) ∧ Own W (dToldS R1) G1 (.slice ga1 R1.length gc1)) → (Below w.heap.size w W)) := fun W h => h.1
  have hx := N2.out
  clear N2
  refine (TO0.out _ (by first | exact XA0.out _ hx | exact XA0.out _ (SGL.out _ _ hx (Below.refl _ _).drew))).mono ?_
  rintro e we0 ⟨s0_, rfl, ho, hB, _⟩
  have h2 : Below w.heap.size w we0 ∧ Rd we0 (· < w2.heap.size) (dLockS R0) (.slice ra0 R0.length rc0) ∧ Rd we0 (· < w2.heap.size) (dToldS R1) (.slice ra1 R1.length rc1) ∧ Own we0 (dLockS x0) (fun c => u0 ≤ c ∧ c < wx0.heap.size) (.slice (some ⟨p0_, 0, none⟩) x0.length x0.length) ∧ Own we0 (dLockS R0) G0 (.slice ga0 R0.length gc0) ∧ Own we0 (dToldS R1) G1 (.slice ga1 R1.length gc1) := (by first | exact SGL.out _ _ hx hB | exact SGL.out _ _ (SGL.out _ _ hx (Below.refl _ _).drew) hB)
  clear hx
  have hx := h2
  clear h2
  have RE0_ : Hid (Rd _ (fun _ => True) (dLockS x0) (.slice (some ⟨s0_, 0, none⟩) x0.length x0.length)) := ho.rd'.any
  clear hB ho
  go_wp2_with fail
  refine (EQ0.out _ _ _ _ _ (by first | exact Rd.any (Own.rd' (hx.2.2.2.1)) | exact Rd.later (Rd.any (Own.rd' (hx.2.2.2.1))) (Below.refl _ _).drew) (by first | exact RE0_.out | exact Rd.later RE0_.out (Below.refl _ _).drew)).mono ?_
  rintro e wf0 ⟨rfl, hB⟩
  have h2 : Below w.heap.size w wf0 ∧ Rd wf0 (· < w2.heap.size) (dLockS R0) (.slice ra0 R0.length rc0) ∧ Rd wf0 (· < w2.heap.size) (dToldS R1) (.slice ra1 R1.length rc1) ∧ Own wf0 (dLockS x0) (fun c => u0 ≤ c ∧ c < wx0.heap.size) (.slice (some ⟨p0_, 0, none⟩) x0.length x0.length) ∧ Own wf0 (dLockS R0) G0 (.slice ga0 R0.length gc0) ∧ Own wf0 (dToldS R1) G1 (.slice ga1 R1.length gc1) := (by first | exact SGL.out _ _ hx hB | exact SGL.out _ _ (SGL.out _ _ hx (Below.refl _ _).drew) hB)
  clear hx hB
  have hx := h2
  clear h2
  have N3 := Lib.hid hx
  clear hx RE0_
  go_wp2_with fail
  have MB : Hid True := trivial
  have T0F : Hid (∀ W W', (Below w.heap.size w W ∧ Rd W (· < w2.heap.size) (dLockS R0) (.slice ra0 R0.length rc0) ∧ Rd W (· < w2.heap.size) (dToldS R1) (.slice ra1 R1.length rc1) ∧ Own W (dLockS x0) (fun c => u0 ≤ c ∧ c < wx0.heap.size) (.slice (some ⟨p0_, 0, none⟩) x0.length x0.length) ∧ Own W (dLockS R0) G0 (.slice ga0 R0.length gc0) ∧ Own W (dToldS R1) G1 (.slice ga1 R1.length gc1)) → Frm (fun c => u0 ≤ c ∧ c < wx0.heap.size) W W' → (Own W' ((dLockS x0).mkd (1)) (fun c => u0 ≤ c ∧ c < wx0.heap.size) (.slice (some ⟨p0_, 0, none⟩) x0.length x0.length)) → (Below w.heap.size w W' ∧ Rd W' (· < w2.heap.size) (dLockS R0) (.slice ra0 R0.length rc0) ∧ Rd W' (· < w2.heap.size) (dToldS R1) (.slice ra1 R1.length rc1) ∧ Own W' ((dLockS x0).mkd (1)) (fun c => u0 ≤ c ∧ c < wx0.heap.size) (.slice (some ⟨p0_, 0, none⟩) x0.length x0.length) ∧ Own W' (dLockS R0) G0 (.slice ga0 R0.length gc0) ∧ Own W' (dToldS R1) G1 (.slice ga1 R1.length gc1))) := fun W W' h hF ho0 => ⟨h.1.trans (Frm.below hF h.1.size (fun b hb hx => by have h1 := (fun (b : Nat) (hb : u0 ≤ b ∧ b < wx0.heap.size) => hb) b hx; have h2 := ORD.out; omega)), h.2.1.frm hF (fun b hb hx => by have h1 := (fun (b : Nat) (hb : u0 ≤ b ∧ b < wx0.heap.size) => hb) b hx; have h2 := ORD.out; have h3 : b < w2.heap.size := hb; omega), h.2.2.1.frm hF (fun b hb hx => by have h1 := (fun (b : Nat) (hb : u0 ≤ b ∧ b < wx0.heap.size) => hb) b hx; have h2 := ORD.out; have h3 : b < w2.heap.size := hb; omega), ho0, h.2.2.2.2.1.frm hF (fun b hb hx => by have h1 := (fun (b : Nat) (hb : u0 ≤ b ∧ b < wx0.heap.size) => hb) b hx; have h2 := ORD.out; have h3 := (fun (b : Nat) (hb : G0 b) => GS.out b (.inl hb)) b hb; omega), h.2.2.2.2.2.frm hF (fun b hb hx => by have h1 := (fun (b : Nat) (hb : u0 ≤ b ∧ b < wx0.heap.size) => hb) b hx; have h2 := ORD.out; have h3 := (fun (b : Nat) (hb : G1 b) => GS.out b (.inr hb)) b hb; omega)⟩
  refine (mkDLockS x0 (some ⟨p0_, 0, none⟩) x0.length (1) (fun c => u0 ≤ c ∧ c < wx0.heap.size) _ HO0.out (by omega) (by have g := D.wd_le (dLockS x0) (HO0.out); have gz := HZ0.out; omega) (N3.out.2.2.2.1)).mono ?_
  rintro e wm0 ⟨rfl, ho, hF⟩
  have N4 := Lib.hid (T0F.out _ _ N3.out hF ho)
  clear ho hF N3
  have T0L : Hid (∀ W W', (Below w.heap.size w W ∧ Rd W (· < w2.heap.size) (dLockS R0) (.slice ra0 R0.length rc0) ∧ Rd W (· < w2.heap.size) (dToldS R1) (.slice ra1 R1.length rc1) ∧ Own W ((dLockS x0).mkd (1)) (fun c => u0 ≤ c ∧ c < wx0.heap.size) (.slice (some ⟨p0_, 0, none⟩) x0.length x0.length) ∧ Own W (dLockS R0) G0 (.slice ga0 R0.length gc0) ∧ Own W (dToldS R1) G1 (.slice ga1 R1.length gc1)) → Below W.heap.size W W' → (Below w.heap.size w W' ∧ Rd W' (· < w2.heap.size) (dLockS R0) (.slice ra0 R0.length rc0) ∧ Rd W' (· < w2.heap.size) (dToldS R1) (.slice ra1 R1.length rc1) ∧ Own W' ((dLockS x0).mkd (1)) (fun c => u0 ≤ c ∧ c < wx0.heap.size) (.slice (some ⟨p0_, 0, none⟩) x0.length x0.length) ∧ Own W' (dLockS R0) G0 (.slice ga0 R0.length gc0) ∧ Own W' (dToldS R1) G1 (.slice ga1 R1.length gc1))) := fun W W' h hB => ⟨h.1.trans (hB.mono h.1.size), h.2.1.later hB, h.2.2.1.later hB, h.2.2.2.1.later hB, h.2.2.2.2.1.later hB, h.2.2.2.2.2.later hB⟩
  obtain ⟨k0, hk0⟩ : ∃ y : Nat, y = 1 + (dLockS x0).wd := ⟨_, rfl⟩
  rw [← hk0]
  have hkb0 : Hid (k0 < 1000000000 ∧ 0 < k0) := by rw [hk0]; have g := D.wd_le (dLockS x0) (HO0.out); have gz := HZ0.out; show _ ∧ _; omega
  have dk0 : decide ((k0 : Int) < 0) = false := by simp
  clear hk0
  go_wp2_with fail
  refine (EQR0.out _ _ _ _ _ (Rd.any (Own.rd' (N4.out.2.2.2.2.1))) (Rd.any (N4.out.2.1))).mono ?_
  rintro e wc4 ⟨rfl, hB⟩
  have N5 := Lib.hid (T0L.out _ _ N4.out hB)
  clear hB N4
  go_wp2_with fail
  refine (EQR1.out _ _ _ _ _ (Rd.any (Own.rd' (N5.out.2.2.2.2.2))) (Rd.any (N5.out.2.2.1))).mono ?_
  rintro e wc5 ⟨rfl, hB⟩
  have N6 := Lib.hid (T0L.out _ _ N5.out hB)
  clear hB N5
  go_wp2_with fail
  have TG0F : Hid (∀ W W', (Below w.heap.size w W ∧ Rd W (· < w2.heap.size) (dLockS R0) (.slice ra0 R0.length rc0) ∧ Rd W (· < w2.heap.size) (dToldS R1) (.slice ra1 R1.length rc1) ∧ Own W ((dLockS x0).mkd (1)) (fun c => u0 ≤ c ∧ c < wx0.heap.size) (.slice (some ⟨p0_, 0, none⟩) x0.length x0.length) ∧ Own W (dLockS R0) G0 (.slice ga0 R0.length gc0) ∧ Own W (dToldS R1) G1 (.slice ga1 R1.length gc1)) → Frm G0 W W' → (Own W' ((dLockS R0).mkd (1)) G0 (.slice ga0 R0.length gc0)) → (Below w.heap.size w W' ∧ Rd W' (· < w2.heap.size) (dLockS R0) (.slice ra0 R0.length rc0) ∧ Rd W' (· < w2.heap.size) (dToldS R1) (.slice ra1 R1.length rc1) ∧ Own W' ((dLockS x0).mkd (1)) (fun c => u0 ≤ c ∧ c < wx0.heap.size) (.slice (some ⟨p0_, 0, none⟩) x0.length x0.length) ∧ Own W' ((dLockS R0).mkd (1)) G0 (.slice ga0 R0.length gc0) ∧ Own W' (dToldS R1) G1 (.slice ga1 R1.length gc1))) := fun W W' h hF ho0 => ⟨h.1.trans (Frm.below hF h.1.size (fun b hb hx => by have h1 := (fun (b : Nat) (hb : G0 b) => GS.out b (.inl hb)) b hx; have h2 := ORD.out; omega)), h.2.1.frm hF (fun b hb hx => by have h1 := (fun (b : Nat) (hb : G0 b) => GS.out b (.inl hb)) b hx; have h2 := ORD.out; have h3 : b < w2.heap.size := hb; omega), h.2.2.1.frm hF (fun b hb hx => by have h1 := (fun (b : Nat) (hb : G0 b) => GS.out b (.inl hb)) b hx; have h2 := ORD.out; have h3 : b < w2.heap.size := hb; omega), h.2.2.2.1.frm hF (fun b hb hx => by have h1 := (fun (b : Nat) (hb : G0 b) => GS.out b (.inl hb)) b hx; have h2 := ORD.out; have h3 := (fun (b : Nat) (hb : u0 ≤ b ∧ b < wx0.heap.size) => hb) b hb; omega), ho0, h.2.2.2.2.2.frm hF (fun b hb hx => GD.out b hx hb)⟩
  refine (mkDLockS R0 ga0 gc0 (1) G0 _ HRB.out.1 (by omega) (by have h := HRW.out; omega) (N6.out.2.2.2.2.1)).mono ?_
  rintro e wmg0 ⟨rfl, ho, hF⟩
  have N7 := Lib.hid (TG0F.out _ _ N6.out hF ho)
  clear ho hF N6
  have TG0L : Hid (∀ W W', (Below w.heap.size w W ∧ Rd W (· < w2.heap.size) (dLockS R0) (.slice ra0 R0.length rc0) ∧ Rd W (· < w2.heap.size) (dToldS R1) (.slice ra1 R1.length rc1) ∧ Own W ((dLockS x0).mkd (1)) (fun c => u0 ≤ c ∧ c < wx0.heap.size) (.slice (some ⟨p0_, 0, none⟩) x0.length x0.length) ∧ Own W ((dLockS R0).mkd (1)) G0 (.slice ga0 R0.length gc0) ∧ Own W (dToldS R1) G1 (.slice ga1 R1.length gc1)) → Below W.heap.size W W' → (Below w.heap.size w W' ∧ Rd W' (· < w2.heap.size) (dLockS R0) (.slice ra0 R0.length rc0) ∧ Rd W' (· < w2.heap.size) (dToldS R1) (.slice ra1 R1.length rc1) ∧ Own W' ((dLockS x0).mkd (1)) (fun c => u0 ≤ c ∧ c < wx0.heap.size) (.slice (some ⟨p0_, 0, none⟩) x0.length x0.length) ∧ Own W' ((dLockS R0).mkd (1)) G0 (.slice ga0 R0.length gc0) ∧ Own W' (dToldS R1) G1 (.slice ga1 R1.length gc1))) := fun W W' h hB => ⟨h.1.trans (hB.mono h.1.size), h.2.1.later hB, h.2.2.1.later hB, h.2.2.2.1.later hB, h.2.2.2.2.1.later hB, h.2.2.2.2.2.later hB⟩
  have HD0 : Hid (∀ (W : World), Rd W (fun _ => True) ((dLockS R0).mkd (1)) (.slice ga0 R0.length gc0) → Calls Try.prog 17 #[.slice ga0 R0.length gc0, .int .i64 1] W fun e w' => e = .returned (.int .i64 (1 + (dLockS R0).wd : Nat)) ∧ Below W.heap.size W w') := fun W h => hdDLockS R0 ga0 gc0 (1) _ W HRB.out.1 (by omega) (by have h := HRW.out; omega) h
  obtain ⟨kg0, hkg0⟩ : ∃ y : Nat, y = 1 + (dLockS R0).wd := ⟨_, rfl⟩
  rw [← hkg0] at HD0 ⊢
  have HKG0 := Lib.hid hkg0
  have dkg0 : decide ((kg0 : Int) < 0) = false := by simp
  clear hkg0
  go_wp2_with fail
  have TG1F : Hid (∀ W W', (Below w.heap.size w W ∧ Rd W (· < w2.heap.size) (dLockS R0) (.slice ra0 R0.length rc0) ∧ Rd W (· < w2.heap.size) (dToldS R1) (.slice ra1 R1.length rc1) ∧ Own W ((dLockS x0).mkd (1)) (fun c => u0 ≤ c ∧ c < wx0.heap.size) (.slice (some ⟨p0_, 0, none⟩) x0.length x0.length) ∧ Own W ((dLockS R0).mkd (1)) G0 (.slice ga0 R0.length gc0) ∧ Own W (dToldS R1) G1 (.slice ga1 R1.length gc1)) → Frm G1 W W' → (Own W' ((dToldS R1).mkd (kg0)) G1 (.slice ga1 R1.length gc1)) → (Below w.heap.size w W' ∧ Rd W' (· < w2.heap.size) (dLockS R0) (.slice ra0 R0.length rc0) ∧ Rd W' (· < w2.heap.size) (dToldS R1) (.slice ra1 R1.length rc1) ∧ Own W' ((dLockS x0).mkd (1)) (fun c => u0 ≤ c ∧ c < wx0.heap.size) (.slice (some ⟨p0_, 0, none⟩) x0.length x0.length) ∧ Own W' ((dLockS R0).mkd (1)) G0 (.slice ga0 R0.length gc0) ∧ Own W' ((dToldS R1).mkd (kg0)) G1 (.slice ga1 R1.length gc1))) := fun W W' h hF ho0 => ⟨h.1.trans (Frm.below hF h.1.size (fun b hb hx => by have h1 := (fun (b : Nat) (hb : G1 b) => GS.out b (.inr hb)) b hx; have h2 := ORD.out; omega)), h.2.1.frm hF (fun b hb hx => by have h1 := (fun (b : Nat) (hb : G1 b) => GS.out b (.inr hb)) b hx; have h2 := ORD.out; have h3 : b < w2.heap.size := hb; omega), h.2.2.1.frm hF (fun b hb hx => by have h1 := (fun (b : Nat) (hb : G1 b) => GS.out b (.inr hb)) b hx; have h2 := ORD.out; have h3 : b < w2.heap.size := hb; omega), h.2.2.2.1.frm hF (fun b hb hx => by have h1 := (fun (b : Nat) (hb : G1 b) => GS.out b (.inr hb)) b hx; have h2 := ORD.out; have h3 := (fun (b : Nat) (hb : u0 ≤ b ∧ b < wx0.heap.size) => hb) b hb; omega), h.2.2.2.2.1.frm hF (fun b hb hx => GD.out b hb hx), ho0⟩
  refine (mkDToldS R1 ga1 gc1 (kg0) G1 _ HRB.out.2.2.1 (by have h2 := HKG0.out; omega) (by have h := HRW.out; have h2 := HKG0.out; omega) (N7.out.2.2.2.2.2)).mono ?_
  rintro e wmg1 ⟨rfl, ho, hF⟩
  have N8 := Lib.hid (TG1F.out _ _ N7.out hF ho)
  clear ho hF N7
  have TG1L : Hid (∀ W W', (Below w.heap.size w W ∧ Rd W (· < w2.heap.size) (dLockS R0) (.slice ra0 R0.length rc0) ∧ Rd W (· < w2.heap.size) (dToldS R1) (.slice ra1 R1.length rc1) ∧ Own W ((dLockS x0).mkd (1)) (fun c => u0 ≤ c ∧ c < wx0.heap.size) (.slice (some ⟨p0_, 0, none⟩) x0.length x0.length) ∧ Own W ((dLockS R0).mkd (1)) G0 (.slice ga0 R0.length gc0) ∧ Own W ((dToldS R1).mkd (kg0)) G1 (.slice ga1 R1.length gc1)) → Below W.heap.size W W' → (Below w.heap.size w W' ∧ Rd W' (· < w2.heap.size) (dLockS R0) (.slice ra0 R0.length rc0) ∧ Rd W' (· < w2.heap.size) (dToldS R1) (.slice ra1 R1.length rc1) ∧ Own W' ((dLockS x0).mkd (1)) (fun c => u0 ≤ c ∧ c < wx0.heap.size) (.slice (some ⟨p0_, 0, none⟩) x0.length x0.length) ∧ Own W' ((dLockS R0).mkd (1)) G0 (.slice ga0 R0.length gc0) ∧ Own W' ((dToldS R1).mkd (kg0)) G1 (.slice ga1 R1.length gc1))) := fun W W' h hB => ⟨h.1.trans (hB.mono h.1.size), h.2.1.later hB, h.2.2.1.later hB, h.2.2.2.1.later hB, h.2.2.2.2.1.later hB, h.2.2.2.2.2.later hB⟩
  have HD1 : Hid (∀ (W : World), Rd W (fun _ => True) ((dToldS R1).mkd (kg0)) (.slice ga1 R1.length gc1) → Calls Try.prog 22 #[.slice ga1 R1.length gc1, .int .i64 ((kg0 : Nat) : Int)] W fun e w' => e = .returned (.int .i64 (kg0 + (dToldS R1).wd : Nat)) ∧ Below W.heap.size W w') := fun W h => hdDToldS R1 ga1 gc1 (kg0) _ W HRB.out.2.2.1 (by have h2 := HKG0.out; omega) (by have h := HRW.out; have h2 := HKG0.out; omega) h
  obtain ⟨kg1, hkg1⟩ : ∃ y : Nat, y = kg0 + (dToldS R1).wd := ⟨_, rfl⟩
  rw [← hkg1] at HD1 ⊢
  have HKG1 := Lib.hid hkg1
  have dkg1 : decide ((kg1 : Int) < 0) = false := by simp
  have nkg : ((kg1 : Int) != (kg1 : Int)) = false := by simp
  clear hkg1
  go_wp2_with fail
  refine (HD0.out _ (Rd.any (Own.rd' (N8.out.2.2.2.2.1)))).mono ?_
  rintro e wh8 ⟨rfl, hB⟩
  have N9 := Lib.hid (TG1L.out _ _ N8.out hB)
  clear hB N8
  go_wp2_with fail
  refine (HD1.out _ (Rd.any (Own.rd' (N9.out.2.2.2.2.2)))).mono ?_
  rintro e wh9 ⟨rfl, hB⟩
  have N10 := Lib.hid (TG1L.out _ _ N9.out hB)
  clear hB N9
  go_wp2_with fail
  refine (TO0.out _ N10.out.1).mono ?_
  rintro e wz ⟨q0_, rfl, ho, hB, -⟩
  have RC0_ : Hid (Rd _ (fun _ => True) (dLockS x0) (.slice (some ⟨q0_, 0, none⟩) x0.length x0.length)) := ho.rd'.any
  clear ho
  have N11 := Lib.hid (TG1L.out _ _ N10.out hB)
  clear hB N10
  go_wp2_with fail
  refine (CI.out _ _ _ RC0_.out).mono ?_
  rintro e wy ⟨ya0, yc0, ya1, yc1, Y0, Y1, rfl, ho0, ho1, -, -, hB⟩
  have hm := TG1L.out _ _ N11.out hB
  have BH : Hid ((∀ W, Below wy.heap.size wy W → Rd W (fun _ => True) (dLockS R0) (.slice ya0 R0.length yc0)) ∧ (∀ W, Below wy.heap.size wy W → Rd W (fun _ => True) (dToldS R1) (.slice ya1 R1.length yc1))) := ⟨fun W h => (Rd.any (Own.rd' ho0)).later h, fun W h => (Rd.any (Own.rd' ho1)).later h⟩
  have BY : Hid (Below wy.heap.size wy wy) := Below.refl _ _
  have N12 := Lib.hid hm
  clear hm ho0 ho1 hB N11 RC0_
  go_wp2_with fail
  refine (EQR0.out _ _ _ _ _ (BH.out.1 _ BY.out) (Rd.any (N12.out.2.1))).mono ?_
  rintro e wv0 ⟨rfl, hB⟩
  have BY2 : Hid (Below wy.heap.size wy wv0) := BY.out.trans (hB.mono BY.out.size)
  clear BY
  have BY := BY2
  clear BY2
  have N13 := Lib.hid (TG1L.out _ _ N12.out hB)
  clear hB N12
  go_wp2_with fail
  refine (EQR1.out _ _ _ _ _ (BH.out.2 _ BY.out) (Rd.any (N13.out.2.2.1))).mono ?_
  rintro e wv1 ⟨rfl, hB⟩
  have BY2 : Hid (Below wy.heap.size wy wv1) := BY.out.trans (hB.mono BY.out.size)
  clear BY
  have BY := BY2
  clear BY2
  have N14 := Lib.hid (TG1L.out _ _ N13.out hB)
  clear hB N13
  go_wp2_with fail
  refine (HD0.out _ (Rd.any (Own.rd' (N14.out.2.2.2.2.1)))).mono ?_
  rintro e wh14 ⟨rfl, hB⟩
  have N15 := Lib.hid (TG1L.out _ _ N14.out hB)
  clear hB N14
  go_wp2_with fail
  refine (HD1.out _ (Rd.any (Own.rd' (N15.out.2.2.2.2.2)))).mono ?_
  rintro e wh15 ⟨rfl, hB⟩
  have N16 := Lib.hid (TG1L.out _ _ N15.out hB)
  clear hB N15
  go_wp2_with fail
  go_ret
  exact ⟨rfl, N16.out.1⟩
end Go.Proofs.Ytoalhminembpkaa
