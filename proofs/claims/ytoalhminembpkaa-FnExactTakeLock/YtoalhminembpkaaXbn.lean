import Derived.Test.YtoalhminembpkaaXbk
import Derived.Test.YtoalhminembpkaaXbm
import Derived.Deep.RegionHeld3
import Derived.Deep.CutRange
namespace Go.Proofs.Ytoalhminembpkaa
open Go.RowKit
set_option linter.unusedSimpArgs false
set_option maxRecDepth 100000 in
set_option maxHeartbeats 12800000 in
theorem lawTakeLock (x0 : List LkV) (x1 : Int) (x2 : List UInt8) (a0_ : Option Addr) (c0_ : Nat) (w : World) (l0_ : (dLockS x0).le maxLen) (l1 : iOK x1) (l2 : x2.length ≤ maxLen) (r0_ : Rd w (· < w.heap.size) (dLockS x0) (.slice a0_ x0.length c0_)) :
    Calls Try.prog 4 #[.slice a0_ x0.length c0_, .int .i64 x1, .string ⟨x2.toArray⟩] w fun e w' => e = .returned (.bool true) ∧ Below w.heap.size w w' := by
  have HL0_ := Lib.hid l0_
  have HO0 := Lib.hid l0_
  have RA0_ : Hid (∀ W, Below w.heap.size w W → Rd W (· < w.heap.size) (dLockS x0) (.slice a0_ x0.length c0_)) := fun W h => Rd.same (fun b hb => h.block b hb) (fun _ h => h) _ _ r0_
  have HW1 := Lib.hid l1
  have HT2 := Lib.hid l2
  have ALAT : Hid (∀ W W', (Below w.heap.size w W) → Below W.heap.size W W' → (Below w.heap.size w W')) := fun W W' h hB => h.trans (hB.mono h.size)
  have A0 : Hid (Below w.heap.size w w) := Below.refl _ _
  clear l0_ r0_ l1
  by_cases hs2 : 1048576 < x2.length
  case pos =>
    have ds2 : decide (1048576 < (x2.length : Int)) = true := decide_eq_true (by omega)
    go_enter Try.func4, Try.ntmps4
    go_wp2_with fail
    go_ret
    exact ⟨rfl, A0.out⟩
  have ds2 : decide (1048576 < (x2.length : Int)) = false := decide_eq_false (by omega)
  have HS2 : Hid (x2.length ≤ 1048576) := by show _ ≤ _; omega
  clear hs2 l2
  go_enter Try.func4, Try.ntmps4
  go_wp2_with fail
  have bl : Hid ((0 : Int) ≤ 1048576 ∧ (1048576 : Int) ≤ 1048576) := by show _ ∧ _; omega
  refine (szDLockS x0 a0_ c0_ 1048576 _ _ bl.out.1 bl.out.2 HO0.out (RA0_.out _ A0.out)).mono ?_
  rintro e ws0 ⟨rfl, hB⟩
  have AS0 := Lib.hid (ALAT.out _ _ A0.out hB)
  clear hB A0
  by_cases hz0 : (1048576 : Int) - ((dLockS x0).sz : Int) < 0
  case pos =>
    rw [less_no hz0]
    go_wp2_with fail
    go_ret
    exact ⟨rfl, AS0.out⟩
  rw [less_yes (by omega)]
  obtain ⟨L0, hL0⟩ : ∃ L0 : Int, L0 = 1048576 - ((dLockS x0).sz : Int) := ⟨_, rfl⟩
  rw [← hL0]
  have dL0 : decide (L0 < 0) = false := decide_eq_false (by omega)
  have HZ0 : Hid ((dLockS x0).sz ≤ 1048576) := by have := bl.out; show _ ≤ _; omega
  have b2 : Hid (0 ≤ L0 ∧ L0 ≤ 1048576) := by have := bl.out; show _ ∧ _; omega
  clear hz0 hL0 bl
  have bl := b2
  clear b2
  go_wp2_with fail
  have HK0 : Hid ((dLockS x0).le 1048576) := D.le_of_sz _ HO0.out HZ0.out
  have TO0 : Hid (∀ W, (Below w.heap.size w W) → Calls Try.prog 11 #[.slice a0_ x0.length c0_] W fun e w' => ∃ p : Nat, e = .returned (.slice (some ⟨p, 0, none⟩) x0.length x0.length) ∧ Own w' (dLockS x0) (fun c => W.heap.size ≤ c ∧ c < w'.heap.size) (.slice (some ⟨p, 0, none⟩) x0.length x0.length) ∧ Below W.heap.size W w' ∧ (Below w.heap.size w w')) := fun W h => (toDLockS x0 a0_ c0_ _ W HK0.out (RA0_.out W h)).mono (fun e w' ⟨he, ho, hB⟩ => ⟨_, he, ho, hB, ALAT.out _ _ h hB⟩)
  obtain ⟨R0, hR0⟩ : ∃ r, r = tloR x0 x1 x2 := ⟨_, rfl⟩
  obtain ⟨R1, hR1⟩ : ∃ r, r = tloB x0 x1 x2 := ⟨_, rfl⟩
  obtain ⟨R2, hR2⟩ : ∃ r, r = tloC x0 x1 x2 := ⟨_, rfl⟩
  have CS : Hid (∀ (W : World) (b0_ : Option Addr) (e0_ : Nat), Rd W (fun _ => True) (dLockS x0) (.slice b0_ x0.length e0_) → Calls Try.prog 14 #[.slice b0_ x0.length e0_, .int .i64 x1, .string ⟨x2.toArray⟩] W fun e w' => ∃ (ra : Option Addr) (rc : Nat), e = .returned (.tuple #[.slice ra R0.length rc, .bool R1, .int .i64 R2]) ∧ Rd w' (· < w'.heap.size) (dLockS R0) (.slice ra R0.length rc) ∧ Below W.heap.size W w') := fun W b0_ e0_ h0_ => by rw [hR0, hR1, hR2]; exact takeLockS x0 x1 x2 b0_ e0_ _ W (D.le.mono (by unfold maxLen; omega) _ HK0.out) (by have := HS2.out; unfold maxLen; omega) h0_
  have CI : Hid (∀ (W : World) (b0_ : Option Addr) (e0_ : Nat), Rd W (fun _ => True) (dLockS x0) (.slice b0_ x0.length e0_) → Calls Try.prog 15 #[.slice b0_ x0.length e0_, .int .i64 x1, .string ⟨x2.toArray⟩] W fun e w' => ∃ (ra : Option Addr) (rc : Nat), e = .returned (.tuple #[.slice ra R0.length rc, .bool R1, .int .i64 R2]) ∧ Own w' (dLockS R0) (fun c => W.heap.size ≤ c ∧ c < w'.heap.size) (.slice ra R0.length rc) ∧ Below W.heap.size W w') := fun W b0_ e0_ h0_ => by rw [hR0, hR1, hR2]; exact takeLockI x0 x1 x2 b0_ e0_ _ W (D.le.mono (by unfold maxLen; omega) _ HK0.out) (by have := HS2.out; unfold maxLen; omega) h0_
  have HRB : Hid ((dLockS R0).le maxLen ∧ (dLockS R0).sz ≤ 100000000) := by rw [hR0]; exact tk_le _ _ _
  have HRW : Hid (1 + (dLockS R0).wd < 100000000000) := by have h1 := D.wd_le (dLockS R0) (HRB.out.1); have h2 := HRB.out.2; show _ < _; omega
  have nq1 : (R1 != R1) = false := by simp
  have nq2 : (R2 != R2) = false := by simp
  clear hR0 hR1 hR2
  have EQ0 : Hid (∀ (W : World) (b : Option Addr) (e : Nat) (f : Option Addr) (g : Nat), Rd W (fun _ => True) (dLockS x0) (.slice b x0.length e) → Rd W (fun _ => True) (dLockS x0) (.slice f x0.length g) → Calls Try.prog 13 #[.slice b x0.length e, .slice f x0.length g] W fun e w' => e = .returned (.bool true) ∧ Below W.heap.size W w') := fun W b e f g h i => eqDLockS x0 b e f g _ _ W HO0.out h i
  have EQR : Hid (∀ (W : World) (b : Option Addr) (e : Nat) (f : Option Addr) (g : Nat), Rd W (fun _ => True) (dLockS R0) (.slice b R0.length e) → Rd W (fun _ => True) (dLockS R0) (.slice f R0.length g) → Calls Try.prog 13 #[.slice b R0.length e, .slice f R0.length g] W fun e w' => e = .returned (.bool true) ∧ Below W.heap.size W w') := fun W b e f g h i => eqDLockS R0 b e f g _ _ W HRB.out.1 h i
  refine (TO0.out _ AS0.out).mono ?_
  rintro e w1 ⟨p0_, rfl, ho1, hB1, hA1⟩
  have RC0_ : Hid (Rd _ (fun _ => True) (dLockS x0) (.slice (some ⟨p0_, 0, none⟩) x0.length x0.length)) := ho1.rd'.any
  have A1 := Lib.hid hA1
  clear ho1 hB1 hA1 AS0
  go_wp2_with fail
  refine (CS.out _ _ _ RC0_.out).mono ?_
  rintro e w2 ⟨ra, rc, rfl, hr2, hB2⟩
  have A2 := ALAT.out _ _ A1.out hB2
  have S0L : Hid (∀ W W', (Below w.heap.size w W ∧ Rd W (· < w2.heap.size) (dLockS R0) (.slice ra R0.length rc)) → Below W.heap.size W W' → (Below w.heap.size w W' ∧ Rd W' (· < w2.heap.size) (dLockS R0) (.slice ra R0.length rc))) := fun W W' h hB => ⟨h.1.trans (hB.mono h.1.size), h.2.later hB⟩
  have M0 : Hid (Below w.heap.size w w2 ∧ Rd w2 (· < w2.heap.size) (dLockS R0) (.slice ra R0.length rc)) := ⟨A2.trans ((Below.refl _ _).mono A2.size), hr2.later (Below.refl _ _)⟩
  have O0 : Hid (w.heap.size + 0 ≤ w2.heap.size) := A2.size
  clear A2 hr2 hB2 A1 RC0_
  go_wp2_with fail
  refine (TO0.out _ M0.out.1).mono ?_
  rintro e wx0 ⟨p0_, rfl, ho, hB, -⟩
  have hm := S0L.out _ _ M0.out hB
  obtain ⟨u0, hu0⟩ : ∃ u, u = w2.heap.size := ⟨_, rfl⟩
  have U0 : Hid (w2.heap.size ≤ u0 ∧ u0 ≤ wx0.heap.size) := by refine ⟨by first | omega | (rw [hu0]), by rw [hu0]; exact hB.size⟩
  rw [← hu0] at ho
  have S1L : Hid (∀ W W', (Below w.heap.size w W ∧ Rd W (· < w2.heap.size) (dLockS R0) (.slice ra R0.length rc) ∧ Own W (dLockS x0) (fun c => u0 ≤ c ∧ c < wx0.heap.size) (.slice (some ⟨p0_, 0, none⟩) x0.length x0.length)) → Below W.heap.size W W' → (Below w.heap.size w W' ∧ Rd W' (· < w2.heap.size) (dLockS R0) (.slice ra R0.length rc) ∧ Own W' (dLockS x0) (fun c => u0 ≤ c ∧ c < wx0.heap.size) (.slice (some ⟨p0_, 0, none⟩) x0.length x0.length))) := fun W W' h hB => ⟨h.1.trans (hB.mono h.1.size), h.2.1.later hB, h.2.2.later hB⟩
  have M1 : Hid (Below w.heap.size w wx0 ∧ Rd wx0 (· < w2.heap.size) (dLockS R0) (.slice ra R0.length rc) ∧ Own wx0 (dLockS x0) (fun c => u0 ≤ c ∧ c < wx0.heap.size) (.slice (some ⟨p0_, 0, none⟩) x0.length x0.length)) := ⟨hm.1.trans ((Below.refl _ _).mono hm.1.size), hm.2.later (Below.refl _ _), ho.later (Below.refl _ _)⟩
  clear hm hB ho hu0 M0
  go_wp2_with fail
  refine (CI.out _ _ _ (Rd.any (Own.rd' (M1.out.2.2)))).mono ?_
  rintro e wg ⟨ga, gc, rfl, ho, hB⟩
  have hm := S1L.out _ _ M1.out hB
  obtain ⟨ug, hug⟩ : ∃ u, u = wx0.heap.size := ⟨_, rfl⟩
  have UG : Hid (wx0.heap.size ≤ ug ∧ ug ≤ wg.heap.size) := by refine ⟨by first | omega | (rw [hug]), by rw [hug]; exact hB.size⟩
  rw [← hug] at ho
  have SGL : Hid (∀ W W', (Below w.heap.size w W ∧ Rd W (· < w2.heap.size) (dLockS R0) (.slice ra R0.length rc) ∧ Own W (dLockS x0) (fun c => u0 ≤ c ∧ c < wx0.heap.size) (.slice (some ⟨p0_, 0, none⟩) x0.length x0.length) ∧ Own W (dLockS R0) (fun c => ug ≤ c ∧ c < wg.heap.size) (.slice ga R0.length gc)) → Below W.heap.size W W' → (Below w.heap.size w W' ∧ Rd W' (· < w2.heap.size) (dLockS R0) (.slice ra R0.length rc) ∧ Own W' (dLockS x0) (fun c => u0 ≤ c ∧ c < wx0.heap.size) (.slice (some ⟨p0_, 0, none⟩) x0.length x0.length) ∧ Own W' (dLockS R0) (fun c => ug ≤ c ∧ c < wg.heap.size) (.slice ga R0.length gc))) := fun W W' h hB => ⟨h.1.trans (hB.mono h.1.size), h.2.1.later hB, h.2.2.1.later hB, h.2.2.2.later hB⟩
  have MG : Hid (Below w.heap.size w wg ∧ Rd wg (· < w2.heap.size) (dLockS R0) (.slice ra R0.length rc) ∧ Own wg (dLockS x0) (fun c => u0 ≤ c ∧ c < wx0.heap.size) (.slice (some ⟨p0_, 0, none⟩) x0.length x0.length) ∧ Own wg (dLockS R0) (fun c => ug ≤ c ∧ c < wg.heap.size) (.slice ga R0.length gc)) := ⟨hm.1.trans ((Below.refl _ _).mono hm.1.size), hm.2.1.later (Below.refl _ _), hm.2.2.later (Below.refl _ _), ho.later (Below.refl _ _)⟩
  clear hm hB ho hug M1
  have ORD := Lib.hid (And.intro (O0.out) (And.intro (U0.out) (UG.out)))
  go_wp2_with fail
  refine (EQR.out _ _ _ _ _ (Rd.any (Own.rd' (MG.out.2.2.2))) (Rd.any (MG.out.2.1))).mono ?_
  rintro e wc0 ⟨rfl, hB⟩
  have N1 := Lib.hid (SGL.out _ _ MG.out hB)
  clear hB MG
  go_wp2_with fail
  have CE0 : Hid (∀ W, (Below w.heap.size w W ∧ Rd W (· < w2.heap.size) (dLockS R0) (.slice ra R0.length rc) ∧ Own W (dLockS x0) (fun c => u0 ≤ c ∧ c < wx0.heap.size) (.slice (some ⟨p0_, 0, none⟩) x0.length x0.length) ∧ Own W (dLockS R0) (fun c => ug ≤ c ∧ c < wg.heap.size) (.slice ga R0.length gc)) → (True)) := fun W h => trivial
  have XA0 : Hid (∀ W, (Below w.heap.size w W ∧ Rd W (· < w2.heap.size) (dLockS R0) (.slice ra R0.length rc) ∧ Own W (dLockS x0) (fun c => u0 ≤ c ∧ c < wx0.heap.size) (.slice (some ⟨p0_, 0, none⟩) x0.length x0.length) ∧ Own W (dLockS R0) (fun c => ug ≤ c ∧ c < wg.heap.size) (.slice ga R0.length gc)) → (Below w.heap.size w W)) := fun W h => h.1
  have hx := N1.out
  clear N1
  refine (TO0.out _ (by first | exact XA0.out _ hx | exact XA0.out _ (SGL.out _ _ hx (Below.refl _ _).drew))).mono ?_
  rintro e we0 ⟨s0_, rfl, ho, hB, _⟩
  have h2 : Below w.heap.size w we0 ∧ Rd we0 (· < w2.heap.size) (dLockS R0) (.slice ra R0.length rc) ∧ Own we0 (dLockS x0) (fun c => u0 ≤ c ∧ c < wx0.heap.size) (.slice (some ⟨p0_, 0, none⟩) x0.length x0.length) ∧ Own we0 (dLockS R0) (fun c => ug ≤ c ∧ c < wg.heap.size) (.slice ga R0.length gc) := (by first | exact SGL.out _ _ hx hB | exact SGL.out _ _ (SGL.out _ _ hx (Below.refl _ _).drew) hB)
  clear hx
  have hx := h2
  clear h2
  have RE0_ : Hid (Rd _ (fun _ => True) (dLockS x0) (.slice (some ⟨s0_, 0, none⟩) x0.length x0.length)) := ho.rd'.any
  clear hB ho
  go_wp2_with fail
  refine (EQ0.out _ _ _ _ _ (by first | exact Rd.any (Own.rd' (hx.2.2.1)) | exact Rd.later (Rd.any (Own.rd' (hx.2.2.1))) (Below.refl _ _).drew) (by first | exact RE0_.out | exact Rd.later RE0_.out (Below.refl _ _).drew)).mono ?_
  rintro e wf0 ⟨rfl, hB⟩
  have h2 : Below w.heap.size w wf0 ∧ Rd wf0 (· < w2.heap.size) (dLockS R0) (.slice ra R0.length rc) ∧ Own wf0 (dLockS x0) (fun c => u0 ≤ c ∧ c < wx0.heap.size) (.slice (some ⟨p0_, 0, none⟩) x0.length x0.length) ∧ Own wf0 (dLockS R0) (fun c => ug ≤ c ∧ c < wg.heap.size) (.slice ga R0.length gc) := (by first | exact SGL.out _ _ hx hB | exact SGL.out _ _ (SGL.out _ _ hx (Below.refl _ _).drew) hB)
  clear hx hB
  have hx := h2
  clear h2
  have N2 := Lib.hid hx
  clear hx RE0_
  go_wp2_with fail
  have MB : Hid True := trivial
  have T0F : Hid (∀ W W', (Below w.heap.size w W ∧ Rd W (· < w2.heap.size) (dLockS R0) (.slice ra R0.length rc) ∧ Own W (dLockS x0) (fun c => u0 ≤ c ∧ c < wx0.heap.size) (.slice (some ⟨p0_, 0, none⟩) x0.length x0.length) ∧ Own W (dLockS R0) (fun c => ug ≤ c ∧ c < wg.heap.size) (.slice ga R0.length gc)) → Frm (fun c => u0 ≤ c ∧ c < wx0.heap.size) W W' → (Own W' ((dLockS x0).mkd (1)) (fun c => u0 ≤ c ∧ c < wx0.heap.size) (.slice (some ⟨p0_, 0, none⟩) x0.length x0.length)) → (Below w.heap.size w W' ∧ Rd W' (· < w2.heap.size) (dLockS R0) (.slice ra R0.length rc) ∧ Own W' ((dLockS x0).mkd (1)) (fun c => u0 ≤ c ∧ c < wx0.heap.size) (.slice (some ⟨p0_, 0, none⟩) x0.length x0.length) ∧ Own W' (dLockS R0) (fun c => ug ≤ c ∧ c < wg.heap.size) (.slice ga R0.length gc))) := fun W W' h hF ho0 => ⟨h.1.trans (Frm.below hF h.1.size (fun b hb hx => by have h1 := (fun (b : Nat) (hb : u0 ≤ b ∧ b < wx0.heap.size) => hb) b hx; have h2 := ORD.out; omega)), h.2.1.frm hF (fun b hb hx => by have h1 := (fun (b : Nat) (hb : u0 ≤ b ∧ b < wx0.heap.size) => hb) b hx; have h2 := ORD.out; have h3 : b < w2.heap.size := hb; omega), ho0, h.2.2.2.frm hF (fun b hb hx => by have h1 := (fun (b : Nat) (hb : u0 ≤ b ∧ b < wx0.heap.size) => hb) b hx; have h2 := ORD.out; have h3 := (fun (b : Nat) (hb : ug ≤ b ∧ b < wg.heap.size) => hb) b hb; omega)⟩
  refine (mkDLockS x0 (some ⟨p0_, 0, none⟩) x0.length (1) (fun c => u0 ≤ c ∧ c < wx0.heap.size) _ HO0.out (by omega) (by have g := D.wd_le (dLockS x0) (HO0.out); have gz := HZ0.out; omega) (N2.out.2.2.1)).mono ?_
  rintro e wm0 ⟨rfl, ho, hF⟩
  have N3 := Lib.hid (T0F.out _ _ N2.out hF ho)
  clear ho hF N2
  have T0L : Hid (∀ W W', (Below w.heap.size w W ∧ Rd W (· < w2.heap.size) (dLockS R0) (.slice ra R0.length rc) ∧ Own W ((dLockS x0).mkd (1)) (fun c => u0 ≤ c ∧ c < wx0.heap.size) (.slice (some ⟨p0_, 0, none⟩) x0.length x0.length) ∧ Own W (dLockS R0) (fun c => ug ≤ c ∧ c < wg.heap.size) (.slice ga R0.length gc)) → Below W.heap.size W W' → (Below w.heap.size w W' ∧ Rd W' (· < w2.heap.size) (dLockS R0) (.slice ra R0.length rc) ∧ Own W' ((dLockS x0).mkd (1)) (fun c => u0 ≤ c ∧ c < wx0.heap.size) (.slice (some ⟨p0_, 0, none⟩) x0.length x0.length) ∧ Own W' (dLockS R0) (fun c => ug ≤ c ∧ c < wg.heap.size) (.slice ga R0.length gc))) := fun W W' h hB => ⟨h.1.trans (hB.mono h.1.size), h.2.1.later hB, h.2.2.1.later hB, h.2.2.2.later hB⟩
  obtain ⟨k0, hk0⟩ : ∃ y : Nat, y = 1 + (dLockS x0).wd := ⟨_, rfl⟩
  rw [← hk0]
  have hkb0 : Hid (k0 < 1000000000 ∧ 0 < k0) := by rw [hk0]; have g := D.wd_le (dLockS x0) (HO0.out); have gz := HZ0.out; show _ ∧ _; omega
  have dk0 : decide ((k0 : Int) < 0) = false := by simp
  clear hk0
  go_wp2_with fail
  refine (EQR.out _ _ _ _ _ (Rd.any (Own.rd' (N3.out.2.2.2))) (Rd.any (N3.out.2.1))).mono ?_
  rintro e wc3 ⟨rfl, hB⟩
  have N4 := Lib.hid (T0L.out _ _ N3.out hB)
  clear hB N3
  go_wp2_with fail
  have TGF : Hid (∀ W W', (Below w.heap.size w W ∧ Rd W (· < w2.heap.size) (dLockS R0) (.slice ra R0.length rc) ∧ Own W ((dLockS x0).mkd (1)) (fun c => u0 ≤ c ∧ c < wx0.heap.size) (.slice (some ⟨p0_, 0, none⟩) x0.length x0.length) ∧ Own W (dLockS R0) (fun c => ug ≤ c ∧ c < wg.heap.size) (.slice ga R0.length gc)) → Frm (fun c => ug ≤ c ∧ c < wg.heap.size) W W' → (Own W' ((dLockS R0).mkd 1) (fun c => ug ≤ c ∧ c < wg.heap.size) (.slice ga R0.length gc)) → (Below w.heap.size w W' ∧ Rd W' (· < w2.heap.size) (dLockS R0) (.slice ra R0.length rc) ∧ Own W' ((dLockS x0).mkd (1)) (fun c => u0 ≤ c ∧ c < wx0.heap.size) (.slice (some ⟨p0_, 0, none⟩) x0.length x0.length) ∧ Own W' ((dLockS R0).mkd 1) (fun c => ug ≤ c ∧ c < wg.heap.size) (.slice ga R0.length gc))) := fun W W' h hF ho0 => ⟨h.1.trans (Frm.below hF h.1.size (fun b hb hx => by have h1 := (fun (b : Nat) (hb : ug ≤ b ∧ b < wg.heap.size) => hb) b hx; have h2 := ORD.out; omega)), h.2.1.frm hF (fun b hb hx => by have h1 := (fun (b : Nat) (hb : ug ≤ b ∧ b < wg.heap.size) => hb) b hx; have h2 := ORD.out; have h3 : b < w2.heap.size := hb; omega), h.2.2.1.frm hF (fun b hb hx => by have h1 := (fun (b : Nat) (hb : ug ≤ b ∧ b < wg.heap.size) => hb) b hx; have h2 := ORD.out; have h3 := (fun (b : Nat) (hb : u0 ≤ b ∧ b < wx0.heap.size) => hb) b hb; omega), ho0⟩
  refine (mkDLockS R0 ga gc 1 (fun c => ug ≤ c ∧ c < wg.heap.size) _ HRB.out.1 (by omega) HRW.out (N4.out.2.2.2)).mono ?_
  rintro e wmg ⟨rfl, ho, hF⟩
  have N5 := Lib.hid (TGF.out _ _ N4.out hF ho)
  clear ho hF N4
  have TGL : Hid (∀ W W', (Below w.heap.size w W ∧ Rd W (· < w2.heap.size) (dLockS R0) (.slice ra R0.length rc) ∧ Own W ((dLockS x0).mkd (1)) (fun c => u0 ≤ c ∧ c < wx0.heap.size) (.slice (some ⟨p0_, 0, none⟩) x0.length x0.length) ∧ Own W ((dLockS R0).mkd 1) (fun c => ug ≤ c ∧ c < wg.heap.size) (.slice ga R0.length gc)) → Below W.heap.size W W' → (Below w.heap.size w W' ∧ Rd W' (· < w2.heap.size) (dLockS R0) (.slice ra R0.length rc) ∧ Own W' ((dLockS x0).mkd (1)) (fun c => u0 ≤ c ∧ c < wx0.heap.size) (.slice (some ⟨p0_, 0, none⟩) x0.length x0.length) ∧ Own W' ((dLockS R0).mkd 1) (fun c => ug ≤ c ∧ c < wg.heap.size) (.slice ga R0.length gc))) := fun W W' h hB => ⟨h.1.trans (hB.mono h.1.size), h.2.1.later hB, h.2.2.1.later hB, h.2.2.2.later hB⟩
  have HD : Hid (∀ (W : World), Rd W (fun _ => True) ((dLockS R0).mkd 1) (.slice ga R0.length gc) → Calls Try.prog 17 #[.slice ga R0.length gc, .int .i64 1] W fun e w' => e = .returned (.int .i64 (1 + (dLockS R0).wd : Nat)) ∧ Below W.heap.size W w') := fun W h => hdDLockS R0 ga gc 1 _ W HRB.out.1 (by omega) HRW.out h
  obtain ⟨kg, hkg⟩ : ∃ y : Nat, y = 1 + (dLockS R0).wd := ⟨_, rfl⟩
  rw [← hkg] at HD ⊢
  have dkg : decide ((kg : Int) < 0) = false := by simp
  have nkg : ((kg : Int) != (kg : Int)) = false := by simp
  clear hkg
  go_wp2_with fail
  refine (HD.out _ (Rd.any (Own.rd' (N5.out.2.2.2)))).mono ?_
  rintro e wh5 ⟨rfl, hB⟩
  have N6 := Lib.hid (TGL.out _ _ N5.out hB)
  clear hB N5
  go_wp2_with fail
  refine (TO0.out _ N6.out.1).mono ?_
  rintro e wz ⟨q0_, rfl, ho, hB, -⟩
  have RC0_ : Hid (Rd _ (fun _ => True) (dLockS x0) (.slice (some ⟨q0_, 0, none⟩) x0.length x0.length)) := ho.rd'.any
  clear ho
  have N7 := Lib.hid (TGL.out _ _ N6.out hB)
  clear hB N6
  go_wp2_with fail
  refine (CI.out _ _ _ RC0_.out).mono ?_
  rintro e wy ⟨ya, yc, rfl, ho, hB⟩
  have hm := TGL.out _ _ N7.out hB
  have BH : Hid (True ∧ Rd wy (fun _ => True) (dLockS R0) (.slice ya R0.length yc)) := ⟨trivial, Rd.any (Own.rd' ho)⟩
  have N8 := Lib.hid hm
  clear hm ho hB N7 RC0_
  go_wp2_with fail
  refine (EQR.out _ _ _ _ _ BH.out.2 (Rd.any (N8.out.2.1))).mono ?_
  rintro e wv ⟨rfl, hB⟩
  have N9 := Lib.hid (TGL.out _ _ N8.out hB)
  clear hB N8
  go_wp2_with fail
  refine (HD.out _ (Rd.any (Own.rd' (N9.out.2.2.2)))).mono ?_
  rintro e wh9 ⟨rfl, hB⟩
  have N10 := Lib.hid (TGL.out _ _ N9.out hB)
  clear hB N9
  go_wp2_with fail
  go_ret
  exact ⟨rfl, N10.out.1⟩
end Go.Proofs.Ytoalhminembpkaa
