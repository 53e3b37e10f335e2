import Derived.Test.YtenioffildinbaaMp0
import Derived.Test.YtenioffildinbaaMo1
import Derived.Deep.RegionHeld3
import Derived.Deep.CutRange
namespace Go.Proofs.Ytenioffildinbaa
open Go.RowKit
set_option linter.unusedSimpArgs false
set_option maxRecDepth 100000 in
set_option maxHeartbeats 12800000 in
theorem lawSameRows (x0 : List RowV) (x1 : List RowV) (a0_ : Option Addr) (c0_ : Nat) (a1_ : Option Addr) (c1_ : Nat) (w : World) (l0_ : (dRowS x0).le maxLen) (l1_ : (dRowS x1).le maxLen) (r0_ : Rd w (· < w.heap.size) (dRowS x0) (.slice a0_ x0.length c0_)) (r1_ : Rd w (· < w.heap.size) (dRowS x1) (.slice a1_ x1.length c1_)) :
    Calls Try.prog 4 #[.slice a0_ x0.length c0_, .slice a1_ x1.length c1_] w fun e w' => e = .returned (.bool true) ∧ Below w.heap.size w w' := by
  have HL0_ := Lib.hid l0_
  have HO0 := Lib.hid l0_
  have RA0_ : Hid (∀ W, Below w.heap.size w W → Rd W (· < w.heap.size) (dRowS x0) (.slice a0_ x0.length c0_)) := fun W h => Rd.same (fun b hb => h.block b hb) (fun _ h => h) _ _ r0_
  have HL1_ := Lib.hid l1_
  have HO1 := Lib.hid l1_
  have RA1_ : Hid (∀ W, Below w.heap.size w W → Rd W (· < w.heap.size) (dRowS x1) (.slice a1_ x1.length c1_)) := fun W h => Rd.same (fun b hb => h.block b hb) (fun _ h => h) _ _ r1_
  have ALAT : Hid (∀ W W', (Below w.heap.size w W) → Below W.heap.size W W' → (Below w.heap.size w W')) := fun W W' h hB => h.trans (hB.mono h.size)
  have A0 : Hid (Below w.heap.size w w) := Below.refl _ _
  clear l0_ r0_ l1_ r1_
  go_enter Try.func4, Try.ntmps4
  go_wp2_with fail
  have bl : Hid ((0 : Int) ≤ 1048576 ∧ (1048576 : Int) ≤ 1048576) := by show _ ∧ _; omega
  refine (szDRowS x0 a0_ c0_ 1048576 _ _ bl.out.1 bl.out.2 HO0.out (RA0_.out _ A0.out)).mono ?_
  rintro e ws0 ⟨rfl, hB⟩
  have AS0 := Lib.hid (ALAT.out _ _ A0.out hB)
  clear hB A0
  by_cases hz0 : (1048576 : Int) - ((dRowS x0).sz : Int) < 0
  case pos =>
    rw [less_no hz0]
    go_wp2_with fail
    go_ret
    exact ⟨rfl, AS0.out⟩
  rw [less_yes (by omega)]
  obtain ⟨L0, hL0⟩ : ∃ L0 : Int, L0 = 1048576 - ((dRowS x0).sz : Int) := ⟨_, rfl⟩
  rw [← hL0]
  have dL0 : decide (L0 < 0) = false := decide_eq_false (by omega)
  have HZ0 : Hid ((dRowS x0).sz ≤ 1048576) := by have := bl.out; show _ ≤ _; omega
  have b2 : Hid (0 ≤ L0 ∧ L0 ≤ 1048576) := by have := bl.out; show _ ∧ _; omega
  clear hz0 hL0 bl
  have bl := b2
  clear b2
  go_wp2_with fail
  refine (szDRowS x1 a1_ c1_ L0 _ _ bl.out.1 bl.out.2 HO1.out (RA1_.out _ AS0.out)).mono ?_
  rintro e ws1 ⟨rfl, hB⟩
  have AS1 := Lib.hid (ALAT.out _ _ AS0.out hB)
  clear hB AS0
  by_cases hz1 : L0 - ((dRowS x1).sz : Int) < 0
  case pos =>
    rw [less_no hz1]
    go_wp2_with fail
    go_ret
    exact ⟨rfl, AS1.out⟩
  rw [less_yes (by omega)]
  obtain ⟨L1, hL1⟩ : ∃ L1 : Int, L1 = L0 - ((dRowS x1).sz : Int) := ⟨_, rfl⟩
  rw [← hL1]
  have dL1 : decide (L1 < 0) = false := decide_eq_false (by omega)
  have HZ1 : Hid ((dRowS x1).sz ≤ 1048576) := by have := bl.out; show _ ≤ _; omega
  have b2 : Hid (0 ≤ L1 ∧ L1 ≤ 1048576) := by have := bl.out; show _ ∧ _; omega
  clear hz1 hL1 bl
  have bl := b2
  clear b2
  go_wp2_with fail
  have HK0 : Hid ((dRowS x0).le 1048576) := D.le_of_sz _ HO0.out HZ0.out
  have HK1 : Hid ((dRowS x1).le 1048576) := D.le_of_sz _ HO1.out HZ1.out
  have TO0 : Hid (∀ W, (Below w.heap.size w W) → Calls Try.prog 15 #[.slice a0_ x0.length c0_] W fun e w' => ∃ p : Nat, e = .returned (.slice (some ⟨p, 0, none⟩) x0.length x0.length) ∧ Own w' (dRowS x0) (fun c => W.heap.size ≤ c ∧ c < w'.heap.size) (.slice (some ⟨p, 0, none⟩) x0.length x0.length) ∧ Below W.heap.size W w' ∧ (Below w.heap.size w w')) := fun W h => (toDRowS x0 a0_ c0_ _ W HK0.out (RA0_.out W h)).mono (fun e w' ⟨he, ho, hB⟩ => ⟨_, he, ho, hB, ALAT.out _ _ h hB⟩)
  have TO1 : Hid (∀ W, (Below w.heap.size w W) → Calls Try.prog 15 #[.slice a1_ x1.length c1_] W fun e w' => ∃ p : Nat, e = .returned (.slice (some ⟨p, 0, none⟩) x1.length x1.length) ∧ Own w' (dRowS x1) (fun c => W.heap.size ≤ c ∧ c < w'.heap.size) (.slice (some ⟨p, 0, none⟩) x1.length x1.length) ∧ Below W.heap.size W w' ∧ (Below w.heap.size w w')) := fun W h => (toDRowS x1 a1_ c1_ _ W HK1.out (RA1_.out W h)).mono (fun e w' ⟨he, ho, hB⟩ => ⟨_, he, ho, hB, ALAT.out _ _ h hB⟩)
  have CS : Hid (∀ (W : World) (b0_ : Option Addr) (e0_ : Nat) (b1_ : Option Addr) (e1_ : Nat), Rd W (fun _ => True) (dRowS x0) (.slice b0_ x0.length e0_) → Rd W (fun _ => True) (dRowS x1) (.slice b1_ x1.length e1_) → Calls Try.prog 14 #[.slice b0_ x0.length e0_, .slice b1_ x1.length e1_] W fun e w' => e = .returned (.bool (smB x0 x1)) ∧ Below W.heap.size W w') := fun W b0_ e0_ b1_ e1_ h0_ h1_ => smrS x0 x1 b0_ e0_ b1_ e1_ _ _ W HL0_.out HL1_.out h0_ h1_
  have CI : Hid (∀ (W : World) (b0_ : Option Addr) (e0_ : Nat) (b1_ : Option Addr) (e1_ : Nat), Rd W (fun _ => True) (dRowS x0) (.slice b0_ x0.length e0_) → Rd W (fun _ => True) (dRowS x1) (.slice b1_ x1.length e1_) → Calls Try.prog 16 #[.slice b0_ x0.length e0_, .slice b1_ x1.length e1_] W fun e w' => e = .returned (.bool (smB x0 x1)) ∧ Below W.heap.size W w') := fun W b0_ e0_ b1_ e1_ h0_ h1_ => smrI x0 x1 b0_ e0_ b1_ e1_ _ _ W HL0_.out HL1_.out h0_ h1_
  have nq0 := bne_self_eq_false (smB x0 x1)
  generalize (smB x0 x1) = R0 at *
  have EQ0 : Hid (∀ (W : World) (b : Option Addr) (e : Nat) (f : Option Addr) (g : Nat), Rd W (fun _ => True) (dRowS x0) (.slice b x0.length e) → Rd W (fun _ => True) (dRowS x0) (.slice f x0.length g) → Calls Try.prog 17 #[.slice b x0.length e, .slice f x0.length g] W fun e w' => e = .returned (.bool true) ∧ Below W.heap.size W w') := fun W b e f g h i => eqDRowS x0 b e f g _ _ W HO0.out h i
  have EQ1 : Hid (∀ (W : World) (b : Option Addr) (e : Nat) (f : Option Addr) (g : Nat), Rd W (fun _ => True) (dRowS x1) (.slice b x1.length e) → Rd W (fun _ => True) (dRowS x1) (.slice f x1.length g) → Calls Try.prog 17 #[.slice b x1.length e, .slice f x1.length g] W fun e w' => e = .returned (.bool true) ∧ Below W.heap.size W w') := fun W b e f g h i => eqDRowS x1 b e f g _ _ W HO1.out h i
  have hx := AS1.out
  refine (TO0.out _ (by first | exact hx | exact ALAT.out _ _ hx (Below.refl _ _).drew)).mono ?_
  rintro e wt0 ⟨p0_, rfl, ho0, hB0, hA0⟩
  clear hx
  have hx := hA0
  clear hA0
  have RC0_ : Hid (Rd _ (fun _ => True) (dRowS x0) (.slice (some ⟨p0_, 0, none⟩) x0.length x0.length)) := ho0.rd'.any
  clear ho0
  clear hB0
  go_wp2_with fail
  refine (TO1.out _ (by first | exact hx | exact ALAT.out _ _ hx (Below.refl _ _).drew)).mono ?_
  rintro e wt1 ⟨p1_, rfl, ho1, hB1, hA1⟩
  clear hx
  have hx := hA1
  clear hA1
  have RC1_ : Hid (Rd _ (fun _ => True) (dRowS x1) (.slice (some ⟨p1_, 0, none⟩) x1.length x1.length)) := ho1.rd'.any
  have RE0_ := Lib.hid (Rd.later RC0_.out (by first | exact hB1 | exact (Below.refl _ _).drew.trans hB1))
  clear RC0_
  have RC0_ := RE0_
  clear RE0_
  clear ho1
  clear hB1
  go_wp2_with fail
  refine (CS.out _ _ _ _ _ (by first | exact RC0_.out | exact RC0_.out.later (Below.refl _ _).drew) (by first | exact RC1_.out | exact RC1_.out.later (Below.refl _ _).drew)).mono ?_
  rintro e w2 ⟨rfl, hB2⟩
  have h2 := ALAT.out _ _ hx (by first | exact hB2 | exact (Below.refl _ _).drew.trans hB2)
  clear hx hB2
  have hx := h2
  clear h2
  clear AS1
  have A2 := Lib.hid hx
  clear hx RC0_ RC1_
  go_wp2_with fail
  refine (TO0.out _ (by first | exact A2.out | exact ALAT.out _ _ A2.out (Below.refl _ _).drew)).mono ?_
  rintro e wx0 ⟨p0_, rfl, ho, hB, hA⟩
  have XS0L : Hid (∀ W W', (Below w.heap.size w W ∧ Rd W (fun _ => True) (dRowS x0) (.slice (some ⟨p0_, 0, none⟩) x0.length x0.length)) → Below W.heap.size W W' → (Below w.heap.size w W' ∧ Rd W' (fun _ => True) (dRowS x0) (.slice (some ⟨p0_, 0, none⟩) x0.length x0.length))) := fun W W' h hB => ⟨h.1.trans (hB.mono h.1.size), h.2.later hB⟩
  have Y0 : Hid (Below w.heap.size w wx0 ∧ Rd wx0 (fun _ => True) (dRowS x0) (.slice (some ⟨p0_, 0, none⟩) x0.length x0.length)) := ⟨hA.trans ((Below.refl _ _).mono hA.size), Rd.later (ho.rd'.any) (Below.refl _ _)⟩
  clear hB hA ho A2
  go_wp2_with fail
  refine (TO1.out _ Y0.out.1).mono ?_
  rintro e wx1 ⟨p1_, rfl, ho, hB, hA⟩
  have XO := XS0L.out _ _ Y0.out hB
  have XS1L : Hid (∀ W W', (Below w.heap.size w W ∧ Rd W (fun _ => True) (dRowS x0) (.slice (some ⟨p0_, 0, none⟩) x0.length x0.length) ∧ Rd W (fun _ => True) (dRowS x1) (.slice (some ⟨p1_, 0, none⟩) x1.length x1.length)) → Below W.heap.size W W' → (Below w.heap.size w W' ∧ Rd W' (fun _ => True) (dRowS x0) (.slice (some ⟨p0_, 0, none⟩) x0.length x0.length) ∧ Rd W' (fun _ => True) (dRowS x1) (.slice (some ⟨p1_, 0, none⟩) x1.length x1.length))) := fun W W' h hB => ⟨h.1.trans (hB.mono h.1.size), h.2.1.later hB, h.2.2.later hB⟩
  have Y1 : Hid (Below w.heap.size w wx1 ∧ Rd wx1 (fun _ => True) (dRowS x0) (.slice (some ⟨p0_, 0, none⟩) x0.length x0.length) ∧ Rd wx1 (fun _ => True) (dRowS x1) (.slice (some ⟨p1_, 0, none⟩) x1.length x1.length)) := ⟨XO.1.trans ((Below.refl _ _).mono XO.1.size), XO.2.later (Below.refl _ _), Rd.later (ho.rd'.any) (Below.refl _ _)⟩
  clear hB hA ho XO Y0 XS0L
  go_wp2_with fail
  refine (CI.out _ _ _ _ _ Y1.out.2.1 Y1.out.2.2).mono ?_
  rintro e wg ⟨rfl, hB⟩
  have Z := Lib.hid (XS1L.out _ _ Y1.out hB)
  clear hB Y1
  go_wp2_with fail
  have CE0 : Hid (∀ W, (Below w.heap.size w W ∧ Rd W (fun _ => True) (dRowS x0) (.slice (some ⟨p0_, 0, none⟩) x0.length x0.length) ∧ Rd W (fun _ => True) (dRowS x1) (.slice (some ⟨p1_, 0, none⟩) x1.length x1.length)) → (True)) := fun W h => trivial
  have hx := Z.out
  clear Z
  have XA : Hid (∀ W, (Below w.heap.size w W ∧ Rd W (fun _ => True) (dRowS x0) (.slice (some ⟨p0_, 0, none⟩) x0.length x0.length) ∧ Rd W (fun _ => True) (dRowS x1) (.slice (some ⟨p1_, 0, none⟩) x1.length x1.length)) → (Below w.heap.size w W)) := fun W h => h.1
  refine (TO0.out _ (by first | exact XA.out _ hx | exact XA.out _ (XS1L.out _ _ hx (Below.refl _ _).drew))).mono ?_
  rintro e we0 ⟨s0_, rfl, ho, hB, _⟩
  have h2 : Below w.heap.size w we0 ∧ Rd we0 (fun _ => True) (dRowS x0) (.slice (some ⟨p0_, 0, none⟩) x0.length x0.length) ∧ Rd we0 (fun _ => True) (dRowS x1) (.slice (some ⟨p1_, 0, none⟩) x1.length x1.length) := (by first | exact XS1L.out _ _ hx hB | exact XS1L.out _ _ (XS1L.out _ _ hx (Below.refl _ _).drew) hB)
  clear hx
  have hx := h2
  clear h2
  have RE0_ : Hid (Rd _ (fun _ => True) (dRowS x0) (.slice (some ⟨s0_, 0, none⟩) x0.length x0.length)) := ho.rd'.any
  clear hB ho
  go_wp2_with fail
  refine (EQ0.out _ _ _ _ _ (by first | exact hx.2.1 | exact Rd.later hx.2.1 (Below.refl _ _).drew) (by first | exact RE0_.out | exact Rd.later RE0_.out (Below.refl _ _).drew)).mono ?_
  rintro e wf0 ⟨rfl, hB⟩
  have h2 : Below w.heap.size w wf0 ∧ Rd wf0 (fun _ => True) (dRowS x0) (.slice (some ⟨p0_, 0, none⟩) x0.length x0.length) ∧ Rd wf0 (fun _ => True) (dRowS x1) (.slice (some ⟨p1_, 0, none⟩) x1.length x1.length) := (by first | exact XS1L.out _ _ hx hB | exact XS1L.out _ _ (XS1L.out _ _ hx (Below.refl _ _).drew) hB)
  clear hx hB
  have hx := h2
  clear h2
  clear RE0_
  go_wp2_with fail
  have CE1 : Hid (∀ W, (Below w.heap.size w W ∧ Rd W (fun _ => True) (dRowS x0) (.slice (some ⟨p0_, 0, none⟩) x0.length x0.length) ∧ Rd W (fun _ => True) (dRowS x1) (.slice (some ⟨p1_, 0, none⟩) x1.length x1.length)) → (True)) := fun W h => trivial
  refine (TO1.out _ (by first | exact XA.out _ hx | exact XA.out _ (XS1L.out _ _ hx (Below.refl _ _).drew))).mono ?_
  rintro e we1 ⟨s1_, rfl, ho, hB, _⟩
  have h2 : Below w.heap.size w we1 ∧ Rd we1 (fun _ => True) (dRowS x0) (.slice (some ⟨p0_, 0, none⟩) x0.length x0.length) ∧ Rd we1 (fun _ => True) (dRowS x1) (.slice (some ⟨p1_, 0, none⟩) x1.length x1.length) := (by first | exact XS1L.out _ _ hx hB | exact XS1L.out _ _ (XS1L.out _ _ hx (Below.refl _ _).drew) hB)
  clear hx
  have hx := h2
  clear h2
  have RE1_ : Hid (Rd _ (fun _ => True) (dRowS x1) (.slice (some ⟨s1_, 0, none⟩) x1.length x1.length)) := ho.rd'.any
  clear hB ho
  go_wp2_with fail
  refine (EQ1.out _ _ _ _ _ (by first | exact hx.2.2 | exact Rd.later hx.2.2 (Below.refl _ _).drew) (by first | exact RE1_.out | exact Rd.later RE1_.out (Below.refl _ _).drew)).mono ?_
  rintro e wf1 ⟨rfl, hB⟩
  have h2 : Below w.heap.size w wf1 ∧ Rd wf1 (fun _ => True) (dRowS x0) (.slice (some ⟨p0_, 0, none⟩) x0.length x0.length) ∧ Rd wf1 (fun _ => True) (dRowS x1) (.slice (some ⟨p1_, 0, none⟩) x1.length x1.length) := (by first | exact XS1L.out _ _ hx hB | exact XS1L.out _ _ (XS1L.out _ _ hx (Below.refl _ _).drew) hB)
  clear hx hB
  have hx := h2
  clear h2
  clear RE1_
  go_wp2_with fail
  go_ret
  exact ⟨rfl, by first | exact hx.1 | exact hx.1.drew⟩
end Go.Proofs.Ytenioffildinbaa
