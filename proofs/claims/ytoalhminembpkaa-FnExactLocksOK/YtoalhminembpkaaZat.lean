import Derived.Test.YtoalhminembpkaaZas
import Derived.Test.YtoalhminembpkaaZai
import Derived.Test.YtoalhminembpkaaZah
import Derived.Test.YtoalhminembpkaaZab
import Derived.Test.YtoalhminembpkaaZac
import Derived.Deep.OwnRows
import Derived.Laws.IdiomStrings
import Derived.Deep.MidRow
import Derived.Deep.QuietTactic
import Derived.BigQuiet
import Derived.Deep.RegionWith
import Derived.Deep.RegionHeld3
import Derived.Deep.CutRange
namespace Go.Proofs.Ytoalhminembpkaa
open Go.RowKit
set_option linter.unusedSimpArgs false
set_option maxRecDepth 100000 in
set_option maxHeartbeats 12800000 in
theorem lawLocksOK (x0 : List LkV) (a0_ : Option Addr) (c0_ : Nat) (w : World) (l0_ : (dLockS x0).le maxLen) (r0_ : Rd w (· < w.heap.size) (dLockS x0) (.slice a0_ x0.length c0_)) :
    Calls Try.prog 3 #[.slice a0_ x0.length c0_] w fun e w' => e = .returned (.bool true) ∧ Below w.heap.size w w' := by
  have HL0_ := Lib.hid l0_
  have HO0 := Lib.hid l0_
  have RA0_ : Hid (∀ W, Below w.heap.size w W → Rd W (· < w.heap.size) (dLockS x0) (.slice a0_ x0.length c0_)) := fun W h => Rd.same (fun b hb => h.block b hb) (fun _ h => h) _ _ r0_
  have ALAT : Hid (∀ W W', (Below w.heap.size w W) → Below W.heap.size W W' → (Below w.heap.size w W')) := fun W W' h hB => h.trans (hB.mono h.size)
  have A0 : Hid (Below w.heap.size w w) := Below.refl _ _
  clear l0_ r0_
  go_enter Try.func3, Try.ntmps3
  go_wp2_with fail
  have bl : Hid ((0 : Int) ≤ 1048576 ∧ (1048576 : Int) ≤ 1048576) := by show _ ∧ _; omega
  refine (szDLockS x0 a0_ c0_ 1048576 _ _ bl.out.1 bl.out.2 HO0.out (RA0_.out _ A0.out)).mono ?_
  rintro e ws0 ⟨rfl, hB⟩
  have AS0 := Lib.hid (ALAT.out _ _ A0.out hB)
  clear hB A0
  by_cases hz0 : (1048576 : Int) - ((dLockS x0).sz : Int) < 0
  case pos =>
    rw [less_no hz0]
    go_wp2_with fail
    go_ret
    exact ⟨rfl, AS0.out⟩
  rw [less_yes (by omega)]
  obtain ⟨L0, hL0⟩ : ∃ L0 : Int, L0 = 1048576 - ((dLockS x0).sz : Int) := ⟨_, rfl⟩
  rw [← hL0]
  have dL0 : decide (L0 < 0) = false := decide_eq_false (by omega)
  have HZ0 : Hid ((dLockS x0).sz ≤ 1048576) := by have := bl.out; show _ ≤ _; omega
  have b2 : Hid (0 ≤ L0 ∧ L0 ≤ 1048576) := by have := bl.out; show _ ∧ _; omega
  clear hz0 hL0 bl
  have bl := b2
  clear b2
  go_wp2_with fail
  have HK0 : Hid ((dLockS x0).le 1048576) := D.le_of_sz _ HO0.out HZ0.out
  have TO0 : Hid (∀ W, (Below w.heap.size w W) → Calls Try.prog 11 #[.slice a0_ x0.length c0_] W fun e w' => ∃ p : Nat, e = .returned (.slice (some ⟨p, 0, none⟩) x0.length x0.length) ∧ Own w' (dLockS x0) (fun c => W.heap.size ≤ c ∧ c < w'.heap.size) (.slice (some ⟨p, 0, none⟩) x0.length x0.length) ∧ Below W.heap.size W w' ∧ (Below w.heap.size w w')) := fun W h => (toDLockS x0 a0_ c0_ _ W HK0.out (RA0_.out W h)).mono (fun e w' ⟨he, ho, hB⟩ => ⟨_, he, ho, hB, ALAT.out _ _ h hB⟩)
  have CS : Hid (∀ (W : World) (b0_ : Option Addr) (e0_ : Nat), Rd W (fun _ => True) (dLockS x0) (.slice b0_ x0.length e0_) → Calls Try.prog 10 #[.slice b0_ x0.length e0_] W fun e w' => e = .returned (.bool (lksB x0)) ∧ Below W.heap.size W w') := fun W b0_ e0_ h0_ => locksS x0 b0_ e0_ _ W HL0_.out h0_
  have CI : Hid (∀ (W : World) (b0_ : Option Addr) (e0_ : Nat), Rd W (fun _ => True) (dLockS x0) (.slice b0_ x0.length e0_) → Calls Try.prog 12 #[.slice b0_ x0.length e0_] W fun e w' => e = .returned (.bool (lksB x0)) ∧ Below W.heap.size W w') := fun W b0_ e0_ h0_ => locksI x0 b0_ e0_ _ W HL0_.out h0_
  have nq0 := bne_self_eq_false (lksB x0)
  generalize (lksB x0) = R0 at *
  have EQ0 : Hid (∀ (W : World) (b : Option Addr) (e : Nat) (f : Option Addr) (g : Nat), Rd W (fun _ => True) (dLockS x0) (.slice b x0.length e) → Rd W (fun _ => True) (dLockS x0) (.slice f x0.length g) → Calls Try.prog 13 #[.slice b x0.length e, .slice f x0.length g] W fun e w' => e = .returned (.bool true) ∧ Below W.heap.size W w') := fun W b e f g h i => eqDLockS x0 b e f g _ _ W HO0.out h i
  refine (TO0.out _ AS0.out).mono ?_
  rintro e w1 ⟨p0_, rfl, ho1, hB1, hA1⟩
  have RC0_ : Hid (Rd _ (fun _ => True) (dLockS x0) (.slice (some ⟨p0_, 0, none⟩) x0.length x0.length)) := ho1.rd'.any
  have A1 := Lib.hid hA1
  clear ho1 hB1 hA1
  go_wp2_with fail
  refine (CS.out _ _ _ RC0_.out).mono ?_
  rintro e w2 ⟨rfl, hB2⟩
  have A2 := Lib.hid (ALAT.out _ _ A1.out hB2)
  clear hB2 A1 RC0_
  go_wp2_with fail
  refine (TO0.out _ (by first | exact A2.out | exact ALAT.out _ _ A2.out (Below.refl _ _).drew)).mono ?_
  rintro e wx0 ⟨p0_, rfl, ho, hB, hA⟩
  have XS0L : Hid (∀ W W', (Below w.heap.size w W ∧ Rd W (fun _ => True) (dLockS x0) (.slice (some ⟨p0_, 0, none⟩) x0.length x0.length)) → Below W.heap.size W W' → (Below w.heap.size w W' ∧ Rd W' (fun _ => True) (dLockS x0) (.slice (some ⟨p0_, 0, none⟩) x0.length x0.length))) := fun W W' h hB => ⟨h.1.trans (hB.mono h.1.size), h.2.later hB⟩
  have Y0 : Hid (Below w.heap.size w wx0 ∧ Rd wx0 (fun _ => True) (dLockS x0) (.slice (some ⟨p0_, 0, none⟩) x0.length x0.length)) := ⟨hA.trans ((Below.refl _ _).mono hA.size), Rd.later (ho.rd'.any) (Below.refl _ _)⟩
  clear hB hA ho A2
  go_wp2_with fail
  refine (CI.out _ _ _ Y0.out.2).mono ?_
  rintro e wg ⟨rfl, hB⟩
  have Z := Lib.hid (XS0L.out _ _ Y0.out hB)
  clear hB Y0
  go_wp2_with fail
  have CE0 : Hid (∀ W, (Below w.heap.size w W ∧ Rd W (fun _ => True) (dLockS x0) (.slice (some ⟨p0_, 0, none⟩) x0.length x0.length)) → (True)) := fun W h => trivial
  have hx := Z.out
  clear Z
  have XA : Hid (∀ W, (Below w.heap.size w W ∧ Rd W (fun _ => True) (dLockS x0) (.slice (some ⟨p0_, 0, none⟩) x0.length x0.length)) → (Below w.heap.size w W)) := fun W h => h.1
  refine (TO0.out _ (by first | exact XA.out _ hx | exact XA.out _ (XS0L.out _ _ hx (Below.refl _ _).drew))).mono ?_
  rintro e we0 ⟨s0_, rfl, ho, hB, _⟩
  have h2 : Below w.heap.size w we0 ∧ Rd we0 (fun _ => True) (dLockS x0) (.slice (some ⟨p0_, 0, none⟩) x0.length x0.length) := (by first | exact XS0L.out _ _ hx hB | exact XS0L.out _ _ (XS0L.out _ _ hx (Below.refl _ _).drew) hB)
  clear hx
  have hx := h2
  clear h2
  have RE0_ : Hid (Rd _ (fun _ => True) (dLockS x0) (.slice (some ⟨s0_, 0, none⟩) x0.length x0.length)) := ho.rd'.any
  clear hB ho
  go_wp2_with fail
  refine (EQ0.out _ _ _ _ _ (by first | exact hx.2 | exact Rd.later hx.2 (Below.refl _ _).drew) (by first | exact RE0_.out | exact Rd.later RE0_.out (Below.refl _ _).drew)).mono ?_
  rintro e wf0 ⟨rfl, hB⟩
  have h2 : Below w.heap.size w wf0 ∧ Rd wf0 (fun _ => True) (dLockS x0) (.slice (some ⟨p0_, 0, none⟩) x0.length x0.length) := (by first | exact XS0L.out _ _ hx hB | exact XS0L.out _ _ (XS0L.out _ _ hx (Below.refl _ _).drew) hB)
  clear hx hB
  have hx := h2
  clear h2
  clear RE0_
  go_wp2_with fail
  go_ret
  exact ⟨rfl, by first | exact hx.1 | exact hx.1.drew⟩
end Go.Proofs.Ytoalhminembpkaa
