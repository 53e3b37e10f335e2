import Derived.Test.YtlaoockphljheaaKMi
import Derived.Test.YtlaoockphljheaaKTw
namespace Go.Proofs.Ytlaoockphljheaa
open Go.RowKit
set_option linter.unusedSimpArgs false
/-- the answer of a function that builds a list of atoms, with a code -/
def AAns2 (w : World) (l : List At) (c : Int) (e : Ending) (w' : World) : Prop := ∃ a cp, e = .returned (.tuple #[.slice a l.length cp, .int .i64 c]) ∧ OwnAts w' (fun b => w.heap.size ≤ b ∧ b < w'.heap.size) a l ∧ Below w.heap.size w w'
noncomputable def lessL (a b : List At) : List At := if twoC a b = 0 then minusA a b else []
theorem AAns2.none {w w' : World} {l : List At} {c : Int} {a : Option Addr} {cp : Nat} (hl : l = []) (hB : Below w.heap.size w w') : AAns2 w l c (.returned (.tuple #[.slice a 0 cp, .int .i64 c])) w' := by
  subst hl
  exact ⟨a, cp, rfl, .inl rfl, hB⟩
set_option maxRecDepth 100000 in
set_option maxHeartbeats 3200000 in
theorem lessS (a b : List At) (pa pb : Option Addr) (ca cb : Nat) (S : Nat) (w : World) (hla : a.length ≤ 1048576) (hlb : b.length ≤ 1048576) (hxa : ∀ x ∈ a, x.t.length ≤ maxLen) (hxb : ∀ x ∈ b, x.t.length ≤ maxLen) (hw : S ≤ w.heap.size) (hA : Ats w (· < S) pa a) (hB : Ats w (· < S) pb b) :
    Calls Try.prog 15 #[.slice pa a.length ca, .slice pb b.length cb] w (AAns2 w (lessL a b) (twoC a b)) := by
  have TW : Hid (∀ W, Below w.heap.size w W → Calls Try.prog 25 #[.slice pa a.length ca, .slice pb b.length cb] W fun e w' => e = .returned (.int .i64 (twoC a b)) ∧ Below w.heap.size w w') := fun W h =>
    (twoS a b pa pb ca cb S W (by unfold maxLen; omega) (by unfold maxLen; omega) hxa hxb (Nat.le_trans hw h.size) (hA.below (h.mono hw)) (hB.below (h.mono hw))).mono (fun e w' ⟨he, hb⟩ => ⟨he, h.trans (hb.mono h.size)⟩)
  have MI : Hid (∀ W, Below w.heap.size w W → Calls Try.prog 27 #[.slice pa a.length ca, .slice pb b.length cb] W (fun e w' => ∃ p c, e = .returned (.slice p (minusA a b).length c) ∧ OwnAts w' (fun b => w.heap.size ≤ b ∧ b < w'.heap.size) p (minusA a b) ∧ Below w.heap.size w w')) := fun W h =>
    (minusS a b pa pb ca cb S W hla (by unfold maxLen; omega) (Nat.le_trans hw h.size) (hA.below (h.mono hw)) (hB.below (h.mono hw))).mono (fun e w' ⟨p, c, he, ho, hb⟩ => ⟨p, c, he, ho.same (fun _ _ => rfl) (fun k hk => ⟨Nat.le_trans h.size hk.1, hk.2⟩), h.trans (hb.mono h.size)⟩)
  clear hA hB hxa hxb
  by_cases h1 : 4096 < a.length ∨ 4096 < b.length
  · have HC : Hid (twoC a b = 2 ∧ lessL a b = []) := by
      have e : twoC a b = 2 := by unfold twoC; rw [if_pos h1]
      exact ⟨e, by unfold lessL; rw [e, if_neg (by omega)]⟩
    rw [HC.out.1]
    by_cases h2 : 4096 < a.length
    · have d1 : decide (4096 < (a.length : Int)) = true := decide_eq_true (by omega)
      go_enter Try.func15, Try.ntmps15
      go_wp2_with fail
      go_ret2
      exact AAns2.none HC.out.2 ((Below.refl _ _).alloc (Nat.le_refl _) _)
    · have d1 : decide (4096 < (a.length : Int)) = false := decide_eq_false (by omega)
      have d2 : decide (4096 < (b.length : Int)) = true := decide_eq_true (by omega)
      go_enter Try.func15, Try.ntmps15
      go_wp2_with fail
      go_ret2
      exact AAns2.none HC.out.2 ((Below.refl _ _).alloc (Nat.le_refl _) _)
  have d1 : decide (4096 < (a.length : Int)) = false := decide_eq_false (by omega)
  have d2 : decide (4096 < (b.length : Int)) = false := decide_eq_false (by omega)
  have hx := Below.refl w.heap.size w
  clear h1
  by_cases h0 : twoC a b = 0
  · have HL : Hid (lessL a b = minusA a b) := by show lessL a b = _; unfold lessL; rw [if_pos h0]
    rw [h0] at TW ⊢
    clear h0
    go_enter Try.func15, Try.ntmps15
    go_wp2_with (first
      | (go_at_call 25; refine (TW.out _ hx).mono ?_; rintro e w1 ⟨rfl, hx⟩)
      | (go_at_call 27; refine (MI.out _ hx).mono ?_; rintro e w2 ⟨p2, c2, rfl, ho2, hx⟩))
    go_ret2
    rw [HL.out]
    exact ⟨p2, c2, rfl, ho2, hx⟩
  · have HL : Hid (lessL a b = []) := by show lessL a b = _; unfold lessL; rw [if_neg h0]
    obtain ⟨q, hq⟩ : ∃ q, q = twoC a b := ⟨_, rfl⟩
    rw [← hq] at TW h0 ⊢
    have hq0 : (q != 0) = true := by simpa using h0
    clear hq h0
    go_enter Try.func15, Try.ntmps15
    go_wp2_with (go_at_call 25; refine (TW.out _ hx).mono ?_; rintro e w1 ⟨rfl, hx⟩)
    go_ret2
    exact AAns2.none HL.out (hx.alloc hx.size _)
end Go.Proofs.Ytlaoockphljheaa
