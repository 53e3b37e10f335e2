import Derived.Test.YtjgflcffmljapaaKJn
namespace Go.Proofs.Ytjgflcffmljapaa
open Go.RowKit
set_option linter.unusedSimpArgs false
noncomputable def joinC (a b : List At) : Int := if twoC a b = 0 then (if 8 < (joinL a b).length then 6 else 0) else twoC a b
noncomputable def joinR (a b : List At) : List At := if twoC a b = 0 ∧ ¬ 8 < (joinL a b).length then joinL a b else []
theorem two_len {a b : List At} (h : twoC a b = 0) : a.length ≤ 4096 ∧ b.length ≤ 4096 := by
  unfold twoC at h
  split at h
  · omega
  · omega
/-- the last limb of both: a list that was built, or none where it is too long -/
theorem AI.ans2 {w W : World} {B : Nat} {v : Value} {l : List At} {c : Int} (h : AI w B W v l) : AAns2 w l c (.returned (.tuple #[v, .int .i64 c])) W := by
  obtain ⟨a, cp, rfl, ho⟩ := h.buf.own
  exact ⟨a, cp, rfl, ho.same (fun _ _ => rfl) (fun b hb => ⟨Nat.le_trans h.old hb.1, hb.2⟩), h.bel⟩
set_option maxRecDepth 100000 in
set_option maxHeartbeats 3200000 in
theorem datumJoinS (a b : List At) (b1 o1 ca cb : Nat) (pb : Option Addr) (S : Nat) (w : World) (hla : a.length ≤ 1048576) (hlb : b.length ≤ 1048576) (hxa : ∀ x ∈ a, x.t.length ≤ maxLen) (hxb : ∀ x ∈ b, x.t.length ≤ maxLen) (hw : S ≤ w.heap.size) (hA : Ats w (· < S) (some ⟨b1, o1, none⟩) a) (hB : Ats w (· < S) pb b) :
    Calls Try.prog 14 #[.slice (some ⟨b1, o1, none⟩) a.length ca, .slice pb b.length cb] w (AAns2 w (joinR a b) (joinC a b)) := by
  have TW : Hid (∀ W, Below w.heap.size w W → Calls Try.prog 27 #[.slice (some ⟨b1, o1, none⟩) a.length ca, .slice pb b.length cb] W fun e w' => e = .returned (.int .i64 (twoC a b)) ∧ Below w.heap.size w w') := fun W h =>
    (twoS a b _ pb ca cb S W (by unfold maxLen; omega) (by unfold maxLen; omega) hxa hxb (Nat.le_trans hw h.size) (hA.below (h.mono hw)) (hB.below (h.mono hw))).mono (fun e w' ⟨he, hb⟩ => ⟨he, h.trans (hb.mono h.size)⟩)
  have JN : Hid (twoC a b = 0 → ∀ W, Below w.heap.size w W → Calls Try.prog 28 #[.slice (some ⟨b1, o1, none⟩) a.length ca, .slice pb b.length cb] W (fun e w' => ∃ g c B, e = .returned (.slice (some ⟨g, 0, none⟩) (joinL a b).length c) ∧ AI w B w' (.slice (some ⟨g, 0, none⟩) (joinL a b).length c) (joinL a b))) := fun h0 W h => by
    have hl := two_len h0
    refine (joinS a b b1 o1 ca cb pb S W (by omega) (by omega) (Nat.le_trans hw h.size) (hA.below (h.mono hw)) (hB.below (h.mono hw))).mono (fun e w' ⟨v, B, he, hai⟩ => ?_)
    obtain ⟨g, c, rfl, -, -⟩ := hai.open
    exact ⟨g, c, B, he, hai.base h⟩
  clear hA hB hxa hxb
  by_cases h1 : 4096 < a.length ∨ 4096 < b.length
  · have HC : Hid (joinC a b = 2 ∧ joinR a b = []) := by
      have e : twoC a b = 2 := by unfold twoC; rw [if_pos h1]
      exact ⟨by unfold joinC; rw [e, if_neg (by omega)], by unfold joinR; rw [e, if_neg (by omega)]⟩
    rw [HC.out.1]
    by_cases h2 : 4096 < a.length
    · have d1 : decide (4096 < (a.length : Int)) = true := decide_eq_true (by omega)
      go_enter Try.func14, Try.ntmps14
      go_wp2_with fail
      go_ret2
      exact AAns2.none HC.out.2 ((Below.refl _ _).alloc (Nat.le_refl _) _)
    · have d1 : decide (4096 < (a.length : Int)) = false := decide_eq_false (by omega)
      have d2 : decide (4096 < (b.length : Int)) = true := decide_eq_true (by omega)
      go_enter Try.func14, Try.ntmps14
      go_wp2_with fail
      go_ret2
      exact AAns2.none HC.out.2 ((Below.refl _ _).alloc (Nat.le_refl _) _)
  have d1 : decide (4096 < (a.length : Int)) = false := decide_eq_false (by omega)
  have d2 : decide (4096 < (b.length : Int)) = false := decide_eq_false (by omega)
  have hx := Below.refl w.heap.size w
  clear h1
  by_cases h0 : twoC a b = 0
  · have JN' : Hid (∀ W, Below w.heap.size w W → Calls Try.prog 28 #[.slice (some ⟨b1, o1, none⟩) a.length ca, .slice pb b.length cb] W (fun e w' => ∃ g c B, e = .returned (.slice (some ⟨g, 0, none⟩) (joinL a b).length c) ∧ AI w B w' (.slice (some ⟨g, 0, none⟩) (joinL a b).length c) (joinL a b))) := JN.out h0
    by_cases h8 : 8 < (joinL a b).length
    · have HC : Hid (joinC a b = 6 ∧ joinR a b = []) := ⟨by unfold joinC; rw [if_pos h0, if_pos h8], by unfold joinR; rw [if_neg (by intro h; exact h.2 h8)]⟩
      rw [HC.out.1]
      rw [h0] at TW
      have d8 : decide (8 < ((joinL a b).length : Int)) = true := decide_eq_true (by omega)
      clear h0 h8 JN
      generalize (joinL a b).length = n at *
      go_enter Try.func14, Try.ntmps14
      go_wp2_with (first
        | (go_at_call 27; refine (TW.out _ hx).mono ?_; rintro e w1 ⟨rfl, hx⟩)
        | (go_at_call 28; refine (JN'.out _ hx).mono ?_; rintro e w2 ⟨g2, c2, B2, rfl, H2⟩))
      go_ret2
      exact AAns2.none HC.out.2 (H2.bel.alloc H2.bel.size _)
    · have HC : Hid (joinC a b = 0 ∧ joinR a b = joinL a b) := ⟨by unfold joinC; rw [if_pos h0, if_neg h8], by unfold joinR; rw [if_pos ⟨h0, h8⟩]⟩
      rw [HC.out.1, HC.out.2]
      rw [h0] at TW
      have d8 : decide (8 < ((joinL a b).length : Int)) = false := decide_eq_false (by omega)
      clear h0 h8 JN
      have EN : Hid (∀ {W : World} {g c B : Nat}, AI w B W (.slice (some ⟨g, 0, none⟩) (joinL a b).length c) (joinL a b) → AAns2 w (joinL a b) 0 (.returned (.tuple #[.slice (some ⟨g, 0, none⟩) (joinL a b).length c, .int .i64 0])) W) := fun h => h.ans2
      generalize hn : (joinL a b).length = n at *
      clear hn
      go_enter Try.func14, Try.ntmps14
      go_wp2_with (first
        | (go_at_call 27; refine (TW.out _ hx).mono ?_; rintro e w1 ⟨rfl, hx⟩)
        | (go_at_call 28; refine (JN'.out _ hx).mono ?_; rintro e w2 ⟨g2, c2, B2, rfl, H2⟩))
      go_ret2
      exact EN.out H2
  · have HC : Hid (joinC a b = twoC a b ∧ joinR a b = []) := ⟨by unfold joinC; rw [if_neg h0], by unfold joinR; rw [if_neg (by intro h; exact h0 h.1)]⟩
    rw [HC.out.1]
    obtain ⟨q, hq⟩ : ∃ q, q = twoC a b := ⟨_, rfl⟩
    rw [← hq] at TW h0 ⊢
    have hq0 : (q != 0) = true := by simpa using h0
    clear hq h0 JN
    go_enter Try.func14, Try.ntmps14
    go_wp2_with (go_at_call 27; refine (TW.out _ hx).mono ?_; rintro e w1 ⟨rfl, hx⟩)
    go_ret2
    exact AAns2.none HC.out.2 (hx.alloc hx.size _)
end Go.Proofs.Ytjgflcffmljapaa
