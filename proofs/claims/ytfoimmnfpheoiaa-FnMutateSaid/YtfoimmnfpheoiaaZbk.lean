import Derived.Test.YtfoimmnfpheoiaaZbj
import Derived.Test.YtfoimmnfpheoiaaZao
import Derived.Test.YtfoimmnfpheoiaaZag
import Derived.Test.YtfoimmnfpheoiaaZad
import Derived.Test.YtfoimmnfpheoiaaZaa
import Derived.Test.YtfoimmnfpheoiaaZac
import Derived.Deep.OwnRows
import Derived.Laws.IdiomStrings
import Derived.Deep.MidRow
import Derived.Deep.QuietTactic
import Derived.BigQuiet
import Derived.Deep.RegionWith
namespace Go.Proofs.Ytfoimmnfpheoiaa
open Go.RowKit
set_option linter.unusedSimpArgs false
theorem AAns2.base {w W w' : World} {l : List At} {c : Int} {e : Ending} (h : AAns2 W l c e w') (hb : Below w.heap.size w W) : AAns2 w l c e w' := by
  obtain ⟨a, cp, he, ho, hB⟩ := h
  exact ⟨a, cp, he, ho.same (fun _ _ => rfl) (fun b hb' => ⟨Nat.le_trans hb.size hb'.1, hb'.2⟩), hb.trans (hB.mono hb.size)⟩
theorem two_rise {a b : List At} (h : twoC a b = 0) : Rise a := by
  unfold twoC at h
  split at h
  · omega
  · split at h
    · omega
    · rename_i h2
      have ha : datumB a = true := by cases e : datumB a <;> simp [e] at h2 ⊢
      rw [datumB_eq] at ha
      simp at ha
      exact rise_of ha.2.2
end Go.Proofs.Ytfoimmnfpheoiaa
namespace Go.Proofs.Ytfoimmnfpheoiaa
open Go.RowKit
set_option linter.unusedSimpArgs false
set_option maxRecDepth 100000 in
set_option maxHeartbeats 3200000 in
theorem datumJoinO (a b : List At) (pa pb : Option Addr) (ca cb : Nat) (S : Nat) (w : World) (hla : a.length ≤ 1048576) (hlb : b.length ≤ 1048576) (hxa : ∀ x ∈ a, x.t.length ≤ maxLen) (hxb : ∀ x ∈ b, x.t.length ≤ maxLen) (hw : S ≤ w.heap.size) (hA : Ats w (· < S) pa a) (hB : Ats w (· < S) pb b) :
    Calls Try.prog 6 #[.slice pa a.length ca, .slice pb b.length cb] w (AAns2 w (joinR a b) (joinC a b)) := by
  have TW : Hid (∀ W, Below w.heap.size w W → Calls Try.prog 18 #[.slice pa a.length ca, .slice pb b.length cb] W fun e w' => e = .returned (.int .i64 (twoC a b)) ∧ Below w.heap.size w w') := fun W h =>
    (pairI a b _ _ ca cb S W (by unfold maxLen; omega) (by unfold maxLen; omega) hxa hxb (Nat.le_trans hw h.size) (hA.below (h.mono hw)) (hB.below (h.mono hw))).mono (fun e w' ⟨he, hb⟩ => ⟨he, h.trans (hb.mono h.size)⟩)
  have SE : Hid (∀ W, Below w.heap.size w W → Calls Try.prog 19 #[.slice (some ⟨W.heap.size, 0, none⟩) 2 2] (W.alloc (.cells #[.slice pa a.length ca, .slice pb b.length cb] 25)) (fun e w' => ∃ p cp, e = .returned (.tuple #[.slice p (setR (a ++ b)).length cp, .int .i64 (setC (a ++ b))]) ∧ AAns2 w (setR (a ++ b)) (setC (a ++ b)) (.returned (.tuple #[.slice p (setR (a ++ b)).length cp, .int .i64 (setC (a ++ b))])) w')) := fun W h => by
    have hb : Below w.heap.size w (W.alloc (.cells #[.slice pa a.length ca, .slice pb b.length cb] 25)) := h.alloc h.size _
    have hs := h.size
    have hfl : flat [⟨a, pa, ca⟩, ⟨b, pb, cb⟩] = a ++ b := by simp [flat]
    have := setOfI [⟨a, pa, ca⟩, ⟨b, pb, cb⟩] W.heap.size 2 S (W.alloc (.cells #[.slice pa a.length ca, .slice pb b.length cb] 25)) (by simp) (by have := hb.size; omega) (by simp) ⟨fun m hm => by
        rcases (by simp at hm; omega : m = 0 ∨ m = 1) with rfl | rfl
        · exact cell_at (o := 0) (heap_newA _ _) rfl
        · exact cell_at (o := 1) (heap_newA _ _) rfl, fun m hm => by
        rcases (by simp at hm; omega : m = 0 ∨ m = 1) with rfl | rfl
        · exact hA.below (hb.mono hw)
        · exact hB.below (hb.mono hw), fun m hm => by
        rcases (by simp at hm; omega : m = 0 ∨ m = 1) with rfl | rfl
        · exact hla
        · exact hlb⟩
    rw [hfl] at this
    refine this.mono (fun e w' h2 => ?_)
    have h3 := h2.base hb
    obtain ⟨a, cp, rfl, -⟩ := h2
    exact ⟨a, cp, rfl, h3⟩
  clear hA hB hxa hxb
  have hr := Below.refl w.heap.size w
  by_cases h0 : twoC a b = 0
  · have HC : Hid (joinC a b = setC (a ++ b) ∧ joinR a b = setR (a ++ b)) := by
      have e : joinL [] (a ++ b) = joinL a b := by rw [join_app, join_self (two_rise h0)]
      unfold joinC joinR setC setR
      rw [e, if_pos h0]
      refine ⟨rfl, ?_⟩
      by_cases h8 : 8 < (joinL a b).length
      · rw [if_pos h8, if_neg (fun h => h.2 h8)]
      · rw [if_neg h8, if_pos ⟨h0, h8⟩]
    rw [h0] at TW
    clear h0
    generalize setC (a ++ b) = q at *
    go_enter Try.func6, Try.ntmps6
    go_wp2_with (first | (go_at_call 18; refine (TW.out _ hr).mono ?_; rintro e w1 ⟨rfl, hr⟩) | (go_at_call 19; refine (SE.out _ hr).mono ?_; rintro e w2 ⟨a2, c2, rfl, H2⟩))
    go_ret2
    rw [HC.out.1, HC.out.2]
    exact H2
  · have HC : Hid (joinC a b = twoC a b ∧ joinR a b = []) := ⟨by unfold joinC; rw [if_neg h0], by unfold joinR; rw [if_neg (fun h => h0 h.1)]⟩
    have hn : (twoC a b != 0) = true := by simpa using h0
    clear h0
    generalize twoC a b = q at *
    go_enter Try.func6, Try.ntmps6
    go_wp2_with (go_at_call 18; refine (TW.out _ hr).mono ?_; rintro e w1 ⟨rfl, hr⟩)
    go_ret2
    rw [HC.out.1]
    exact AAns2.none HC.out.2 hr
end Go.Proofs.Ytfoimmnfpheoiaa
