import Derived.Test.YtgecppkbhlojlaaDoorProg
import Derived.Test.YtgecppkbhlojlaaDoorPlain
import Derived.WalkKit
import Derived.WalkSpells
import Derived.WalkLawsBesides
namespace Go.Proofs.YtgecppkbhlojlaaDoor
open Go.RowKit
/-- the package's table of words as it lies in memory -/
def Tab (w : World) : Prop := ∀ k : Nat, k < 20 → w.cell? ⟨0, k, none⟩ = some (.string ⟨(wd (k : Int)).toArray⟩)

set_option maxHeartbeats 4000000 in
theorem word_spec (n : Int) (w : World) : Calls Tryd.prog 5 #[.int .i64 n] w fun e w' => e = .returned (.string ⟨(wd n).toArray⟩) ∧ Below w.heap.size w w' := by
  by_cases hz : n < 0 ∨ 20 ≤ n
  · rw [wd_out hz]
    rcases hz with hz | hz
    · go_enter Tryd.func5, Tryd.ntmps5
      go_wp2_with fail
      go_ret
      exact ⟨rfl, (Below.refl _ _).alloc (Nat.le_refl _) _⟩
    · have hz' : 0 ≤ n := by omega
      go_enter Tryd.func5, Tryd.ntmps5
      go_wp2_with fail
      go_ret
      exact ⟨rfl, (Below.refl _ _).alloc (Nat.le_refl _) _⟩
  · rcases wd_in n (by omega) (by omega) with rfl | rfl | rfl | rfl | rfl | rfl | rfl | rfl | rfl | rfl | rfl | rfl | rfl | rfl | rfl | rfl | rfl | rfl | rfl | rfl
    all_goals
      go_enter Tryd.func5, Tryd.ntmps5
      go_wp2_with fail
      go_ret
      exact ⟨rfl, (Below.refl _ _).alloc (Nat.le_refl _) _⟩
end Go.Proofs.YtgecppkbhlojlaaDoor
