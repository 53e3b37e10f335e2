import Derived.Test.YtkjfefjkelckiaaZax
import Derived.Deep.CutRange
import Derived.Deep.RegionHeld3
import Derived.Test.YtkjfefjkelckiaaZbb
import Derived.BigQuiet
import Derived.Deep.RegionWith
namespace Go.Proofs.Ytkjfefjkelckiaa
open Go.RowKit
set_option linter.unusedSimpArgs false
set_option maxHeartbeats 400000 in
theorem idOKi (n : Int) (w : World) : Calls Try.prog 69 #[.int .i64 n] w fun e w' => e = .returned (.bool (inB 1 n 1000000)) ∧ w' = w := by
  go_enter Try.func69, Try.ntmps69
  go_wp2
  all_goals
    go_ret
    refine ⟨ret_b ?_, rfl⟩
    rw [Bool.eq_iff_iff]; simp [inB]; try omega
end Go.Proofs.Ytkjfefjkelckiaa
