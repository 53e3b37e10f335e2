import Derived.Test.YtkncpfhblciplaaZas
import Derived.Deep.CutRange
import Derived.Deep.RegionHeld3
import Derived.Test.YtkncpfhblciplaaZac
import Derived.BigQuiet
import Derived.Deep.RegionWith
namespace Go.Proofs.Ytkncpfhblciplaa
open Go.RowKit
set_option linter.unusedSimpArgs false
set_option maxHeartbeats 400000 in
theorem idOKi (n : Int) (w : World) : Calls Try.prog 79 #[.int .i64 n] w fun e w' => e = .returned (.bool (inB 1 n 1000000)) ∧ w' = w := by
  go_enter Try.func79, Try.ntmps79
  go_wp2
  all_goals
    go_ret
    refine ⟨ret_b ?_, rfl⟩
    rw [Bool.eq_iff_iff]; simp [inB]; try omega
end Go.Proofs.Ytkncpfhblciplaa
