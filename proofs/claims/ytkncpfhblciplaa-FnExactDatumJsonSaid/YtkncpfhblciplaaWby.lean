import Derived.Test.YtkncpfhblciplaaWbb
namespace Go.Proofs.Ytkncpfhblciplaa
open Go.RowKit
set_option linter.unusedSimpArgs false
theorem RJ.any {w : World} {B : Nat → Prop} {j : J} {cs : List Value} (h : RJ w B j cs) : RJ w (fun _ => True) j cs := RJ.same (fun _ _ => rfl) (fun _ _ => trivial) j cs h
theorem mnT_lt {j : J} (h : j.sz ≤ 1048576) : 1 + mnT j < 1000000000000 := by
  have h1 := mn_le j
  rw [mn_eq] at h1
  unfold mnT
  omega
variable {w W W' : World} {j A X' G' : J} {a0 x0 g0 : Nat} {cs csA csX csG : List Value}
end Go.Proofs.Ytkncpfhblciplaa
