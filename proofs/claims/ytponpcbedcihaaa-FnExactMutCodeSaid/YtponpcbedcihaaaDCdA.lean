import Derived.Test.YtponpcbedcihaaaDAtA
namespace Go.Proofs.Ytponpcbedcihaaa
open Go.RowKit
set_option linter.unusedSimpArgs false
structure CondV where
  col : List UInt8
  fn : Int
  val : List At
def dCond (x : CondV) : Nat → D
  | 0 => .s x.col
  | 1 => .i x.fn
  | _ => dAtomS x.val
theorem szT_Cond (x : CondV) : szT 3 (dCond x) = x.col.length + (dAtomS x.val).sz := by simp [szT, sumN, dCond, D.sz]
def dCondS (l : List CondV) : D := Ls 3 dCond l
end Go.Proofs.Ytponpcbedcihaaa
