import Derived.Test.YtohlggpolchmaaaPart2
namespace Go.Proofs.Ytohlggpolchmaaa
open Go.RowKit
theorem ret_ii {a b c d : Int} (h : a = c) (h' : b = d) : Ending.returned (.tuple #[.int .i64 a, .int .i64 b]) = .returned (.tuple #[.int .i64 c, .int .i64 d]) := by rw [h, h']
end Go.Proofs.Ytohlggpolchmaaa
