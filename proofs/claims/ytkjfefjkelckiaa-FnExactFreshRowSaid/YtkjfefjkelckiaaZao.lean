import Derived.Test.YtkjfefjkelckiaaZan
namespace Go.Proofs.Ytkjfefjkelckiaa
open Go.RowKit
def rowZ : RowV := ⟨0, []⟩
end Go.Proofs.Ytkjfefjkelckiaa
