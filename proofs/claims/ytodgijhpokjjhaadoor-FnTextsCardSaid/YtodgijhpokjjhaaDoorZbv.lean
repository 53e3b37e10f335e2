import Derived.Test.YtodgijhpokjjhaaDoorZbu
namespace Go.Proofs.YtodgijhpokjjhaaDoor
open Go.RowKit
def FdAns3 (w : World) (g : Fr) (o : List (List UInt8)) (k : Int) (e : Ending) (w' : World) : Prop := ∃ a c, e = .returned (.tuple #[.agg #[.string ⟨g.buf.toArray⟩, .int .i64 g.d, .bool g.q, .bool g.s, .bool g.c], .slice a o.length c, .int .i64 k]) ∧ Below w.heap.size w w' ∧ OB w' w.heap.size 9 (.slice a o.length c) (sc o)
end Go.Proofs.YtodgijhpokjjhaaDoor
