import Derived.Test.YtbaelhehjepepaaKIr
import Derived.Deep.RegionHeld3
namespace Go.Proofs.Ytbaelhehjepepaa
open Go.RowKit
set_option linter.unusedSimpArgs false
/-- the answer of putOnce: l with x, rising -/
def PutAns (w : World) (B : Nat) (v : Value) (l : List At) (e : Ending) (w' : World) : Prop := ∃ v', e = .returned v' ∧ ABuf w' B v' l ∧ AppA w v w' v'
theorem AppA.after {w w1 w2 : World} {v v' : Value} (h : Below w.heap.size w w1) (k : AppA w1 v w2 v') : AppA w v w2 v' := (AppA.of_below h).trans k
theorem one_new (w : World) (x : At) (v : Value) {B : Nat} {l : List At} (hb : ABuf w B v l) : OneA (w.alloc (.cells #[.int .i64 x.k, .int .i64 x.n, .string ⟨x.t.toArray⟩] 40)) v w.heap.size x :=
  ⟨heap_newA _ _, fun e => by have := (hb.lt e).2; omega⟩
end Go.Proofs.Ytbaelhehjepepaa
