import Derived.Test.YthakmdkaciopnaaKMem
namespace Go.Proofs.Ythakmdkaciopnaa
open Go.RowKit
set_option linter.unusedSimpArgs false
def zeroAt : Array Value := #[.int .i64 0, .int .i64 0, .string ⟨#[]⟩]
theorem rowIs_madeAt (w : World) (n : Nat) (t : TypeId) : ∃ f, (w.alloc (.cells (madeCells zeroAt (n * 3)) t)).rowIs w.heap.size t (n * 3) f :=
  ⟨fun i => (madeCells zeroAt (n * 3)).getD i default, by
    have := World.rowIs_alloc w (madeCells zeroAt (n * 3)) t (fun i => (madeCells zeroAt (n * 3)).getD i default) (fun i h => by rw [Array.getElem?_eq_getElem h]; simp [Array.getD, h])
    rwa [size_madeCells] at this⟩
end Go.Proofs.Ythakmdkaciopnaa
