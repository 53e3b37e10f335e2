import Derived.Test.YtkncpfhblciplaaWaw
import Derived.Test.YtkncpfhblciplaaWai
namespace Go.Proofs.Ytkncpfhblciplaa
open Go.RowKit
set_option linter.unusedSimpArgs false
theorem own_zero (w : World) (B : Nat → Prop) : OwnJ w dflt B [.int .i64 0, .int .i64 0, .string ⟨#[]⟩, .slice none 0 0, .slice none 0 0] := by
  rw [OwnJ_eq]
  exact ⟨none, 0, none, 0, fun _ => False, fun _ => False, rfl, by simp [dflt], by simp [dflt], by simp [dflt], by simp [dflt], .inl rfl, fun _ h => h.elim, fun _ h => h.elim, .inl rfl⟩
theorem two {w w4 : World} {o0 o1 : Obj} (hb : Below ((w.alloc o0).alloc o1).heap.size ((w.alloc o0).alloc o1) w4) :
    w4.heap[w.heap.size]? = some o0 ∧ w4.heap[w.heap.size + 1]? = some o1 ∧ w.heap.size + 1 + 1 ≤ w4.heap.size ∧ Below w.heap.size w w4 := by
  have hs : ((w.alloc o0).alloc o1).heap.size = w.heap.size + 1 + 1 := by simp
  have h0 : ((w.alloc o0).alloc o1).heap = (w.heap.push o0).push o1 := rfl
  refine ⟨?_, ?_, ?_, ?_⟩
  · rw [hb.block _ (by omega), h0, Array.getElem?_push, if_neg (by simp), Array.getElem?_push, if_pos rfl]
  · rw [hb.block _ (by omega), h0, Array.getElem?_push, if_pos (by simp)]
  · have := hb.size; omega
  · exact (((Below.refl _ _).alloc (Nat.le_refl _) _).alloc (by simp) _).trans (hb.mono (by omega))
theorem heap_kept2 {w w' : World} {b : Nat} {o : Obj} (h : w.heap[b]? = some o) (hB : Below w.heap.size w w') : w'.heap[b]? = some o := by
  rw [hB.block b (Array.getElem?_eq_some_iff.1 h).1]; exact h
end Go.Proofs.Ytkncpfhblciplaa
