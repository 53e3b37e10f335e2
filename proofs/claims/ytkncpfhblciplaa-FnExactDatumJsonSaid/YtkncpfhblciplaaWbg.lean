import Derived.Test.YtkncpfhblciplaaWbb
import Derived.Test.YtkncpfhblciplaaWba
import Derived.Test.YtkncpfhblciplaaWbf
namespace Go.Proofs.Ytkncpfhblciplaa
open Go.RowKit
set_option linter.unusedSimpArgs false
def atV (x : At) : Value := .agg #[.int .i64 x.k, .int .i64 x.n, .string ⟨x.t.toArray⟩]
def PV1 (j : J) (v : Value) : Prop :=
  match paA j with
  | some x => v = .iface 31 (atV x)
  | none => match paN j with
    | some t => v = .iface 137 (.string ⟨t.toArray⟩)
    | none => match paL j with
      | some _ => ∃ u, v = .iface 135 u
      | none => v = .nilIface
def PL (w : World) (p n : Nat) (l : List J) (k : Nat) : Prop := ∃ arr : Array Value, w.heap[p]? = some (.cells arr 20) ∧ arr.size = n ∧ ∀ i (h : i < l.length), i < k → ∃ u, arr[i]? = some u ∧ PV1 l[i] u
theorem PL.start (w : World) (n : Nat) (l : List J) : PL (w.alloc (.cells (madeCells #[.nilIface] n) 20)) w.heap.size n l 0 :=
  ⟨_, heap_new' w _ rfl, by rw [size_madeCells], fun i h hk => absurd hk (by omega)⟩
theorem PL.later {w w' : World} {p n : Nat} {l : List J} {k : Nat} (h : PL w p n l k) (hB : Below w.heap.size w w') : PL w' p n l k := by
  obtain ⟨arr, h1, h2⟩ := h
  exact ⟨arr, heap_kept2 h1 hB, h2⟩
theorem PL.cell {w : World} {p n : Nat} {l : List J} {k i : Nat} (h : PL w p n l k) (hi : i < n) : (∃ u, w.cell? ⟨p, i, none⟩ = some u) ∧ w.frozen? ⟨p, i, none⟩ = false := by
  obtain ⟨arr, h1, h2, -⟩ := h
  exact ⟨⟨arr[i], cell_at h1 (Array.getElem?_eq_getElem (by omega))⟩, frozen_at i h1⟩
theorem PL.put {w : World} {p n : Nat} {l : List J} {k : Nat} {u : Value} (h : PL w p n l k) (hk : k < n) (hl : k < l.length) (hu : PV1 l[k] u) : PL (w.setCell ⟨p, k, none⟩ u) p n l (k + 1) := by
  obtain ⟨arr, h1, h2, h3⟩ := h
  refine ⟨arr.setIfInBounds k u, heap_set k u h1, by simp [h2], fun i hi hik => ?_⟩
  by_cases e : i = k
  · subst e
    exact ⟨u, by rw [Array.getElem?_setIfInBounds_self_of_lt (by omega)], hu⟩
  · obtain ⟨x, hx, hp⟩ := h3 i hi (by omega)
    exact ⟨x, by rw [Array.getElem?_setIfInBounds_ne (by omega)]; exact hx, hp⟩
end Go.Proofs.Ytkncpfhblciplaa
