import Derived.Test.YtgegjniilocmnaaDGrq
import Derived.Test.YtgegjniilocmnaaDOwn
import Derived.Test.YtgegjniilocmnaaDPl
namespace Go.Proofs.Ytgegjniilocmnaa
open Go.RowKit
set_option linter.unusedSimpArgs false
theorem infoRw2 : ∃ i, Try.prog.info? 32 = some i ∧ i.zero = some (.agg #[.int .i64 0, .slice none 0 0]) ∧ i.size = 2 ∧ i.bytes = 32 := by
  have h : (Try.prog.info? 32).map (fun i => (i.zero, i.size, i.bytes)) = some (some (.agg #[.int .i64 0, .slice none 0 0]), 2, 32) := by kernel_rfl
  obtain ⟨i, hi, hzz⟩ := Option.map_eq_some_iff.1 h
  simp only [Prod.mk.injEq] at hzz
  exact ⟨i, hi, hzz⟩
/-- rows while they are copied -/
def IRw (wr wq : World) (l : List RowV) (k : Nat) (v : Value) : Prop := Below wr.heap.size wr wq ∧ SG wq wr.heap.size (fun c => wr.heap.size ≤ c) 32 2 (lsF dRow l) k v ∧ ∃ g, v.ownBlock = some g
theorem IRw.first (wr : World) (l : List RowV) : IRw wr (wr.alloc (.cells #[] 32)) l 0 (.slice (some ⟨wr.heap.size, 0, none⟩) 0 0) := ⟨below_allocD _ _, SG.start (Nat.le_refl _) (heap_newD _ _), _, rfl⟩
def capQ (L : List (List RowV)) : Nat → Nat → Value → Prop := fun i _ u => ∃ a c, u = .slice a (L.getD i []).length c ∧ (L.getD i []).length ≤ c ∧ ∃ g, a = some ⟨g, 0, none⟩
end Go.Proofs.Ytgegjniilocmnaa
