import Derived.Test.YtgegjniilocmnaaDPi
import Derived.Test.YtgegjniilocmnaaDShf
import Derived.Test.YtgegjniilocmnaaDCpy
namespace Go.Proofs.Ytgegjniilocmnaa
open Go.RowKit Go.Maps
set_option linter.unusedSimpArgs false
def RaAns (w : World) (x : StV) (t id : Int) (e : Ending) (w' : World) : Prop := ∃ (ra : Option Addr) (rc : Nat), e = .returned (.tuple #[.agg #[.int .i64 (rowAtP x t id).2.id, .slice ra (rowAtP x t id).2.cells.length rc], .int .i64 (rowAtP x t id).1]) ∧ Own w' (dAtomSS (rowAtP x t id).2.cells) (fun c => w.heap.size ≤ c ∧ c < w'.heap.size) (.slice ra (rowAtP x t id).2.cells.length rc) ∧ Below w.heap.size w w'
theorem RaAns.zero {w w' : World} {x : StV} {t id code : Int} (hP : rowAtP x t id = (code, rowZ)) (hB : Below w.heap.size w w') : RaAns w x t id (.returned (.tuple #[.agg #[.int .i64 0, .slice none 0 0], .int .i64 code])) w' := by
  refine ⟨none, 0, by rw [hP]; rfl, by rw [hP]; exact ⟨none, 0, rfl, .inl rfl⟩, hB⟩
end Go.Proofs.Ytgegjniilocmnaa
