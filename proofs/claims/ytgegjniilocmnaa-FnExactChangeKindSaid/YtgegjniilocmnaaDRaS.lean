import Derived.Test.YtgegjniilocmnaaDPl
import Derived.Test.YtgegjniilocmnaaDOwn
import Derived.Test.YtgegjniilocmnaaDRaI
namespace Go.Proofs.Ytgegjniilocmnaa
open Go.RowKit
set_option linter.unusedSimpArgs false
def inR (lo n hi : Int) : Bool := decide (lo ≤ n) && decide (n ≤ hi)
def RaSns (w : World) (x : StV) (t id : Int) (e : Ending) (w' : World) : Prop := ∃ (ra : Option Addr) (rc : Nat), e = .returned (.tuple #[.agg #[.int .i64 (rowAtP x t id).2.id, .slice ra (rowAtP x t id).2.cells.length rc], .int .i64 (rowAtP x t id).1]) ∧ Rd w' (· < w'.heap.size) (dAtomSS (rowAtP x t id).2.cells) (.slice ra (rowAtP x t id).2.cells.length rc) ∧ Below w.heap.size w w'
theorem RaSns.zero {w w' : World} {x : StV} {t id code : Int} (hP : rowAtP x t id = (code, rowZ)) (hB : Below w.heap.size w w') : RaSns w x t id (.returned (.tuple #[.agg #[.int .i64 0, .slice none 0 0], .int .i64 code])) w' := by
  refine ⟨none, 0, by rw [hP]; rfl, by rw [hP]; exact ⟨none, 0, rfl, .inl rfl⟩, hB⟩
end Go.Proofs.Ytgegjniilocmnaa
