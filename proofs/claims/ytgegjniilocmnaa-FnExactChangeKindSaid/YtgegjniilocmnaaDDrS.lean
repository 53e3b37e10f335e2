import Derived.Test.YtgegjniilocmnaaDLdr
import Derived.Test.YtgegjniilocmnaaDRaS
namespace Go.Proofs.Ytgegjniilocmnaa
open Go.RowKit
set_option linter.unusedSimpArgs false
def DrSns (w : World) (x : StV) (t id : Int) (e : Ending) (w' : World) : Prop := ∃ (ra : Option Addr) (rc : Nat), e = .returned (.tuple #[.agg #[.slice ra (dropP x t id).2.tables.length rc, .int .i64 (dropP x t id).2.next], .int .i64 (dropP x t id).1]) ∧ Rd w' (· < w'.heap.size) (dRowSS (dropP x t id).2.tables) (.slice ra (dropP x t id).2.tables.length rc) ∧ Below w.heap.size w w'
theorem DrSns.zero {w w' : World} {x : StV} {t id code : Int} (hP : dropP x t id = (code, stZ)) (hB : Below w.heap.size w w') : DrSns w x t id (.returned (.tuple #[.agg #[.slice none 0 0, .int .i64 0], .int .i64 code])) w' := by
  refine ⟨none, 0, by rw [hP]; rfl, by rw [hP]; exact ⟨none, 0, rfl, .inl rfl⟩, hB⟩
end Go.Proofs.Ytgegjniilocmnaa
