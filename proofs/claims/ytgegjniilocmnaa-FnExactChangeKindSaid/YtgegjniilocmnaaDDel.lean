import Derived.Test.YtgegjniilocmnaaDCst
import Derived.Test.YtgegjniilocmnaaDPi
namespace Go.Proofs.Ytgegjniilocmnaa
open Go.RowKit
set_option linter.unusedSimpArgs false
theorem zeroRw (w : World) : (zeroValue 32).run Try.prog w = .ok (.agg #[.int .i64 0, .slice none 0 0]) w := by
  have h : (Try.prog.info? 32).map (fun i => i.zero) = some (some (.agg #[.int .i64 0, .slice none 0 0])) := by kernel_rfl
  obtain ⟨i, hi, hz⟩ := Option.map_eq_some_iff.1 h
  simp [zeroValue, typeInfo, hi, hz]
def shG (g : Nat → Value) (k m : Nat) : Nat → Value := fun p => if k * 2 ≤ p ∧ p < m * 2 then g (p + 2) else g p
theorem frm_below {w w' : World} {F : Nat → Prop} (h : Below w.heap.size w w') : Frm F w w' := ⟨h.os, h.tape, h.output, h.size, fun b hb _ => h.block b hb⟩
end Go.Proofs.Ytgegjniilocmnaa
