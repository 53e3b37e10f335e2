import Derived.Test.YtkncpfhblciplaaWba
import Derived.Test.YtkncpfhblciplaaWay
import Derived.Test.YtkncpfhblciplaaWaw
import Derived.Deep.CutRange
import Derived.BigQuiet
import Derived.Lib.Hide
namespace Go.Proofs.Ytkncpfhblciplaa
open Go.RowKit
set_option linter.unusedSimpArgs false
theorem rj_zero (w : World) (B : Nat → Prop) : RJ w B dflt [.int .i64 0, .int .i64 0, .string ⟨#[]⟩, .slice none 0 0, .slice none 0 0] := by
  rw [RJ_eq]
  exact ⟨none, 0, none, 0, rfl, by simp [dflt], by simp [dflt], by simp [dflt], by simp [dflt], .inl rfl, .inl rfl⟩
end Go.Proofs.Ytkncpfhblciplaa
namespace Go.Proofs.Ytkncpfhblciplaa
open Go.RowKit
set_option linter.unusedSimpArgs false
theorem cell_later {w W : World} {a : Addr} {v : Value} (hB : Below w.heap.size w W) (h : w.cell? a = some v) : W.cell? a = some v := by rw [World.cell?_of_block (w := w) (a := a) (hB.block _ (World.block_lt_of_cell? _ _ h))]; exact h
end Go.Proofs.Ytkncpfhblciplaa
