import Derived.Test.YtkncpfhblciplaaXba
namespace Go.Proofs.Ytkncpfhblciplaa
open Go.RowKit
set_option linter.unusedSimpArgs false
theorem rj_zero (w : World) (B : Nat → Prop) : RJ w B dflt [.int .i64 0, .int .i64 0, .string ⟨#[]⟩, .slice none 0 0, .slice none 0 0] := by
  rw [RJ_eq]
  exact ⟨none, 0, none, 0, rfl, by simp [dflt], by simp [dflt], by simp [dflt], by simp [dflt], .inl rfl, .inl rfl⟩
end Go.Proofs.Ytkncpfhblciplaa
