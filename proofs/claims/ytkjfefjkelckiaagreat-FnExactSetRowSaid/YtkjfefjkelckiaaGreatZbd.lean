import Derived.Test.YtkjfefjkelckiaaGreatZaw
namespace Go.Proofs.YtkjfefjkelckiaaGreat
open Go.RowKit
def rowZ : RowV := ⟨0, []⟩
theorem rowZ_le : (∀ j, j < 2 → (dRow rowZ j).le maxLen) ∧ (dAtomSS rowZ.cells).sz ≤ 100000000 := ⟨fun j hj => by
    rcases (by omega : j = 0 ∨ j = 1) with rfl | rfl
    · exact (by decide : (Lit.int .i64 0).wf = true)
    · exact Ls_le.2 ⟨by omega, by simp [rowZ], fun i h => absurd h (by simp [rowZ])⟩, by simp [dAtomSS, Ls_sz, rowZ, szL_zero]⟩
end Go.Proofs.YtkjfefjkelckiaaGreat
