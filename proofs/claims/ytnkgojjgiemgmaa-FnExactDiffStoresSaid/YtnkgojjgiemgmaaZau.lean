import Derived.Test.YtnkgojjgiemgmaaZas
import Derived.Test.YtnkgojjgiemgmaaZat
namespace Go.Proofs.Ytnkgojjgiemgmaa
open Go.RowKit
set_option linter.unusedSimpArgs false
theorem infoIntN : ∃ i, Try.prog.info? 3 = some i ∧ i.zero = some (.int .i64 0) ∧ i.size = 1 ∧ i.bytes = 8 := by
  have h : (Try.prog.info? 3).map (fun i => (i.zero, i.size, i.bytes)) = some (some (.int .i64 0), 1, 8) := by kernel_rfl
  obtain ⟨i, hi, hzz⟩ := Option.map_eq_some_iff.1 h
  simp only [Prod.mk.injEq] at hzz
  exact ⟨i, hi, hzz.1, hzz.2.1, hzz.2.2⟩
theorem lsI_at {F : List Int} {i : Nat} (hi : i < F.length) (j : Nat) : lsF cInt F i j = .i (F.getD i 0) := by
  rw [lsF_at hi]
  show D.i F[i] = D.i (F.getD i 0)
  rw [List.getD_eq_getElem?_getD, List.getElem?_eq_getElem hi]; rfl
end Go.Proofs.Ytnkgojjgiemgmaa
