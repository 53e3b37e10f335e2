import Derived.Test.YtoalhminembpkaaVbk
import Derived.Deep.RegionHeld3
namespace Go.Proofs.Ytoalhminembpkaa
open Go.RowKit
set_option linter.unusedSimpArgs false
theorem zeroIn (w : World) : (zeroValue 3).run Try.prog w = .ok (.int .i64 0) w := by
  have h : (Try.prog.info? 3).map (fun i => i.zero) = some (some (.int .i64 0)) := by kernel_rfl
  obtain ⟨i, hi, hz⟩ := Option.map_eq_some_iff.1 h
  simp [zeroValue, typeInfo, hi, hz]
theorem run_clearIn (w : World) (q o c : Nat) (v0 : Value) (e0 : w.cell? ⟨q, o, none⟩ = some v0) (z0 : w.frozen? ⟨q, o, none⟩ = false) :
    ∃ w', (∀ ty, (Builtin.clear_ #[46] ty #[.slice (some ⟨q, o, none⟩) 1 c]).run Try.prog w = .ok (.tuple #[]) w') ∧ Frm (· = q) w w' ∧ ∀ {T : TypeId} {M : Nat} {g : Nat → Value}, w.rowIs q T M g → ∃ g', w'.rowIs q T M g' ∧ ∀ m, m < o → g' m = g m := by
  have hst := run_storeCells_cells (P := Try.prog) q o [.int .i64 0] 0 w (fun j hj => by
    simp only [List.length_cons, List.length_nil] at hj
    obtain rfl : j = 0 := by omega
    simp [e0]) (fun j hj => by
    simp only [List.length_cons, List.length_nil] at hj
    obtain rfl : j = 0 := by omega
    simpa using z0) (by intro v hv; simp only [List.mem_cons, List.not_mem_nil, or_false] at hv; rcases hv with rfl; rfl)
  have hzc : (Builtin.zeroCells (Value.int .i64 0).cells 1).toList = [.int .i64 0] := by kernel_rfl
  refine ⟨w.setCell ⟨q, o, none⟩ (.int .i64 0), fun ty => ?_, frm_set _ _ _ _, fun hr => ⟨_, hr.set o _, fun m hm => by rw [if_neg (by omega)]⟩⟩
  simp only [Nat.add_zero] at hst
  simp [Builtin.clear_, run_underlying Try.underlying46, zeroIn, hzc, hst, World.setCells]
end Go.Proofs.Ytoalhminembpkaa
