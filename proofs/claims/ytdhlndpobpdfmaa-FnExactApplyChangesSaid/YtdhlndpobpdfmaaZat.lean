import Derived.Test.YtdhlndpobpdfmaaZar
import Derived.Test.YtdhlndpobpdfmaaZas
namespace Go.Proofs.Ytdhlndpobpdfmaa
open Go.RowKit
set_option linter.unusedSimpArgs false
theorem zeroRw (w : World) : (zeroValue 53).run Try.prog w = .ok (.agg #[.int .i64 0, .slice none 0 0]) w := by
  have h : (Try.prog.info? 53).map (fun i => i.zero) = some (some (.agg #[.int .i64 0, .slice none 0 0])) := by kernel_rfl
  obtain ⟨i, hi, hz⟩ := Option.map_eq_some_iff.1 h
  simp [zeroValue, typeInfo, hi, hz]
theorem run_clearRow (w : World) (q o c : Nat) (v0 v1 : Value) (e0 : w.cell? ⟨q, o, none⟩ = some v0) (e1 : w.cell? ⟨q, o + 1, none⟩ = some v1) (z0 : w.frozen? ⟨q, o, none⟩ = false) (z1 : w.frozen? ⟨q, o + 1, none⟩ = false) :
    ∃ w', (∀ ty, (Builtin.clear_ #[73] ty #[.slice (some ⟨q, o, none⟩) 1 c]).run Try.prog w = .ok (.tuple #[]) w') ∧ Frm (· = q) w w' ∧ ∀ {T : TypeId} {M : Nat} {g : Nat → Value}, w.rowIs q T M g → ∃ g', w'.rowIs q T M g' ∧ ∀ m, m < o → g' m = g m := by
  have hst := run_storeCells_cells (P := Try.prog) q o [.int .i64 0, .slice none 0 0] 0 w (fun j hj => by
    simp only [List.length_cons, List.length_nil] at hj
    rcases (by omega : j = 0 ∨ j = 1) with rfl | rfl
    · simp [e0]
    · simp [e1]) (fun j hj => by
    simp only [List.length_cons, List.length_nil] at hj
    rcases (by omega : j = 0 ∨ j = 1) with rfl | rfl
    · simpa using z0
    · simpa using z1) (by intro v hv; simp only [List.mem_cons, List.not_mem_nil, or_false] at hv; rcases hv with rfl | rfl <;> rfl)
  have hzc : (Builtin.zeroCells (Value.agg #[.int .i64 0, .slice none 0 0]).cells 1).toList = [.int .i64 0, .slice none 0 0] := by kernel_rfl
  refine ⟨(w.setCell ⟨q, o, none⟩ (.int .i64 0)).setCell ⟨q, o + 1, none⟩ (.slice none 0 0), fun ty => ?_, (frm_set _ _ _ _).trans (frm_set _ _ _ _), fun hr => ⟨_, (hr.set o _).set (o + 1) _, fun m hm => by rw [if_neg (by omega), if_neg (by omega)]⟩⟩
  simp only [Nat.add_zero] at hst
  simp [Builtin.clear_, run_underlying Try.underlying73, zeroRw, hzc, hst, World.setCells]
theorem frm_below {w w' : World} {F : Nat → Prop} (h : Below w.heap.size w w') : Frm F w w' := ⟨h.os, h.tape, h.output, h.size, fun b hb _ => h.block b hb⟩
end Go.Proofs.Ytdhlndpobpdfmaa
namespace Go.Proofs.Ytdhlndpobpdfmaa
open Go.RowKit
set_option linter.unusedSimpArgs false
def stZ : StV := ⟨[], 0⟩
theorem erase_at {l : List RowV} {k a : Nat} (hk : k < l.length) (ha : a < (l.eraseIdx k).length) : (l.eraseIdx k)[a] = l[if a < k then a else a + 1]'(by rw [List.length_eraseIdx_of_lt hk] at ha; split <;> omega) := by
  rw [List.getElem_eraseIdx]
  split <;> rfl
end Go.Proofs.Ytdhlndpobpdfmaa
