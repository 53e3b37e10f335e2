import Derived.Test.YtbaelhehjepepaaKMem
namespace Go.Proofs.Ytbaelhehjepepaa
open Go.RowKit
set_option linter.unusedSimpArgs false
theorem infoAt : (Try.prog.info? 40).map (fun i => (i.zero, i.size, i.bytes)) = some (some (.agg #[.int .i64 0, .int .i64 0, .string ⟨#[]⟩]), 3, 32) := by kernel_rfl
def zeroAt : Array Value := #[.int .i64 0, .int .i64 0, .string ⟨#[]⟩]
theorem infoAt' : ∃ i, Try.prog.info? 40 = some i ∧ i.zero = some (.agg zeroAt) ∧ i.size = 3 ∧ i.bytes = 32 := by
  obtain ⟨i, hi, hzz⟩ := Option.map_eq_some_iff.1 infoAt
  simp only [Prod.mk.injEq] at hzz
  exact ⟨i, hi, hzz⟩
theorem run_makeAt (n : Nat) (hn : n ≤ 1048576) (w : World) :
    (Instr.makeSlice 26 (.int .i64 (n : Int)) (.int .i64 (n : Int))).run Try.prog w = .ok (.slice (some ⟨w.heap.size, 0, none⟩) n n) (w.alloc (.cells (madeCells zeroAt (n * 3)) 40)) := by
  obtain ⟨i, hi, hz, hs, hb⟩ := infoAt'
  have hr := run_make (P := Try.prog) w 26 40 i _ Try.underlying26 hi hz .i64 .i64 n n (by omega) (Int.le_refl _) (by rw [hb]; omega) (by omega)
  rw [hr, hs]
  simp only [Int.toNat_natCast]
  rfl
theorem rowIs_madeAt (w : World) (n : Nat) (t : TypeId) : ∃ f, (w.alloc (.cells (madeCells zeroAt (n * 3)) t)).rowIs w.heap.size t (n * 3) f :=
  ⟨fun i => (madeCells zeroAt (n * 3)).getD i default, by
    have := World.rowIs_alloc w (madeCells zeroAt (n * 3)) t (fun i => (madeCells zeroAt (n * 3)).getD i default) (fun i h => by rw [Array.getElem?_eq_getElem h]; simp [Array.getD, h])
    rwa [size_madeCells] at this⟩
/-- the first k of l are done -/
def DoneA (wr : World) (b k : Nat) (l : List At) : Prop := ∃ f, wr.rowIs b 40 (l.length * 3) f ∧ ∀ m, m < k * 3 → f m = atF l m
theorem DoneA.step {w1 : World} {b k : Nat} {l : List At} {f : Nat → Value} (hf : w1.rowIs b 40 (l.length * 3) f) (hd : ∀ m, m < k * 3 → f m = atF l m) (hk : k < l.length) :
    DoneA (((w1.setCell ⟨b, k * 3, none⟩ (.int .i64 l[k].k)).setCell ⟨b, k * 3 + 1, none⟩ (.int .i64 l[k].n)).setCell ⟨b, k * 3 + 2, none⟩ (.string ⟨l[k].t.toArray⟩)) b (k + 1) l := by
  refine ⟨_, ((hf.set (k * 3) _).set (k * 3 + 1) _).set (k * 3 + 2) _, fun m hm => ?_⟩
  rcases (by omega : m < k * 3 ∨ m = k * 3 ∨ m = k * 3 + 1 ∨ m = k * 3 + 2) with h | rfl | rfl | rfl
  · simp only [show ¬ m = k * 3 + 2 by omega, show ¬ m = k * 3 + 1 by omega, show ¬ m = k * 3 by omega, if_false]
    exact hd m h
  · simp [atF0 hk]
  · simp [atF1 hk]
  · simp [atF2 hk]
end Go.Proofs.Ytbaelhehjepepaa
