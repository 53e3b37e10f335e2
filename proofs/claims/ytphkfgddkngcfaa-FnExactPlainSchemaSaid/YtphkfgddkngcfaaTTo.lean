import Derived.Test.YtphkfgddkngcfaaTMem
namespace Go.Proofs.Ytphkfgddkngcfaa
open Go.RowKit
set_option linter.unusedSimpArgs false
/-- a row that can be written -/
def OwnRw (w : World) (B : Nat → Prop) (a : Option Addr) (n : Nat) (f : Nat → Value) : Prop :=
  n = 0 ∨ ∃ b off, a = some ⟨b, off, none⟩ ∧ B b ∧ ∀ m, m < n → w.cell? ⟨b, off + m, none⟩ = some (f m) ∧ w.frozen? ⟨b, off + m, none⟩ = false
theorem OwnRw.rw {w : World} {B : Nat → Prop} {a : Option Addr} {n : Nat} {f : Nat → Value} (h : OwnRw w B a n f) : Rw w B a n f := by
  rcases h with h | ⟨b, off, ha, hb, hc⟩
  · exact .inl h
  · exact .inr ⟨b, off, ha, hb, fun m hm => (hc m hm).1⟩
theorem OwnRw.same {w w' : World} {B B' : Nat → Prop} {a : Option Addr} {n : Nat} {f : Nat → Value} (h : OwnRw w B a n f) (hs : ∀ b, B b → w'.heap[b]? = w.heap[b]?) (hB : ∀ b, B b → B' b) : OwnRw w' B' a n f := by
  rcases h with h | ⟨b, off, ha, hb, hc⟩
  · exact .inl h
  · exact .inr ⟨b, off, ha, hB b hb, fun m hm => by
      rw [World.cell?_of_block (w := w) (a := ⟨b, off + m, none⟩) (hs b hb), World.frozen?_of_block (w := w) (a := ⟨b, off + m, none⟩) (hs b hb)]; exact hc m hm⟩
def OwnCols (w : World) (B : Nat → Prop) (a : Option Addr) (l : List Cl) : Prop := OwnRw w B a (l.length * 8) (clF l)
def OwnInts (w : World) (B : Nat → Prop) (a : Option Addr) (l : List Int) : Prop := OwnRw w B a l.length (fun m => .int .i64 (l.getD m 0))
theorem infoCl : (Try.prog.info? 30).map (fun i => (i.zero, i.size, i.bytes)) = some (some (.agg #[.string ⟨#[]⟩, .int .i64 0, .int .i64 0, .int .i64 0, .int .i64 0, .int .i64 0, .string ⟨#[]⟩, .bool false]), 8, 80) := by kernel_rfl
def zeroCl : Array Value := #[.string ⟨#[]⟩, .int .i64 0, .int .i64 0, .int .i64 0, .int .i64 0, .int .i64 0, .string ⟨#[]⟩, .bool false]
theorem infoCl' : ∃ i, Try.prog.info? 30 = some i ∧ i.zero = some (.agg zeroCl) ∧ i.size = 8 ∧ i.bytes = 80 := by
  obtain ⟨i, hi, hzz⟩ := Option.map_eq_some_iff.1 infoCl
  simp only [Prod.mk.injEq] at hzz
  exact ⟨i, hi, hzz⟩
theorem run_makeCl (n : Nat) (hn : n ≤ 1048576) (w : World) :
    (Instr.makeSlice 31 (.int .i64 (n : Int)) (.int .i64 (n : Int))).run Try.prog w = .ok (.slice (some ⟨w.heap.size, 0, none⟩) n n) (w.alloc (.cells (madeCells zeroCl (n * 8)) 30)) := by
  obtain ⟨i, hi, hz, hs, hb⟩ := infoCl'
  have hr := run_make (P := Try.prog) w 31 30 i _ Try.underlying31 hi hz .i64 .i64 n n (by omega) (Int.le_refl _) (by rw [hb]; omega) (by omega)
  rw [hr, hs]
  simp only [Int.toNat_natCast]
  rfl
theorem rowIs_made (w : World) (z : Array Value) (n : Nat) (t : TypeId) : ∃ f, (w.alloc (.cells (madeCells z n) t)).rowIs w.heap.size t n f :=
  ⟨fun i => (madeCells z n).getD i default, by
    have := World.rowIs_alloc w (madeCells z n) t (fun i => (madeCells z n).getD i default) (fun i h => by rw [Array.getElem?_eq_getElem h]; simp [Array.getD, h])
    rwa [size_madeCells] at this⟩
/-- the first k of l are done -/
def DoneC (wr : World) (b k : Nat) (l : List Cl) : Prop := ∃ f, wr.rowIs b 30 (l.length * 8) f ∧ ∀ m, m < k * 8 → f m = clF l m
def putC (w : World) (b k : Nat) (x : Cl) : World := (((((((w.setCell ⟨b, k * 8, none⟩ (.string ⟨x.nm.toArray⟩)).setCell ⟨b, k * 8 + 1, none⟩ (.int .i64 x.k)).setCell ⟨b, k * 8 + 2, none⟩ (.int .i64 x.mn)).setCell ⟨b, k * 8 + 3, none⟩ (.int .i64 x.mx)).setCell ⟨b, k * 8 + 4, none⟩ (.int .i64 x.lo)).setCell ⟨b, k * 8 + 5, none⟩ (.int .i64 x.hi)).setCell ⟨b, k * 8 + 6, none⟩ (.string ⟨x.rf.toArray⟩)).setCell ⟨b, k * 8 + 7, none⟩ (.bool x.st)
theorem DoneC.step {w1 : World} {b k : Nat} {l : List Cl} {f : Nat → Value} (hf : w1.rowIs b 30 (l.length * 8) f) (hd : ∀ m, m < k * 8 → f m = clF l m) (hk : k < l.length) : DoneC (putC w1 b k l[k]) b (k + 1) l := by
  refine ⟨_, (((((((hf.set (k * 8) _).set (k * 8 + 1) _).set (k * 8 + 2) _).set (k * 8 + 3) _).set (k * 8 + 4) _).set (k * 8 + 5) _).set (k * 8 + 6) _).set (k * 8 + 7) _, fun m hm => ?_⟩
  by_cases h : m < k * 8
  · simp only [show ¬ m = k * 8 + 7 by omega, show ¬ m = k * 8 + 6 by omega, show ¬ m = k * 8 + 5 by omega, show ¬ m = k * 8 + 4 by omega, show ¬ m = k * 8 + 3 by omega, show ¬ m = k * 8 + 2 by omega, show ¬ m = k * 8 + 1 by omega, show ¬ m = k * 8 by omega, if_false]
    exact hd m h
  · obtain ⟨j, rfl⟩ : ∃ j, m = k * 8 + j := ⟨m - k * 8, by omega⟩
    rw [clF_at hk (by omega)]
    rcases (by omega : j = 0 ∨ j = 1 ∨ j = 2 ∨ j = 3 ∨ j = 4 ∨ j = 5 ∨ j = 6 ∨ j = 7) with rfl | rfl | rfl | rfl | rfl | rfl | rfl | rfl <;> simp
theorem below_putC {w w1 : World} {S b k : Nat} {x : Cl} (h : Below S w w1) (hb : S ≤ b) : Below S w (putC w1 b k x) := (((((((h.setCell hb _).setCell hb _).setCell hb _).setCell hb _).setCell hb _).setCell hb _).setCell hb _).setCell hb _
/-! numbers -/
theorem run_makeI (n : Nat) (hn : n ≤ 1048576) (w : World) :
    (Instr.makeSlice 32 (.int .i64 (n : Int)) (.int .i64 (n : Int))).run Try.prog w = .ok (.slice (some ⟨w.heap.size, 0, none⟩) n n) (w.alloc (.cells (madeCells #[.int .i64 0] n) 3)) := by
  have hi : ∃ i, Try.prog.info? 3 = some i ∧ i.zero = some (.int .i64 0) ∧ i.size = 1 ∧ i.bytes = 8 := by
    have h : (Try.prog.info? 3).map (fun i => (i.zero, i.size, i.bytes)) = some (some (.int .i64 0), 1, 8) := by kernel_rfl
    obtain ⟨i, hi, hzz⟩ := Option.map_eq_some_iff.1 h
    simp only [Prod.mk.injEq] at hzz
    exact ⟨i, hi, hzz⟩
  obtain ⟨i, hi, hz, hs, hb⟩ := hi
  have hr := run_make (P := Try.prog) w 32 3 i _ Try.underlying32 hi hz .i64 .i64 n n (by omega) (Int.le_refl _) (by rw [hb]; omega) (by omega)
  rw [hr, hs]
  simp only [Int.toNat_natCast, Nat.mul_one]
  rfl
def DoneI (wr : World) (b k : Nat) (l : List Int) : Prop := ∃ f, wr.rowIs b 3 l.length f ∧ ∀ m, m < k → f m = .int .i64 (l.getD m 0)
theorem int_getD {l : List Int} {i : Nat} (h : i < l.length) : l.getD i 0 = l[i] := by rw [List.getD_eq_getElem?_getD, List.getElem?_eq_getElem h]; rfl
theorem DoneI.step {w1 : World} {b k : Nat} {l : List Int} {f : Nat → Value} (hf : w1.rowIs b 3 l.length f) (hd : ∀ m, m < k → f m = .int .i64 (l.getD m 0)) (hk : k < l.length) : DoneI (w1.setCell ⟨b, k, none⟩ (.int .i64 l[k])) b (k + 1) l := by
  refine ⟨_, hf.set k _, fun m hm => ?_⟩
  by_cases h : m = k
  · subst h; rw [int_getD hk]; simp
  · simp only [h, if_false]
    exact hd m (by omega)
end Go.Proofs.Ytphkfgddkngcfaa
