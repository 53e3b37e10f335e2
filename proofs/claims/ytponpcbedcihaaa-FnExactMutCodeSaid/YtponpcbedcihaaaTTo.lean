import Derived.Test.YtponpcbedcihaaaTMem
namespace Go.Proofs.Ytponpcbedcihaaa
open Go.RowKit
set_option linter.unusedSimpArgs false
/-- a row that can be written -/
def OwnRw (w : World) (B : Nat → Prop) (a : Option Addr) (n : Nat) (f : Nat → Value) : Prop :=
  n = 0 ∨ ∃ b off, a = some ⟨b, off, none⟩ ∧ B b ∧ ∀ m, m < n → w.cell? ⟨b, off + m, none⟩ = some (f m) ∧ w.frozen? ⟨b, off + m, none⟩ = false
theorem OwnRw.rw {w : World} {B : Nat → Prop} {a : Option Addr} {n : Nat} {f : Nat → Value} (h : OwnRw w B a n f) : Rw w B a n f := by
  rcases h with h | ⟨b, off, ha, hb, hc⟩
  · exact .inl h
  · exact .inr ⟨b, off, ha, hb, fun m hm => (hc m hm).1⟩
theorem OwnRw.same {w w' : World} {B B' : Nat → Prop} {a : Option Addr} {n : Nat} {f : Nat → Value} (h : OwnRw w B a n f) (hs : ∀ b, B b → w'.heap[b]? = w.heap[b]?) (hB : ∀ b, B b → B' b) : OwnRw w' B' a n f := by
  rcases h with h | ⟨b, off, ha, hb, hc⟩
  · exact .inl h
  · exact .inr ⟨b, off, ha, hB b hb, fun m hm => by
      rw [World.cell?_of_block (w := w) (a := ⟨b, off + m, none⟩) (hs b hb), World.frozen?_of_block (w := w) (a := ⟨b, off + m, none⟩) (hs b hb)]; exact hc m hm⟩
def OwnCols (w : World) (B : Nat → Prop) (a : Option Addr) (l : List Cl) : Prop := OwnRw w B a (l.length * 8) (clF l)
def OwnInts (w : World) (B : Nat → Prop) (a : Option Addr) (l : List Int) : Prop := OwnRw w B a l.length (fun m => .int .i64 (l.getD m 0))
theorem infoCl : (Try.prog.info? 65).map (fun i => (i.zero, i.size, i.bytes)) = some (some (.agg #[.string ⟨#[]⟩, .int .i64 0, .int .i64 0, .int .i64 0, .int .i64 0, .int .i64 0, .string ⟨#[]⟩, .bool false]), 8, 80) := by kernel_rfl
def zeroCl : Array Value := #[.string ⟨#[]⟩, .int .i64 0, .int .i64 0, .int .i64 0, .int .i64 0, .int .i64 0, .string ⟨#[]⟩, .bool false]
theorem infoCl' : ∃ i, Try.prog.info? 65 = some i ∧ i.zero = some (.agg zeroCl) ∧ i.size = 8 ∧ i.bytes = 80 := by
  obtain ⟨i, hi, hzz⟩ := Option.map_eq_some_iff.1 infoCl
  simp only [Prod.mk.injEq] at hzz
  exact ⟨i, hi, hzz⟩
theorem run_makeCl (n : Nat) (hn : n ≤ 1048576) (w : World) :
    (Instr.makeSlice 33 (.int .i64 (n : Int)) (.int .i64 (n : Int))).run Try.prog w = .ok (.slice (some ⟨w.heap.size, 0, none⟩) n n) (w.alloc (.cells (madeCells zeroCl (n * 8)) 65)) := by
  obtain ⟨i, hi, hz, hs, hb⟩ := infoCl'
  have hr := run_make (P := Try.prog) w 33 65 i _ Try.underlying33 hi hz .i64 .i64 n n (by omega) (Int.le_refl _) (by rw [hb]; omega) (by omega)
  rw [hr, hs]
  simp only [Int.toNat_natCast]
  rfl
theorem rowIs_made (w : World) (z : Array Value) (n : Nat) (t : TypeId) : ∃ f, (w.alloc (.cells (madeCells z n) t)).rowIs w.heap.size t n f :=
  ⟨fun i => (madeCells z n).getD i default, by
    have := World.rowIs_alloc w (madeCells z n) t (fun i => (madeCells z n).getD i default) (fun i h => by rw [Array.getElem?_eq_getElem h]; simp [Array.getD, h])
    rwa [size_madeCells] at this⟩
/-- the first k of l are done -/
def DoneC (wr : World) (b k : Nat) (l : List Cl) : Prop := ∃ f, wr.rowIs b 65 (l.length * 8) f ∧ ∀ m, m < k * 8 → f m = clF l m
def putC (w : World) (b k : Nat) (x : Cl) : World := (((((((w.setCell ⟨b, k * 8, none⟩ (.string ⟨x.nm.toArray⟩)).setCell ⟨b, k * 8 + 1, none⟩ (.int .i64 x.k)).setCell ⟨b, k * 8 + 2, none⟩ (.int .i64 x.mn)).setCell ⟨b, k * 8 + 3, none⟩ (.int .i64 x.mx)).setCell ⟨b, k * 8 + 4, none⟩ (.int .i64 x.lo)).setCell ⟨b, k * 8 + 5, none⟩ (.int .i64 x.hi)).setCell ⟨b, k * 8 + 6, none⟩ (.string ⟨x.rf.toArray⟩)).setCell ⟨b, k * 8 + 7, none⟩ (.bool x.st)
theorem DoneC.step {w1 : World} {b k : Nat} {l : List Cl} {f : Nat → Value} (hf : w1.rowIs b 65 (l.length * 8) f) (hd : ∀ m, m < k * 8 → f m = clF l m) (hk : k < l.length) : DoneC (putC w1 b k l[k]) b (k + 1) l := by
  refine ⟨_, (((((((hf.set (k * 8) _).set (k * 8 + 1) _).set (k * 8 + 2) _).set (k * 8 + 3) _).set (k * 8 + 4) _).set (k * 8 + 5) _).set (k * 8 + 6) _).set (k * 8 + 7) _, fun m hm => ?_⟩
  by_cases h : m < k * 8
  · simp only [show ¬ m = k * 8 + 7 by omega, show ¬ m = k * 8 + 6 by omega, show ¬ m = k * 8 + 5 by omega, show ¬ m = k * 8 + 4 by omega, show ¬ m = k * 8 + 3 by omega, show ¬ m = k * 8 + 2 by omega, show ¬ m = k * 8 + 1 by omega, show ¬ m = k * 8 by omega, if_false]
    exact hd m h
  · obtain ⟨j, rfl⟩ : ∃ j, m = k * 8 + j := ⟨m - k * 8, by omega⟩
    rw [clF_at hk (by omega)]
    rcases (by omega : j = 0 ∨ j = 1 ∨ j = 2 ∨ j = 3 ∨ j = 4 ∨ j = 5 ∨ j = 6 ∨ j = 7) with rfl | rfl | rfl | rfl | rfl | rfl | rfl | rfl <;> simp
theorem below_putC {w w1 : World} {S b k : Nat} {x : Cl} (h : Below S w w1) (hb : S ≤ b) : Below S w (putC w1 b k x) := (((((((h.setCell hb _).setCell hb _).setCell hb _).setCell hb _).setCell hb _).setCell hb _).setCell hb _).setCell hb _
set_option maxHeartbeats 1600000 in
theorem toColumns (l : List Cl) (a : Option Addr) (c : Nat) (B : Nat → Prop) (w : World) (hl : l.length ≤ 1048576) (hS : Cols w B a l) :
    Calls Try.prog 18 #[.slice a l.length c] w fun e w' => e = .returned (.slice (some ⟨w.heap.size, 0, none⟩) l.length l.length) ∧ OwnCols w' (fun b => w.heap.size ≤ b ∧ b < w'.heap.size) (some ⟨w.heap.size, 0, none⟩) l ∧ Below w.heap.size w w' := by
  have HS : Hid (Cols w B a l) := hS
  clear hS
  have hmk := run_makeCl l.length hl
  go_enter Try.func18, Try.ntmps18
  go_wp2_with fail
  clear hmk
  go_loopw [4] (fun i wr => ∃ k : Nat, k ≤ l.length ∧ i = .int .i64 k ∧ Below w.heap.size w wr ∧ Hid (DoneC wr w.heap.size k l)) (fun i _ => l.length - (intOf i).toNat)
  case atStart =>
    refine ⟨0, Nat.zero_le _, rfl, (Below.refl _ _).alloc (Nat.le_refl _) _, ?_⟩
    obtain ⟨f, hf⟩ := rowIs_made w zeroCl (l.length * 8) 65
    exact ⟨f, hf, fun m h => absurd h (by omega)⟩
  case round =>
    obtain ⟨k, hk, rfl, hB, HD⟩ := hrel
    by_cases hlt : k < l.length
    · obtain ⟨b, off, rfl, -, hc⟩ := (HS.out.later hB).at k hlt
      obtain ⟨c0, c1, c2, c3, c4, c5, c6, c7⟩ := hc k hlt
      clear hc
      obtain ⟨f, hf, hd⟩ := HD.out
      have HF : Hid (wr.rowIs w.heap.size 65 (l.length * 8) f) := hf
      have HST : Hid (∀ w1, Below wr.heap.size wr w1 → DoneC (putC w1 w.heap.size k l[k]) w.heap.size (k + 1) l) := fun w1 hB1 => DoneC.step (hf.of_block (hB1.block _ hf.lt)) hd hlt
      clear hf hd
      generalize l[k] = x at *
      go_wp2_with (go_at_call 34; refine (toColumn x _).mono ?_; rintro e w1 ⟨rfl, hB1⟩; have hf1 := HF.out.of_block (hB1.block _ HF.out.lt); have e0 := hf1.cell (i := k * 8) (by omega); have e1 := hf1.cell (i := k * 8 + 1) (by omega); have e2 := hf1.cell (i := k * 8 + 2) (by omega); have e3 := hf1.cell (i := k * 8 + 3) (by omega); have e4 := hf1.cell (i := k * 8 + 4) (by omega); have e5 := hf1.cell (i := k * 8 + 5) (by omega); have e6 := hf1.cell (i := k * 8 + 6) (by omega); have e7 := hf1.cell (i := k * 8 + 7) (by omega); have z0 := hf1.frozen (k * 8); have z1 := hf1.frozen (k * 8 + 1); have z2 := hf1.frozen (k * 8 + 2); have z3 := hf1.frozen (k * 8 + 3); have z4 := hf1.frozen (k * 8 + 4); have z5 := hf1.frozen (k * 8 + 5); have z6 := hf1.frozen (k * 8 + 6); have z7 := hf1.frozen (k * 8 + 7); have HW : Hid (Below w.heap.size w w1 ∧ DoneC _ _ _ _) := ⟨hB.trans (hB1.mono hB.size), HST.out w1 hB1⟩; clear hB1 hf1)
      go_roundw
      case rel => exact ⟨k + 1, by omega, by go_num, below_putC (x := x) HW.out.1 (Nat.le_refl _), HW.out.2⟩
      case measure => simp [intOf]; omega
    · have hk' : k = l.length := by omega
      go_wp2_with fail
      go_ret
      refine ⟨rfl, ?_, hB⟩
      obtain ⟨f, hf, hd⟩ := HD.out
      refine .inr ⟨_, 0, rfl, ⟨Nat.le_refl _, hf.lt⟩, fun m hm => ⟨?_, by rw [Nat.zero_add]; exact hf.frozen m⟩⟩
      rw [Nat.zero_add, hf.cell hm, hd m (by omega)]
/-! numbers -/
theorem run_makeI (n : Nat) (hn : n ≤ 1048576) (w : World) :
    (Instr.makeSlice 23 (.int .i64 (n : Int)) (.int .i64 (n : Int))).run Try.prog w = .ok (.slice (some ⟨w.heap.size, 0, none⟩) n n) (w.alloc (.cells (madeCells #[.int .i64 0] n) 3)) := by
  have hi : ∃ i, Try.prog.info? 3 = some i ∧ i.zero = some (.int .i64 0) ∧ i.size = 1 ∧ i.bytes = 8 := by
    have h : (Try.prog.info? 3).map (fun i => (i.zero, i.size, i.bytes)) = some (some (.int .i64 0), 1, 8) := by kernel_rfl
    obtain ⟨i, hi, hzz⟩ := Option.map_eq_some_iff.1 h
    simp only [Prod.mk.injEq] at hzz
    exact ⟨i, hi, hzz⟩
  obtain ⟨i, hi, hz, hs, hb⟩ := hi
  have hr := run_make (P := Try.prog) w 23 3 i _ Try.underlying23 hi hz .i64 .i64 n n (by omega) (Int.le_refl _) (by rw [hb]; omega) (by omega)
  rw [hr, hs]
  simp only [Int.toNat_natCast, Nat.mul_one]
  rfl
def DoneI (wr : World) (b k : Nat) (l : List Int) : Prop := ∃ f, wr.rowIs b 3 l.length f ∧ ∀ m, m < k → f m = .int .i64 (l.getD m 0)
theorem int_getD {l : List Int} {i : Nat} (h : i < l.length) : l.getD i 0 = l[i] := by rw [List.getD_eq_getElem?_getD, List.getElem?_eq_getElem h]; rfl
theorem DoneI.step {w1 : World} {b k : Nat} {l : List Int} {f : Nat → Value} (hf : w1.rowIs b 3 l.length f) (hd : ∀ m, m < k → f m = .int .i64 (l.getD m 0)) (hk : k < l.length) : DoneI (w1.setCell ⟨b, k, none⟩ (.int .i64 l[k])) b (k + 1) l := by
  refine ⟨_, hf.set k _, fun m hm => ?_⟩
  by_cases h : m = k
  · subst h; rw [int_getD hk]; simp
  · simp only [h, if_false]
    exact hd m (by omega)
set_option maxHeartbeats 1600000 in
theorem toInts (l : List Int) (a : Option Addr) (c : Nat) (B : Nat → Prop) (w : World) (hl : l.length ≤ 1048576) (hS : Ints w B a l) :
    Calls Try.prog 19 #[.slice a l.length c] w fun e w' => e = .returned (.slice (some ⟨w.heap.size, 0, none⟩) l.length l.length) ∧ OwnInts w' (fun b => w.heap.size ≤ b ∧ b < w'.heap.size) (some ⟨w.heap.size, 0, none⟩) l ∧ Below w.heap.size w w' := by
  have HS : Hid (Ints w B a l) := hS
  clear hS
  have hmk := run_makeI l.length hl
  go_enter Try.func19, Try.ntmps19
  go_wp2_with fail
  clear hmk
  go_loopw [4] (fun i wr => ∃ k : Nat, k ≤ l.length ∧ i = .int .i64 k ∧ Below w.heap.size w wr ∧ Hid (DoneI wr w.heap.size k l)) (fun i _ => l.length - (intOf i).toNat)
  case atStart =>
    refine ⟨0, Nat.zero_le _, rfl, (Below.refl _ _).alloc (Nat.le_refl _) _, ?_⟩
    obtain ⟨f, hf⟩ := rowIs_made w #[.int .i64 0] l.length 3
    exact ⟨f, hf, fun m h => absurd h (by omega)⟩
  case round =>
    obtain ⟨k, hk, rfl, hB, HD⟩ := hrel
    by_cases hlt : k < l.length
    · obtain ⟨b, off, rfl, -, hc⟩ := (HS.out.later hB).at k hlt
      have c0 := hc k hlt
      clear hc
      have hki : (k : Int) < (l.length : Int) := by omega
      obtain ⟨f, hf, hd⟩ := HD.out
      have HW : Hid (DoneI (wr.setCell ⟨w.heap.size, k, none⟩ (.int .i64 l[k])) w.heap.size (k + 1) l) := DoneI.step hf hd hlt
      have e0 := hf.cell (i := k) hlt
      have z0 := hf.frozen k
      clear hf hd
      generalize l[k] = x at *
      go_wp2_with fail
      go_roundw
      case rel => exact ⟨k + 1, by omega, by go_num, hB.setCell (Nat.le_refl _) _, HW⟩
      case measure => simp [intOf]; omega
    · have hk' : k = l.length := by omega
      go_wp2_with fail
      go_ret
      refine ⟨rfl, ?_, hB⟩
      obtain ⟨f, hf, hd⟩ := HD.out
      refine .inr ⟨_, 0, rfl, ⟨Nat.le_refl _, hf.lt⟩, fun m hm => ⟨?_, by rw [Nat.zero_add]; exact hf.frozen m⟩⟩
      rw [Nat.zero_add, hf.cell hm, hd m (by omega)]
end Go.Proofs.Ytponpcbedcihaaa
