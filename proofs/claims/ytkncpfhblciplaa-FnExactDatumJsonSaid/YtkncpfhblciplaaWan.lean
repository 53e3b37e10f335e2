import Derived.Test.YtkncpfhblciplaaWam
namespace Go.Proofs.Ytkncpfhblciplaa
open Go.RowKit
set_option linter.unusedSimpArgs false
set_option maxHeartbeats 800000 in
theorem toAtom (x : At) (w : World) :
    Calls Try.prog 10 #[.agg #[.int .i64 x.k, .int .i64 x.n, .string ⟨x.t.toArray⟩]] w fun e w' => e = .returned (.agg #[.int .i64 x.k, .int .i64 x.n, .string ⟨x.t.toArray⟩]) ∧ Below w.heap.size w w' := by
  go_enter Try.func10, Try.ntmps10
  go_wp2_with fail
  exact bodyPost_ret (v := .agg #[.int .i64 x.k, .int .i64 x.n, .string ⟨x.t.toArray⟩]) (by simp [results, Try.results10, go_sem]) rfl ⟨rfl, (((Below.refl _ _).alloc (Nat.le_refl _) _).alloc (by simp) _).alloc (by simp; omega) _⟩
theorem infoAt : (Try.prog.info? 31).map (fun i => (i.zero, i.size, i.bytes)) = some (some (.agg #[.int .i64 0, .int .i64 0, .string ⟨#[]⟩]), 3, 32) := by kernel_rfl
def zeroAt : Array Value := #[.int .i64 0, .int .i64 0, .string ⟨#[]⟩]
theorem infoAt' : ∃ i, Try.prog.info? 31 = some i ∧ i.zero = some (.agg zeroAt) ∧ i.size = 3 ∧ i.bytes = 32 := by
  obtain ⟨i, hi, hzz⟩ := Option.map_eq_some_iff.1 infoAt
  simp only [Prod.mk.injEq] at hzz
  exact ⟨i, hi, hzz⟩
theorem run_makeAt (n : Nat) (hn : n ≤ 1048576) (w : World) :
    (Instr.makeSlice 48 (.int .i64 (n : Int)) (.int .i64 (n : Int))).run Try.prog w = .ok (.slice (some ⟨w.heap.size, 0, none⟩) n n) (w.alloc (.cells (madeCells zeroAt (n * 3)) 31)) := by
  obtain ⟨i, hi, hz, hs, hb⟩ := infoAt'
  have hr := run_make (P := Try.prog) w 48 31 i _ Try.underlying48 hi hz .i64 .i64 n n (by omega) (Int.le_refl _) (by rw [hb]; omega) (by omega)
  rw [hr, hs]
  simp only [Int.toNat_natCast]
  rfl
theorem rowIs_madeAt (w : World) (n : Nat) (t : TypeId) : ∃ f, (w.alloc (.cells (madeCells zeroAt (n * 3)) t)).rowIs w.heap.size t (n * 3) f :=
  ⟨fun i => (madeCells zeroAt (n * 3)).getD i default, by
    have := World.rowIs_alloc w (madeCells zeroAt (n * 3)) t (fun i => (madeCells zeroAt (n * 3)).getD i default) (fun i h => by rw [Array.getElem?_eq_getElem h]; simp [Array.getD, h])
    rwa [size_madeCells] at this⟩
def DoneA (wr : World) (b k : Nat) (l : List At) : Prop := ∃ f, wr.rowIs b 31 (l.length * 3) f ∧ ∀ m, m < k * 3 → f m = atF l m
theorem DoneA.step {w1 : World} {b k : Nat} {l : List At} {f : Nat → Value} (hf : w1.rowIs b 31 (l.length * 3) f) (hd : ∀ m, m < k * 3 → f m = atF l m) (hk : k < l.length) :
    DoneA (((w1.setCell ⟨b, k * 3, none⟩ (.int .i64 l[k].k)).setCell ⟨b, k * 3 + 1, none⟩ (.int .i64 l[k].n)).setCell ⟨b, k * 3 + 2, none⟩ (.string ⟨l[k].t.toArray⟩)) b (k + 1) l := by
  refine ⟨_, ((hf.set (k * 3) _).set (k * 3 + 1) _).set (k * 3 + 2) _, fun m hm => ?_⟩
  rcases (by omega : m < k * 3 ∨ m = k * 3 ∨ m = k * 3 + 1 ∨ m = k * 3 + 2) with h | rfl | rfl | rfl
  · simp only [show ¬ m = k * 3 + 2 by omega, show ¬ m = k * 3 + 1 by omega, show ¬ m = k * 3 by omega, if_false]
    exact hd m h
  · simp [atF0 hk]
  · simp [atF1 hk]
  · simp [atF2 hk]
set_option maxHeartbeats 800000 in
theorem toAtoms (l : List At) (a : Option Addr) (c : Nat) (S : Nat) (w : World) (hw : S ≤ w.heap.size) (hl : l.length ≤ 1048576) (hS : Ats w (· < S) a l) :
    Calls Try.prog 22 #[.slice a l.length c] w fun e w' => e = .returned (.slice (some ⟨w.heap.size, 0, none⟩) l.length l.length) ∧ OwnAts w' (fun b => w.heap.size ≤ b ∧ b < w'.heap.size) (some ⟨w.heap.size, 0, none⟩) l ∧ Below w.heap.size w w' := by
  have HS : Hid (Ats w (· < S) a l) := hS
  clear hS
  have hmk := run_makeAt l.length hl
  go_enter Try.func22, Try.ntmps22
  go_wp2_with fail
  clear hmk
  go_loopw [4] (fun i wr => ∃ k : Nat, k ≤ l.length ∧ i = .int .i64 k ∧ Below w.heap.size w wr ∧ Hid (DoneA wr w.heap.size k l)) (fun i _ => l.length - (intOf i).toNat)
  case atStart =>
    refine ⟨0, Nat.zero_le _, rfl, (Below.refl _ _).alloc (Nat.le_refl _) _, ?_⟩
    obtain ⟨f, hf⟩ := rowIs_madeAt w l.length 31
    exact ⟨f, hf, fun m h => absurd h (by omega)⟩
  case round =>
    obtain ⟨k, hk, rfl, hB, HD⟩ := hrel
    by_cases hlt : k < l.length
    · obtain ⟨b, off, rfl, -, c0, c1, c2⟩ := (HS.out.below (hB.mono hw)).item k hlt
      obtain ⟨f, hf, hd⟩ := HD.out
      have HF : Hid (wr.rowIs w.heap.size 31 (l.length * 3) f ∧ ∀ m, m < k * 3 → f m = atF l m) := ⟨hf, hd⟩
      have HST : Hid (∀ w1, Below wr.heap.size wr w1 → DoneA (((w1.setCell ⟨w.heap.size, k * 3, none⟩ (.int .i64 l[k].k)).setCell ⟨w.heap.size, k * 3 + 1, none⟩ (.int .i64 l[k].n)).setCell ⟨w.heap.size, k * 3 + 2, none⟩ (.string ⟨l[k].t.toArray⟩)) w.heap.size (k + 1) l) := fun w1 hB1 => DoneA.step (hf.of_block (hB1.block _ hf.lt)) hd hlt
      clear hf hd
      generalize l[k] = x at *
      go_wp2_with (go_at_call 10; refine (toAtom x _).mono ?_; rintro e w1 ⟨rfl, hB1⟩; have hf1 := HF.out.1.of_block (hB1.block _ HF.out.1.lt); have e0 := hf1.cell (i := k * 3) (by omega); have e1 := hf1.cell (i := k * 3 + 1) (by omega); have e2 := hf1.cell (i := k * 3 + 2) (by omega); have z0 := hf1.frozen (k * 3); have z1 := hf1.frozen (k * 3 + 1); have z2 := hf1.frozen (k * 3 + 2); have HW : Hid (Below w.heap.size w w1 ∧ DoneA _ _ _ _) := ⟨hB.trans (hB1.mono hB.size), HST.out w1 hB1⟩; clear hB1 hf1)
      go_roundw
      case rel => exact ⟨k + 1, by omega, by go_num, ((HW.out.1.setCell (Nat.le_refl _) _).setCell (Nat.le_refl _) _).setCell (Nat.le_refl _) _, HW.out.2⟩
      case measure => simp [intOf]; omega
    · have hk' : k = l.length := by omega
      go_wp2_with fail
      go_ret
      refine ⟨rfl, ?_, hB⟩
      obtain ⟨f, hf, hd⟩ := HD.out
      refine .inr ⟨_, 0, rfl, ⟨Nat.le_refl _, hf.lt⟩, fun m hm => ⟨?_, by rw [Nat.zero_add]; exact hf.frozen m⟩⟩
      rw [Nat.zero_add, hf.cell hm, hd m (by omega)]
set_option maxHeartbeats 800000 in
theorem eqAtom (x : At) (w : World) :
    Calls Try.prog 19 #[.agg #[.int .i64 x.k, .int .i64 x.n, .string ⟨x.t.toArray⟩], .agg #[.int .i64 x.k, .int .i64 x.n, .string ⟨x.t.toArray⟩]] w fun e w' => e = .returned (.bool true) ∧ Below w.heap.size w w' := by
  go_enter Try.func19, Try.ntmps19
  go_wp2_with fail
  go_ret
  exact ⟨rfl, ((Below.refl _ _).alloc (Nat.le_refl _) _).alloc (by simp) _⟩
set_option maxHeartbeats 1600000 in
theorem eqAtoms (l : List At) (a a' : Option Addr) (c c' : Nat) (A B : Nat → Prop) (w : World) (hl : l.length ≤ maxLen) (hA : Ats w A a l) (hB : Ats w B a' l) :
    Calls Try.prog 24 #[.slice a l.length c, .slice a' l.length c'] w fun e w' => e = .returned (.bool true) ∧ Below w.heap.size w w' := by
  unfold maxLen at hl
  have HA : Hid (Ats w A a l) := hA
  have HB : Hid (Ats w B a' l) := hB
  clear hA hB
  go_enter Try.func24, Try.ntmps24
  go_wp2_with fail
  go_loopw [5] (fun i wr => ∃ k : Nat, k ≤ l.length ∧ i = .int .i64 k ∧ Hid (Below w.heap.size w wr)) (fun i _ => l.length - (intOf i).toNat)
  case atStart => exact ⟨0, Nat.zero_le _, rfl, Below.refl _ _⟩
  case round =>
    obtain ⟨k, hk, rfl, HW⟩ := hrel
    by_cases hlt : k < l.length
    · obtain ⟨b, off, rfl, -, c0, c1, c2⟩ := (HA.out.later HW.out).item k hlt
      obtain ⟨b', off', rfl, -, d0, d1, d2⟩ := (HB.out.later HW.out).item k hlt
      generalize l[k] = x at *
      have hki : (k : Int) < (l.length : Int) := by omega
      go_wp2_with fail
      go_region_with (go_at_call 19; refine (eqAtom x _).mono ?_; rintro e w1 ⟨rfl, hB1⟩)
      all_goals
        go_wp2_with fail
        go_roundw
        case rel => exact ⟨k + 1, by omega, by go_num, HW.out.trans ((Below.refl _ _).drew.trans (hB1.mono (by first | exact HW.out.size | (have := HW.out.size; simpa using this))))⟩
        case measure => simp [intOf]; omega
    · have hki : decide ((k : Int) < (l.length : Int)) = false := by simp; omega
      go_wp2_with fail
      go_ret
      exact ⟨rfl, HW.out⟩
end Go.Proofs.Ytkncpfhblciplaa
