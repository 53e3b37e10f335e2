import Derived.Test.YtfoimmnfpheoiaaZbg
import Derived.Laws.EntriesVeiled
namespace Go.Proofs.Ytfoimmnfpheoiaa
open Go.RowKit
set_option linter.unusedSimpArgs false
def Num (a : Int) : Prop := -1000000000 ≤ a ∧ a ≤ 1000000000
theorem num_add {a b : Int} (ha : Num a) (hb : Num b) : IntKind.i64.wrap (a + b) = a + b := by unfold Num at ha hb; rw [IntKind.wrap_i64]; omega
theorem num_sub {a b : Int} (ha : Num a) (hb : Num b) : IntKind.i64.wrap (a - b) = a - b := by unfold Num at ha hb; rw [IntKind.wrap_i64]; omega
theorem num_mul {a b : Int} (ha : Num a) (hb : Num b) : IntKind.i64.wrap (a * b) = a * b := by
  unfold Num at ha hb
  have h := Int.natAbs_mul a b
  have h2 : a.natAbs * b.natAbs ≤ 1000000000 * 1000000000 := Nat.mul_le_mul (by omega) (by omega)
  generalize a * b = p at *
  generalize a.natAbs * b.natAbs = r at *
  rw [IntKind.wrap_i64]; omega
theorem num_div {a b : Int} (ha : Num a) : IntKind.i64.wrap (a.tdiv b) = a.tdiv b := by
  unfold Num at ha
  have h := Int.natAbs_tdiv a b
  have h2 : a.natAbs.div b.natAbs ≤ a.natAbs := Nat.div_le_self _ _
  generalize a.tdiv b = p at *
  generalize a.natAbs.div b.natAbs = r at *
  rw [IntKind.wrap_i64]; omega
theorem num_mod {a b : Int} (ha : Num a) : IntKind.i64.wrap (a.tmod b) = a.tmod b := by
  unfold Num at ha
  have h : (a.tmod b).natAbs = a.natAbs % b.natAbs := Int.natAbs_tmod a b
  have h2 : a.natAbs % b.natAbs ≤ a.natAbs := Nat.mod_le _ _
  generalize a.tmod b = p at *
  generalize a.natAbs % b.natAbs = r at *
  rw [IntKind.wrap_i64]; omega
set_option maxHeartbeats 1600000 in
theorem numberI (n : Int) (w : World) : Calls Try.prog 25 #[.int .i64 n] w fun e w' => e = .returned (.bool (inB (-1000000000) n 1000000000)) ∧ w' = w := by
  go_enter Try.func25, Try.ntmps25
  go_wp2
  all_goals
    go_ret
    refine ⟨ret_b ?_, rfl⟩
    rw [Bool.eq_iff_iff]; simp [inB]; try omega
set_option maxHeartbeats 800000 in
theorem wk1I (n b : Int) (pb : Nat) (w : World) (hp : w.cell? ⟨pb, 0, none⟩ = some (.int .i64 b)) (hn : Num n) (hb : Num b) :
    Calls Try.prog 52 #[.int .i64 n, .pointer (some ⟨pb, 0, none⟩)] w fun e w' => e = .returned (.int .i64 (numR 1 n b)) ∧ w' = w := by
  have HR : Hid (numR 1 n b = n + b) := rfl
  have hw := num_add hn hb
  clear hn hb
  go_enter Try.func52, Try.ntmps52
  go_wp2_with fail
  go_ret
  exact ⟨ret_i HR.out.symm, rfl⟩
set_option maxHeartbeats 800000 in
theorem wk2I (n b : Int) (pb : Nat) (w : World) (hp : w.cell? ⟨pb, 0, none⟩ = some (.int .i64 b)) (hn : Num n) (hb : Num b) :
    Calls Try.prog 53 #[.int .i64 n, .pointer (some ⟨pb, 0, none⟩)] w fun e w' => e = .returned (.int .i64 (numR 2 n b)) ∧ w' = w := by
  have HR : Hid (numR 2 n b = n - b) := rfl
  have hw := num_sub hn hb
  clear hn hb
  go_enter Try.func53, Try.ntmps53
  go_wp2_with fail
  go_ret
  exact ⟨ret_i HR.out.symm, rfl⟩
set_option maxHeartbeats 800000 in
theorem wk3I (n b : Int) (pb : Nat) (w : World) (hp : w.cell? ⟨pb, 0, none⟩ = some (.int .i64 b)) (hn : Num n) (hb : Num b) :
    Calls Try.prog 54 #[.int .i64 n, .pointer (some ⟨pb, 0, none⟩)] w fun e w' => e = .returned (.int .i64 (numR 3 n b)) ∧ w' = w := by
  have HR : Hid (numR 3 n b = n * b) := rfl
  have hw := num_mul hn hb
  clear hn hb
  go_enter Try.func54, Try.ntmps54
  go_wp2_with fail
  go_ret
  exact ⟨ret_i HR.out.symm, rfl⟩
set_option maxHeartbeats 800000 in
theorem wk4I (n b : Int) (pb : Nat) (w : World) (hp : w.cell? ⟨pb, 0, none⟩ = some (.int .i64 b)) (hn : Num n) (_hb : Num b) (h0 : b ≠ 0) :
    Calls Try.prog 55 #[.int .i64 n, .pointer (some ⟨pb, 0, none⟩)] w fun e w' => e = .returned (.int .i64 (numR 4 n b)) ∧ w' = w := by
  have HR : Hid (numR 4 n b = n.tdiv b) := rfl
  have hw := num_div (b := b) hn
  have h1 : (b == 0) = false := by simpa using h0
  clear hn
  go_enter Try.func55, Try.ntmps55
  go_wp2_with fail
  go_ret
  exact ⟨ret_i HR.out.symm, rfl⟩
set_option maxHeartbeats 800000 in
theorem wk5I (n b : Int) (pb : Nat) (w : World) (hp : w.cell? ⟨pb, 0, none⟩ = some (.int .i64 b)) (hn : Num n) (_hb : Num b) (h0 : b ≠ 0) :
    Calls Try.prog 56 #[.int .i64 n, .pointer (some ⟨pb, 0, none⟩)] w fun e w' => e = .returned (.int .i64 (numR 5 n b)) ∧ w' = w := by
  have HR : Hid (numR 5 n b = n.tmod b) := rfl
  have hw := num_mod (b := b) hn
  have h1 : (b == 0) = false := by simpa using h0
  clear hn
  go_enter Try.func56, Try.ntmps56
  go_wp2_with fail
  go_ret
  exact ⟨ret_i HR.out.symm, rfl⟩
theorem cell_kept {w w' : World} {b o : Nat} {v : Value} (h : w.cell? ⟨b, o, none⟩ = some v) (hB : Below w.heap.size w w') : w'.cell? ⟨b, o, none⟩ = some v := (hB.cell (p := ⟨b, o, none⟩) (World.block_lt_of_cell? _ _ h)).trans h
set_option maxHeartbeats 3200000 in
theorem work1I (b : Int) (w : World) : Calls Try.prog 45 #[.int .i64 1, .int .i64 b] w fun e w' => e = .returned (.agg #[.bool (!cantB 1 b), .func (.func 52) #[] #[.pointer (some ⟨w.heap.size, 0, none⟩)]]) ∧ w'.cell? ⟨w.heap.size, 0, none⟩ = some (.int .i64 b) ∧ Below w.heap.size w w' := by
  have hbx := boxD 3 w #[.int .i64 b]
  have x0 := cell_at (o := 0) hbx.1 rfl
  clear hbx
  go_enter Try.func45, Try.ntmps45
  go_wp2_with fail
  refine bodyPost_ret (v := .agg #[.bool (true), .func (.func 52) #[] #[.pointer (some ⟨w.heap.size, 0, none⟩)]]) (by simp [results, Try.results45, go_sem, *]) rfl ?_
  exact ⟨rfl, cell_at (o := 0) (heap_keptD (heap_newD _ _) (below_allocD _ _)) rfl, (below_allocD _ _).trans ((below_allocD _ _).mono (by simp))⟩
set_option maxHeartbeats 3200000 in
theorem work2I (b : Int) (w : World) : Calls Try.prog 45 #[.int .i64 2, .int .i64 b] w fun e w' => e = .returned (.agg #[.bool (!cantB 2 b), .func (.func 53) #[] #[.pointer (some ⟨w.heap.size, 0, none⟩)]]) ∧ w'.cell? ⟨w.heap.size, 0, none⟩ = some (.int .i64 b) ∧ Below w.heap.size w w' := by
  have hbx := boxD 3 w #[.int .i64 b]
  have x0 := cell_at (o := 0) hbx.1 rfl
  clear hbx
  go_enter Try.func45, Try.ntmps45
  go_wp2_with fail
  refine bodyPost_ret (v := .agg #[.bool (true), .func (.func 53) #[] #[.pointer (some ⟨w.heap.size, 0, none⟩)]]) (by simp [results, Try.results45, go_sem, *]) rfl ?_
  exact ⟨rfl, cell_at (o := 0) (heap_keptD (heap_newD _ _) (below_allocD _ _)) rfl, (below_allocD _ _).trans ((below_allocD _ _).mono (by simp))⟩
set_option maxHeartbeats 3200000 in
theorem work3I (b : Int) (w : World) : Calls Try.prog 45 #[.int .i64 3, .int .i64 b] w fun e w' => e = .returned (.agg #[.bool (!cantB 3 b), .func (.func 54) #[] #[.pointer (some ⟨w.heap.size, 0, none⟩)]]) ∧ w'.cell? ⟨w.heap.size, 0, none⟩ = some (.int .i64 b) ∧ Below w.heap.size w w' := by
  have hbx := boxD 3 w #[.int .i64 b]
  have x0 := cell_at (o := 0) hbx.1 rfl
  clear hbx
  go_enter Try.func45, Try.ntmps45
  go_wp2_with fail
  refine bodyPost_ret (v := .agg #[.bool (true), .func (.func 54) #[] #[.pointer (some ⟨w.heap.size, 0, none⟩)]]) (by simp [results, Try.results45, go_sem, *]) rfl ?_
  exact ⟨rfl, cell_at (o := 0) (heap_keptD (heap_newD _ _) (below_allocD _ _)) rfl, (below_allocD _ _).trans ((below_allocD _ _).mono (by simp))⟩
set_option maxHeartbeats 3200000 in
theorem work4I (b : Int) (w : World) : Calls Try.prog 45 #[.int .i64 4, .int .i64 b] w fun e w' => e = .returned (.agg #[.bool (!cantB 4 b), .func (.func 55) #[] #[.pointer (some ⟨w.heap.size, 0, none⟩)]]) ∧ w'.cell? ⟨w.heap.size, 0, none⟩ = some (.int .i64 b) ∧ Below w.heap.size w w' := by
  have hbx := boxD 3 w #[.int .i64 b]
  have x0 := cell_at (o := 0) hbx.1 rfl
  clear hbx
  go_enter Try.func45, Try.ntmps45
  go_wp2_with fail
  refine bodyPost_ret (v := .agg #[.bool (b != 0), .func (.func 55) #[] #[.pointer (some ⟨w.heap.size, 0, none⟩)]]) (by simp [results, Try.results45, go_sem, *]) rfl ?_
  exact ⟨by unfold cantB; rw [decide_eq_true (by omega), Bool.true_and]; rfl, cell_at (o := 0) (heap_keptD (heap_newD _ _) (below_allocD _ _)) rfl, (below_allocD _ _).trans ((below_allocD _ _).mono (by simp))⟩
set_option maxHeartbeats 3200000 in
theorem work5I (b : Int) (w : World) : Calls Try.prog 45 #[.int .i64 5, .int .i64 b] w fun e w' => e = .returned (.agg #[.bool (!cantB 5 b), .func (.func 56) #[] #[.pointer (some ⟨w.heap.size, 0, none⟩)]]) ∧ w'.cell? ⟨w.heap.size, 0, none⟩ = some (.int .i64 b) ∧ Below w.heap.size w w' := by
  have hbx := boxD 3 w #[.int .i64 b]
  have x0 := cell_at (o := 0) hbx.1 rfl
  clear hbx
  go_enter Try.func45, Try.ntmps45
  go_wp2_with fail
  refine bodyPost_ret (v := .agg #[.bool (b != 0), .func (.func 56) #[] #[.pointer (some ⟨w.heap.size, 0, none⟩)]]) (by simp [results, Try.results45, go_sem, *]) rfl ?_
  exact ⟨by unfold cantB; rw [decide_eq_true (by omega), Bool.true_and]; rfl, cell_at (o := 0) (heap_keptD (heap_newD _ _) (below_allocD _ _)) rfl, (below_allocD _ _).trans ((below_allocD _ _).mono (by simp))⟩
end Go.Proofs.Ytfoimmnfpheoiaa
