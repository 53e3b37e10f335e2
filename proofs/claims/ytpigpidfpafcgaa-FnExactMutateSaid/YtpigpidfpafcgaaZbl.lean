import Derived.Test.YtpigpidfpafcgaaZbk
import Derived.Laws.EntriesVeiled
namespace Go.Proofs.Ytpigpidfpafcgaa
open Go.RowKit
set_option linter.unusedSimpArgs false
def Num (a : Int) : Prop := -1000000000 ≤ a ∧ a ≤ 1000000000
theorem ret_ib2 {n m : Int} {a b : Bool} (h : n = m) (h' : a = b) : Ending.returned (.tuple #[.int .i64 n, .bool a]) = .returned (.tuple #[.int .i64 m, .bool b]) := by rw [h, h']
theorem num_add {a b : Int} (ha : Num a) (hb : Num b) : IntKind.i64.wrap (a + b) = a + b := by unfold Num at ha hb; rw [IntKind.wrap_i64]; omega
theorem num_sub {a b : Int} (ha : Num a) (hb : Num b) : IntKind.i64.wrap (a - b) = a - b := by unfold Num at ha hb; rw [IntKind.wrap_i64]; omega
theorem num_mul {a b : Int} (ha : Num a) (hb : Num b) : IntKind.i64.wrap (a * b) = a * b := by
  unfold Num at ha hb
  have h := Int.natAbs_mul a b
  have h2 : a.natAbs * b.natAbs ≤ 1000000000 * 1000000000 := Nat.mul_le_mul (by omega) (by omega)
  generalize a * b = p at *
  generalize a.natAbs * b.natAbs = r at *
  rw [IntKind.wrap_i64]; omega
theorem num_div {a b : Int} (ha : Num a) : IntKind.i64.wrap (a.tdiv b) = a.tdiv b := by
  unfold Num at ha
  have h := Int.natAbs_tdiv a b
  have h2 : a.natAbs.div b.natAbs ≤ a.natAbs := Nat.div_le_self _ _
  generalize a.tdiv b = p at *
  generalize a.natAbs.div b.natAbs = r at *
  rw [IntKind.wrap_i64]; omega
theorem num_mod {a b : Int} (ha : Num a) : IntKind.i64.wrap (a.tmod b) = a.tmod b := by
  unfold Num at ha
  have h : (a.tmod b).natAbs = a.natAbs % b.natAbs := Int.natAbs_tmod a b
  have h2 : a.natAbs % b.natAbs ≤ a.natAbs := Nat.mod_le _ _
  generalize a.tmod b = p at *
  generalize a.natAbs % b.natAbs = r at *
  rw [IntKind.wrap_i64]; omega
set_option maxHeartbeats 1600000 in
theorem numS (f a b : Int) (w : World) (hf : 1 ≤ f ∧ f ≤ 5) (ha : Num a) (hb : Num b) :
    Calls Try.prog 40 #[.int .i64 f, .int .i64 a, .int .i64 b] w fun e w' => e = .returned (.tuple #[.int .i64 (numV f a b), .bool (numK f a b)]) ∧ w' = w := by
  rcases (by omega : f = 1 ∨ f = 2 ∨ f = 3 ∨ f = 4 ∨ f = 5) with rfl | rfl | rfl | rfl | rfl
  · have HV : Hid (numV 1 a b = a + b) := rfl
    have HK : Hid (numK 1 a b = inB (-1000000000) (a + b) 1000000000) := rfl
    have hw := num_add ha hb
    clear ha hb hf
    have IN := Lib.hid (fun W => inS (a + b) (-1000000000) 1000000000 W)
    go_enter Try.func40, Try.ntmps40
    go_wp2_with fail
    refine (IN.out _).mono ?_
    rintro e w1 ⟨rfl, rfl⟩
    go_wp2_with fail
    go_ret2
    exact ⟨ret_ib2 HV.out.symm HK.out.symm, rfl⟩
  · have HV : Hid (numV 2 a b = a - b) := rfl
    have HK : Hid (numK 2 a b = inB (-1000000000) (a - b) 1000000000) := rfl
    have hw := num_sub ha hb
    clear ha hb hf
    have IN := Lib.hid (fun W => inS (a - b) (-1000000000) 1000000000 W)
    go_enter Try.func40, Try.ntmps40
    go_wp2_with fail
    refine (IN.out _).mono ?_
    rintro e w1 ⟨rfl, rfl⟩
    go_wp2_with fail
    go_ret2
    exact ⟨ret_ib2 HV.out.symm HK.out.symm, rfl⟩
  · have HV : Hid (numV 3 a b = a * b) := rfl
    have HK : Hid (numK 3 a b = inB (-1000000000) (a * b) 1000000000) := rfl
    have hw := num_mul ha hb
    clear ha hb hf
    have IN := Lib.hid (fun W => inS (a * b) (-1000000000) 1000000000 W)
    go_enter Try.func40, Try.ntmps40
    go_wp2_with fail
    refine (IN.out _).mono ?_
    rintro e w1 ⟨rfl, rfl⟩
    go_wp2_with fail
    go_ret2
    exact ⟨ret_ib2 HV.out.symm HK.out.symm, rfl⟩
  · by_cases h0 : b = 0
    · subst h0
      go_enter Try.func40, Try.ntmps40
      go_wp2_with fail
      go_ret2
      exact ⟨rfl, rfl⟩
    · have h1 : (b == 0) = false := by simpa using h0
      have HV : Hid (numV 4 a b = a.tdiv b) := by show numV 4 a b = _; unfold numV cantB; rw [h1]; rfl
      have HK : Hid (numK 4 a b = inB (-1000000000) (a.tdiv b) 1000000000) := by show numK 4 a b = _; unfold numK cantB; rw [h1]; rfl
      have hw : IntKind.i64.wrap (a.tdiv b) = a.tdiv b := num_div ha
      clear ha hb hf
      have IN := Lib.hid (fun W => inS (a.tdiv b) (-1000000000) 1000000000 W)
      go_enter Try.func40, Try.ntmps40
      go_wp2_with fail
      refine (IN.out _).mono ?_
      rintro e w1 ⟨rfl, rfl⟩
      go_wp2_with fail
      go_ret2
      exact ⟨ret_ib2 HV.out.symm HK.out.symm, rfl⟩
  · by_cases h0 : b = 0
    · subst h0
      go_enter Try.func40, Try.ntmps40
      go_wp2_with fail
      go_ret2
      exact ⟨rfl, rfl⟩
    · have h1 : (b == 0) = false := by simpa using h0
      have HV : Hid (numV 5 a b = a.tmod b) := by show numV 5 a b = _; unfold numV cantB; rw [h1]; rfl
      have HK : Hid (numK 5 a b = inB (-1000000000) (a.tmod b) 1000000000) := by show numK 5 a b = _; unfold numK cantB; rw [h1]; rfl
      have hw : IntKind.i64.wrap (a.tdiv b) = a.tdiv b := num_div ha
      have hw2 : IntKind.i64.wrap (a.tmod b) = a.tmod b := num_mod ha
      clear ha hb hf
      have IN := Lib.hid (fun W => inS (a.tmod b) (-1000000000) 1000000000 W)
      go_enter Try.func40, Try.ntmps40
      go_wp2_with fail
      refine (IN.out _).mono ?_
      rintro e w1 ⟨rfl, rfl⟩
      go_wp2_with fail
      go_ret2
      exact ⟨ret_ib2 HV.out.symm HK.out.symm, rfl⟩
set_option maxHeartbeats 1600000 in
theorem numberI (n : Int) (w : World) : Calls Try.prog 43 #[.int .i64 n] w fun e w' => e = .returned (.bool (inB (-1000000000) n 1000000000)) ∧ w' = w := by
  go_enter Try.func43, Try.ntmps43
  go_wp2
  all_goals
    go_ret
    refine ⟨ret_b ?_, rfl⟩
    rw [Bool.eq_iff_iff]; simp [inB]; try omega
set_option maxHeartbeats 800000 in
theorem wk1I (n b : Int) (pb : Nat) (w : World) (hp : w.cell? ⟨pb, 0, none⟩ = some (.int .i64 b)) (hn : Num n) (hb : Num b) :
    Calls Try.prog 74 #[.int .i64 n, .pointer (some ⟨pb, 0, none⟩)] w fun e w' => e = .returned (.int .i64 (numR 1 n b)) ∧ w' = w := by
  have HR : Hid (numR 1 n b = n + b) := rfl
  have hw := num_add hn hb
  clear hn hb
  go_enter Try.func74, Try.ntmps74
  go_wp2_with fail
  go_ret
  exact ⟨ret_i HR.out.symm, rfl⟩
set_option maxHeartbeats 800000 in
theorem wk2I (n b : Int) (pb : Nat) (w : World) (hp : w.cell? ⟨pb, 0, none⟩ = some (.int .i64 b)) (hn : Num n) (hb : Num b) :
    Calls Try.prog 75 #[.int .i64 n, .pointer (some ⟨pb, 0, none⟩)] w fun e w' => e = .returned (.int .i64 (numR 2 n b)) ∧ w' = w := by
  have HR : Hid (numR 2 n b = n - b) := rfl
  have hw := num_sub hn hb
  clear hn hb
  go_enter Try.func75, Try.ntmps75
  go_wp2_with fail
  go_ret
  exact ⟨ret_i HR.out.symm, rfl⟩
set_option maxHeartbeats 800000 in
theorem wk3I (n b : Int) (pb : Nat) (w : World) (hp : w.cell? ⟨pb, 0, none⟩ = some (.int .i64 b)) (hn : Num n) (hb : Num b) :
    Calls Try.prog 76 #[.int .i64 n, .pointer (some ⟨pb, 0, none⟩)] w fun e w' => e = .returned (.int .i64 (numR 3 n b)) ∧ w' = w := by
  have HR : Hid (numR 3 n b = n * b) := rfl
  have hw := num_mul hn hb
  clear hn hb
  go_enter Try.func76, Try.ntmps76
  go_wp2_with fail
  go_ret
  exact ⟨ret_i HR.out.symm, rfl⟩
set_option maxHeartbeats 800000 in
theorem wk4I (n b : Int) (pb : Nat) (w : World) (hp : w.cell? ⟨pb, 0, none⟩ = some (.int .i64 b)) (hn : Num n) (_hb : Num b) (h0 : b ≠ 0) :
    Calls Try.prog 77 #[.int .i64 n, .pointer (some ⟨pb, 0, none⟩)] w fun e w' => e = .returned (.int .i64 (numR 4 n b)) ∧ w' = w := by
  have HR : Hid (numR 4 n b = n.tdiv b) := rfl
  have hw := num_div (b := b) hn
  have h1 : (b == 0) = false := by simpa using h0
  clear hn
  go_enter Try.func77, Try.ntmps77
  go_wp2_with fail
  go_ret
  exact ⟨ret_i HR.out.symm, rfl⟩
set_option maxHeartbeats 800000 in
theorem wk5I (n b : Int) (pb : Nat) (w : World) (hp : w.cell? ⟨pb, 0, none⟩ = some (.int .i64 b)) (hn : Num n) (_hb : Num b) (h0 : b ≠ 0) :
    Calls Try.prog 78 #[.int .i64 n, .pointer (some ⟨pb, 0, none⟩)] w fun e w' => e = .returned (.int .i64 (numR 5 n b)) ∧ w' = w := by
  have HR : Hid (numR 5 n b = n.tmod b) := rfl
  have hw := num_mod (b := b) hn
  have h1 : (b == 0) = false := by simpa using h0
  clear hn
  go_enter Try.func78, Try.ntmps78
  go_wp2_with fail
  go_ret
  exact ⟨ret_i HR.out.symm, rfl⟩
theorem cell_kept {w w' : World} {b o : Nat} {v : Value} (h : w.cell? ⟨b, o, none⟩ = some v) (hB : Below w.heap.size w w') : w'.cell? ⟨b, o, none⟩ = some v := (hB.cell (p := ⟨b, o, none⟩) (World.block_lt_of_cell? _ _ h)).trans h
set_option maxHeartbeats 3200000 in
theorem work1I (b : Int) (w : World) : Calls Try.prog 63 #[.int .i64 1, .int .i64 b] w fun e w' => e = .returned (.agg #[.bool (!cantB 1 b), .func (.func 74) #[] #[.pointer (some ⟨w.heap.size, 0, none⟩)]]) ∧ w'.cell? ⟨w.heap.size, 0, none⟩ = some (.int .i64 b) ∧ Below w.heap.size w w' := by
  have hbx := boxD 3 w #[.int .i64 b]
  have x0 := cell_at (o := 0) hbx.1 rfl
  clear hbx
  go_enter Try.func63, Try.ntmps63
  go_wp2_with fail
  refine bodyPost_ret (v := .agg #[.bool (true), .func (.func 74) #[] #[.pointer (some ⟨w.heap.size, 0, none⟩)]]) (by simp [results, Try.results63, go_sem, *]) rfl ?_
  exact ⟨rfl, cell_at (o := 0) (heap_keptD (heap_newD _ _) (below_allocD _ _)) rfl, (below_allocD _ _).trans ((below_allocD _ _).mono (by simp))⟩
set_option maxHeartbeats 3200000 in
theorem work2I (b : Int) (w : World) : Calls Try.prog 63 #[.int .i64 2, .int .i64 b] w fun e w' => e = .returned (.agg #[.bool (!cantB 2 b), .func (.func 75) #[] #[.pointer (some ⟨w.heap.size, 0, none⟩)]]) ∧ w'.cell? ⟨w.heap.size, 0, none⟩ = some (.int .i64 b) ∧ Below w.heap.size w w' := by
  have hbx := boxD 3 w #[.int .i64 b]
  have x0 := cell_at (o := 0) hbx.1 rfl
  clear hbx
  go_enter Try.func63, Try.ntmps63
  go_wp2_with fail
  refine bodyPost_ret (v := .agg #[.bool (true), .func (.func 75) #[] #[.pointer (some ⟨w.heap.size, 0, none⟩)]]) (by simp [results, Try.results63, go_sem, *]) rfl ?_
  exact ⟨rfl, cell_at (o := 0) (heap_keptD (heap_newD _ _) (below_allocD _ _)) rfl, (below_allocD _ _).trans ((below_allocD _ _).mono (by simp))⟩
set_option maxHeartbeats 3200000 in
theorem work3I (b : Int) (w : World) : Calls Try.prog 63 #[.int .i64 3, .int .i64 b] w fun e w' => e = .returned (.agg #[.bool (!cantB 3 b), .func (.func 76) #[] #[.pointer (some ⟨w.heap.size, 0, none⟩)]]) ∧ w'.cell? ⟨w.heap.size, 0, none⟩ = some (.int .i64 b) ∧ Below w.heap.size w w' := by
  have hbx := boxD 3 w #[.int .i64 b]
  have x0 := cell_at (o := 0) hbx.1 rfl
  clear hbx
  go_enter Try.func63, Try.ntmps63
  go_wp2_with fail
  refine bodyPost_ret (v := .agg #[.bool (true), .func (.func 76) #[] #[.pointer (some ⟨w.heap.size, 0, none⟩)]]) (by simp [results, Try.results63, go_sem, *]) rfl ?_
  exact ⟨rfl, cell_at (o := 0) (heap_keptD (heap_newD _ _) (below_allocD _ _)) rfl, (below_allocD _ _).trans ((below_allocD _ _).mono (by simp))⟩
set_option maxHeartbeats 3200000 in
theorem work4I (b : Int) (w : World) : Calls Try.prog 63 #[.int .i64 4, .int .i64 b] w fun e w' => e = .returned (.agg #[.bool (!cantB 4 b), .func (.func 77) #[] #[.pointer (some ⟨w.heap.size, 0, none⟩)]]) ∧ w'.cell? ⟨w.heap.size, 0, none⟩ = some (.int .i64 b) ∧ Below w.heap.size w w' := by
  have hbx := boxD 3 w #[.int .i64 b]
  have x0 := cell_at (o := 0) hbx.1 rfl
  clear hbx
  go_enter Try.func63, Try.ntmps63
  go_wp2_with fail
  refine bodyPost_ret (v := .agg #[.bool (b != 0), .func (.func 77) #[] #[.pointer (some ⟨w.heap.size, 0, none⟩)]]) (by simp [results, Try.results63, go_sem, *]) rfl ?_
  exact ⟨by unfold cantB; rw [decide_eq_true (by omega), Bool.true_and]; rfl, cell_at (o := 0) (heap_keptD (heap_newD _ _) (below_allocD _ _)) rfl, (below_allocD _ _).trans ((below_allocD _ _).mono (by simp))⟩
set_option maxHeartbeats 3200000 in
theorem work5I (b : Int) (w : World) : Calls Try.prog 63 #[.int .i64 5, .int .i64 b] w fun e w' => e = .returned (.agg #[.bool (!cantB 5 b), .func (.func 78) #[] #[.pointer (some ⟨w.heap.size, 0, none⟩)]]) ∧ w'.cell? ⟨w.heap.size, 0, none⟩ = some (.int .i64 b) ∧ Below w.heap.size w w' := by
  have hbx := boxD 3 w #[.int .i64 b]
  have x0 := cell_at (o := 0) hbx.1 rfl
  clear hbx
  go_enter Try.func63, Try.ntmps63
  go_wp2_with fail
  refine bodyPost_ret (v := .agg #[.bool (b != 0), .func (.func 78) #[] #[.pointer (some ⟨w.heap.size, 0, none⟩)]]) (by simp [results, Try.results63, go_sem, *]) rfl ?_
  exact ⟨by unfold cantB; rw [decide_eq_true (by omega), Bool.true_and]; rfl, cell_at (o := 0) (heap_keptD (heap_newD _ _) (below_allocD _ _)) rfl, (below_allocD _ _).trans ((below_allocD _ _).mono (by simp))⟩
end Go.Proofs.Ytpigpidfpafcgaa
