import Derived.Test.YtjhkignnfdlcjaaKIc
import Derived.Test.YtjhkignnfdlcjaaKLHa
import Derived.Test.YtjhkignnfdlcjaaKLAt
namespace Go.Proofs.Ytjhkignnfdlcjaa
open Go.RowKit
set_option linter.unusedSimpArgs false
set_option maxRecDepth 100000 in
set_option maxHeartbeats 3200000 in
theorem datumHasI : HasSaid 19 := by
  intro l x a c S w hl hxl hxt hw hA
  have hx : BoxA w (w.alloc (.cells #[.int .i64 x.k, .int .i64 x.n, .string ⟨x.t.toArray⟩] 26)) x := ⟨heap_newA _ _, (Below.refl _ _).alloc (Nat.le_refl _) _⟩
  have DO : Hid (∀ W, BoxA w W x → Calls Try.prog 16 #[.slice a l.length c] W fun e w' => e = .returned (.bool (datumB l)) ∧ BoxA w w' x) := fun W h => (datumOKi l a c S W hl hxl (Nat.le_trans hw h.2.size) (hA.below (h.2.mono hw))).mono (fun e w' ⟨he, hB⟩ => ⟨he, h.later hB⟩)
  have AO : Hid (∀ W, BoxA w W x → Calls Try.prog 10 #[.agg #[.int .i64 x.k, .int .i64 x.n, .string ⟨x.t.toArray⟩]] W fun e w' => e = .returned (.bool (atOK x)) ∧ BoxA w w' x) := fun W h => (atomOKi x W hxt).mono (fun e w' ⟨he, hB⟩ => ⟨he, h.later hB⟩)
  have HS : Hid (∀ W, BoxA w W x → Calls Try.prog 31 #[.slice a l.length c, .agg #[.int .i64 x.k, .int .i64 x.n, .string ⟨x.t.toArray⟩]] W fun e w' => e = .returned (.bool (hasB l x)) ∧ BoxA w w' x) := fun W h => (containsI l x a c _ W hl (hA.below (h.2.mono hw))).mono (fun e w' ⟨he, hB⟩ => ⟨he, h.later hB⟩)
  unfold maxLen at hl
  clear hA hxl hxt hw
  by_cases h1 : 4096 < l.length
  · have HC : Hid (false = hasR l x ∧ (2 : Int) = hasC l x) := by constructor <;> simp [hasR, hasC, h1]
    have d1 : decide (4096 < (l.length : Int)) = true := decide_eq_true (by omega)
    clear h1
    go_enter Try.func19, Try.ntmps19
    go_wp2_with fail
    go_ret2
    exact ⟨ret_bi HC.out.1 HC.out.2, hx.2⟩
  have d1 : decide (4096 < (l.length : Int)) = false := decide_eq_false (by omega)
  cases dl : datumB l
  · have HC : Hid (false = hasR l x ∧ (1 : Int) = hasC l x) := by constructor <;> simp [hasR, hasC, h1, dl]
    rw [dl] at DO
    clear dl h1
    go_enter Try.func19, Try.ntmps19
    go_wp2_with (go_at_call 16; refine (DO.out _ hx).mono ?_; rintro e w1 ⟨rfl, hx⟩)
    go_ret2
    exact ⟨ret_bi HC.out.1 HC.out.2, hx.2⟩
  rw [dl] at DO
  cases ax : atOK x
  · have HC : Hid (false = hasR l x ∧ (1 : Int) = hasC l x) := by constructor <;> simp [hasR, hasC, h1, ax]
    rw [ax] at AO
    clear dl ax h1
    go_enter Try.func19, Try.ntmps19
    go_wp2_with (first | (go_at_call 16; refine (DO.out _ hx).mono ?_; rintro e w1 ⟨rfl, hx⟩; have x0 := cell_at (o := 0) hx.1 rfl; have x1 := cell_at (o := 1) hx.1 rfl; have x2 := cell_at (o := 2) hx.1 rfl) | (go_at_call 10; refine (AO.out _ hx).mono ?_; rintro e w2 ⟨rfl, hx⟩; have x0 := cell_at (o := 0) hx.1 rfl; have x1 := cell_at (o := 1) hx.1 rfl; have x2 := cell_at (o := 2) hx.1 rfl))
    go_ret2
    exact ⟨ret_bi HC.out.1 HC.out.2, hx.2⟩
  rw [ax] at AO
  have HC : Hid (hasB l x = hasR l x ∧ (0 : Int) = hasC l x) := by
    constructor
    · unfold hasR; rw [if_pos ⟨h1, dl, ax⟩]
    · unfold hasC; rw [if_neg h1, if_pos ⟨dl, ax⟩]
  clear dl ax h1
  generalize hasB l x = q at *
  go_enter Try.func19, Try.ntmps19
  go_wp2_with (first | (go_at_call 16; refine (DO.out _ hx).mono ?_; rintro e w1 ⟨rfl, hx⟩; have x0 := cell_at (o := 0) hx.1 rfl; have x1 := cell_at (o := 1) hx.1 rfl; have x2 := cell_at (o := 2) hx.1 rfl) | (go_at_call 10; refine (AO.out _ hx).mono ?_; rintro e w2 ⟨rfl, hx⟩; have x0 := cell_at (o := 0) hx.1 rfl; have x1 := cell_at (o := 1) hx.1 rfl; have x2 := cell_at (o := 2) hx.1 rfl) | (go_at_call 31; refine (HS.out _ hx).mono ?_; rintro e w3 ⟨rfl, hx⟩))
  go_ret2
  exact ⟨ret_bi HC.out.1 HC.out.2, hx.2⟩
set_option maxRecDepth 100000 in
set_option maxHeartbeats 3200000 in
theorem ordI : OrdSaid 12 := by
  intro x y w hxt hyt
  have hx := boxP 26 w x y
  have AX : Hid (∀ W, BoxP 26 w W x y → Calls Try.prog 10 #[.agg #[.int .i64 x.k, .int .i64 x.n, .string ⟨x.t.toArray⟩]] W fun e w' => e = .returned (.bool (atOK x)) ∧ BoxP 26 w w' x y) := fun W h => (atomOKi x W hxt).mono (fun e w' ⟨he, hB⟩ => ⟨he, h.later hB⟩)
  have AY : Hid (∀ W, BoxP 26 w W x y → Calls Try.prog 10 #[.agg #[.int .i64 y.k, .int .i64 y.n, .string ⟨y.t.toArray⟩]] W fun e w' => e = .returned (.bool (atOK y)) ∧ BoxP 26 w w' x y) := fun W h => (atomOKi y W hyt).mono (fun e w' ⟨he, hB⟩ => ⟨he, h.later hB⟩)
  have OR : Hid (∀ W, BoxP 26 w W x y → Calls Try.prog 26 #[.agg #[.int .i64 x.k, .int .i64 x.n, .string ⟨x.t.toArray⟩], .agg #[.int .i64 y.k, .int .i64 y.n, .string ⟨y.t.toArray⟩]] W fun e w' => e = .returned (.int .i64 (cmpA x y)) ∧ BoxP 26 w w' x y) := fun W h => (compareI x y W).mono (fun e w' ⟨he, hB⟩ => ⟨he, h.later hB⟩)
  clear hxt hyt
  have x0 := cell_at (o := 0) hx.1 rfl
  have x1 := cell_at (o := 1) hx.1 rfl
  have x2 := cell_at (o := 2) hx.1 rfl
  have y0 := cell_at (o := 0) hx.2.1 rfl
  have y1 := cell_at (o := 1) hx.2.1 rfl
  have y2 := cell_at (o := 2) hx.2.1 rfl
  cases ax : atOK x
  · have HC : Hid ((0 : Int) = ordR x y ∧ (1 : Int) = ordC x y) := by constructor <;> simp [ordR, ordC, ax]
    rw [ax] at AX
    clear ax
    go_enter Try.func12, Try.ntmps12
    go_wp2_with (first | (go_at_call 10; (with_reducible refine (AX.out _ ?_).mono ?_); exact hx; rintro e w1 ⟨rfl, hx⟩; have x0 := cell_at (o := 0) hx.1 rfl; have x1 := cell_at (o := 1) hx.1 rfl; have x2 := cell_at (o := 2) hx.1 rfl; have y0 := cell_at (o := 0) hx.2.1 rfl; have y1 := cell_at (o := 1) hx.2.1 rfl; have y2 := cell_at (o := 2) hx.2.1 rfl))
    go_ret2
    exact ⟨ret_ii' HC.out.1 HC.out.2, hx.2.2⟩
  rw [ax] at AX
  cases ay : atOK y
  · have HC : Hid ((0 : Int) = ordR x y ∧ (1 : Int) = ordC x y) := by constructor <;> simp [ordR, ordC, ay]
    rw [ay] at AY
    clear ax ay
    go_enter Try.func12, Try.ntmps12
    go_wp2_with (first | (go_at_call 10; (with_reducible refine (AX.out _ ?_).mono ?_); exact hx; rintro e w1 ⟨rfl, hx⟩; have x0 := cell_at (o := 0) hx.1 rfl; have x1 := cell_at (o := 1) hx.1 rfl; have x2 := cell_at (o := 2) hx.1 rfl; have y0 := cell_at (o := 0) hx.2.1 rfl; have y1 := cell_at (o := 1) hx.2.1 rfl; have y2 := cell_at (o := 2) hx.2.1 rfl) | (go_at_call 10; (with_reducible refine (AY.out _ ?_).mono ?_); exact hx; rintro e w2 ⟨rfl, hx⟩; have x0 := cell_at (o := 0) hx.1 rfl; have x1 := cell_at (o := 1) hx.1 rfl; have x2 := cell_at (o := 2) hx.1 rfl; have y0 := cell_at (o := 0) hx.2.1 rfl; have y1 := cell_at (o := 1) hx.2.1 rfl; have y2 := cell_at (o := 2) hx.2.1 rfl))
    go_ret2
    exact ⟨ret_ii' HC.out.1 HC.out.2, hx.2.2⟩
  rw [ay] at AY
  have HC : Hid (cmpA x y = ordR x y ∧ (0 : Int) = ordC x y) := by constructor <;> simp [ordR, ordC, ax, ay]
  clear ax ay
  generalize cmpA x y = q at *
  go_enter Try.func12, Try.ntmps12
  go_wp2_with (first | (go_at_call 10; (with_reducible refine (AX.out _ ?_).mono ?_); exact hx; rintro e w1 ⟨rfl, hx⟩; have x0 := cell_at (o := 0) hx.1 rfl; have x1 := cell_at (o := 1) hx.1 rfl; have x2 := cell_at (o := 2) hx.1 rfl; have y0 := cell_at (o := 0) hx.2.1 rfl; have y1 := cell_at (o := 1) hx.2.1 rfl; have y2 := cell_at (o := 2) hx.2.1 rfl) | (go_at_call 10; (with_reducible refine (AY.out _ ?_).mono ?_); exact hx; rintro e w2 ⟨rfl, hx⟩; have x0 := cell_at (o := 0) hx.1 rfl; have x1 := cell_at (o := 1) hx.1 rfl; have x2 := cell_at (o := 2) hx.1 rfl; have y0 := cell_at (o := 0) hx.2.1 rfl; have y1 := cell_at (o := 1) hx.2.1 rfl; have y2 := cell_at (o := 2) hx.2.1 rfl) | (go_at_call 26; refine (OR.out _ hx).mono ?_; rintro e w3 ⟨rfl, hx⟩))
  go_ret2
  exact ⟨ret_ii' HC.out.1 HC.out.2, hx.2.2⟩
theorem atSaidI : AtSaid := fun x w ht => atomOKi x w ht
theorem doSaidI : DoSaid := fun l a c S w hl hx hw hA => datumOKi l a c S w hl hx hw hA
end Go.Proofs.Ytjhkignnfdlcjaa
