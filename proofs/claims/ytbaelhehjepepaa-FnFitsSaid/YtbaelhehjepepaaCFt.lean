import Derived.Test.YtbaelhehjepepaaCFitI
import Derived.Test.YtbaelhehjepepaaKTo
namespace Go.Proofs.Ytbaelhehjepepaa
open Go.RowKit
set_option linter.unusedSimpArgs false
def ftR (c : Cl) (l : List At) : Int := if 4096 < l.length then 0 else if colB c = true ∧ datumB l = true then fitC c l else 0
def ftC (c : Cl) (l : List At) : Int := if 4096 < l.length then 2 else if colB c = true ∧ datumB l = true then 0 else 1
theorem ret_iiF {a b a' b' : Int} (h : a = a') (h' : b = b') : Ending.returned (.tuple #[.int .i64 a, .int .i64 b]) = .returned (.tuple #[.int .i64 a', .int .i64 b']) := by rw [h, h']
set_option maxRecDepth 100000 in
set_option maxHeartbeats 1600000 in
theorem fitsFS (c : Cl) (l : List At) (a : Option Addr) (cp : Nat) (S : Nat) (w : World) (ht : c.nm.length ≤ maxLen) (hr : c.rf.length ≤ maxLen) (hl : l.length ≤ maxLen) (hy : ∀ x ∈ l, x.t.length ≤ maxLen) (hw : S ≤ w.heap.size) (hA : Ats w (· < S) a l) :
    Calls Try.prog 10 #[.agg #[.string ⟨c.nm.toArray⟩, .int .i64 c.k, .int .i64 c.mn, .int .i64 c.mx, .int .i64 c.lo, .int .i64 c.hi, .string ⟨c.rf.toArray⟩, .bool c.st], .slice a l.length cp] w fun e w' => e = .returned (.tuple #[.int .i64 (ftR c l), .int .i64 (ftC c l)]) ∧ Below w.heap.size w w' := by
  have hx := boxC 24 w c
  have CO : Hid (∀ W, BoxC 24 w W c → Calls Try.prog 15 #[.agg #[.string ⟨c.nm.toArray⟩, .int .i64 c.k, .int .i64 c.mn, .int .i64 c.mx, .int .i64 c.lo, .int .i64 c.hi, .string ⟨c.rf.toArray⟩, .bool c.st]] W fun e w' => e = .returned (.bool (colB c)) ∧ BoxC 24 w w' c) := fun W h => (columnOKs c W ht hr).mono (fun e w' ⟨he, hB⟩ => ⟨he, h.later hB⟩)
  have DO : Hid (∀ W, BoxC 24 w W c → Calls Try.prog 20 #[.slice a l.length cp] W fun e w' => e = .returned (.bool (datumB l)) ∧ BoxC 24 w w' c) := fun W h => (datumOKs l a cp S W hl hy (Nat.le_trans hw h.2.size) (hA.below (h.2.mono hw))).mono (fun e w' ⟨he, hB⟩ => ⟨he, h.later hB⟩)
  have FT : Hid (∀ W, BoxC 24 w W c → Calls Try.prog 21 #[.agg #[.string ⟨c.nm.toArray⟩, .int .i64 c.k, .int .i64 c.mn, .int .i64 c.mx, .int .i64 c.lo, .int .i64 c.hi, .string ⟨c.rf.toArray⟩, .bool c.st], .slice a l.length cp] W fun e w' => e = .returned (.int .i64 (fitC c l)) ∧ BoxC 24 w w' c) := fun W h => (fitsS c l a cp S W hl (Nat.le_trans hw h.2.size) (hA.below (h.2.mono hw))).mono (fun e w' ⟨he, hB⟩ => ⟨he, h.later hB⟩)
  unfold maxLen at hl
  clear hA hy ht hr hw
  have x0 := cell_at (o := 0) hx.1 rfl
  have x1 := cell_at (o := 1) hx.1 rfl
  have x2 := cell_at (o := 2) hx.1 rfl
  have x3 := cell_at (o := 3) hx.1 rfl
  have x4 := cell_at (o := 4) hx.1 rfl
  have x5 := cell_at (o := 5) hx.1 rfl
  have x6 := cell_at (o := 6) hx.1 rfl
  have x7 := cell_at (o := 7) hx.1 rfl
  by_cases h1 : 4096 < l.length
  case pos =>
    have HC : Hid ((0 : Int) = ftR c l ∧ (2 : Int) = ftC c l) := by constructor <;> simp [ftR, ftC, h1]
    have d1 : decide (4096 < (l.length : Int)) = true := decide_eq_true (by omega)
    clear h1
    go_enter Try.func10, Try.ntmps10
    go_wp2_with fail
    go_ret2
    exact ⟨ret_iiF HC.out.1 HC.out.2, hx.2⟩
  have d1 : decide (4096 < (l.length : Int)) = false := decide_eq_false (by omega)
  cases hc : colB c
  case false =>
    have HC : Hid ((0 : Int) = ftR c l ∧ (1 : Int) = ftC c l) := by constructor <;> simp [ftR, ftC, h1, hc]
    rw [hc] at CO
    clear h1 hc
    go_enter Try.func10, Try.ntmps10
    go_wp2_with ((go_at_call 15; refine (CO.out _ hx).mono ?_; rintro e w1 ⟨rfl, hx⟩; have x0 := cell_at (o := 0) hx.1 rfl; have x1 := cell_at (o := 1) hx.1 rfl; have x2 := cell_at (o := 2) hx.1 rfl; have x3 := cell_at (o := 3) hx.1 rfl; have x4 := cell_at (o := 4) hx.1 rfl; have x5 := cell_at (o := 5) hx.1 rfl; have x6 := cell_at (o := 6) hx.1 rfl; have x7 := cell_at (o := 7) hx.1 rfl))
    go_ret2
    exact ⟨ret_iiF HC.out.1 HC.out.2, hx.2⟩
  rw [hc] at CO
  cases hd : datumB l
  case false =>
    have HC : Hid ((0 : Int) = ftR c l ∧ (1 : Int) = ftC c l) := by constructor <;> simp [ftR, ftC, h1, hd]
    rw [hd] at DO
    clear h1 hc hd
    go_enter Try.func10, Try.ntmps10
    go_wp2_with (first | (go_at_call 15; refine (CO.out _ hx).mono ?_; rintro e w1 ⟨rfl, hx⟩; have x0 := cell_at (o := 0) hx.1 rfl; have x1 := cell_at (o := 1) hx.1 rfl; have x2 := cell_at (o := 2) hx.1 rfl; have x3 := cell_at (o := 3) hx.1 rfl; have x4 := cell_at (o := 4) hx.1 rfl; have x5 := cell_at (o := 5) hx.1 rfl; have x6 := cell_at (o := 6) hx.1 rfl; have x7 := cell_at (o := 7) hx.1 rfl) | (go_at_call 20; refine (DO.out _ hx).mono ?_; rintro e w2 ⟨rfl, hx⟩; have x0 := cell_at (o := 0) hx.1 rfl; have x1 := cell_at (o := 1) hx.1 rfl; have x2 := cell_at (o := 2) hx.1 rfl; have x3 := cell_at (o := 3) hx.1 rfl; have x4 := cell_at (o := 4) hx.1 rfl; have x5 := cell_at (o := 5) hx.1 rfl; have x6 := cell_at (o := 6) hx.1 rfl; have x7 := cell_at (o := 7) hx.1 rfl))
    go_ret2
    exact ⟨ret_iiF HC.out.1 HC.out.2, hx.2⟩
  rw [hd] at DO
  have HC : Hid (fitC c l = ftR c l ∧ (0 : Int) = ftC c l) := by constructor <;> simp [ftR, ftC, h1, hc, hd]
  clear h1 hc hd
  generalize fitC c l = q at *
  go_enter Try.func10, Try.ntmps10
  go_wp2_with (first | (go_at_call 15; refine (CO.out _ hx).mono ?_; rintro e w1 ⟨rfl, hx⟩; have x0 := cell_at (o := 0) hx.1 rfl; have x1 := cell_at (o := 1) hx.1 rfl; have x2 := cell_at (o := 2) hx.1 rfl; have x3 := cell_at (o := 3) hx.1 rfl; have x4 := cell_at (o := 4) hx.1 rfl; have x5 := cell_at (o := 5) hx.1 rfl; have x6 := cell_at (o := 6) hx.1 rfl; have x7 := cell_at (o := 7) hx.1 rfl) | (go_at_call 20; refine (DO.out _ hx).mono ?_; rintro e w2 ⟨rfl, hx⟩; have x0 := cell_at (o := 0) hx.1 rfl; have x1 := cell_at (o := 1) hx.1 rfl; have x2 := cell_at (o := 2) hx.1 rfl; have x3 := cell_at (o := 3) hx.1 rfl; have x4 := cell_at (o := 4) hx.1 rfl; have x5 := cell_at (o := 5) hx.1 rfl; have x6 := cell_at (o := 6) hx.1 rfl; have x7 := cell_at (o := 7) hx.1 rfl) | (go_at_call 21; refine (FT.out _ hx).mono ?_; rintro e w3 ⟨rfl, hx⟩))
  go_ret2
  exact ⟨ret_iiF HC.out.1 HC.out.2, hx.2⟩
set_option maxRecDepth 100000 in
set_option maxHeartbeats 1600000 in
theorem fitsFI (c : Cl) (l : List At) (a : Option Addr) (cp : Nat) (S : Nat) (w : World) (ht : c.nm.length ≤ maxLen) (hr : c.rf.length ≤ maxLen) (hl : l.length ≤ maxLen) (hy : ∀ x ∈ l, x.t.length ≤ maxLen) (hw : S ≤ w.heap.size) (hA : Ats w (· < S) a l) :
    Calls Try.prog 7 #[.agg #[.string ⟨c.nm.toArray⟩, .int .i64 c.k, .int .i64 c.mn, .int .i64 c.mx, .int .i64 c.lo, .int .i64 c.hi, .string ⟨c.rf.toArray⟩, .bool c.st], .slice a l.length cp] w fun e w' => e = .returned (.tuple #[.int .i64 (ftR c l), .int .i64 (ftC c l)]) ∧ Below w.heap.size w w' := by
  have hx := boxC 24 w c
  have CO : Hid (∀ W, BoxC 24 w W c → Calls Try.prog 12 #[.agg #[.string ⟨c.nm.toArray⟩, .int .i64 c.k, .int .i64 c.mn, .int .i64 c.mx, .int .i64 c.lo, .int .i64 c.hi, .string ⟨c.rf.toArray⟩, .bool c.st]] W fun e w' => e = .returned (.bool (colB c)) ∧ BoxC 24 w w' c) := fun W h => (columnOKi c W ht hr).mono (fun e w' ⟨he, hB⟩ => ⟨he, h.later hB⟩)
  have DO : Hid (∀ W, BoxC 24 w W c → Calls Try.prog 17 #[.slice a l.length cp] W fun e w' => e = .returned (.bool (datumB l)) ∧ BoxC 24 w w' c) := fun W h => (datumOKi l a cp S W hl hy (Nat.le_trans hw h.2.size) (hA.below (h.2.mono hw))).mono (fun e w' ⟨he, hB⟩ => ⟨he, h.later hB⟩)
  have FT : Hid (∀ W, BoxC 24 w W c → Calls Try.prog 18 #[.agg #[.string ⟨c.nm.toArray⟩, .int .i64 c.k, .int .i64 c.mn, .int .i64 c.mx, .int .i64 c.lo, .int .i64 c.hi, .string ⟨c.rf.toArray⟩, .bool c.st], .slice a l.length cp] W fun e w' => e = .returned (.int .i64 (fitC c l)) ∧ BoxC 24 w w' c) := fun W h => (fitsI c l a cp S W hl (Nat.le_trans hw h.2.size) (hA.below (h.2.mono hw))).mono (fun e w' ⟨he, hB⟩ => ⟨he, h.later hB⟩)
  unfold maxLen at hl
  clear hA hy ht hr hw
  have x0 := cell_at (o := 0) hx.1 rfl
  have x1 := cell_at (o := 1) hx.1 rfl
  have x2 := cell_at (o := 2) hx.1 rfl
  have x3 := cell_at (o := 3) hx.1 rfl
  have x4 := cell_at (o := 4) hx.1 rfl
  have x5 := cell_at (o := 5) hx.1 rfl
  have x6 := cell_at (o := 6) hx.1 rfl
  have x7 := cell_at (o := 7) hx.1 rfl
  by_cases h1 : 4096 < l.length
  case pos =>
    have HC : Hid ((0 : Int) = ftR c l ∧ (2 : Int) = ftC c l) := by constructor <;> simp [ftR, ftC, h1]
    have d1 : decide (4096 < (l.length : Int)) = true := decide_eq_true (by omega)
    clear h1
    go_enter Try.func7, Try.ntmps7
    go_wp2_with fail
    go_ret2
    exact ⟨ret_iiF HC.out.1 HC.out.2, hx.2⟩
  have d1 : decide (4096 < (l.length : Int)) = false := decide_eq_false (by omega)
  cases hc : colB c
  case false =>
    have HC : Hid ((0 : Int) = ftR c l ∧ (1 : Int) = ftC c l) := by constructor <;> simp [ftR, ftC, h1, hc]
    rw [hc] at CO
    clear h1 hc
    go_enter Try.func7, Try.ntmps7
    go_wp2_with ((go_at_call 12; refine (CO.out _ hx).mono ?_; rintro e w1 ⟨rfl, hx⟩; have x0 := cell_at (o := 0) hx.1 rfl; have x1 := cell_at (o := 1) hx.1 rfl; have x2 := cell_at (o := 2) hx.1 rfl; have x3 := cell_at (o := 3) hx.1 rfl; have x4 := cell_at (o := 4) hx.1 rfl; have x5 := cell_at (o := 5) hx.1 rfl; have x6 := cell_at (o := 6) hx.1 rfl; have x7 := cell_at (o := 7) hx.1 rfl))
    go_ret2
    exact ⟨ret_iiF HC.out.1 HC.out.2, hx.2⟩
  rw [hc] at CO
  cases hd : datumB l
  case false =>
    have HC : Hid ((0 : Int) = ftR c l ∧ (1 : Int) = ftC c l) := by constructor <;> simp [ftR, ftC, h1, hd]
    rw [hd] at DO
    clear h1 hc hd
    go_enter Try.func7, Try.ntmps7
    go_wp2_with (first | (go_at_call 12; refine (CO.out _ hx).mono ?_; rintro e w1 ⟨rfl, hx⟩; have x0 := cell_at (o := 0) hx.1 rfl; have x1 := cell_at (o := 1) hx.1 rfl; have x2 := cell_at (o := 2) hx.1 rfl; have x3 := cell_at (o := 3) hx.1 rfl; have x4 := cell_at (o := 4) hx.1 rfl; have x5 := cell_at (o := 5) hx.1 rfl; have x6 := cell_at (o := 6) hx.1 rfl; have x7 := cell_at (o := 7) hx.1 rfl) | (go_at_call 17; refine (DO.out _ hx).mono ?_; rintro e w2 ⟨rfl, hx⟩; have x0 := cell_at (o := 0) hx.1 rfl; have x1 := cell_at (o := 1) hx.1 rfl; have x2 := cell_at (o := 2) hx.1 rfl; have x3 := cell_at (o := 3) hx.1 rfl; have x4 := cell_at (o := 4) hx.1 rfl; have x5 := cell_at (o := 5) hx.1 rfl; have x6 := cell_at (o := 6) hx.1 rfl; have x7 := cell_at (o := 7) hx.1 rfl))
    go_ret2
    exact ⟨ret_iiF HC.out.1 HC.out.2, hx.2⟩
  rw [hd] at DO
  have HC : Hid (fitC c l = ftR c l ∧ (0 : Int) = ftC c l) := by constructor <;> simp [ftR, ftC, h1, hc, hd]
  clear h1 hc hd
  generalize fitC c l = q at *
  go_enter Try.func7, Try.ntmps7
  go_wp2_with (first | (go_at_call 12; refine (CO.out _ hx).mono ?_; rintro e w1 ⟨rfl, hx⟩; have x0 := cell_at (o := 0) hx.1 rfl; have x1 := cell_at (o := 1) hx.1 rfl; have x2 := cell_at (o := 2) hx.1 rfl; have x3 := cell_at (o := 3) hx.1 rfl; have x4 := cell_at (o := 4) hx.1 rfl; have x5 := cell_at (o := 5) hx.1 rfl; have x6 := cell_at (o := 6) hx.1 rfl; have x7 := cell_at (o := 7) hx.1 rfl) | (go_at_call 17; refine (DO.out _ hx).mono ?_; rintro e w2 ⟨rfl, hx⟩; have x0 := cell_at (o := 0) hx.1 rfl; have x1 := cell_at (o := 1) hx.1 rfl; have x2 := cell_at (o := 2) hx.1 rfl; have x3 := cell_at (o := 3) hx.1 rfl; have x4 := cell_at (o := 4) hx.1 rfl; have x5 := cell_at (o := 5) hx.1 rfl; have x6 := cell_at (o := 6) hx.1 rfl; have x7 := cell_at (o := 7) hx.1 rfl) | (go_at_call 18; refine (FT.out _ hx).mono ?_; rintro e w3 ⟨rfl, hx⟩))
  go_ret2
  exact ⟨ret_iiF HC.out.1 HC.out.2, hx.2⟩
theorem neq_selfI (c : Int) : (c != c) = false := by simp
end Go.Proofs.Ytbaelhehjepepaa
