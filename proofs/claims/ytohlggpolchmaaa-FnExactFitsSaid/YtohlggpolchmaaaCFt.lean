import Derived.Test.YtohlggpolchmaaaCFitI
import Derived.Test.YtohlggpolchmaaaKTo
namespace Go.Proofs.Ytohlggpolchmaaa
open Go.RowKit
set_option linter.unusedSimpArgs false
def ftR (c : Cl) (l : List At) : Int := if 4096 < l.length then 0 else if colB c = true ∧ datumB l = true then fitC c l else 0
def ftC (c : Cl) (l : List At) : Int := if 4096 < l.length then 2 else if colB c = true ∧ datumB l = true then 0 else 1
theorem ret_iiF {a b a' b' : Int} (h : a = a') (h' : b = b') : Ending.returned (.tuple #[.int .i64 a, .int .i64 b]) = .returned (.tuple #[.int .i64 a', .int .i64 b']) := by rw [h, h']
set_option maxRecDepth 100000 in
set_option maxHeartbeats 1600000 in
theorem fitsFS (c : Cl) (l : List At) (a : Option Addr) (cp : Nat) (S : Nat) (w : World) (ht : c.nm.length ≤ maxLen) (hr : c.rf.length ≤ maxLen) (hl : l.length ≤ maxLen) (hy : ∀ x ∈ l, x.t.length ≤ maxLen) (hw : S ≤ w.heap.size) (hA : Ats w (· < S) a l) :
    Calls Try.prog 11 #[.agg #[.string ⟨c.nm.toArray⟩, .int .i64 c.k, .int .i64 c.mn, .int .i64 c.mx, .int .i64 c.lo, .int .i64 c.hi, .string ⟨c.rf.toArray⟩, .bool c.st], .slice a l.length cp] w fun e w' => e = .returned (.tuple #[.int .i64 (ftR c l), .int .i64 (ftC c l)]) ∧ Below w.heap.size w w' := by
  have hx := boxC 26 w c
  have CO : Hid (∀ W, BoxC 26 w W c → Calls Try.prog 7 #[.agg #[.string ⟨c.nm.toArray⟩, .int .i64 c.k, .int .i64 c.mn, .int .i64 c.mx, .int .i64 c.lo, .int .i64 c.hi, .string ⟨c.rf.toArray⟩, .bool c.st]] W fun e w' => e = .returned (.bool (colB c)) ∧ BoxC 26 w w' c) := fun W h => (columnOKs c W ht hr).mono (fun e w' ⟨he, hB⟩ => ⟨he, h.later hB⟩)
  have DO : Hid (∀ W, BoxC 26 w W c → Calls Try.prog 26 #[.slice a l.length cp] W fun e w' => e = .returned (.bool (datumB l)) ∧ BoxC 26 w w' c) := fun W h => (datumOKs l a cp S W hl hy (Nat.le_trans hw h.2.size) (hA.below (h.2.mono hw))).mono (fun e w' ⟨he, hB⟩ => ⟨he, h.later hB⟩)
  have FT : Hid (∀ W, BoxC 26 w W c → Calls Try.prog 27 #[.agg #[.string ⟨c.nm.toArray⟩, .int .i64 c.k, .int .i64 c.mn, .int .i64 c.mx, .int .i64 c.lo, .int .i64 c.hi, .string ⟨c.rf.toArray⟩, .bool c.st], .slice a l.length cp] W fun e w' => e = .returned (.int .i64 (fitC c l)) ∧ BoxC 26 w w' c) := fun W h => (fitsS c l a cp S W hl (Nat.le_trans hw h.2.size) (hA.below (h.2.mono hw))).mono (fun e w' ⟨he, hB⟩ => ⟨he, h.later hB⟩)
  unfold maxLen at hl
  clear hA hy ht hr hw
  have x0 := cell_at (o := 0) hx.1 rfl
  have x1 := cell_at (o := 1) hx.1 rfl
  have x2 := cell_at (o := 2) hx.1 rfl
  have x3 := cell_at (o := 3) hx.1 rfl
  have x4 := cell_at (o := 4) hx.1 rfl
  have x5 := cell_at (o := 5) hx.1 rfl
  have x6 := cell_at (o := 6) hx.1 rfl
  have x7 := cell_at (o := 7) hx.1 rfl
  by_cases h1 : 4096 < l.length
  case pos =>
    have HC : Hid ((0 : Int) = ftR c l ∧ (2 : Int) = ftC c l) := by constructor <;> simp [ftR, ftC, h1]
    have d1 : decide (4096 < (l.length : Int)) = true := decide_eq_true (by omega)
    clear h1
    go_enter Try.func11, Try.ntmps11
    go_wp2_with fail
    go_ret2
    exact ⟨ret_iiF HC.out.1 HC.out.2, hx.2⟩
  have d1 : decide (4096 < (l.length : Int)) = false := decide_eq_false (by omega)
  cases hc : colB c
  case false =>
    have HC : Hid ((0 : Int) = ftR c l ∧ (1 : Int) = ftC c l) := by constructor <;> simp [ftR, ftC, h1, hc]
    rw [hc] at CO
    clear h1 hc
    go_enter Try.func11, Try.ntmps11
    go_wp2_with ((go_at_call 7; refine (CO.out _ hx).mono ?_; rintro e w1 ⟨rfl, hx⟩; have x0 := cell_at (o := 0) hx.1 rfl; have x1 := cell_at (o := 1) hx.1 rfl; have x2 := cell_at (o := 2) hx.1 rfl; have x3 := cell_at (o := 3) hx.1 rfl; have x4 := cell_at (o := 4) hx.1 rfl; have x5 := cell_at (o := 5) hx.1 rfl; have x6 := cell_at (o := 6) hx.1 rfl; have x7 := cell_at (o := 7) hx.1 rfl))
    go_ret2
    exact ⟨ret_iiF HC.out.1 HC.out.2, hx.2⟩
  rw [hc] at CO
  cases hd : datumB l
  case false =>
    have HC : Hid ((0 : Int) = ftR c l ∧ (1 : Int) = ftC c l) := by constructor <;> simp [ftR, ftC, h1, hd]
    rw [hd] at DO
    clear h1 hc hd
    go_enter Try.func11, Try.ntmps11
    go_wp2_with (first | (go_at_call 7; refine (CO.out _ hx).mono ?_; rintro e w1 ⟨rfl, hx⟩; have x0 := cell_at (o := 0) hx.1 rfl; have x1 := cell_at (o := 1) hx.1 rfl; have x2 := cell_at (o := 2) hx.1 rfl; have x3 := cell_at (o := 3) hx.1 rfl; have x4 := cell_at (o := 4) hx.1 rfl; have x5 := cell_at (o := 5) hx.1 rfl; have x6 := cell_at (o := 6) hx.1 rfl; have x7 := cell_at (o := 7) hx.1 rfl) | (go_at_call 26; refine (DO.out _ hx).mono ?_; rintro e w2 ⟨rfl, hx⟩; have x0 := cell_at (o := 0) hx.1 rfl; have x1 := cell_at (o := 1) hx.1 rfl; have x2 := cell_at (o := 2) hx.1 rfl; have x3 := cell_at (o := 3) hx.1 rfl; have x4 := cell_at (o := 4) hx.1 rfl; have x5 := cell_at (o := 5) hx.1 rfl; have x6 := cell_at (o := 6) hx.1 rfl; have x7 := cell_at (o := 7) hx.1 rfl))
    go_ret2
    exact ⟨ret_iiF HC.out.1 HC.out.2, hx.2⟩
  rw [hd] at DO
  have HC : Hid (fitC c l = ftR c l ∧ (0 : Int) = ftC c l) := by constructor <;> simp [ftR, ftC, h1, hc, hd]
  clear h1 hc hd
  generalize fitC c l = q at *
  go_enter Try.func11, Try.ntmps11
  go_wp2_with (first | (go_at_call 7; refine (CO.out _ hx).mono ?_; rintro e w1 ⟨rfl, hx⟩; have x0 := cell_at (o := 0) hx.1 rfl; have x1 := cell_at (o := 1) hx.1 rfl; have x2 := cell_at (o := 2) hx.1 rfl; have x3 := cell_at (o := 3) hx.1 rfl; have x4 := cell_at (o := 4) hx.1 rfl; have x5 := cell_at (o := 5) hx.1 rfl; have x6 := cell_at (o := 6) hx.1 rfl; have x7 := cell_at (o := 7) hx.1 rfl) | (go_at_call 26; refine (DO.out _ hx).mono ?_; rintro e w2 ⟨rfl, hx⟩; have x0 := cell_at (o := 0) hx.1 rfl; have x1 := cell_at (o := 1) hx.1 rfl; have x2 := cell_at (o := 2) hx.1 rfl; have x3 := cell_at (o := 3) hx.1 rfl; have x4 := cell_at (o := 4) hx.1 rfl; have x5 := cell_at (o := 5) hx.1 rfl; have x6 := cell_at (o := 6) hx.1 rfl; have x7 := cell_at (o := 7) hx.1 rfl) | (go_at_call 27; refine (FT.out _ hx).mono ?_; rintro e w3 ⟨rfl, hx⟩))
  go_ret2
  exact ⟨ret_iiF HC.out.1 HC.out.2, hx.2⟩
set_option maxRecDepth 100000 in
set_option maxHeartbeats 1600000 in
theorem fitsFI (c : Cl) (l : List At) (a : Option Addr) (cp : Nat) (S : Nat) (w : World) (ht : c.nm.length ≤ maxLen) (hr : c.rf.length ≤ maxLen) (hl : l.length ≤ maxLen) (hy : ∀ x ∈ l, x.t.length ≤ maxLen) (hw : S ≤ w.heap.size) (hA : Ats w (· < S) a l) :
    Calls Try.prog 13 #[.agg #[.string ⟨c.nm.toArray⟩, .int .i64 c.k, .int .i64 c.mn, .int .i64 c.mx, .int .i64 c.lo, .int .i64 c.hi, .string ⟨c.rf.toArray⟩, .bool c.st], .slice a l.length cp] w fun e w' => e = .returned (.tuple #[.int .i64 (ftR c l), .int .i64 (ftC c l)]) ∧ Below w.heap.size w w' := by
  have hx := boxC 26 w c
  have CO : Hid (∀ W, BoxC 26 w W c → Calls Try.prog 9 #[.agg #[.string ⟨c.nm.toArray⟩, .int .i64 c.k, .int .i64 c.mn, .int .i64 c.mx, .int .i64 c.lo, .int .i64 c.hi, .string ⟨c.rf.toArray⟩, .bool c.st]] W fun e w' => e = .returned (.bool (colB c)) ∧ BoxC 26 w w' c) := fun W h => (columnOKi c W ht hr).mono (fun e w' ⟨he, hB⟩ => ⟨he, h.later hB⟩)
  have DO : Hid (∀ W, BoxC 26 w W c → Calls Try.prog 29 #[.slice a l.length cp] W fun e w' => e = .returned (.bool (datumB l)) ∧ BoxC 26 w w' c) := fun W h => (datumOKi l a cp S W hl hy (Nat.le_trans hw h.2.size) (hA.below (h.2.mono hw))).mono (fun e w' ⟨he, hB⟩ => ⟨he, h.later hB⟩)
  have FT : Hid (∀ W, BoxC 26 w W c → Calls Try.prog 30 #[.agg #[.string ⟨c.nm.toArray⟩, .int .i64 c.k, .int .i64 c.mn, .int .i64 c.mx, .int .i64 c.lo, .int .i64 c.hi, .string ⟨c.rf.toArray⟩, .bool c.st], .slice a l.length cp] W fun e w' => e = .returned (.int .i64 (fitC c l)) ∧ BoxC 26 w w' c) := fun W h => (fitsI c l a cp S W hl (Nat.le_trans hw h.2.size) (hA.below (h.2.mono hw))).mono (fun e w' ⟨he, hB⟩ => ⟨he, h.later hB⟩)
  unfold maxLen at hl
  clear hA hy ht hr hw
  have x0 := cell_at (o := 0) hx.1 rfl
  have x1 := cell_at (o := 1) hx.1 rfl
  have x2 := cell_at (o := 2) hx.1 rfl
  have x3 := cell_at (o := 3) hx.1 rfl
  have x4 := cell_at (o := 4) hx.1 rfl
  have x5 := cell_at (o := 5) hx.1 rfl
  have x6 := cell_at (o := 6) hx.1 rfl
  have x7 := cell_at (o := 7) hx.1 rfl
  by_cases h1 : 4096 < l.length
  case pos =>
    have HC : Hid ((0 : Int) = ftR c l ∧ (2 : Int) = ftC c l) := by constructor <;> simp [ftR, ftC, h1]
    have d1 : decide (4096 < (l.length : Int)) = true := decide_eq_true (by omega)
    clear h1
    go_enter Try.func13, Try.ntmps13
    go_wp2_with fail
    go_ret2
    exact ⟨ret_iiF HC.out.1 HC.out.2, hx.2⟩
  have d1 : decide (4096 < (l.length : Int)) = false := decide_eq_false (by omega)
  cases hc : colB c
  case false =>
    have HC : Hid ((0 : Int) = ftR c l ∧ (1 : Int) = ftC c l) := by constructor <;> simp [ftR, ftC, h1, hc]
    rw [hc] at CO
    clear h1 hc
    go_enter Try.func13, Try.ntmps13
    go_wp2_with ((go_at_call 9; refine (CO.out _ hx).mono ?_; rintro e w1 ⟨rfl, hx⟩; have x0 := cell_at (o := 0) hx.1 rfl; have x1 := cell_at (o := 1) hx.1 rfl; have x2 := cell_at (o := 2) hx.1 rfl; have x3 := cell_at (o := 3) hx.1 rfl; have x4 := cell_at (o := 4) hx.1 rfl; have x5 := cell_at (o := 5) hx.1 rfl; have x6 := cell_at (o := 6) hx.1 rfl; have x7 := cell_at (o := 7) hx.1 rfl))
    go_ret2
    exact ⟨ret_iiF HC.out.1 HC.out.2, hx.2⟩
  rw [hc] at CO
  cases hd : datumB l
  case false =>
    have HC : Hid ((0 : Int) = ftR c l ∧ (1 : Int) = ftC c l) := by constructor <;> simp [ftR, ftC, h1, hd]
    rw [hd] at DO
    clear h1 hc hd
    go_enter Try.func13, Try.ntmps13
    go_wp2_with (first | (go_at_call 9; refine (CO.out _ hx).mono ?_; rintro e w1 ⟨rfl, hx⟩; have x0 := cell_at (o := 0) hx.1 rfl; have x1 := cell_at (o := 1) hx.1 rfl; have x2 := cell_at (o := 2) hx.1 rfl; have x3 := cell_at (o := 3) hx.1 rfl; have x4 := cell_at (o := 4) hx.1 rfl; have x5 := cell_at (o := 5) hx.1 rfl; have x6 := cell_at (o := 6) hx.1 rfl; have x7 := cell_at (o := 7) hx.1 rfl) | (go_at_call 29; refine (DO.out _ hx).mono ?_; rintro e w2 ⟨rfl, hx⟩; have x0 := cell_at (o := 0) hx.1 rfl; have x1 := cell_at (o := 1) hx.1 rfl; have x2 := cell_at (o := 2) hx.1 rfl; have x3 := cell_at (o := 3) hx.1 rfl; have x4 := cell_at (o := 4) hx.1 rfl; have x5 := cell_at (o := 5) hx.1 rfl; have x6 := cell_at (o := 6) hx.1 rfl; have x7 := cell_at (o := 7) hx.1 rfl))
    go_ret2
    exact ⟨ret_iiF HC.out.1 HC.out.2, hx.2⟩
  rw [hd] at DO
  have HC : Hid (fitC c l = ftR c l ∧ (0 : Int) = ftC c l) := by constructor <;> simp [ftR, ftC, h1, hc, hd]
  clear h1 hc hd
  generalize fitC c l = q at *
  go_enter Try.func13, Try.ntmps13
  go_wp2_with (first | (go_at_call 9; refine (CO.out _ hx).mono ?_; rintro e w1 ⟨rfl, hx⟩; have x0 := cell_at (o := 0) hx.1 rfl; have x1 := cell_at (o := 1) hx.1 rfl; have x2 := cell_at (o := 2) hx.1 rfl; have x3 := cell_at (o := 3) hx.1 rfl; have x4 := cell_at (o := 4) hx.1 rfl; have x5 := cell_at (o := 5) hx.1 rfl; have x6 := cell_at (o := 6) hx.1 rfl; have x7 := cell_at (o := 7) hx.1 rfl) | (go_at_call 29; refine (DO.out _ hx).mono ?_; rintro e w2 ⟨rfl, hx⟩; have x0 := cell_at (o := 0) hx.1 rfl; have x1 := cell_at (o := 1) hx.1 rfl; have x2 := cell_at (o := 2) hx.1 rfl; have x3 := cell_at (o := 3) hx.1 rfl; have x4 := cell_at (o := 4) hx.1 rfl; have x5 := cell_at (o := 5) hx.1 rfl; have x6 := cell_at (o := 6) hx.1 rfl; have x7 := cell_at (o := 7) hx.1 rfl) | (go_at_call 30; refine (FT.out _ hx).mono ?_; rintro e w3 ⟨rfl, hx⟩))
  go_ret2
  exact ⟨ret_iiF HC.out.1 HC.out.2, hx.2⟩
theorem neq_selfI (c : Int) : (c != c) = false := by simp
set_option maxRecDepth 100000 in
set_option maxHeartbeats 3200000 in
theorem lawFits (x : Cl) (l : List At) (pa : Option Addr) (ca : Nat) (w : World) (ht : x.nm.length ≤ maxLen) (hr : x.rf.length ≤ maxLen) (hl : l.length ≤ maxLen) (hy : ∀ y ∈ l, y.t.length ≤ maxLen) (hA : Ats w (· < w.heap.size) pa l) :
    Calls Try.prog 4 #[.agg #[.string ⟨x.nm.toArray⟩, .int .i64 x.k, .int .i64 x.mn, .int .i64 x.mx, .int .i64 x.lo, .int .i64 x.hi, .string ⟨x.rf.toArray⟩, .bool x.st], .slice pa l.length ca] w fun e w' => e = .returned (.bool true) ∧ Below w.heap.size w w' := by
  have HT : Hid (x.nm.length ≤ maxLen ∧ x.rf.length ≤ maxLen) := ⟨ht, hr⟩
  have HX := Lib.hid (boxC 23 w x)
  have HA : Hid (Ats w (· < w.heap.size) pa l) := hA
  have HY : Hid (∀ x ∈ l, x.t.length ≤ maxLen) := hy
  have HL : Hid (l.length ≤ maxLen) := hl
  clear ht hr hA hy hl
  go_enter Try.func4, Try.ntmps4
  go_wp2_with fail
  refine (szColumn x 1048576 _ (by omega) (by omega) HT.out.1 HT.out.2).mono ?_
  rintro e w1 ⟨rfl, hB1⟩
  have HX1 := Lib.hid (HX.out.later hB1)
  clear hB1 HX
  by_cases hz : (1048576 : Int) - (x.sz : Int) < 0
  · rw [less_no hz]
    go_wp2_with fail
    go_ret
    exact ⟨rfl, HX1.out.2⟩
  rw [less_yes (by omega)]
  obtain ⟨L, hL⟩ : ∃ L : Int, L = 1048576 - (x.sz : Int) := ⟨_, rfl⟩
  rw [← hL]
  have hl0 : decide (L < 0) = false := by simp; omega
  have hL0 : 0 ≤ L := by omega
  have hL1 : L ≤ 1048576 := by omega
  clear hL hz
  go_wp2_with fail
  refine (szAtoms l pa ca L w.heap.size w1 hL0 hL1 HL.out HY.out HX1.out.2.size (HA.out.below HX1.out.2)).mono ?_
  rintro e w2 ⟨rfl, hB2⟩
  have HX2 := Lib.hid (HX1.out.later hB2)
  clear hB2 HX1
  by_cases hz : L - (szA l : Int) < 0
  · rw [less_no hz]
    go_wp2_with fail
    go_ret
    exact ⟨rfl, HX2.out.2⟩
  rw [less_yes (by omega)]
  have hza : l.length ≤ 1048576 := by unfold szA at hz; omega
  obtain ⟨M, hM⟩ : ∃ M : Int, M = L - (szA l : Int) := ⟨_, rfl⟩
  rw [← hM]
  have hm0 : decide (M < 0) = false := by simp; omega
  have HZ : Hid (l.length ≤ 1048576) := hza
  clear hM hz hza hl0 hL0 hL1
  have n1 := neq_selfI (ftR x l)
  have n2 := neq_selfI (ftC x l)
  have FS : Hid (∀ W q, OwnAts W (fun b => q ≤ b ∧ b < W.heap.size) (some ⟨q, 0, none⟩) l → Calls Try.prog 11 #[.agg #[.string ⟨x.nm.toArray⟩, .int .i64 x.k, .int .i64 x.mn, .int .i64 x.mx, .int .i64 x.lo, .int .i64 x.hi, .string ⟨x.rf.toArray⟩, .bool x.st], .slice (some ⟨q, 0, none⟩) l.length l.length] W fun e w' => e = .returned (.tuple #[.int .i64 (ftR x l), .int .i64 (ftC x l)]) ∧ Below W.heap.size W w') := fun W q h => fitsFS x l _ _ W.heap.size W HT.out.1 HT.out.2 HL.out HY.out (Nat.le_refl _) (h.ats.same (fun _ _ => rfl) (fun b hb => hb.2))
  have FI : Hid (∀ W q, OwnAts W (fun b => q ≤ b ∧ b < W.heap.size) (some ⟨q, 0, none⟩) l → Calls Try.prog 13 #[.agg #[.string ⟨x.nm.toArray⟩, .int .i64 x.k, .int .i64 x.mn, .int .i64 x.mx, .int .i64 x.lo, .int .i64 x.hi, .string ⟨x.rf.toArray⟩, .bool x.st], .slice (some ⟨q, 0, none⟩) l.length l.length] W fun e w' => e = .returned (.tuple #[.int .i64 (ftR x l), .int .i64 (ftC x l)]) ∧ Below W.heap.size W w') := fun W q h => fitsFI x l _ _ W.heap.size W HT.out.1 HT.out.2 HL.out HY.out (Nat.le_refl _) (h.ats.same (fun _ _ => rfl) (fun b hb => hb.2))
  generalize ftR x l = q1 at *
  generalize ftC x l = q2 at *
  have x0 := cell_at (o := 0) HX2.out.1 rfl
  have x1 := cell_at (o := 1) HX2.out.1 rfl
  have x2 := cell_at (o := 2) HX2.out.1 rfl
  have x3 := cell_at (o := 3) HX2.out.1 rfl
  have x4 := cell_at (o := 4) HX2.out.1 rfl
  have x5 := cell_at (o := 5) HX2.out.1 rfl
  have x6 := cell_at (o := 6) HX2.out.1 rfl
  have x7 := cell_at (o := 7) HX2.out.1 rfl
  go_wp2_with fail
  refine (toColumn x _).mono ?_
  rintro e w3 ⟨rfl, hB3⟩
  have HX3 := Lib.hid (HX2.out.later hB3)
  clear hB3 HX2 x0 x1 x2 x3 x4 x5 x6 x7
  go_wp2_with fail
  refine (toAtoms l pa ca w.heap.size w3 HX3.out.2.size HZ.out (HA.out.below HX3.out.2)).mono ?_
  rintro e w4 ⟨rfl, ho4, hB4⟩
  have HX4 := Lib.hid (HX3.out.later hB4)
  have O4 := Lib.hid ho4
  clear hB4 HX3 ho4
  generalize w3.heap.size = s3 at *
  go_wp2_with fail
  refine (FS.out _ _ O4.out).mono ?_
  rintro e w5 ⟨rfl, hB5⟩
  have HX5 := Lib.hid (HX4.out.later hB5)
  clear hB5 HX4 O4
  go_wp2_with fail
  refine (toAtoms l pa ca w.heap.size w5 HX5.out.2.size HZ.out (HA.out.below HX5.out.2)).mono ?_
  rintro e w6 ⟨rfl, ho6, hB6⟩
  have HX6 := Lib.hid (HX5.out.later hB6)
  have O6 := Lib.hid (And.intro (show w5.heap.size ≤ w6.heap.size from hB6.size) ho6)
  clear hB6 HX5 ho6
  generalize w5.heap.size = s5 at *
  have x0 := cell_at (o := 0) HX6.out.1 rfl
  have x1 := cell_at (o := 1) HX6.out.1 rfl
  have x2 := cell_at (o := 2) HX6.out.1 rfl
  have x3 := cell_at (o := 3) HX6.out.1 rfl
  have x4 := cell_at (o := 4) HX6.out.1 rfl
  have x5 := cell_at (o := 5) HX6.out.1 rfl
  have x6 := cell_at (o := 6) HX6.out.1 rfl
  have x7 := cell_at (o := 7) HX6.out.1 rfl
  go_wp2_with fail
  refine (toColumn x _).mono ?_
  rintro e w7 ⟨rfl, hB7⟩
  have HX7 := Lib.hid (HX6.out.later hB7)
  have O7 := Lib.hid ((O6.out.2.later hB7).same (B' := fun b => s5 ≤ b ∧ b < w7.heap.size) (fun _ _ => rfl) (fun b hb => ⟨hb.1, Nat.lt_of_lt_of_le hb.2 hB7.size⟩))
  clear hB7 HX6 x0 x1 x2 x3 x4 x5 x6 x7 O6
  go_wp2_with fail
  refine (FI.out _ _ O7.out).mono ?_
  rintro e w8 ⟨rfl, hB8⟩
  have HX8 := Lib.hid (HX7.out.later hB8)
  have O8 := Lib.hid (O7.out.ats.later hB8)
  clear hB8 HX7 O7
  go_wp2_with fail
  refine (toAtoms l pa ca w.heap.size w8 HX8.out.2.size HZ.out (HA.out.below HX8.out.2)).mono ?_
  rintro e w9 ⟨rfl, ho9, hB9⟩
  have HX9 := Lib.hid (HX8.out.later hB9)
  have O9 := Lib.hid (And.intro (O8.out.later hB9) ho9.ats)
  clear hB9 HX8 ho9 O8
  go_wp2_with fail
  refine (eqAtoms l _ _ _ _ _ _ _ HL.out O9.out.1 O9.out.2).mono ?_
  rintro e w10 ⟨rfl, hB10⟩
  have HX10 := Lib.hid (HX9.out.later hB10)
  clear hB10 HX9 O9
  go_wp2_with fail
  go_ret
  exact ⟨rfl, HX10.out.2⟩
end Go.Proofs.Ytohlggpolchmaaa
