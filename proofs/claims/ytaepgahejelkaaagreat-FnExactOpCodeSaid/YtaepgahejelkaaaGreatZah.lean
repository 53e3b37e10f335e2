import Derived.Test.YtaepgahejelkaaaGreatZae
import Derived.Test.YtaepgahejelkaaaGreatZaf
namespace Go.Proofs.YtaepgahejelkaaaGreat
open Go.RowKit
set_option linter.unusedSimpArgs false
def zeroB (c : Cl) : Bool := (c.lo == 0) && (c.hi == 0)
def freeB (c : Cl) : Bool := c.rf.isEmpty && !c.st
set_option maxHeartbeats 800000 in
theorem boundsNotI (c : Cl) (w : World) : Calls Tryz.prog 123 #[.agg #[.string ⟨c.nm.toArray⟩, .int .i64 c.k, .int .i64 c.mn, .int .i64 c.mx, .int .i64 c.lo, .int .i64 c.hi, .string ⟨c.rf.toArray⟩, .bool c.st]] w fun e w' => e = .returned (.bool (zeroB c)) ∧ Below w.heap.size w w' := by
  have HP : Hid (zeroB c = ((c.lo == 0) && (c.hi == 0))) := rfl
  go_enter Tryz.func123, Tryz.ntmps123
  go_wp2_with fail
  all_goals
    go_ret
    exact ⟨ret_b (end_bC HP (by simp [*])), (Below.refl _ _).alloc (Nat.le_refl _) _⟩
set_option maxHeartbeats 800000 in
theorem refersNotI (c : Cl) (w : World) : Calls Tryz.prog 122 #[.agg #[.string ⟨c.nm.toArray⟩, .int .i64 c.k, .int .i64 c.mn, .int .i64 c.mx, .int .i64 c.lo, .int .i64 c.hi, .string ⟨c.rf.toArray⟩, .bool c.st]] w fun e w' => e = .returned (.bool (freeB c)) ∧ Below w.heap.size w w' := by
  have HP : Hid (freeB c = (c.rf.isEmpty && !c.st)) := rfl
  go_enter Tryz.func122, Tryz.ntmps122
  go_wp2_with fail
  all_goals
    go_ret
    exact ⟨ret_b (end_bC HP (by simp [*])), (Below.refl _ _).alloc (Nat.le_refl _) _⟩
theorem numB (n : Int) (w : World) : Calls Tryz.prog 121 #[.int .i64 n] w fun e w' => e = .returned (.bool (inB (-1000000000) n 1000000000)) ∧ w' = w := numberOK n w
theorem kind1z {c : Cl} (h : c.k = 1) : kindB c = (inB (-1000000000) c.lo 1000000000 && (inB (-1000000000) c.hi 1000000000 && (decide (c.lo ≤ c.hi) && freeB c))) := kind1 h
theorem kind4z {c : Cl} (h : c.k = 4) : kindB c = ((c.mn == 0) && (zeroB c && nameB c.rf)) := by rw [kind4 h]; unfold zeroB; simp [Bool.and_assoc]
theorem kind23z {c : Cl} (h : c.k = 2 ∨ c.k = 3) : kindB c = (zeroB c && freeB c) := by rw [kind23 h]; unfold zeroB freeB; simp [Bool.and_assoc]
set_option maxRecDepth 100000 in
set_option maxHeartbeats 2000000 in
theorem columnOKi (c : Cl) (w : World) (ht : c.nm.length ≤ maxLen) (hr : c.rf.length ≤ maxLen) :
    Calls Tryz.prog 89 #[.agg #[.string ⟨c.nm.toArray⟩, .int .i64 c.k, .int .i64 c.mn, .int .i64 c.mx, .int .i64 c.lo, .int .i64 c.hi, .string ⟨c.rf.toArray⟩, .bool c.st]] w fun e w' => e = .returned (.bool (colB c)) ∧ Below w.heap.size w w' := by
  have HT : Hid (c.nm.length ≤ maxLen ∧ c.rf.length ≤ maxLen) := ⟨ht, hr⟩
  have hx := boxC 91 w c
  have BN : Hid (∀ W, BoxC 91 w W c → Calls Tryz.prog 123 #[.agg #[.string ⟨c.nm.toArray⟩, .int .i64 c.k, .int .i64 c.mn, .int .i64 c.mx, .int .i64 c.lo, .int .i64 c.hi, .string ⟨c.rf.toArray⟩, .bool c.st]] W fun e w' => e = .returned (.bool (zeroB c)) ∧ BoxC 91 w w' c) := fun W h => (boundsNotI c W).mono (fun e w' ⟨he, hB⟩ => ⟨he, h.later hB⟩)
  have RN : Hid (∀ W, BoxC 91 w W c → Calls Tryz.prog 122 #[.agg #[.string ⟨c.nm.toArray⟩, .int .i64 c.k, .int .i64 c.mn, .int .i64 c.mx, .int .i64 c.lo, .int .i64 c.hi, .string ⟨c.rf.toArray⟩, .bool c.st]] W fun e w' => e = .returned (.bool (freeB c)) ∧ BoxC 91 w w' c) := fun W h => (refersNotI c W).mono (fun e w' ⟨he, hB⟩ => ⟨he, h.later hB⟩)
  clear ht hr
  cases hn : nameB c.nm
  · have HP : Hid (colB c = false) := col_no hn
    go_enter Tryz.func89, Tryz.ntmps89
    go_wp2_with (first | (go_at_call 88; refine (nameI _ _ (by first | exact HT.out.1 | exact HT.out.2)).mono ?_; rintro e w' ⟨rfl, rfl⟩) | (go_at_call 121; refine (numB _ _).mono ?_; rintro e w' ⟨rfl, rfl⟩) | (go_at_call 123; refine (BN.out _ hx).mono ?_; rintro e w1 ⟨rfl, hx⟩; have x0 := cell_at (o := 0) hx.1 rfl; have x1 := cell_at (o := 1) hx.1 rfl; have x2 := cell_at (o := 2) hx.1 rfl; have x3 := cell_at (o := 3) hx.1 rfl; have x4 := cell_at (o := 4) hx.1 rfl; have x5 := cell_at (o := 5) hx.1 rfl; have x6 := cell_at (o := 6) hx.1 rfl; have x7 := cell_at (o := 7) hx.1 rfl) | (go_at_call 122; refine (RN.out _ hx).mono ?_; rintro e w1 ⟨rfl, hx⟩; have x0 := cell_at (o := 0) hx.1 rfl; have x1 := cell_at (o := 1) hx.1 rfl; have x2 := cell_at (o := 2) hx.1 rfl; have x3 := cell_at (o := 3) hx.1 rfl; have x4 := cell_at (o := 4) hx.1 rfl; have x5 := cell_at (o := 5) hx.1 rfl; have x6 := cell_at (o := 6) hx.1 rfl; have x7 := cell_at (o := 7) hx.1 rfl))
    go_ret
    exact ⟨ret_b (end_bC HP rfl), hx.2⟩
  by_cases hb : c.mn < 0
  case pos =>
    have HP : Hid (colB c = false) := col_mn (by unfold inB; simp; omega)
    have d0 : decide (c.mn < 0) = true := decide_eq_true hb
    clear hb
    go_enter Tryz.func89, Tryz.ntmps89
    go_wp2_with (first | (go_at_call 88; refine (nameI _ _ (by first | exact HT.out.1 | exact HT.out.2)).mono ?_; rintro e w' ⟨rfl, rfl⟩) | (go_at_call 121; refine (numB _ _).mono ?_; rintro e w' ⟨rfl, rfl⟩) | (go_at_call 123; refine (BN.out _ hx).mono ?_; rintro e w1 ⟨rfl, hx⟩; have x0 := cell_at (o := 0) hx.1 rfl; have x1 := cell_at (o := 1) hx.1 rfl; have x2 := cell_at (o := 2) hx.1 rfl; have x3 := cell_at (o := 3) hx.1 rfl; have x4 := cell_at (o := 4) hx.1 rfl; have x5 := cell_at (o := 5) hx.1 rfl; have x6 := cell_at (o := 6) hx.1 rfl; have x7 := cell_at (o := 7) hx.1 rfl) | (go_at_call 122; refine (RN.out _ hx).mono ?_; rintro e w1 ⟨rfl, hx⟩; have x0 := cell_at (o := 0) hx.1 rfl; have x1 := cell_at (o := 1) hx.1 rfl; have x2 := cell_at (o := 2) hx.1 rfl; have x3 := cell_at (o := 3) hx.1 rfl; have x4 := cell_at (o := 4) hx.1 rfl; have x5 := cell_at (o := 5) hx.1 rfl; have x6 := cell_at (o := 6) hx.1 rfl; have x7 := cell_at (o := 7) hx.1 rfl))
    go_ret
    exact ⟨ret_b (end_bC HP rfl), hx.2⟩
  have d1 : decide (c.mn < 0) = false := decide_eq_false hb
  have d1' := hb
  clear hb
  by_cases hb : 1 < c.mn
  case pos =>
    have HP : Hid (colB c = false) := col_mn (by unfold inB; simp; omega)
    have d0 : decide (1 < c.mn) = true := decide_eq_true hb
    clear hb
    go_enter Tryz.func89, Tryz.ntmps89
    go_wp2_with (first | (go_at_call 88; refine (nameI _ _ (by first | exact HT.out.1 | exact HT.out.2)).mono ?_; rintro e w' ⟨rfl, rfl⟩) | (go_at_call 121; refine (numB _ _).mono ?_; rintro e w' ⟨rfl, rfl⟩) | (go_at_call 123; refine (BN.out _ hx).mono ?_; rintro e w1 ⟨rfl, hx⟩; have x0 := cell_at (o := 0) hx.1 rfl; have x1 := cell_at (o := 1) hx.1 rfl; have x2 := cell_at (o := 2) hx.1 rfl; have x3 := cell_at (o := 3) hx.1 rfl; have x4 := cell_at (o := 4) hx.1 rfl; have x5 := cell_at (o := 5) hx.1 rfl; have x6 := cell_at (o := 6) hx.1 rfl; have x7 := cell_at (o := 7) hx.1 rfl) | (go_at_call 122; refine (RN.out _ hx).mono ?_; rintro e w1 ⟨rfl, hx⟩; have x0 := cell_at (o := 0) hx.1 rfl; have x1 := cell_at (o := 1) hx.1 rfl; have x2 := cell_at (o := 2) hx.1 rfl; have x3 := cell_at (o := 3) hx.1 rfl; have x4 := cell_at (o := 4) hx.1 rfl; have x5 := cell_at (o := 5) hx.1 rfl; have x6 := cell_at (o := 6) hx.1 rfl; have x7 := cell_at (o := 7) hx.1 rfl))
    go_ret
    exact ⟨ret_b (end_bC HP rfl), hx.2⟩
  have d2 : decide (1 < c.mn) = false := decide_eq_false hb
  have d2' := hb
  clear hb
  by_cases hb : c.mx < 1
  case pos =>
    have HP : Hid (colB c = false) := col_mx (by unfold inB; simp; omega)
    have d0 : decide (c.mx < 1) = true := decide_eq_true hb
    clear hb
    go_enter Tryz.func89, Tryz.ntmps89
    go_wp2_with (first | (go_at_call 88; refine (nameI _ _ (by first | exact HT.out.1 | exact HT.out.2)).mono ?_; rintro e w' ⟨rfl, rfl⟩) | (go_at_call 121; refine (numB _ _).mono ?_; rintro e w' ⟨rfl, rfl⟩) | (go_at_call 123; refine (BN.out _ hx).mono ?_; rintro e w1 ⟨rfl, hx⟩; have x0 := cell_at (o := 0) hx.1 rfl; have x1 := cell_at (o := 1) hx.1 rfl; have x2 := cell_at (o := 2) hx.1 rfl; have x3 := cell_at (o := 3) hx.1 rfl; have x4 := cell_at (o := 4) hx.1 rfl; have x5 := cell_at (o := 5) hx.1 rfl; have x6 := cell_at (o := 6) hx.1 rfl; have x7 := cell_at (o := 7) hx.1 rfl) | (go_at_call 122; refine (RN.out _ hx).mono ?_; rintro e w1 ⟨rfl, hx⟩; have x0 := cell_at (o := 0) hx.1 rfl; have x1 := cell_at (o := 1) hx.1 rfl; have x2 := cell_at (o := 2) hx.1 rfl; have x3 := cell_at (o := 3) hx.1 rfl; have x4 := cell_at (o := 4) hx.1 rfl; have x5 := cell_at (o := 5) hx.1 rfl; have x6 := cell_at (o := 6) hx.1 rfl; have x7 := cell_at (o := 7) hx.1 rfl))
    go_ret
    exact ⟨ret_b (end_bC HP rfl), hx.2⟩
  have d3 : decide (c.mx < 1) = false := decide_eq_false hb
  have d3' := hb
  clear hb
  by_cases hb : 8 < c.mx
  case pos =>
    have HP : Hid (colB c = false) := col_mx (by unfold inB; simp; omega)
    have d0 : decide (8 < c.mx) = true := decide_eq_true hb
    clear hb
    go_enter Tryz.func89, Tryz.ntmps89
    go_wp2_with (first | (go_at_call 88; refine (nameI _ _ (by first | exact HT.out.1 | exact HT.out.2)).mono ?_; rintro e w' ⟨rfl, rfl⟩) | (go_at_call 121; refine (numB _ _).mono ?_; rintro e w' ⟨rfl, rfl⟩) | (go_at_call 123; refine (BN.out _ hx).mono ?_; rintro e w1 ⟨rfl, hx⟩; have x0 := cell_at (o := 0) hx.1 rfl; have x1 := cell_at (o := 1) hx.1 rfl; have x2 := cell_at (o := 2) hx.1 rfl; have x3 := cell_at (o := 3) hx.1 rfl; have x4 := cell_at (o := 4) hx.1 rfl; have x5 := cell_at (o := 5) hx.1 rfl; have x6 := cell_at (o := 6) hx.1 rfl; have x7 := cell_at (o := 7) hx.1 rfl) | (go_at_call 122; refine (RN.out _ hx).mono ?_; rintro e w1 ⟨rfl, hx⟩; have x0 := cell_at (o := 0) hx.1 rfl; have x1 := cell_at (o := 1) hx.1 rfl; have x2 := cell_at (o := 2) hx.1 rfl; have x3 := cell_at (o := 3) hx.1 rfl; have x4 := cell_at (o := 4) hx.1 rfl; have x5 := cell_at (o := 5) hx.1 rfl; have x6 := cell_at (o := 6) hx.1 rfl; have x7 := cell_at (o := 7) hx.1 rfl))
    go_ret
    exact ⟨ret_b (end_bC HP rfl), hx.2⟩
  have d4 : decide (8 < c.mx) = false := decide_eq_false hb
  have d4' := hb
  clear hb
  have HY : Hid (colB c = kindB c) := col_yes hn (by unfold inB; simp; omega) (by unfold inB; simp; omega)
  clear d1' d2' d3' d4'
  rcases (by omega : c.k = 1 ∨ c.k = 4 ∨ c.k = 2 ∨ c.k = 3 ∨ (c.k < 1 ∨ 4 < c.k)) with k | k | k | k | k
  · have HP : Hid (colB c = _) := HY.out.trans (kind1z k)
    have k1 : (c.k == 1) = true := by simp; omega
    clear HY k
    go_enter Tryz.func89, Tryz.ntmps89
    go_wp2_with (first | (go_at_call 88; refine (nameI _ _ (by first | exact HT.out.1 | exact HT.out.2)).mono ?_; rintro e w' ⟨rfl, rfl⟩) | (go_at_call 121; refine (numB _ _).mono ?_; rintro e w' ⟨rfl, rfl⟩) | (go_at_call 123; refine (BN.out _ hx).mono ?_; rintro e w1 ⟨rfl, hx⟩; have x0 := cell_at (o := 0) hx.1 rfl; have x1 := cell_at (o := 1) hx.1 rfl; have x2 := cell_at (o := 2) hx.1 rfl; have x3 := cell_at (o := 3) hx.1 rfl; have x4 := cell_at (o := 4) hx.1 rfl; have x5 := cell_at (o := 5) hx.1 rfl; have x6 := cell_at (o := 6) hx.1 rfl; have x7 := cell_at (o := 7) hx.1 rfl) | (go_at_call 122; refine (RN.out _ hx).mono ?_; rintro e w1 ⟨rfl, hx⟩; have x0 := cell_at (o := 0) hx.1 rfl; have x1 := cell_at (o := 1) hx.1 rfl; have x2 := cell_at (o := 2) hx.1 rfl; have x3 := cell_at (o := 3) hx.1 rfl; have x4 := cell_at (o := 4) hx.1 rfl; have x5 := cell_at (o := 5) hx.1 rfl; have x6 := cell_at (o := 6) hx.1 rfl; have x7 := cell_at (o := 7) hx.1 rfl))
    all_goals
      go_ret
      exact ⟨ret_b (end_bC HP (by first | (simp [*]; done) | (simp [*]; intros; exfalso; omega))), hx.2⟩
  · have HP : Hid (colB c = _) := HY.out.trans (kind4z k)
    have k1 : (c.k == 1) = false := by simp; omega
    have k2 : (c.k == 2) = false := by simp; omega
    have k3 : (c.k == 3) = false := by simp; omega
    have k4 : (c.k == 4) = true := by simp; omega
    clear HY k
    cases hm : (c.mn == 0)
    case false =>
      rw [hm] at HP
      go_enter Tryz.func89, Tryz.ntmps89
      go_wp2_with (first | (go_at_call 88; refine (nameI _ _ (by first | exact HT.out.1 | exact HT.out.2)).mono ?_; rintro e w' ⟨rfl, rfl⟩) | (go_at_call 121; refine (numB _ _).mono ?_; rintro e w' ⟨rfl, rfl⟩) | (go_at_call 123; refine (BN.out _ hx).mono ?_; rintro e w1 ⟨rfl, hx⟩; have x0 := cell_at (o := 0) hx.1 rfl; have x1 := cell_at (o := 1) hx.1 rfl; have x2 := cell_at (o := 2) hx.1 rfl; have x3 := cell_at (o := 3) hx.1 rfl; have x4 := cell_at (o := 4) hx.1 rfl; have x5 := cell_at (o := 5) hx.1 rfl; have x6 := cell_at (o := 6) hx.1 rfl; have x7 := cell_at (o := 7) hx.1 rfl) | (go_at_call 122; refine (RN.out _ hx).mono ?_; rintro e w1 ⟨rfl, hx⟩; have x0 := cell_at (o := 0) hx.1 rfl; have x1 := cell_at (o := 1) hx.1 rfl; have x2 := cell_at (o := 2) hx.1 rfl; have x3 := cell_at (o := 3) hx.1 rfl; have x4 := cell_at (o := 4) hx.1 rfl; have x5 := cell_at (o := 5) hx.1 rfl; have x6 := cell_at (o := 6) hx.1 rfl; have x7 := cell_at (o := 7) hx.1 rfl))
      all_goals
        go_ret
        exact ⟨ret_b (end_bC HP (rfl)), hx.2⟩
    rw [hm] at HP
    go_enter Tryz.func89, Tryz.ntmps89
    go_wp2_with (first | (go_at_call 88; refine (nameI _ _ (by first | exact HT.out.1 | exact HT.out.2)).mono ?_; rintro e w' ⟨rfl, rfl⟩) | (go_at_call 121; refine (numB _ _).mono ?_; rintro e w' ⟨rfl, rfl⟩) | (go_at_call 123; refine (BN.out _ hx).mono ?_; rintro e w1 ⟨rfl, hx⟩; have x0 := cell_at (o := 0) hx.1 rfl; have x1 := cell_at (o := 1) hx.1 rfl; have x2 := cell_at (o := 2) hx.1 rfl; have x3 := cell_at (o := 3) hx.1 rfl; have x4 := cell_at (o := 4) hx.1 rfl; have x5 := cell_at (o := 5) hx.1 rfl; have x6 := cell_at (o := 6) hx.1 rfl; have x7 := cell_at (o := 7) hx.1 rfl) | (go_at_call 122; refine (RN.out _ hx).mono ?_; rintro e w1 ⟨rfl, hx⟩; have x0 := cell_at (o := 0) hx.1 rfl; have x1 := cell_at (o := 1) hx.1 rfl; have x2 := cell_at (o := 2) hx.1 rfl; have x3 := cell_at (o := 3) hx.1 rfl; have x4 := cell_at (o := 4) hx.1 rfl; have x5 := cell_at (o := 5) hx.1 rfl; have x6 := cell_at (o := 6) hx.1 rfl; have x7 := cell_at (o := 7) hx.1 rfl))
    all_goals
      go_ret
      exact ⟨ret_b (end_bC HP (by first | (simp [*]; done) | (simp [*]; intros; exfalso; omega))), hx.2⟩
  · have HP : Hid (colB c = _) := HY.out.trans (kind23z (.inl k))
    have k1 : (c.k == 1) = false := by simp; omega
    have k2 : (c.k == 2) = true := by simp; omega
    clear HY k
    go_enter Tryz.func89, Tryz.ntmps89
    go_wp2_with (first | (go_at_call 88; refine (nameI _ _ (by first | exact HT.out.1 | exact HT.out.2)).mono ?_; rintro e w' ⟨rfl, rfl⟩) | (go_at_call 121; refine (numB _ _).mono ?_; rintro e w' ⟨rfl, rfl⟩) | (go_at_call 123; refine (BN.out _ hx).mono ?_; rintro e w1 ⟨rfl, hx⟩; have x0 := cell_at (o := 0) hx.1 rfl; have x1 := cell_at (o := 1) hx.1 rfl; have x2 := cell_at (o := 2) hx.1 rfl; have x3 := cell_at (o := 3) hx.1 rfl; have x4 := cell_at (o := 4) hx.1 rfl; have x5 := cell_at (o := 5) hx.1 rfl; have x6 := cell_at (o := 6) hx.1 rfl; have x7 := cell_at (o := 7) hx.1 rfl) | (go_at_call 122; refine (RN.out _ hx).mono ?_; rintro e w1 ⟨rfl, hx⟩; have x0 := cell_at (o := 0) hx.1 rfl; have x1 := cell_at (o := 1) hx.1 rfl; have x2 := cell_at (o := 2) hx.1 rfl; have x3 := cell_at (o := 3) hx.1 rfl; have x4 := cell_at (o := 4) hx.1 rfl; have x5 := cell_at (o := 5) hx.1 rfl; have x6 := cell_at (o := 6) hx.1 rfl; have x7 := cell_at (o := 7) hx.1 rfl))
    all_goals
      go_ret
      exact ⟨ret_b (end_bC HP (by first | (simp [*]; done) | (simp [*]; intros; exfalso; omega))), hx.2⟩
  · have HP : Hid (colB c = _) := HY.out.trans (kind23z (.inr k))
    have k1 : (c.k == 1) = false := by simp; omega
    have k2 : (c.k == 2) = false := by simp; omega
    have k3 : (c.k == 3) = true := by simp; omega
    clear HY k
    go_enter Tryz.func89, Tryz.ntmps89
    go_wp2_with (first | (go_at_call 88; refine (nameI _ _ (by first | exact HT.out.1 | exact HT.out.2)).mono ?_; rintro e w' ⟨rfl, rfl⟩) | (go_at_call 121; refine (numB _ _).mono ?_; rintro e w' ⟨rfl, rfl⟩) | (go_at_call 123; refine (BN.out _ hx).mono ?_; rintro e w1 ⟨rfl, hx⟩; have x0 := cell_at (o := 0) hx.1 rfl; have x1 := cell_at (o := 1) hx.1 rfl; have x2 := cell_at (o := 2) hx.1 rfl; have x3 := cell_at (o := 3) hx.1 rfl; have x4 := cell_at (o := 4) hx.1 rfl; have x5 := cell_at (o := 5) hx.1 rfl; have x6 := cell_at (o := 6) hx.1 rfl; have x7 := cell_at (o := 7) hx.1 rfl) | (go_at_call 122; refine (RN.out _ hx).mono ?_; rintro e w1 ⟨rfl, hx⟩; have x0 := cell_at (o := 0) hx.1 rfl; have x1 := cell_at (o := 1) hx.1 rfl; have x2 := cell_at (o := 2) hx.1 rfl; have x3 := cell_at (o := 3) hx.1 rfl; have x4 := cell_at (o := 4) hx.1 rfl; have x5 := cell_at (o := 5) hx.1 rfl; have x6 := cell_at (o := 6) hx.1 rfl; have x7 := cell_at (o := 7) hx.1 rfl))
    all_goals
      go_ret
      exact ⟨ret_b (end_bC HP (by first | (simp [*]; done) | (simp [*]; intros; exfalso; omega))), hx.2⟩
  · have HP : Hid (colB c = false) := HY.out.trans (kindN k)
    have k1 : (c.k == 1) = false := by simp; omega
    have k2 : (c.k == 2) = false := by simp; omega
    have k3 : (c.k == 3) = false := by simp; omega
    have k4 : (c.k == 4) = false := by simp; omega
    clear HY k
    go_enter Tryz.func89, Tryz.ntmps89
    go_wp2_with (first | (go_at_call 88; refine (nameI _ _ (by first | exact HT.out.1 | exact HT.out.2)).mono ?_; rintro e w' ⟨rfl, rfl⟩) | (go_at_call 121; refine (numB _ _).mono ?_; rintro e w' ⟨rfl, rfl⟩) | (go_at_call 123; refine (BN.out _ hx).mono ?_; rintro e w1 ⟨rfl, hx⟩; have x0 := cell_at (o := 0) hx.1 rfl; have x1 := cell_at (o := 1) hx.1 rfl; have x2 := cell_at (o := 2) hx.1 rfl; have x3 := cell_at (o := 3) hx.1 rfl; have x4 := cell_at (o := 4) hx.1 rfl; have x5 := cell_at (o := 5) hx.1 rfl; have x6 := cell_at (o := 6) hx.1 rfl; have x7 := cell_at (o := 7) hx.1 rfl) | (go_at_call 122; refine (RN.out _ hx).mono ?_; rintro e w1 ⟨rfl, hx⟩; have x0 := cell_at (o := 0) hx.1 rfl; have x1 := cell_at (o := 1) hx.1 rfl; have x2 := cell_at (o := 2) hx.1 rfl; have x3 := cell_at (o := 3) hx.1 rfl; have x4 := cell_at (o := 4) hx.1 rfl; have x5 := cell_at (o := 5) hx.1 rfl; have x6 := cell_at (o := 6) hx.1 rfl; have x7 := cell_at (o := 7) hx.1 rfl))
    go_ret
    exact ⟨ret_b (end_bC HP rfl), hx.2⟩
end Go.Proofs.YtaepgahejelkaaaGreat
namespace Go.Proofs.YtaepgahejelkaaaGreat
open Go.RowKit
set_option linter.unusedSimpArgs false
def atOK (x : At) : Bool :=
  if x.k = 1 then inB (-1000000000) x.n 1000000000 && x.t.isEmpty
  else if x.k = 2 then (x.n == 0) && textB x.t
  else if x.k = 3 then inB 0 x.n 1 && x.t.isEmpty
  else if x.k = 4 then inB 1 x.n 1000000 && x.t.isEmpty
  else false
theorem atOK1 {x : At} (h : x.k = 1) : atOK x = (inB (-1000000000) x.n 1000000000 && x.t.isEmpty) := by unfold atOK; rw [if_pos h]
theorem atOK2 {x : At} (h : x.k = 2) : atOK x = ((x.n == 0) && textB x.t) := by unfold atOK; rw [if_neg (by omega), if_pos h]
theorem atOK3 {x : At} (h : x.k = 3) : atOK x = (inB 0 x.n 1 && x.t.isEmpty) := by unfold atOK; rw [if_neg (by omega), if_neg (by omega), if_pos h]
theorem atOK4 {x : At} (h : x.k = 4) : atOK x = (inB 1 x.n 1000000 && x.t.isEmpty) := by unfold atOK; rw [if_neg (by omega), if_neg (by omega), if_neg (by omega), if_pos h]
theorem atOKN {x : At} (h : x.k < 1 ∨ 4 < x.k) : atOK x = false := by unfold atOK; rw [if_neg (by omega), if_neg (by omega), if_neg (by omega), if_neg (by omega)]
theorem end_b {a x y : Bool} (HP : Hid (a = x)) (h : y = x) : y = a := by rw [HP.out]; exact h
set_option maxHeartbeats 1600000 in
theorem atomOKs (x : At) (w : World) (ht : x.t.length ≤ maxLen) :
    Calls Tryz.prog 113 #[.agg #[.int .i64 x.k, .int .i64 x.n, .string ⟨x.t.toArray⟩]] w fun e w' => e = .returned (.bool (atOK x)) ∧ Below w.heap.size w w' := by
  have HTL : Hid (x.t.length ≤ maxLen) := ht
  clear ht
  rcases (by omega : x.k = 1 ∨ x.k = 2 ∨ x.k = 3 ∨ x.k = 4 ∨ (x.k < 1 ∨ 4 < x.k)) with k | k | k | k | k
  · have HP : Hid (atOK x = _) := atOK1 k
    rw [k]
    go_enter Tryz.func113, Tryz.ntmps113
    go_wp2_with (go_at_call 38; refine (inS _ _ _ _).mono ?_; rintro e w' ⟨rfl, rfl⟩)
    all_goals
      go_ret
      exact ⟨ret_b (end_b HP (by simp [*])), (Below.refl _ _).alloc (Nat.le_refl _) _⟩
  · have HP : Hid (atOK x = _) := atOK2 k
    rw [k]
    go_enter Tryz.func113, Tryz.ntmps113
    go_wp2_with (go_at_call 131; refine (textS _ _ HTL.out).mono ?_; rintro e w' ⟨rfl, rfl⟩)
    all_goals
      go_ret
      exact ⟨ret_b (end_b HP (by simp [*])), (Below.refl _ _).alloc (Nat.le_refl _) _⟩
  · have HP : Hid (atOK x = _) := atOK3 k
    rw [k]
    go_enter Tryz.func113, Tryz.ntmps113
    go_wp2_with (go_at_call 38; refine (inS _ _ _ _).mono ?_; rintro e w' ⟨rfl, rfl⟩)
    all_goals
      go_ret
      exact ⟨ret_b (end_b HP (by simp [*])), (Below.refl _ _).alloc (Nat.le_refl _) _⟩
  · have HP : Hid (atOK x = _) := atOK4 k
    rw [k]
    go_enter Tryz.func113, Tryz.ntmps113
    go_wp2_with (go_at_call 38; refine (inS _ _ _ _).mono ?_; rintro e w' ⟨rfl, rfl⟩)
    all_goals
      go_ret
      exact ⟨ret_b (end_b HP (by simp [*])), (Below.refl _ _).alloc (Nat.le_refl _) _⟩
  · have HP : Hid (atOK x = false) := atOKN k
    have k1 : (x.k == 1) = false := by simp; omega
    have k2 : (x.k == 2) = false := by simp; omega
    have k3 : (x.k == 3) = false := by simp; omega
    have k4 : (x.k == 4) = false := by simp; omega
    go_enter Tryz.func113, Tryz.ntmps113
    go_wp2_with fail
    go_ret
    exact ⟨ret_b (end_b HP rfl), (Below.refl _ _).alloc (Nat.le_refl _) _⟩
def cmpA (a b : At) : Int :=
  if a.k ≠ b.k then (if a.k < b.k then -1 else 1)
  else if a.n ≠ b.n then (if a.n < b.n then -1 else 1)
  else if a.t ≠ b.t then (if Op.bytesLess a.t b.t then -1 else 1)
  else 0
theorem bitS (b : Bool) (w : World) : Calls Tryz.prog 132 #[.bool b] w fun e w' => e = .returned (.int .i64 (if b then 1 else 0)) ∧ w' = w := by
  cases b
  · go_enter Tryz.func132, Tryz.ntmps132
    go_wp2_with fail
    go_ret
    exact ⟨rfl, rfl⟩
  · go_enter Tryz.func132, Tryz.ntmps132
    go_wp2_with fail
    go_ret
    exact ⟨rfl, rfl⟩
theorem cmp_k {a b : At} (h : a.k ≠ b.k) : cmpA a b = 1 - 2 * (if decide (a.k < b.k) then 1 else 0) := by
  unfold cmpA
  rw [if_pos h]
  by_cases hl : a.k < b.k <;> simp [hl]
theorem cmp_n {a b : At} (h : a.k = b.k) (h2 : a.n ≠ b.n) : cmpA a b = 1 - 2 * (if decide (a.n < b.n) then 1 else 0) := by
  unfold cmpA
  rw [if_neg (by simp [h]), if_pos h2]
  by_cases hl : a.n < b.n <;> simp [hl]
theorem cmp_t {a b : At} (h : a.k = b.k) (h2 : a.n = b.n) (h3 : a.t ≠ b.t) : cmpA a b = 1 - 2 * (if Op.bytesLess a.t b.t then 1 else 0) := by
  unfold cmpA
  rw [if_neg (by simp [h]), if_neg (by simp [h2]), if_pos h3]
  by_cases hl : Op.bytesLess a.t b.t = true <;> simp [hl]
theorem cmp_0 {a b : At} (h : a.k = b.k) (h2 : a.n = b.n) (h3 : a.t = b.t) : cmpA a b = 0 := by
  unfold cmpA
  rw [if_neg (by simp [h]), if_neg (by simp [h2]), if_neg (by simp [h3])]
theorem below2 (w : World) (o o' : Obj) : Below w.heap.size w ((w.alloc o).alloc o') := ((Below.refl _ _).alloc (Nat.le_refl _) _).alloc (by simp) _
set_option maxHeartbeats 1600000 in
theorem orderS (a b : At) (w : World) :
    Calls Tryz.prog 114 #[.agg #[.int .i64 a.k, .int .i64 a.n, .string ⟨a.t.toArray⟩], .agg #[.int .i64 b.k, .int .i64 b.n, .string ⟨b.t.toArray⟩]] w fun e w' => e = .returned (.int .i64 (cmpA a b)) ∧ Below w.heap.size w w' := by
  by_cases h : a.k = b.k
  case neg =>
    have HC : Hid (cmpA a b = _) := cmp_k h
    have hk : (a.k != b.k) = true := by simpa using h
    obtain ⟨l, hl⟩ : ∃ l, l = decide (a.k < b.k) := ⟨_, rfl⟩
    rw [← hl] at HC
    clear h
    cases l
    · have hd : decide (a.k < b.k) = false := hl.symm
      clear hl
      go_enter Tryz.func114, Tryz.ntmps114
      go_wp2_with (go_at_call 132; refine (bitS false _).mono ?_; rintro e w' ⟨rfl, rfl⟩)
      go_ret
      exact ⟨by rw [HC.out]; rfl, below2 _ _ _⟩
    · have hd : decide (a.k < b.k) = true := hl.symm
      clear hl
      go_enter Tryz.func114, Tryz.ntmps114
      go_wp2_with (go_at_call 132; refine (bitS true _).mono ?_; rintro e w' ⟨rfl, rfl⟩)
      go_ret
      exact ⟨by rw [HC.out]; rfl, below2 _ _ _⟩
  by_cases h2 : a.n = b.n
  case neg =>
    have HC : Hid (cmpA a b = _) := cmp_n h h2
    have hk : (a.n != b.n) = true := by simpa using h2
    obtain ⟨l, hl⟩ : ∃ l, l = decide (a.n < b.n) := ⟨_, rfl⟩
    rw [← hl] at HC
    clear h2
    rw [h]
    clear h
    cases l
    · have hd : decide (a.n < b.n) = false := hl.symm
      clear hl
      go_enter Tryz.func114, Tryz.ntmps114
      go_wp2_with (go_at_call 132; refine (bitS false _).mono ?_; rintro e w' ⟨rfl, rfl⟩)
      go_ret
      exact ⟨by rw [HC.out]; rfl, below2 _ _ _⟩
    · have hd : decide (a.n < b.n) = true := hl.symm
      clear hl
      go_enter Tryz.func114, Tryz.ntmps114
      go_wp2_with (go_at_call 132; refine (bitS true _).mono ?_; rintro e w' ⟨rfl, rfl⟩)
      go_ret
      exact ⟨by rw [HC.out]; rfl, below2 _ _ _⟩
  by_cases h3 : a.t = b.t
  case neg =>
    have HC : Hid (cmpA a b = _) := cmp_t h h2 h3
    have hk : (a.t == b.t) = false := by simpa using h3
    obtain ⟨l, hl⟩ : ∃ l, l = Op.bytesLess a.t b.t := ⟨_, rfl⟩
    rw [← hl] at HC
    rw [h, h2]
    clear h h2
    cases l
    · have hd : Op.bytesLess a.t b.t = false := hl.symm
      clear hl
      go_enter Tryz.func114, Tryz.ntmps114
      go_wp2_with (go_at_call 132; refine (bitS false _).mono ?_; rintro e w' ⟨rfl, rfl⟩)
      go_ret
      exact ⟨by rw [HC.out]; rfl, below2 _ _ _⟩
    · have hd : Op.bytesLess a.t b.t = true := hl.symm
      clear hl
      go_enter Tryz.func114, Tryz.ntmps114
      go_wp2_with (go_at_call 132; refine (bitS true _).mono ?_; rintro e w' ⟨rfl, rfl⟩)
      go_ret
      exact ⟨by rw [HC.out]; rfl, below2 _ _ _⟩
  have HC : Hid (cmpA a b = 0) := cmp_0 h h2 h3
  rw [h, h2, h3]
  clear h h2 h3
  go_enter Tryz.func114, Tryz.ntmps114
  go_wp2_with fail
  go_ret
  exact ⟨by rw [HC.out]; rfl, below2 _ _ _⟩
end Go.Proofs.YtaepgahejelkaaaGreat
