import Derived.Test.YtlbcaaodkggohaaGreatDoorZai
namespace Go.Proofs.YtlbcaaodkggohaaGreatDoor
open Go.RowKit
set_option linter.unusedSimpArgs false
def zeroB (c : Cl) : Bool := (c.lo == 0) && (c.hi == 0)
def freeB (c : Cl) : Bool := c.rf.isEmpty && !c.st
set_option maxHeartbeats 800000 in
theorem boundsNotI (c : Cl) (w : World) : Calls Tryz.prog 99 #[.agg #[.string ⟨c.nm.toArray⟩, .int .i64 c.k, .int .i64 c.mn, .int .i64 c.mx, .int .i64 c.lo, .int .i64 c.hi, .string ⟨c.rf.toArray⟩, .bool c.st]] w fun e w' => e = .returned (.bool (zeroB c)) ∧ Below w.heap.size w w' := by
 have HP : Hid (zeroB c = ((c.lo == 0) && (c.hi == 0))) := rfl; (go_enter Tryz.func99, Tryz.ntmps99); go_wp2_with fail
 all_goals
  go_ret; exact ⟨ret_b (end_bC HP (by simp [*])), (Below.refl _ _).alloc (Nat.le_refl _) _⟩
set_option maxHeartbeats 800000 in
theorem refersNotI (c : Cl) (w : World) : Calls Tryz.prog 98 #[.agg #[.string ⟨c.nm.toArray⟩, .int .i64 c.k, .int .i64 c.mn, .int .i64 c.mx, .int .i64 c.lo, .int .i64 c.hi, .string ⟨c.rf.toArray⟩, .bool c.st]] w fun e w' => e = .returned (.bool (freeB c)) ∧ Below w.heap.size w w' := by
 have HP : Hid (freeB c = (c.rf.isEmpty && !c.st)) := rfl; (go_enter Tryz.func98, Tryz.ntmps98); go_wp2_with fail
 all_goals
  go_ret; exact ⟨ret_b (end_bC HP (by simp [*])), (Below.refl _ _).alloc (Nat.le_refl _) _⟩
theorem numB (n : Int) (w : World) : Calls Tryz.prog 97 #[.int .i64 n] w fun e w' => e = .returned (.bool (inB (-1000000000) n 1000000000)) ∧ w' = w := numberOK n w
theorem kind1z {c : Cl} (h : c.k = 1) : kindB c = (inB (-1000000000) c.lo 1000000000 && (inB (-1000000000) c.hi 1000000000 && (decide (c.lo ≤ c.hi) && freeB c))) := kind1 h
theorem kind4z {c : Cl} (h : c.k = 4) : kindB c = ((c.mn == 0) && (zeroB c && nameB c.rf)) := by rw [kind4 h]; unfold zeroB; simp [Bool.and_assoc]
theorem kind23z {c : Cl} (h : c.k = 2 ∨ c.k = 3) : kindB c = (zeroB c && freeB c) := by rw [kind23 h]; unfold zeroB freeB; simp [Bool.and_assoc]
set_option maxRecDepth 100000 in
set_option maxHeartbeats 2000000 in
theorem columnOKi (c : Cl) (w : World) (ht : c.nm.length ≤ maxLen) (hr : c.rf.length ≤ maxLen) :
  Calls Tryz.prog 73 #[.agg #[.string ⟨c.nm.toArray⟩, .int .i64 c.k, .int .i64 c.mn, .int .i64 c.mx, .int .i64 c.lo, .int .i64 c.hi, .string ⟨c.rf.toArray⟩, .bool c.st]] w fun e w' => e = .returned (.bool (colB c)) ∧ Below w.heap.size w w' := by
 have HT : Hid (c.nm.length ≤ maxLen ∧ c.rf.length ≤ maxLen) := ⟨ht, hr⟩; have hx := boxC 44 w c; have BN : Hid (∀ W, BoxC 44 w W c → Calls Tryz.prog 99 #[.agg #[.string ⟨c.nm.toArray⟩, .int .i64 c.k, .int .i64 c.mn, .int .i64 c.mx, .int .i64 c.lo, .int .i64 c.hi, .string ⟨c.rf.toArray⟩, .bool c.st]] W fun e w' => e = .returned (.bool (zeroB c)) ∧ BoxC 44 w w' c) := fun W h => (boundsNotI c W).mono (fun e w' ⟨he, hB⟩ => ⟨he, h.later hB⟩)
 have RN : Hid (∀ W, BoxC 44 w W c → Calls Tryz.prog 98 #[.agg #[.string ⟨c.nm.toArray⟩, .int .i64 c.k, .int .i64 c.mn, .int .i64 c.mx, .int .i64 c.lo, .int .i64 c.hi, .string ⟨c.rf.toArray⟩, .bool c.st]] W fun e w' => e = .returned (.bool (freeB c)) ∧ BoxC 44 w w' c) := fun W h => (refersNotI c W).mono (fun e w' ⟨he, hB⟩ => ⟨he, h.later hB⟩)
 clear ht hr
 cases hn : nameB c.nm
 ·
  have HP : Hid (colB c = false) := col_no hn; (go_enter Tryz.func73, Tryz.ntmps73); go_wp2_with (first | (go_at_call 22; refine (nameI _ _ (by first | exact HT.out.1 | exact HT.out.2)).mono ?_; rintro e w' ⟨rfl, rfl⟩) | (go_at_call 97; refine (numB _ _).mono ?_; rintro e w' ⟨rfl, rfl⟩) | (go_at_call 99; refine (BN.out _ hx).mono ?_; rintro e w1 ⟨rfl, hx⟩; obtain ⟨x0, x1, x2, x3, x4, x5, x6, x7⟩ := ck8 0 1 2 3 4 5 6 7 hx.1) | (go_at_call 98; refine (RN.out _ hx).mono ?_; rintro e w1 ⟨rfl, hx⟩; obtain ⟨x0, x1, x2, x3, x4, x5, x6, x7⟩ := ck8 0 1 2 3 4 5 6 7 hx.1))
  go_ret; exact ⟨ret_b (end_bC HP rfl), hx.2⟩
 by_cases hb : c.mn < 0
 case pos =>
  have HP : Hid (colB c = false) := col_mn (by unfold inB; simp; omega); have d0 : decide (c.mn < 0) = true := decide_eq_true hb; clear hb; (go_enter Tryz.func73, Tryz.ntmps73); go_wp2_with (first | (go_at_call 22; refine (nameI _ _ (by first | exact HT.out.1 | exact HT.out.2)).mono ?_; rintro e w' ⟨rfl, rfl⟩) | (go_at_call 97; refine (numB _ _).mono ?_; rintro e w' ⟨rfl, rfl⟩) | (go_at_call 99; refine (BN.out _ hx).mono ?_; rintro e w1 ⟨rfl, hx⟩; obtain ⟨x0, x1, x2, x3, x4, x5, x6, x7⟩ := ck8 0 1 2 3 4 5 6 7 hx.1) | (go_at_call 98; refine (RN.out _ hx).mono ?_; rintro e w1 ⟨rfl, hx⟩; obtain ⟨x0, x1, x2, x3, x4, x5, x6, x7⟩ := ck8 0 1 2 3 4 5 6 7 hx.1))
  go_ret; exact ⟨ret_b (end_bC HP rfl), hx.2⟩
 have d1 : decide (c.mn < 0) = false := decide_eq_false hb; have d1' := hb; clear hb
 by_cases hb : 1 < c.mn
 case pos =>
  have HP : Hid (colB c = false) := col_mn (by unfold inB; simp; omega); have d0 : decide (1 < c.mn) = true := decide_eq_true hb; clear hb; (go_enter Tryz.func73, Tryz.ntmps73); go_wp2_with (first | (go_at_call 22; refine (nameI _ _ (by first | exact HT.out.1 | exact HT.out.2)).mono ?_; rintro e w' ⟨rfl, rfl⟩) | (go_at_call 97; refine (numB _ _).mono ?_; rintro e w' ⟨rfl, rfl⟩) | (go_at_call 99; refine (BN.out _ hx).mono ?_; rintro e w1 ⟨rfl, hx⟩; obtain ⟨x0, x1, x2, x3, x4, x5, x6, x7⟩ := ck8 0 1 2 3 4 5 6 7 hx.1) | (go_at_call 98; refine (RN.out _ hx).mono ?_; rintro e w1 ⟨rfl, hx⟩; obtain ⟨x0, x1, x2, x3, x4, x5, x6, x7⟩ := ck8 0 1 2 3 4 5 6 7 hx.1))
  go_ret; exact ⟨ret_b (end_bC HP rfl), hx.2⟩
 have d2 : decide (1 < c.mn) = false := decide_eq_false hb; have d2' := hb; clear hb
 by_cases hb : c.mx < 1
 case pos =>
  have HP : Hid (colB c = false) := col_mx (by unfold inB; simp; omega); have d0 : decide (c.mx < 1) = true := decide_eq_true hb; clear hb; (go_enter Tryz.func73, Tryz.ntmps73); go_wp2_with (first | (go_at_call 22; refine (nameI _ _ (by first | exact HT.out.1 | exact HT.out.2)).mono ?_; rintro e w' ⟨rfl, rfl⟩) | (go_at_call 97; refine (numB _ _).mono ?_; rintro e w' ⟨rfl, rfl⟩) | (go_at_call 99; refine (BN.out _ hx).mono ?_; rintro e w1 ⟨rfl, hx⟩; obtain ⟨x0, x1, x2, x3, x4, x5, x6, x7⟩ := ck8 0 1 2 3 4 5 6 7 hx.1) | (go_at_call 98; refine (RN.out _ hx).mono ?_; rintro e w1 ⟨rfl, hx⟩; obtain ⟨x0, x1, x2, x3, x4, x5, x6, x7⟩ := ck8 0 1 2 3 4 5 6 7 hx.1))
  go_ret; exact ⟨ret_b (end_bC HP rfl), hx.2⟩
 have d3 : decide (c.mx < 1) = false := decide_eq_false hb; have d3' := hb; clear hb
 by_cases hb : 8 < c.mx
 case pos =>
  have HP : Hid (colB c = false) := col_mx (by unfold inB; simp; omega); have d0 : decide (8 < c.mx) = true := decide_eq_true hb; clear hb; (go_enter Tryz.func73, Tryz.ntmps73); go_wp2_with (first | (go_at_call 22; refine (nameI _ _ (by first | exact HT.out.1 | exact HT.out.2)).mono ?_; rintro e w' ⟨rfl, rfl⟩) | (go_at_call 97; refine (numB _ _).mono ?_; rintro e w' ⟨rfl, rfl⟩) | (go_at_call 99; refine (BN.out _ hx).mono ?_; rintro e w1 ⟨rfl, hx⟩; obtain ⟨x0, x1, x2, x3, x4, x5, x6, x7⟩ := ck8 0 1 2 3 4 5 6 7 hx.1) | (go_at_call 98; refine (RN.out _ hx).mono ?_; rintro e w1 ⟨rfl, hx⟩; obtain ⟨x0, x1, x2, x3, x4, x5, x6, x7⟩ := ck8 0 1 2 3 4 5 6 7 hx.1))
  go_ret; exact ⟨ret_b (end_bC HP rfl), hx.2⟩
 have d4 : decide (8 < c.mx) = false := decide_eq_false hb; have d4' := hb; clear hb; have HY : Hid (colB c = kindB c) := col_yes hn (by unfold inB; simp; omega) (by unfold inB; simp; omega); clear d1' d2' d3' d4'; rcases (by omega : c.k = 1 ∨ c.k = 4 ∨ c.k = 2 ∨ c.k = 3 ∨ (c.k < 1 ∨ 4 < c.k)) with k | k | k | k | k
 ·
  have HP : Hid (colB c = _) := HY.out.trans (kind1z k); have k1 : (c.k == 1) = true := by simp; omega
  clear HY k; (go_enter Tryz.func73, Tryz.ntmps73); go_wp2_with (first | (go_at_call 22; refine (nameI _ _ (by first | exact HT.out.1 | exact HT.out.2)).mono ?_; rintro e w' ⟨rfl, rfl⟩) | (go_at_call 97; refine (numB _ _).mono ?_; rintro e w' ⟨rfl, rfl⟩) | (go_at_call 99; refine (BN.out _ hx).mono ?_; rintro e w1 ⟨rfl, hx⟩; obtain ⟨x0, x1, x2, x3, x4, x5, x6, x7⟩ := ck8 0 1 2 3 4 5 6 7 hx.1) | (go_at_call 98; refine (RN.out _ hx).mono ?_; rintro e w1 ⟨rfl, hx⟩; obtain ⟨x0, x1, x2, x3, x4, x5, x6, x7⟩ := ck8 0 1 2 3 4 5 6 7 hx.1))
  all_goals
   go_ret; exact ⟨ret_b (end_bC HP (by first | (simp [*]; done) | (simp [*]; intros; exfalso; omega))), hx.2⟩
 ·
  have HP : Hid (colB c = _) := HY.out.trans (kind4z k); have k1 : (c.k == 1) = false := by simp; omega
  have k2 : (c.k == 2) = false := by simp; omega
  have k3 : (c.k == 3) = false := by simp; omega
  have k4 : (c.k == 4) = true := by simp; omega
  clear HY k
  cases hm : (c.mn == 0)
  case false =>
   rw [hm] at HP; (go_enter Tryz.func73, Tryz.ntmps73); go_wp2_with (first | (go_at_call 22; refine (nameI _ _ (by first | exact HT.out.1 | exact HT.out.2)).mono ?_; rintro e w' ⟨rfl, rfl⟩) | (go_at_call 97; refine (numB _ _).mono ?_; rintro e w' ⟨rfl, rfl⟩) | (go_at_call 99; refine (BN.out _ hx).mono ?_; rintro e w1 ⟨rfl, hx⟩; obtain ⟨x0, x1, x2, x3, x4, x5, x6, x7⟩ := ck8 0 1 2 3 4 5 6 7 hx.1) | (go_at_call 98; refine (RN.out _ hx).mono ?_; rintro e w1 ⟨rfl, hx⟩; obtain ⟨x0, x1, x2, x3, x4, x5, x6, x7⟩ := ck8 0 1 2 3 4 5 6 7 hx.1))
   all_goals
    go_ret; exact ⟨ret_b (end_bC HP (rfl)), hx.2⟩
  rw [hm] at HP; (go_enter Tryz.func73, Tryz.ntmps73); go_wp2_with (first | (go_at_call 22; refine (nameI _ _ (by first | exact HT.out.1 | exact HT.out.2)).mono ?_; rintro e w' ⟨rfl, rfl⟩) | (go_at_call 97; refine (numB _ _).mono ?_; rintro e w' ⟨rfl, rfl⟩) | (go_at_call 99; refine (BN.out _ hx).mono ?_; rintro e w1 ⟨rfl, hx⟩; obtain ⟨x0, x1, x2, x3, x4, x5, x6, x7⟩ := ck8 0 1 2 3 4 5 6 7 hx.1) | (go_at_call 98; refine (RN.out _ hx).mono ?_; rintro e w1 ⟨rfl, hx⟩; obtain ⟨x0, x1, x2, x3, x4, x5, x6, x7⟩ := ck8 0 1 2 3 4 5 6 7 hx.1))
  all_goals
   go_ret; exact ⟨ret_b (end_bC HP (by first | (simp [*]; done) | (simp [*]; intros; exfalso; omega))), hx.2⟩
 ·
  have HP : Hid (colB c = _) := HY.out.trans (kind23z (.inl k)); have k1 : (c.k == 1) = false := by simp; omega
  have k2 : (c.k == 2) = true := by simp; omega
  clear HY k; (go_enter Tryz.func73, Tryz.ntmps73); go_wp2_with (first | (go_at_call 22; refine (nameI _ _ (by first | exact HT.out.1 | exact HT.out.2)).mono ?_; rintro e w' ⟨rfl, rfl⟩) | (go_at_call 97; refine (numB _ _).mono ?_; rintro e w' ⟨rfl, rfl⟩) | (go_at_call 99; refine (BN.out _ hx).mono ?_; rintro e w1 ⟨rfl, hx⟩; obtain ⟨x0, x1, x2, x3, x4, x5, x6, x7⟩ := ck8 0 1 2 3 4 5 6 7 hx.1) | (go_at_call 98; refine (RN.out _ hx).mono ?_; rintro e w1 ⟨rfl, hx⟩; obtain ⟨x0, x1, x2, x3, x4, x5, x6, x7⟩ := ck8 0 1 2 3 4 5 6 7 hx.1))
  all_goals
   go_ret; exact ⟨ret_b (end_bC HP (by first | (simp [*]; done) | (simp [*]; intros; exfalso; omega))), hx.2⟩
 ·
  have HP : Hid (colB c = _) := HY.out.trans (kind23z (.inr k)); have k1 : (c.k == 1) = false := by simp; omega
  have k2 : (c.k == 2) = false := by simp; omega
  have k3 : (c.k == 3) = true := by simp; omega
  clear HY k; (go_enter Tryz.func73, Tryz.ntmps73); go_wp2_with (first | (go_at_call 22; refine (nameI _ _ (by first | exact HT.out.1 | exact HT.out.2)).mono ?_; rintro e w' ⟨rfl, rfl⟩) | (go_at_call 97; refine (numB _ _).mono ?_; rintro e w' ⟨rfl, rfl⟩) | (go_at_call 99; refine (BN.out _ hx).mono ?_; rintro e w1 ⟨rfl, hx⟩; obtain ⟨x0, x1, x2, x3, x4, x5, x6, x7⟩ := ck8 0 1 2 3 4 5 6 7 hx.1) | (go_at_call 98; refine (RN.out _ hx).mono ?_; rintro e w1 ⟨rfl, hx⟩; obtain ⟨x0, x1, x2, x3, x4, x5, x6, x7⟩ := ck8 0 1 2 3 4 5 6 7 hx.1))
  all_goals
   go_ret; exact ⟨ret_b (end_bC HP (by first | (simp [*]; done) | (simp [*]; intros; exfalso; omega))), hx.2⟩
 ·
  have HP : Hid (colB c = false) := HY.out.trans (kindN k); have k1 : (c.k == 1) = false := by simp; omega
  have k2 : (c.k == 2) = false := by simp; omega
  have k3 : (c.k == 3) = false := by simp; omega
  have k4 : (c.k == 4) = false := by simp; omega
  clear HY k; (go_enter Tryz.func73, Tryz.ntmps73); go_wp2_with (first | (go_at_call 22; refine (nameI _ _ (by first | exact HT.out.1 | exact HT.out.2)).mono ?_; rintro e w' ⟨rfl, rfl⟩) | (go_at_call 97; refine (numB _ _).mono ?_; rintro e w' ⟨rfl, rfl⟩) | (go_at_call 99; refine (BN.out _ hx).mono ?_; rintro e w1 ⟨rfl, hx⟩; obtain ⟨x0, x1, x2, x3, x4, x5, x6, x7⟩ := ck8 0 1 2 3 4 5 6 7 hx.1) | (go_at_call 98; refine (RN.out _ hx).mono ?_; rintro e w1 ⟨rfl, hx⟩; obtain ⟨x0, x1, x2, x3, x4, x5, x6, x7⟩ := ck8 0 1 2 3 4 5 6 7 hx.1))
  go_ret; exact ⟨ret_b (end_bC HP rfl), hx.2⟩
end Go.Proofs.YtlbcaaodkggohaaGreatDoor
