import Derived.Test.YtlbcaaodkggohaaGreatDoorProg
import Derived.WalkKit
import Derived.WalkSpells
import Derived.WalkLawsBesides
import Derived.Test.YtlbcaaodkggohaaGreatDoorZab
import Derived.Test.YtlbcaaodkggohaaGreatDoorZaa
import Derived.Deep.OwnRows
import Derived.Laws.IdiomStrings
import Derived.Deep.MidRow
import Derived.Deep.QuietTactic
import Derived.BigQuiet
import Derived.Deep.RegionWith
import Derived.Lib.Hide
namespace Go.Proofs.YtlbcaaodkggohaaGreatDoor
open Go.RowKit
def letB (n : Int) : Bool := decide (97 ≤ n ∧ n ≤ 122 ∨ 65 ≤ n ∧ n ≤ 90 ∨ n = 95)
def digB (n : Int) : Bool := decide (48 ≤ n ∧ n ≤ 57)
def chB (c : UInt8) : Bool := letB c.toNat || digB c.toNat
def nameB (l : List UInt8) : Bool := decide (1 ≤ l.length ∧ l.length ≤ 40) && (letB (l.getD 0 0).toNat && l.all chB)
theorem let_dig {n : Int} (h : letB n = true) : digB n = false := by
 unfold letB at h; unfold digB; simp at h; simp; omega
theorem at_listN (s : ByteArray) (k : Nat) (h : k < s.size) : s.data.toList[k]'(by simpa using h) = s[k] := rfl
theorem name_size {s : ByteArray} (h : s.size < 1 ∨ 40 < s.size) : nameB s.data.toList = false := by
 unfold nameB
 have : decide (1 ≤ s.data.toList.length ∧ s.data.toList.length ≤ 40) = false := by
  have e : s.data.toList.length = s.size := rfl; rw [e]; simp; omega
 rw [this]; rfl
theorem name_first {s : ByteArray} (h : 0 < s.size) (hl : letB (s[0].toNat : Int) = false) : nameB s.data.toList = false := by
 unfold nameB
 have e : s.data.toList.getD 0 0 = s[0] := by
  rw [List.getD_eq_getElem?_getD, List.getElem?_eq_getElem (by simpa using h)]; rfl
 rw [e, hl]; simp
theorem name_char {s : ByteArray} (k : Nat) (h : k < s.size) (h1 : letB (s[k].toNat : Int) = false) (h2 : digB (s[k].toNat : Int) = false) : nameB s.data.toList = false := by
 unfold nameB
 have : s.data.toList.all chB = false := by
  rw [List.all_eq_false]; exact ⟨s[k], by rw [← at_listN s k h]; exact List.getElem_mem _, by unfold chB; rw [h1, h2]; simp⟩
 rw [this]; simp
theorem name_all {s : ByteArray} (h1 : 1 ≤ s.size) (h2 : s.size ≤ 40) (hl : letB (s[0].toNat : Int) = true) (ha : ∀ j (hj : j < s.size), 1 ≤ j → chB s[j] = true) : nameB s.data.toList = true := by
 unfold nameB
 have e : s.data.toList.getD 0 0 = s[0] := by
  rw [List.getD_eq_getElem?_getD, List.getElem?_eq_getElem (show 0 < s.data.toList.length by have e : s.data.toList.length = s.size := rfl; omega)]; rfl
 have el : s.data.toList.length = s.size := rfl
 have ea : s.data.toList.all chB = true := by
  rw [List.all_eq_true]; intro c hc; obtain ⟨j, hj, rfl⟩ := List.mem_iff_getElem.1 hc; have hj' : j < s.size := by simpa using hj
  rw [at_listN s j hj']
  by_cases j0 : j = 0
  ·
   subst j0; unfold chB; rw [hl]; rfl
  ·
   exact ha j hj' (by omega)
 rw [e, hl, ea, el]; simp; omega
theorem ret_boolN {a b : Bool} (h : a = b) : Ending.returned (.bool a) = .returned (.bool b) := by rw [h]
set_option maxHeartbeats 400000 in
theorem digit_impl (n : Int) (w : World) : Calls Tryz.prog 63 #[.int .u8 n] w fun e w' => e = .returned (.bool (digB n)) ∧ w' = w := by
 (go_enter Tryz.func63, Tryz.ntmps63); go_wp2
 all_goals
  go_ret; refine ⟨ret_boolN ?_, rfl⟩; rw [Bool.eq_iff_iff]; simp [digB]; try omega
set_option maxHeartbeats 400000 in
theorem letter_impl (n : Int) (w : World) : Calls Tryz.prog 64 #[.int .u8 n] w fun e w' => e = .returned (.bool (letB n)) ∧ w' = w := by
 (go_enter Tryz.func64, Tryz.ntmps64); go_wp2
 all_goals
  go_ret; refine ⟨ret_boolN ?_, rfl⟩; rw [Bool.eq_iff_iff]; simp [letB]; try omega
set_option maxHeartbeats 400000 in
theorem letter_spec (n : Int) (w : World) : Calls Tryz.prog 106 #[.int .u8 n] w fun e w' => e = .returned (.bool (letB n)) ∧ w' = w := by
 (go_enter Tryz.func106, Tryz.ntmps106); go_wp2
 all_goals
  go_ret; refine ⟨ret_boolN ?_, rfl⟩; rw [Bool.eq_iff_iff]; simp [letB]; try omega
set_option maxHeartbeats 400000 in
theorem digit_spec (n : Int) (w : World) : Calls Tryz.prog 107 #[.int .u8 n] w fun e w' => e = .returned (.bool (digB n)) ∧ w' = w := by
 (go_enter Tryz.func107, Tryz.ntmps107); go_wp2
 all_goals
  go_ret; refine ⟨ret_boolN ?_, rfl⟩; rw [Bool.eq_iff_iff]; simp [digB]; try omega
set_option maxHeartbeats 800000 in
theorem name_impl (s : ByteArray) (w : World) (hs : s.size ≤ maxLen) :
  Calls Tryz.prog 22 #[.string s] w fun e w' => e = .returned (.bool (nameB s.data.toList)) ∧ w' = w := by
 unfold maxLen at hs
 by_cases hz : s.size < 1 ∨ 40 < s.size
 ·
  have HN : Hid (nameB s.data.toList = false) := name_size hz; rcases hz with hz | hz
  ·
   (go_enter Tryz.func22, Tryz.ntmps22); (go_wp2_with fail); go_ret; exact ⟨ret_boolN HN.out.symm, rfl⟩
  ·
   (go_enter Tryz.func22, Tryz.ntmps22); (go_wp2_with fail); go_ret; exact ⟨ret_boolN HN.out.symm, rfl⟩
 ·
  have h1 : 1 ≤ s.size := by omega
  have h2 : s.size ≤ 40 := by omega
  have b1 : decide ((s.size : Int) < 1) = false := by simp; omega
  have b2 : decide (40 < (s.size : Int)) = false := by simp; omega
  clear hz
  cases hd : digB (s[0].toNat : Int)
  ·
   (go_enter Tryz.func22, Tryz.ntmps22); (go_wp2_with fail); refine (digit_impl _ _).mono ?_; rintro e w' ⟨rfl, rfl⟩; (go_wp2_with fail); go_loop [19] (fun t => ∃ k : Nat, k ≤ s.size ∧ t = .int .i64 k ∧ Hid (∀ j (hj : j < s.size), j < k → chB s[j] = true)) (fun t => s.size - (intOf t).toNat)
   case atStart => exact ⟨0, Nat.zero_le _, rfl, fun j hj h => absurd h (by omega)⟩
   case round =>
    obtain ⟨k, hk, rfl, hall⟩ := hrel
    by_cases hlt : k < s.size
    ·
     cases hL : letB (s[k].toNat : Int)
     ·
      cases hD : digB (s[k].toNat : Int)
      ·
       have HN : Hid (nameB s.data.toList = false) := name_char k hlt hL hD; (go_wp2_with (first | (go_at_call 64; refine (letter_impl _ _).mono ?_; rintro e w' ⟨rfl, rfl⟩) | (go_at_call 63; refine (digit_impl _ _).mono ?_; rintro e w' ⟨rfl, rfl⟩))); go_ret; exact ⟨ret_boolN HN.out.symm, rfl⟩
      ·
       have HC : Hid (chB s[k] = true) := by show chB s[k] = true; unfold chB; rw [hL, hD]; rfl
       (go_wp2_with (first | (go_at_call 64; refine (letter_impl _ _).mono ?_; rintro e w' ⟨rfl, rfl⟩) | (go_at_call 63; refine (digit_impl _ _).mono ?_; rintro e w' ⟨rfl, rfl⟩))); go_round
       case rel => exact ⟨k + 1, by omega, by go_num, fun j hj h => by rcases Nat.lt_succ_iff_lt_or_eq.1 h with h | rfl; exact hall.out j hj h; exact HC.out⟩
       case measure => simp [intOf]; omega
     ·
      have HC : Hid (chB s[k] = true) := by show chB s[k] = true; unfold chB; rw [hL]; rfl
      (go_wp2_with (first | (go_at_call 64; refine (letter_impl _ _).mono ?_; rintro e w' ⟨rfl, rfl⟩) | (go_at_call 63; refine (digit_impl _ _).mono ?_; rintro e w' ⟨rfl, rfl⟩))); go_round
      case rel => exact ⟨k + 1, by omega, by go_num, fun j hj h => by rcases Nat.lt_succ_iff_lt_or_eq.1 h with h | rfl; exact hall.out j hj h; exact HC.out⟩
      case measure => simp [intOf]; omega
    ·
     have HN : Hid (nameB s.data.toList = true) := by
      have ha : ∀ j (hj : j < s.size), chB s[j] = true := fun j hj => hall.out j hj (by omega)
      have h0 := ha 0 h1; refine name_all h1 h2 ?_ (fun j hj _ => ha j hj); unfold chB at h0; rw [hd] at h0; simpa using h0
     (go_wp2_with fail); go_ret; exact ⟨ret_boolN HN.out.symm, rfl⟩
  ·
   have HN : Hid (nameB s.data.toList = false) := by
    refine name_first h1 ?_
    cases hl : letB (s[0].toNat : Int)
    ·
     rfl
    ·
     have := let_dig hl; rw [this] at hd; cases hd
   (go_enter Tryz.func22, Tryz.ntmps22); (go_wp2_with fail); refine (digit_impl _ _).mono ?_; rintro e w' ⟨rfl, rfl⟩; (go_wp2_with fail); go_ret; exact ⟨ret_boolN HN.out.symm, rfl⟩
set_option maxHeartbeats 800000 in
theorem name_spec (s : ByteArray) (w : World) (hs : s.size ≤ maxLen) :
  Calls Tryz.prog 89 #[.string s] w fun e w' => e = .returned (.bool (nameB s.data.toList)) ∧ w' = w := by
 unfold maxLen at hs
 by_cases hz : s.size < 1 ∨ 40 < s.size
 ·
  have HN : Hid (nameB s.data.toList = false) := name_size hz; rcases hz with hz | hz
  ·
   (go_enter Tryz.func89, Tryz.ntmps89); (go_wp2_with fail); go_ret; exact ⟨ret_boolN HN.out.symm, rfl⟩
  ·
   (go_enter Tryz.func89, Tryz.ntmps89); (go_wp2_with fail); go_ret; exact ⟨ret_boolN HN.out.symm, rfl⟩
 ·
  have h1 : 1 ≤ s.size := by omega
  have h2 : s.size ≤ 40 := by omega
  have b1 : decide ((s.size : Int) < 1) = false := by simp; omega
  have b2 : decide (40 < (s.size : Int)) = false := by simp; omega
  clear hz
  cases hd : letB (s[0].toNat : Int)
  ·
   have HN : Hid (nameB s.data.toList = false) := name_first h1 hd; (go_enter Tryz.func89, Tryz.ntmps89); (go_wp2_with fail); refine (letter_spec _ _).mono ?_; rintro e w' ⟨rfl, rfl⟩; (go_wp2_with fail); go_ret; exact ⟨ret_boolN HN.out.symm, rfl⟩
  ·
   (go_enter Tryz.func89, Tryz.ntmps89); (go_wp2_with fail); refine (letter_spec _ _).mono ?_; rintro e w' ⟨rfl, rfl⟩; (go_wp2_with fail); go_loop [3] (fun t => ∃ k : Nat, 1 ≤ k ∧ k ≤ s.size ∧ t = .int .i64 k ∧ Hid (∀ j (hj : j < s.size), 1 ≤ j → j < k → chB s[j] = true)) (fun t => s.size - (intOf t).toNat)
   case atStart => exact ⟨1, by omega, h1, rfl, fun j hj h h' => absurd h (by omega)⟩
   case round =>
    obtain ⟨k, hk1, hk, rfl, hall⟩ := hrel
    by_cases hlt : k < s.size
    ·
     cases hL : letB (s[k].toNat : Int)
     ·
      cases hD : digB (s[k].toNat : Int)
      ·
       have HN : Hid (nameB s.data.toList = false) := name_char k hlt hL hD; (go_wp2_with (first | (go_at_call 106; refine (letter_spec _ _).mono ?_; rintro e w' ⟨rfl, rfl⟩) | (go_at_call 107; refine (digit_spec _ _).mono ?_; rintro e w' ⟨rfl, rfl⟩))); go_ret; exact ⟨ret_boolN HN.out.symm, rfl⟩
      ·
       have HC : Hid (chB s[k] = true) := by show chB s[k] = true; unfold chB; rw [hL, hD]; rfl
       (go_wp2_with (first | (go_at_call 106; refine (letter_spec _ _).mono ?_; rintro e w' ⟨rfl, rfl⟩) | (go_at_call 107; refine (digit_spec _ _).mono ?_; rintro e w' ⟨rfl, rfl⟩))); go_round
       case rel => exact ⟨k + 1, by omega, by omega, by go_num, fun j hj h' h => by rcases Nat.lt_succ_iff_lt_or_eq.1 h with h | rfl; exact hall.out j hj h' h; exact HC.out⟩
       case measure => simp [intOf]; omega
     ·
      have HC : Hid (chB s[k] = true) := by show chB s[k] = true; unfold chB; rw [hL]; rfl
      (go_wp2_with (first | (go_at_call 106; refine (letter_spec _ _).mono ?_; rintro e w' ⟨rfl, rfl⟩) | (go_at_call 107; refine (digit_spec _ _).mono ?_; rintro e w' ⟨rfl, rfl⟩))); go_round
      case rel => exact ⟨k + 1, by omega, by omega, by go_num, fun j hj h' h => by rcases Nat.lt_succ_iff_lt_or_eq.1 h with h | rfl; exact hall.out j hj h' h; exact HC.out⟩
      case measure => simp [intOf]; omega
    ·
     have HN : Hid (nameB s.data.toList = true) := name_all h1 h2 hd (fun j hj h => hall.out j hj h (by omega)); (go_wp2_with fail); go_ret; exact ⟨ret_boolN HN.out.symm, rfl⟩
theorem name_face (s : ByteArray) (w : World) (hs : s.size ≤ maxLen) :
  Calls Tryz.prog 51 #[.string s] w fun e w' => e = .returned (.bool (nameB s.data.toList)) ∧ w' = w := by
 (go_enter Tryz.func51, Tryz.ntmps51); (go_wp2_with fail); refine (name_spec s _ hs).mono ?_; rintro e w' ⟨rfl, rfl⟩; (go_wp2_with fail); go_ret; exact ⟨rfl, rfl⟩
theorem nameI (t : List UInt8) (w : World) (hs : t.length ≤ maxLen) : Calls Tryz.prog 22 #[.string ⟨t.toArray⟩] w fun e w' => e = .returned (.bool (nameB t)) ∧ w' = w := by
 have := name_impl ⟨t.toArray⟩ w (by show t.toArray.size ≤ maxLen; simpa using hs); exact this
theorem nameS (t : List UInt8) (w : World) (hs : t.length ≤ maxLen) : Calls Tryz.prog 51 #[.string ⟨t.toArray⟩] w fun e w' => e = .returned (.bool (nameB t)) ∧ w' = w := by
 have := name_face ⟨t.toArray⟩ w (by show t.toArray.size ≤ maxLen; simpa using hs); exact this
end Go.Proofs.YtlbcaaodkggohaaGreatDoor
namespace Go.Proofs.YtlbcaaodkggohaaGreatDoor
open Go.RowKit
set_option linter.unusedSimpArgs false
def kindB (c : Cl) : Bool :=
 if c.k = 1 then inB (-1000000000) c.lo 1000000000 && (inB (-1000000000) c.hi 1000000000 && (decide (c.lo ≤ c.hi) && (c.rf.isEmpty && !c.st)))
 else if c.k = 4 then (c.mn == 0) && ((c.lo == 0) && ((c.hi == 0) && nameB c.rf))
 else if c.k = 2 ∨ c.k = 3 then (c.lo == 0) && ((c.hi == 0) && (c.rf.isEmpty && !c.st))
 else false
def colB (c : Cl) : Bool := nameB c.nm && (inB 0 c.mn 1 && (inB 1 c.mx 8 && kindB c))
theorem name_empty : nameB [] = false := rfl
theorem colB_kind {c : Cl} (h : colB c = true) : 1 ≤ c.k ∧ c.k ≤ 4 := by
  unfold colB kindB at h
  by_cases h1 : c.k = 1
  · omega
  by_cases h4 : c.k = 4
  · omega
  by_cases h2 : c.k = 2 ∨ c.k = 3
  · omega
  · rw [if_neg h1, if_neg h4, if_neg h2] at h; simp at h
theorem heap_keptC {w w' : World} {b : Nat} {o : Obj} (h : w.heap[b]? = some o) (hB : Below w.heap.size w w') : w'.heap[b]? = some o := by
 rw [hB.block b (Array.getElem?_eq_some_iff.1 h).1]; exact h
theorem heap_newC (w : World) (o : Obj) : (w.alloc o).heap[w.heap.size]? = some o := by
 show (w.heap.push o)[w.heap.size]? = _
 simp
def BoxC (ty : TypeId) (w W : World) (c : Cl) : Prop := W.heap[w.heap.size]? = some (.cells #[.string ⟨c.nm.toArray⟩, .int .i64 c.k, .int .i64 c.mn, .int .i64 c.mx, .int .i64 c.lo, .int .i64 c.hi, .string ⟨c.rf.toArray⟩, .bool c.st] ty) ∧ Below w.heap.size w W
theorem BoxC.later {ty : TypeId} {w W W' : World} {c : Cl} (h : BoxC ty w W c) (hB : Below W.heap.size W W') : BoxC ty w W' c := ⟨heap_keptC h.1 hB, h.2.trans (hB.mono h.2.size)⟩
theorem boxC (ty : TypeId) (w : World) (c : Cl) : BoxC ty w (w.alloc (.cells #[.string ⟨c.nm.toArray⟩, .int .i64 c.k, .int .i64 c.mn, .int .i64 c.mx, .int .i64 c.lo, .int .i64 c.hi, .string ⟨c.rf.toArray⟩, .bool c.st] ty)) c := ⟨heap_newC _ _, (Below.refl _ _).alloc (Nat.le_refl _) _⟩
theorem end_bC {a x y : Bool} (HP : Hid (a = x)) (h : y = x) : y = a := by rw [HP.out]; exact h
theorem kind1 {c : Cl} (h : c.k = 1) : kindB c = (inB (-1000000000) c.lo 1000000000 && (inB (-1000000000) c.hi 1000000000 && (decide (c.lo ≤ c.hi) && (c.rf.isEmpty && !c.st)))) := by unfold kindB; rw [if_pos h]
theorem kind1s {c : Cl} (h : c.k = 1) : kindB c = (inB (-1000000000) c.lo c.hi && (inB c.lo c.hi 1000000000 && (c.rf.isEmpty && !c.st))) := by
 rw [kind1 h, Bool.eq_iff_iff]; simp [inB]; constructor
 ·
  rintro ⟨⟨a, b⟩, ⟨c, d⟩, e, f⟩; exact ⟨⟨a, e⟩, ⟨e, d⟩, f⟩
 ·
  rintro ⟨⟨a, b⟩, ⟨c, d⟩, f⟩; exact ⟨⟨a, by omega⟩, ⟨by omega, d⟩, b, f⟩
theorem kind4 {c : Cl} (h : c.k = 4) : kindB c = ((c.mn == 0) && ((c.lo == 0) && ((c.hi == 0) && nameB c.rf))) := by unfold kindB; rw [if_neg (by omega), if_pos h]
theorem kind23 {c : Cl} (h : c.k = 2 ∨ c.k = 3) : kindB c = ((c.lo == 0) && ((c.hi == 0) && (c.rf.isEmpty && !c.st))) := by unfold kindB; rw [if_neg (by omega), if_neg (by omega), if_pos h]
theorem kindN {c : Cl} (h : c.k < 1 ∨ 4 < c.k) : kindB c = false := by unfold kindB; rw [if_neg (by omega), if_neg (by omega), if_neg (by omega)]
theorem col_no {c : Cl} (h : nameB c.nm = false) : colB c = false := by unfold colB; rw [h]; rfl
theorem col_mn {c : Cl} (h : inB 0 c.mn 1 = false) : colB c = false := by unfold colB; rw [h]; simp
theorem col_mx {c : Cl} (h : inB 1 c.mx 8 = false) : colB c = false := by unfold colB; rw [h]; simp
theorem col_kn {c : Cl} (h : kindB c = false) : colB c = false := by unfold colB; rw [h]; simp
theorem col_yes {c : Cl} (h : nameB c.nm = true) (h1 : inB 0 c.mn 1 = true) (h2 : inB 1 c.mx 8 = true) : colB c = kindB c := by unfold colB; rw [h, h1, h2]; simp
set_option maxHeartbeats 3200000 in
theorem columnOKs (c : Cl) (w : World) (ht : c.nm.length ≤ maxLen) (hr : c.rf.length ≤ maxLen) :
  Calls Tryz.prog 84 #[.agg #[.string ⟨c.nm.toArray⟩, .int .i64 c.k, .int .i64 c.mn, .int .i64 c.mx, .int .i64 c.lo, .int .i64 c.hi, .string ⟨c.rf.toArray⟩, .bool c.st]] w fun e w' => e = .returned (.bool (colB c)) ∧ Below w.heap.size w w' := by
 have HT : Hid (c.nm.length ≤ maxLen ∧ c.rf.length ≤ maxLen) := ⟨ht, hr⟩; clear ht hr
 cases hn : nameB c.nm
 ·
  have HP : Hid (colB c = false) := col_no hn; (go_enter Tryz.func84, Tryz.ntmps84); go_wp2_with (first | (go_at_call 45; refine (inS _ _ _ _).mono ?_; rintro e w' ⟨rfl, rfl⟩) | (go_at_call 51; refine (nameS _ _ (by first | exact HT.out.1 | exact HT.out.2)).mono ?_; rintro e w' ⟨rfl, rfl⟩))
  go_ret; exact ⟨ret_b (end_bC HP rfl), (Below.refl _ _).alloc (Nat.le_refl _) _⟩
 cases hk : inB 1 c.k 4
 ·
  have HP : Hid (colB c = false) := col_kn (kindN (by unfold inB at hk; simp at hk; omega)); (go_enter Tryz.func84, Tryz.ntmps84); go_wp2_with (first | (go_at_call 45; refine (inS _ _ _ _).mono ?_; rintro e w' ⟨rfl, rfl⟩) | (go_at_call 51; refine (nameS _ _ (by first | exact HT.out.1 | exact HT.out.2)).mono ?_; rintro e w' ⟨rfl, rfl⟩))
  go_ret; exact ⟨ret_b (end_bC HP rfl), (Below.refl _ _).alloc (Nat.le_refl _) _⟩
 cases h1 : inB 0 c.mn 1
 ·
  have HP : Hid (colB c = false) := col_mn h1; (go_enter Tryz.func84, Tryz.ntmps84); go_wp2_with (first | (go_at_call 45; refine (inS _ _ _ _).mono ?_; rintro e w' ⟨rfl, rfl⟩) | (go_at_call 51; refine (nameS _ _ (by first | exact HT.out.1 | exact HT.out.2)).mono ?_; rintro e w' ⟨rfl, rfl⟩))
  go_ret; exact ⟨ret_b (end_bC HP rfl), (Below.refl _ _).alloc (Nat.le_refl _) _⟩
 cases h2 : inB 1 c.mx 8
 ·
  have HP : Hid (colB c = false) := col_mx h2; (go_enter Tryz.func84, Tryz.ntmps84); go_wp2_with (first | (go_at_call 45; refine (inS _ _ _ _).mono ?_; rintro e w' ⟨rfl, rfl⟩) | (go_at_call 51; refine (nameS _ _ (by first | exact HT.out.1 | exact HT.out.2)).mono ?_; rintro e w' ⟨rfl, rfl⟩))
  go_ret; exact ⟨ret_b (end_bC HP rfl), (Below.refl _ _).alloc (Nat.le_refl _) _⟩
 have HY : Hid (colB c = kindB c) := col_yes hn h1 h2; have hk4 : 1 ≤ c.k ∧ c.k ≤ 4 := by unfold inB at hk; simpa using hk
 rcases (by omega : c.k = 1 ∨ c.k = 4 ∨ (c.k = 2 ∨ c.k = 3)) with k | k | k
 ·
  have HP : Hid (colB c = _) := HY.out.trans (kind1s k); rw [k] at hk ⊢; clear hk4 HY; (go_enter Tryz.func84, Tryz.ntmps84); go_wp2_with (first | (go_at_call 45; refine (inS _ _ _ _).mono ?_; rintro e w' ⟨rfl, rfl⟩) | (go_at_call 51; refine (nameS _ _ (by first | exact HT.out.1 | exact HT.out.2)).mono ?_; rintro e w' ⟨rfl, rfl⟩))
  all_goals
   go_ret; exact ⟨ret_b (end_bC HP (by simp [*])), (Below.refl _ _).alloc (Nat.le_refl _) _⟩
 ·
  have HP : Hid (colB c = _) := HY.out.trans (kind4 k); rw [k] at hk ⊢; clear hk4 HY
  by_cases hlo : c.lo = 0
  case neg =>
   have HP : Hid (colB c = false) := by show colB c = false; rw [HP.out]; simp [hlo]
   have e1 : (c.lo != 0) = true := by simpa using hlo
   clear hlo; (go_enter Tryz.func84, Tryz.ntmps84); go_wp2_with (first | (go_at_call 45; refine (inS _ _ _ _).mono ?_; rintro e w' ⟨rfl, rfl⟩) | (go_at_call 51; refine (nameS _ _ (by first | exact HT.out.1 | exact HT.out.2)).mono ?_; rintro e w' ⟨rfl, rfl⟩))
   all_goals
    go_ret; exact ⟨ret_b (end_bC HP (by simp [*])), (Below.refl _ _).alloc (Nat.le_refl _) _⟩
  by_cases hhi : c.hi = 0
  case neg =>
   have HP : Hid (colB c = false) := by show colB c = false; rw [HP.out]; simp [hhi]
   have e1 : (c.hi != 0) = true := by simpa using hhi
   rw [hlo]; clear hhi; (go_enter Tryz.func84, Tryz.ntmps84); go_wp2_with (first | (go_at_call 45; refine (inS _ _ _ _).mono ?_; rintro e w' ⟨rfl, rfl⟩) | (go_at_call 51; refine (nameS _ _ (by first | exact HT.out.1 | exact HT.out.2)).mono ?_; rintro e w' ⟨rfl, rfl⟩))
   all_goals
    go_ret; exact ⟨ret_b (end_bC HP (by simp [*])), (Below.refl _ _).alloc (Nat.le_refl _) _⟩
  rw [hlo, hhi]; (go_enter Tryz.func84, Tryz.ntmps84); go_wp2_with (first | (go_at_call 45; refine (inS _ _ _ _).mono ?_; rintro e w' ⟨rfl, rfl⟩) | (go_at_call 51; refine (nameS _ _ (by first | exact HT.out.1 | exact HT.out.2)).mono ?_; rintro e w' ⟨rfl, rfl⟩))
  all_goals
   go_ret; exact ⟨ret_b (end_bC HP (by simp [*])), (Below.refl _ _).alloc (Nat.le_refl _) _⟩
 ·
  have HP : Hid (colB c = _) := HY.out.trans (kind23 k); have k1 : (c.k == 1) = false := by simp; omega
  have k4 : (c.k == 4) = false := by simp; omega
  clear hk4 HY k
  by_cases hlo : c.lo = 0
  case neg =>
   have HP : Hid (colB c = false) := by show colB c = false; rw [HP.out]; simp [hlo]
   have e1 : (c.lo != 0) = true := by simpa using hlo
   clear hlo; (go_enter Tryz.func84, Tryz.ntmps84); go_wp2_with (first | (go_at_call 45; refine (inS _ _ _ _).mono ?_; rintro e w' ⟨rfl, rfl⟩) | (go_at_call 51; refine (nameS _ _ (by first | exact HT.out.1 | exact HT.out.2)).mono ?_; rintro e w' ⟨rfl, rfl⟩))
   all_goals
    go_ret; exact ⟨ret_b (end_bC HP (by simp [*])), (Below.refl _ _).alloc (Nat.le_refl _) _⟩
  by_cases hhi : c.hi = 0
  case neg =>
   have HP : Hid (colB c = false) := by show colB c = false; rw [HP.out]; simp [hhi]
   have e1 : (c.hi != 0) = true := by simpa using hhi
   rw [hlo]; clear hhi; (go_enter Tryz.func84, Tryz.ntmps84); go_wp2_with (first | (go_at_call 45; refine (inS _ _ _ _).mono ?_; rintro e w' ⟨rfl, rfl⟩) | (go_at_call 51; refine (nameS _ _ (by first | exact HT.out.1 | exact HT.out.2)).mono ?_; rintro e w' ⟨rfl, rfl⟩))
   all_goals
    go_ret; exact ⟨ret_b (end_bC HP (by simp [*])), (Below.refl _ _).alloc (Nat.le_refl _) _⟩
  rw [hlo, hhi]; (go_enter Tryz.func84, Tryz.ntmps84); go_wp2_with (first | (go_at_call 45; refine (inS _ _ _ _).mono ?_; rintro e w' ⟨rfl, rfl⟩) | (go_at_call 51; refine (nameS _ _ (by first | exact HT.out.1 | exact HT.out.2)).mono ?_; rintro e w' ⟨rfl, rfl⟩))
  all_goals
   go_ret; exact ⟨ret_b (end_bC HP (by simp [*])), (Below.refl _ _).alloc (Nat.le_refl _) _⟩
end Go.Proofs.YtlbcaaodkggohaaGreatDoor
