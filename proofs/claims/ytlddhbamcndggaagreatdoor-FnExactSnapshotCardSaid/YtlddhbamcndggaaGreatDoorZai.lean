import Derived.Test.YtlddhbamcndggaaGreatDoorProg
import Derived.WalkKit
import Derived.WalkSpells
import Derived.WalkLawsBesides
import Derived.Test.YtlddhbamcndggaaGreatDoorZag
import Derived.Test.YtlddhbamcndggaaGreatDoorZab
import Derived.Test.YtlddhbamcndggaaGreatDoorZaa
import Derived.Lib.Hide
import Derived.Deep.RegionWith
import Derived.BigQuiet
namespace Go.Proofs.YtlddhbamcndggaaGreatDoor
open Go.RowKit
def letB (n : Int) : Bool := decide (97 ≤ n ∧ n ≤ 122 ∨ 65 ≤ n ∧ n ≤ 90 ∨ n = 95)
def digB (n : Int) : Bool := decide (48 ≤ n ∧ n ≤ 57)
def chB (c : UInt8) : Bool := letB c.toNat || digB c.toNat
def nameB (l : List UInt8) : Bool := decide (1 ≤ l.length ∧ l.length ≤ 40) && (letB (l.getD 0 0).toNat && l.all chB)
theorem let_dig {n : Int} (h : letB n = true) : digB n = false := by
 unfold letB at h; unfold digB; simp at h; simp; omega
theorem at_listN (s : ByteArray) (k : Nat) (h : k < s.size) : s.data.toList[k]'(by simpa using h) = s[k] := rfl
theorem name_size {s : ByteArray} (h : s.size < 1 ∨ 40 < s.size) : nameB s.data.toList = false := by
 unfold nameB
 have : decide (1 ≤ s.data.toList.length ∧ s.data.toList.length ≤ 40) = false := by
  have e : s.data.toList.length = s.size := rfl
  rw [e]; simp; omega
 rw [this]; rfl
theorem name_first {s : ByteArray} (h : 0 < s.size) (hl : letB (s[0].toNat : Int) = false) : nameB s.data.toList = false := by
 unfold nameB
 have e : s.data.toList.getD 0 0 = s[0] := by
  rw [List.getD_eq_getElem?_getD, List.getElem?_eq_getElem (by simpa using h)]; rfl
 rw [e, hl]; simp
theorem name_char {s : ByteArray} (k : Nat) (h : k < s.size) (h1 : letB (s[k].toNat : Int) = false) (h2 : digB (s[k].toNat : Int) = false) : nameB s.data.toList = false := by
 unfold nameB
 have : s.data.toList.all chB = false := by
  rw [List.all_eq_false]
  exact ⟨s[k], by rw [← at_listN s k h]; exact List.getElem_mem _, by unfold chB; rw [h1, h2]; simp⟩
 rw [this]; simp
theorem name_all {s : ByteArray} (h1 : 1 ≤ s.size) (h2 : s.size ≤ 40) (hl : letB (s[0].toNat : Int) = true) (ha : ∀ j (hj : j < s.size), 1 ≤ j → chB s[j] = true) : nameB s.data.toList = true := by
 unfold nameB
 have e : s.data.toList.getD 0 0 = s[0] := by
  rw [List.getD_eq_getElem?_getD, List.getElem?_eq_getElem (show 0 < s.data.toList.length by have e : s.data.toList.length = s.size := rfl; omega)]; rfl
 have el : s.data.toList.length = s.size := rfl
 have ea : s.data.toList.all chB = true := by
  rw [List.all_eq_true]
  intro c hc
  obtain ⟨j, hj, rfl⟩ := List.mem_iff_getElem.1 hc
  have hj' : j < s.size := by simpa using hj
  rw [at_listN s j hj']
  by_cases j0 : j = 0
  ·
   subst j0; unfold chB; rw [hl]; rfl
  ·
   exact ha j hj' (by omega)
 rw [e, hl, ea, el]; simp; omega
theorem ret_boolN {a b : Bool} (h : a = b) : Ending.returned (.bool a) = .returned (.bool b) := by rw [h]
set_option maxHeartbeats 400000 in
theorem digit_impl (n : Int) (w : World) : Calls Tryz.prog 113 #[.int .u8 n] w fun e w' => e = .returned (.bool (digB n)) ∧ w' = w := by
 go_enter Tryz.func113, Tryz.ntmps113
 go_wp2
 all_goals
  go_ret
  refine ⟨ret_boolN ?_, rfl⟩
  rw [Bool.eq_iff_iff]; simp [digB]; try omega
set_option maxHeartbeats 400000 in
theorem letter_impl (n : Int) (w : World) : Calls Tryz.prog 114 #[.int .u8 n] w fun e w' => e = .returned (.bool (letB n)) ∧ w' = w := by
 go_enter Tryz.func114, Tryz.ntmps114
 go_wp2
 all_goals
  go_ret
  refine ⟨ret_boolN ?_, rfl⟩
  rw [Bool.eq_iff_iff]; simp [letB]; try omega
set_option maxHeartbeats 400000 in
theorem letter_spec (n : Int) (w : World) : Calls Tryz.prog 133 #[.int .u8 n] w fun e w' => e = .returned (.bool (letB n)) ∧ w' = w := by
 go_enter Tryz.func133, Tryz.ntmps133
 go_wp2
 all_goals
  go_ret
  refine ⟨ret_boolN ?_, rfl⟩
  rw [Bool.eq_iff_iff]; simp [letB]; try omega
set_option maxHeartbeats 400000 in
theorem digit_spec (n : Int) (w : World) : Calls Tryz.prog 134 #[.int .u8 n] w fun e w' => e = .returned (.bool (digB n)) ∧ w' = w := by
 go_enter Tryz.func134, Tryz.ntmps134
 go_wp2
 all_goals
  go_ret
  refine ⟨ret_boolN ?_, rfl⟩
  rw [Bool.eq_iff_iff]; simp [digB]; try omega
set_option maxHeartbeats 800000 in
theorem name_impl (s : ByteArray) (w : World) (hs : s.size ≤ maxLen) :
  Calls Tryz.prog 69 #[.string s] w fun e w' => e = .returned (.bool (nameB s.data.toList)) ∧ w' = w := by
 unfold maxLen at hs
 by_cases hz : s.size < 1 ∨ 40 < s.size
 ·
  have HN : Hid (nameB s.data.toList = false) := name_size hz
  rcases hz with hz | hz
  ·
   go_enter Tryz.func69, Tryz.ntmps69
   go_wp2_with fail
   go_ret
   exact ⟨ret_boolN HN.out.symm, rfl⟩
  ·
   go_enter Tryz.func69, Tryz.ntmps69
   go_wp2_with fail
   go_ret
   exact ⟨ret_boolN HN.out.symm, rfl⟩
 ·
  have h1 : 1 ≤ s.size := by omega
  have h2 : s.size ≤ 40 := by omega
  have b1 : decide ((s.size : Int) < 1) = false := by simp; omega
  have b2 : decide (40 < (s.size : Int)) = false := by simp; omega
  clear hz
  cases hd : digB (s[0].toNat : Int)
  ·
   go_enter Tryz.func69, Tryz.ntmps69
   go_wp2_with fail
   refine (digit_impl _ _).mono ?_
   rintro e w' ⟨rfl, rfl⟩
   go_wp2_with fail
   go_loop [19] (fun t => ∃ k : Nat, k ≤ s.size ∧ t = .int .i64 k ∧ Hid (∀ j (hj : j < s.size), j < k → chB s[j] = true)) (fun t => s.size - (intOf t).toNat)
   case atStart => exact ⟨0, Nat.zero_le _, rfl, fun j hj h => absurd h (by omega)⟩
   case round =>
    obtain ⟨k, hk, rfl, hall⟩ := hrel
    by_cases hlt : k < s.size
    ·
     cases hL : letB (s[k].toNat : Int)
     ·
      cases hD : digB (s[k].toNat : Int)
      ·
       have HN : Hid (nameB s.data.toList = false) := name_char k hlt hL hD
       go_wp2_with (first | (go_at_call 114; refine (letter_impl _ _).mono ?_; rintro e w' ⟨rfl, rfl⟩) | (go_at_call 113; refine (digit_impl _ _).mono ?_; rintro e w' ⟨rfl, rfl⟩))
       go_ret
       exact ⟨ret_boolN HN.out.symm, rfl⟩
      ·
       have HC : Hid (chB s[k] = true) := by show chB s[k] = true; unfold chB; rw [hL, hD]; rfl
       go_wp2_with (first | (go_at_call 114; refine (letter_impl _ _).mono ?_; rintro e w' ⟨rfl, rfl⟩) | (go_at_call 113; refine (digit_impl _ _).mono ?_; rintro e w' ⟨rfl, rfl⟩))
       go_round
       case rel => exact ⟨k + 1, by omega, by go_num, fun j hj h => by rcases Nat.lt_succ_iff_lt_or_eq.1 h with h | rfl; exact hall.out j hj h; exact HC.out⟩
       case measure => simp [intOf]; omega
     ·
      have HC : Hid (chB s[k] = true) := by show chB s[k] = true; unfold chB; rw [hL]; rfl
      go_wp2_with (first | (go_at_call 114; refine (letter_impl _ _).mono ?_; rintro e w' ⟨rfl, rfl⟩) | (go_at_call 113; refine (digit_impl _ _).mono ?_; rintro e w' ⟨rfl, rfl⟩))
      go_round
      case rel => exact ⟨k + 1, by omega, by go_num, fun j hj h => by rcases Nat.lt_succ_iff_lt_or_eq.1 h with h | rfl; exact hall.out j hj h; exact HC.out⟩
      case measure => simp [intOf]; omega
    ·
     have HN : Hid (nameB s.data.toList = true) := by
      have ha : ∀ j (hj : j < s.size), chB s[j] = true := fun j hj => hall.out j hj (by omega)
      have h0 := ha 0 h1
      refine name_all h1 h2 ?_ (fun j hj _ => ha j hj)
      unfold chB at h0; rw [hd] at h0; simpa using h0
     go_wp2_with fail
     go_ret
     exact ⟨ret_boolN HN.out.symm, rfl⟩
  ·
   have HN : Hid (nameB s.data.toList = false) := by
    refine name_first h1 ?_
    cases hl : letB (s[0].toNat : Int)
    ·
     rfl
    ·
     have := let_dig hl; rw [this] at hd; cases hd
   go_enter Tryz.func69, Tryz.ntmps69
   go_wp2_with fail
   refine (digit_impl _ _).mono ?_
   rintro e w' ⟨rfl, rfl⟩
   go_wp2_with fail
   go_ret
   exact ⟨ret_boolN HN.out.symm, rfl⟩
set_option maxHeartbeats 800000 in
theorem name_spec (s : ByteArray) (w : World) (hs : s.size ≤ maxLen) :
  Calls Tryz.prog 97 #[.string s] w fun e w' => e = .returned (.bool (nameB s.data.toList)) ∧ w' = w := by
 unfold maxLen at hs
 by_cases hz : s.size < 1 ∨ 40 < s.size
 ·
  have HN : Hid (nameB s.data.toList = false) := name_size hz
  rcases hz with hz | hz
  ·
   go_enter Tryz.func97, Tryz.ntmps97
   go_wp2_with fail
   go_ret
   exact ⟨ret_boolN HN.out.symm, rfl⟩
  ·
   go_enter Tryz.func97, Tryz.ntmps97
   go_wp2_with fail
   go_ret
   exact ⟨ret_boolN HN.out.symm, rfl⟩
 ·
  have h1 : 1 ≤ s.size := by omega
  have h2 : s.size ≤ 40 := by omega
  have b1 : decide ((s.size : Int) < 1) = false := by simp; omega
  have b2 : decide (40 < (s.size : Int)) = false := by simp; omega
  clear hz
  cases hd : letB (s[0].toNat : Int)
  ·
   have HN : Hid (nameB s.data.toList = false) := name_first h1 hd
   go_enter Tryz.func97, Tryz.ntmps97
   go_wp2_with fail
   refine (letter_spec _ _).mono ?_
   rintro e w' ⟨rfl, rfl⟩
   go_wp2_with fail
   go_ret
   exact ⟨ret_boolN HN.out.symm, rfl⟩
  ·
   go_enter Tryz.func97, Tryz.ntmps97
   go_wp2_with fail
   refine (letter_spec _ _).mono ?_
   rintro e w' ⟨rfl, rfl⟩
   go_wp2_with fail
   go_loop [3] (fun t => ∃ k : Nat, 1 ≤ k ∧ k ≤ s.size ∧ t = .int .i64 k ∧ Hid (∀ j (hj : j < s.size), 1 ≤ j → j < k → chB s[j] = true)) (fun t => s.size - (intOf t).toNat)
   case atStart => exact ⟨1, by omega, h1, rfl, fun j hj h h' => absurd h (by omega)⟩
   case round =>
    obtain ⟨k, hk1, hk, rfl, hall⟩ := hrel
    by_cases hlt : k < s.size
    ·
     cases hL : letB (s[k].toNat : Int)
     ·
      cases hD : digB (s[k].toNat : Int)
      ·
       have HN : Hid (nameB s.data.toList = false) := name_char k hlt hL hD
       go_wp2_with (first | (go_at_call 133; refine (letter_spec _ _).mono ?_; rintro e w' ⟨rfl, rfl⟩) | (go_at_call 134; refine (digit_spec _ _).mono ?_; rintro e w' ⟨rfl, rfl⟩))
       go_ret
       exact ⟨ret_boolN HN.out.symm, rfl⟩
      ·
       have HC : Hid (chB s[k] = true) := by show chB s[k] = true; unfold chB; rw [hL, hD]; rfl
       go_wp2_with (first | (go_at_call 133; refine (letter_spec _ _).mono ?_; rintro e w' ⟨rfl, rfl⟩) | (go_at_call 134; refine (digit_spec _ _).mono ?_; rintro e w' ⟨rfl, rfl⟩))
       go_round
       case rel => exact ⟨k + 1, by omega, by omega, by go_num, fun j hj h' h => by rcases Nat.lt_succ_iff_lt_or_eq.1 h with h | rfl; exact hall.out j hj h' h; exact HC.out⟩
       case measure => simp [intOf]; omega
     ·
      have HC : Hid (chB s[k] = true) := by show chB s[k] = true; unfold chB; rw [hL]; rfl
      go_wp2_with (first | (go_at_call 133; refine (letter_spec _ _).mono ?_; rintro e w' ⟨rfl, rfl⟩) | (go_at_call 134; refine (digit_spec _ _).mono ?_; rintro e w' ⟨rfl, rfl⟩))
      go_round
      case rel => exact ⟨k + 1, by omega, by omega, by go_num, fun j hj h' h => by rcases Nat.lt_succ_iff_lt_or_eq.1 h with h | rfl; exact hall.out j hj h' h; exact HC.out⟩
      case measure => simp [intOf]; omega
    ·
     have HN : Hid (nameB s.data.toList = true) := name_all h1 h2 hd (fun j hj h => hall.out j hj h (by omega))
     go_wp2_with fail
     go_ret
     exact ⟨ret_boolN HN.out.symm, rfl⟩
theorem name_face (s : ByteArray) (w : World) (hs : s.size ≤ maxLen) :
  Calls Tryz.prog 58 #[.string s] w fun e w' => e = .returned (.bool (nameB s.data.toList)) ∧ w' = w := by
 go_enter Tryz.func58, Tryz.ntmps58
 go_wp2_with fail
 refine (name_spec s _ hs).mono ?_
 rintro e w' ⟨rfl, rfl⟩
 go_wp2_with fail
 go_ret
 exact ⟨rfl, rfl⟩
theorem nameI (t : List UInt8) (w : World) (hs : t.length ≤ maxLen) : Calls Tryz.prog 69 #[.string ⟨t.toArray⟩] w fun e w' => e = .returned (.bool (nameB t)) ∧ w' = w := by
 have := name_impl ⟨t.toArray⟩ w (by show t.toArray.size ≤ maxLen; simpa using hs)
 exact this
theorem nameS (t : List UInt8) (w : World) (hs : t.length ≤ maxLen) : Calls Tryz.prog 58 #[.string ⟨t.toArray⟩] w fun e w' => e = .returned (.bool (nameB t)) ∧ w' = w := by
 have := name_face ⟨t.toArray⟩ w (by show t.toArray.size ≤ maxLen; simpa using hs)
 exact this
end Go.Proofs.YtlddhbamcndggaaGreatDoor
namespace Go.Proofs.YtlddhbamcndggaaGreatDoor
open Go.RowKit
set_option linter.unusedSimpArgs false
def kindB (c : Cl) : Bool :=
 if c.k = 1 then inB (-1000000000) c.lo 1000000000 && (inB (-1000000000) c.hi 1000000000 && (decide (c.lo ≤ c.hi) && (c.rf.isEmpty && !c.st)))
 else if c.k = 4 then (c.mn == 0) && ((c.lo == 0) && ((c.hi == 0) && nameB c.rf))
 else if c.k = 2 ∨ c.k = 3 then (c.lo == 0) && ((c.hi == 0) && (c.rf.isEmpty && !c.st))
 else false
def colB (c : Cl) : Bool := nameB c.nm && (inB 0 c.mn 1 && (inB 1 c.mx 8 && kindB c))
theorem name_empty : nameB [] = false := rfl
theorem colB_kind {c : Cl} (h : colB c = true) : 1 ≤ c.k ∧ c.k ≤ 4 := by
  unfold colB kindB at h
  by_cases h1 : c.k = 1
  · omega
  by_cases h4 : c.k = 4
  · omega
  by_cases h2 : c.k = 2 ∨ c.k = 3
  · omega
  · rw [if_neg h1, if_neg h4, if_neg h2] at h; simp at h
theorem heap_keptC {w w' : World} {b : Nat} {o : Obj} (h : w.heap[b]? = some o) (hB : Below w.heap.size w w') : w'.heap[b]? = some o := by
 rw [hB.block b (Array.getElem?_eq_some_iff.1 h).1]; exact h
theorem heap_newC (w : World) (o : Obj) : (w.alloc o).heap[w.heap.size]? = some o := by
 show (w.heap.push o)[w.heap.size]? = _
 simp
def BoxC (ty : TypeId) (w W : World) (c : Cl) : Prop := W.heap[w.heap.size]? = some (.cells #[.string ⟨c.nm.toArray⟩, .int .i64 c.k, .int .i64 c.mn, .int .i64 c.mx, .int .i64 c.lo, .int .i64 c.hi, .string ⟨c.rf.toArray⟩, .bool c.st] ty) ∧ Below w.heap.size w W
theorem BoxC.later {ty : TypeId} {w W W' : World} {c : Cl} (h : BoxC ty w W c) (hB : Below W.heap.size W W') : BoxC ty w W' c := ⟨heap_keptC h.1 hB, h.2.trans (hB.mono h.2.size)⟩
theorem boxC (ty : TypeId) (w : World) (c : Cl) : BoxC ty w (w.alloc (.cells #[.string ⟨c.nm.toArray⟩, .int .i64 c.k, .int .i64 c.mn, .int .i64 c.mx, .int .i64 c.lo, .int .i64 c.hi, .string ⟨c.rf.toArray⟩, .bool c.st] ty)) c := ⟨heap_newC _ _, (Below.refl _ _).alloc (Nat.le_refl _) _⟩
theorem BoxC.drew {ty : TypeId} {w W : World} {c : Cl} (h : BoxC ty w W c) : BoxC ty w W.drew c := h.later (Below.refl _ _).drew
theorem BoxC.drewN {ty : TypeId} {w W : World} {c : Cl} (h : BoxC ty w W c) (n : Nat) : BoxC ty w (W.drewN n) c := h.later (below_drewN (Below.refl _ _) n)
theorem end_bC {a x y : Bool} (HP : Hid (a = x)) (h : y = x) : y = a := by rw [HP.out]; exact h
theorem kind1 {c : Cl} (h : c.k = 1) : kindB c = (inB (-1000000000) c.lo 1000000000 && (inB (-1000000000) c.hi 1000000000 && (decide (c.lo ≤ c.hi) && (c.rf.isEmpty && !c.st)))) := by unfold kindB; rw [if_pos h]
theorem kind1s {c : Cl} (h : c.k = 1) : kindB c = (inB (-1000000000) c.lo c.hi && (inB c.lo c.hi 1000000000 && (c.rf.isEmpty && !c.st))) := by
 rw [kind1 h, Bool.eq_iff_iff]
 simp [inB]
 constructor
 ·
  rintro ⟨⟨a, b⟩, ⟨c, d⟩, e, f⟩; exact ⟨⟨a, e⟩, ⟨e, d⟩, f⟩
 ·
  rintro ⟨⟨a, b⟩, ⟨c, d⟩, f⟩; exact ⟨⟨a, by omega⟩, ⟨by omega, d⟩, b, f⟩
theorem kind4 {c : Cl} (h : c.k = 4) : kindB c = ((c.mn == 0) && ((c.lo == 0) && ((c.hi == 0) && nameB c.rf))) := by unfold kindB; rw [if_neg (by omega), if_pos h]
theorem kind23 {c : Cl} (h : c.k = 2 ∨ c.k = 3) : kindB c = ((c.lo == 0) && ((c.hi == 0) && (c.rf.isEmpty && !c.st))) := by unfold kindB; rw [if_neg (by omega), if_neg (by omega), if_pos h]
theorem kindN {c : Cl} (h : c.k < 1 ∨ 4 < c.k) : kindB c = false := by unfold kindB; rw [if_neg (by omega), if_neg (by omega), if_neg (by omega)]
theorem col_no {c : Cl} (h : nameB c.nm = false) : colB c = false := by unfold colB; rw [h]; rfl
theorem col_mn {c : Cl} (h : inB 0 c.mn 1 = false) : colB c = false := by unfold colB; rw [h]; simp
theorem col_mx {c : Cl} (h : inB 1 c.mx 8 = false) : colB c = false := by unfold colB; rw [h]; simp
theorem col_kn {c : Cl} (h : kindB c = false) : colB c = false := by unfold colB; rw [h]; simp
theorem col_yes {c : Cl} (h : nameB c.nm = true) (h1 : inB 0 c.mn 1 = true) (h2 : inB 1 c.mx 8 = true) : colB c = kindB c := by unfold colB; rw [h, h1, h2]; simp
set_option maxHeartbeats 3200000 in
theorem columnOKs (c : Cl) (w : World) (ht : c.nm.length ≤ maxLen) (hr : c.rf.length ≤ maxLen) :
  Calls Tryz.prog 94 #[.agg #[.string ⟨c.nm.toArray⟩, .int .i64 c.k, .int .i64 c.mn, .int .i64 c.mx, .int .i64 c.lo, .int .i64 c.hi, .string ⟨c.rf.toArray⟩, .bool c.st]] w fun e w' => e = .returned (.bool (colB c)) ∧ Below w.heap.size w w' := by
 have HT : Hid (c.nm.length ≤ maxLen ∧ c.rf.length ≤ maxLen) := ⟨ht, hr⟩
 clear ht hr
 cases hn : nameB c.nm
 ·
  have HP : Hid (colB c = false) := col_no hn
  go_enter Tryz.func94, Tryz.ntmps94
  go_wp2_with (first | (go_at_call 54; refine (inS _ _ _ _).mono ?_; rintro e w' ⟨rfl, rfl⟩) | (go_at_call 58; refine (nameS _ _ (by first | exact HT.out.1 | exact HT.out.2)).mono ?_; rintro e w' ⟨rfl, rfl⟩))
  go_ret
  exact ⟨ret_b (end_bC HP rfl), (Below.refl _ _).alloc (Nat.le_refl _) _⟩
 cases hk : inB 1 c.k 4
 ·
  have HP : Hid (colB c = false) := col_kn (kindN (by unfold inB at hk; simp at hk; omega))
  go_enter Tryz.func94, Tryz.ntmps94
  go_wp2_with (first | (go_at_call 54; refine (inS _ _ _ _).mono ?_; rintro e w' ⟨rfl, rfl⟩) | (go_at_call 58; refine (nameS _ _ (by first | exact HT.out.1 | exact HT.out.2)).mono ?_; rintro e w' ⟨rfl, rfl⟩))
  go_ret
  exact ⟨ret_b (end_bC HP rfl), (Below.refl _ _).alloc (Nat.le_refl _) _⟩
 cases h1 : inB 0 c.mn 1
 ·
  have HP : Hid (colB c = false) := col_mn h1
  go_enter Tryz.func94, Tryz.ntmps94
  go_wp2_with (first | (go_at_call 54; refine (inS _ _ _ _).mono ?_; rintro e w' ⟨rfl, rfl⟩) | (go_at_call 58; refine (nameS _ _ (by first | exact HT.out.1 | exact HT.out.2)).mono ?_; rintro e w' ⟨rfl, rfl⟩))
  go_ret
  exact ⟨ret_b (end_bC HP rfl), (Below.refl _ _).alloc (Nat.le_refl _) _⟩
 cases h2 : inB 1 c.mx 8
 ·
  have HP : Hid (colB c = false) := col_mx h2
  go_enter Tryz.func94, Tryz.ntmps94
  go_wp2_with (first | (go_at_call 54; refine (inS _ _ _ _).mono ?_; rintro e w' ⟨rfl, rfl⟩) | (go_at_call 58; refine (nameS _ _ (by first | exact HT.out.1 | exact HT.out.2)).mono ?_; rintro e w' ⟨rfl, rfl⟩))
  go_ret
  exact ⟨ret_b (end_bC HP rfl), (Below.refl _ _).alloc (Nat.le_refl _) _⟩
 have HY : Hid (colB c = kindB c) := col_yes hn h1 h2
 have hk4 : 1 ≤ c.k ∧ c.k ≤ 4 := by unfold inB at hk; simpa using hk
 rcases (by omega : c.k = 1 ∨ c.k = 4 ∨ (c.k = 2 ∨ c.k = 3)) with k | k | k
 ·
  have HP : Hid (colB c = _) := HY.out.trans (kind1s k)
  rw [k] at hk ⊢
  clear hk4 HY
  go_enter Tryz.func94, Tryz.ntmps94
  go_wp2_with (first | (go_at_call 54; refine (inS _ _ _ _).mono ?_; rintro e w' ⟨rfl, rfl⟩) | (go_at_call 58; refine (nameS _ _ (by first | exact HT.out.1 | exact HT.out.2)).mono ?_; rintro e w' ⟨rfl, rfl⟩))
  all_goals
   go_ret
   exact ⟨ret_b (end_bC HP (by simp [*])), (Below.refl _ _).alloc (Nat.le_refl _) _⟩
 ·
  have HP : Hid (colB c = _) := HY.out.trans (kind4 k)
  rw [k] at hk ⊢
  clear hk4 HY
  by_cases hlo : c.lo = 0
  case neg =>
   have HP : Hid (colB c = false) := by show colB c = false; rw [HP.out]; simp [hlo]
   have e1 : (c.lo != 0) = true := by simpa using hlo
   clear hlo
   go_enter Tryz.func94, Tryz.ntmps94
   go_wp2_with (first | (go_at_call 54; refine (inS _ _ _ _).mono ?_; rintro e w' ⟨rfl, rfl⟩) | (go_at_call 58; refine (nameS _ _ (by first | exact HT.out.1 | exact HT.out.2)).mono ?_; rintro e w' ⟨rfl, rfl⟩))
   all_goals
    go_ret
    exact ⟨ret_b (end_bC HP (by simp [*])), (Below.refl _ _).alloc (Nat.le_refl _) _⟩
  by_cases hhi : c.hi = 0
  case neg =>
   have HP : Hid (colB c = false) := by show colB c = false; rw [HP.out]; simp [hhi]
   have e1 : (c.hi != 0) = true := by simpa using hhi
   rw [hlo]
   clear hhi
   go_enter Tryz.func94, Tryz.ntmps94
   go_wp2_with (first | (go_at_call 54; refine (inS _ _ _ _).mono ?_; rintro e w' ⟨rfl, rfl⟩) | (go_at_call 58; refine (nameS _ _ (by first | exact HT.out.1 | exact HT.out.2)).mono ?_; rintro e w' ⟨rfl, rfl⟩))
   all_goals
    go_ret
    exact ⟨ret_b (end_bC HP (by simp [*])), (Below.refl _ _).alloc (Nat.le_refl _) _⟩
  rw [hlo, hhi]
  go_enter Tryz.func94, Tryz.ntmps94
  go_wp2_with (first | (go_at_call 54; refine (inS _ _ _ _).mono ?_; rintro e w' ⟨rfl, rfl⟩) | (go_at_call 58; refine (nameS _ _ (by first | exact HT.out.1 | exact HT.out.2)).mono ?_; rintro e w' ⟨rfl, rfl⟩))
  all_goals
   go_ret
   exact ⟨ret_b (end_bC HP (by simp [*])), (Below.refl _ _).alloc (Nat.le_refl _) _⟩
 ·
  have HP : Hid (colB c = _) := HY.out.trans (kind23 k)
  have k1 : (c.k == 1) = false := by simp; omega
  have k4 : (c.k == 4) = false := by simp; omega
  clear hk4 HY k
  by_cases hlo : c.lo = 0
  case neg =>
   have HP : Hid (colB c = false) := by show colB c = false; rw [HP.out]; simp [hlo]
   have e1 : (c.lo != 0) = true := by simpa using hlo
   clear hlo
   go_enter Tryz.func94, Tryz.ntmps94
   go_wp2_with (first | (go_at_call 54; refine (inS _ _ _ _).mono ?_; rintro e w' ⟨rfl, rfl⟩) | (go_at_call 58; refine (nameS _ _ (by first | exact HT.out.1 | exact HT.out.2)).mono ?_; rintro e w' ⟨rfl, rfl⟩))
   all_goals
    go_ret
    exact ⟨ret_b (end_bC HP (by simp [*])), (Below.refl _ _).alloc (Nat.le_refl _) _⟩
  by_cases hhi : c.hi = 0
  case neg =>
   have HP : Hid (colB c = false) := by show colB c = false; rw [HP.out]; simp [hhi]
   have e1 : (c.hi != 0) = true := by simpa using hhi
   rw [hlo]
   clear hhi
   go_enter Tryz.func94, Tryz.ntmps94
   go_wp2_with (first | (go_at_call 54; refine (inS _ _ _ _).mono ?_; rintro e w' ⟨rfl, rfl⟩) | (go_at_call 58; refine (nameS _ _ (by first | exact HT.out.1 | exact HT.out.2)).mono ?_; rintro e w' ⟨rfl, rfl⟩))
   all_goals
    go_ret
    exact ⟨ret_b (end_bC HP (by simp [*])), (Below.refl _ _).alloc (Nat.le_refl _) _⟩
  rw [hlo, hhi]
  go_enter Tryz.func94, Tryz.ntmps94
  go_wp2_with (first | (go_at_call 54; refine (inS _ _ _ _).mono ?_; rintro e w' ⟨rfl, rfl⟩) | (go_at_call 58; refine (nameS _ _ (by first | exact HT.out.1 | exact HT.out.2)).mono ?_; rintro e w' ⟨rfl, rfl⟩))
  all_goals
   go_ret
   exact ⟨ret_b (end_bC HP (by simp [*])), (Below.refl _ _).alloc (Nat.le_refl _) _⟩
def Rw (w : World) (B : Nat → Prop) (a : Option Addr) (n : Nat) (f : Nat → Value) : Prop :=
 n = 0 ∨ ∃ b off, a = some ⟨b, off, none⟩ ∧ B b ∧ ∀ m, m < n → w.cell? ⟨b, off + m, none⟩ = some (f m)
theorem Rw.same {w w' : World} {B B' : Nat → Prop} {a : Option Addr} {n : Nat} {f : Nat → Value} (h : Rw w B a n f) (hs : ∀ b, B b → w'.heap[b]? = w.heap[b]?) (hB : ∀ b, B b → B' b) : Rw w' B' a n f := by
  rcases h with h | ⟨b, off, ha, hb, hc⟩
  · exact .inl h
  · exact .inr ⟨b, off, ha, hB b hb, fun m hm => by rw [World.cell?_of_block (w := w) (a := ⟨b, off + m, none⟩) (hs b hb)]; exact hc m hm⟩
theorem Rw.inside {w : World} {B : Nat → Prop} {a : Option Addr} {n : Nat} {f : Nat → Value} (h : Rw w B a n f) : Rw w (fun b => B b ∧ b < w.heap.size) a n f := by
  rcases h with h | ⟨b, off, ha, hb, hc⟩
  · exact .inl h
  · by_cases h0 : n = 0
    · exact .inl h0
    · exact .inr ⟨b, off, ha, ⟨hb, World.block_lt_of_cell? _ _ (hc 0 (by omega))⟩, hc⟩
theorem Rw.at {w : World} {B : Nat → Prop} {a : Option Addr} {n : Nat} {f : Nat → Value} (h : Rw w B a n f) (k : Nat) (hk : k < n) : ∃ b off, a = some ⟨b, off, none⟩ ∧ B b ∧ ∀ m, m < n → w.cell? ⟨b, off + m, none⟩ = some (f m) := by
  rcases h with h | h
  · omega
  · exact h
def clZ : Cl := ⟨[], 0, 0, 0, 0, 0, [], false⟩
def clF (l : List Cl) (m : Nat) : Value :=
 if m % 8 = 0 then .string ⟨(l.getD (m / 8) clZ).nm.toArray⟩ else if m % 8 = 1 then .int .i64 (l.getD (m / 8) clZ).k else if m % 8 = 2 then .int .i64 (l.getD (m / 8) clZ).mn else if m % 8 = 3 then .int .i64 (l.getD (m / 8) clZ).mx
 else if m % 8 = 4 then .int .i64 (l.getD (m / 8) clZ).lo else if m % 8 = 5 then .int .i64 (l.getD (m / 8) clZ).hi else if m % 8 = 6 then .string ⟨(l.getD (m / 8) clZ).rf.toArray⟩ else .bool (l.getD (m / 8) clZ).st
theorem cl_getD {l : List Cl} {i : Nat} (h : i < l.length) : l.getD i clZ = l[i] := by rw [List.getD_eq_getElem?_getD, List.getElem?_eq_getElem h]; rfl
theorem clF_at {l : List Cl} {i j : Nat} (h : i < l.length) (hj : j < 8) : clF l (i * 8 + j) = [Value.string ⟨l[i].nm.toArray⟩, .int .i64 l[i].k, .int .i64 l[i].mn, .int .i64 l[i].mx, .int .i64 l[i].lo, .int .i64 l[i].hi, .string ⟨l[i].rf.toArray⟩, .bool l[i].st].getD j undef := by
 unfold clF
 rw [show (i * 8 + j) % 8 = j by omega, show (i * 8 + j) / 8 = i by omega, cl_getD h]
 match j, hj with
 | 0, _ => rfl
 | 1, _ => rfl
 | 2, _ => rfl
 | 3, _ => rfl
 | 4, _ => rfl
 | 5, _ => rfl
 | 6, _ => rfl
 | 7, _ => rfl
def Cols (w : World) (B : Nat → Prop) (a : Option Addr) (l : List Cl) : Prop := Rw w B a (l.length * 8) (clF l)
def ColAt (w : World) (b o : Nat) (x : Cl) : Prop := w.cell? ⟨b, o, none⟩ = some (.string ⟨x.nm.toArray⟩) ∧ w.cell? ⟨b, o + 1, none⟩ = some (.int .i64 x.k) ∧ w.cell? ⟨b, o + 2, none⟩ = some (.int .i64 x.mn) ∧ w.cell? ⟨b, o + 3, none⟩ = some (.int .i64 x.mx) ∧ w.cell? ⟨b, o + 4, none⟩ = some (.int .i64 x.lo) ∧ w.cell? ⟨b, o + 5, none⟩ = some (.int .i64 x.hi) ∧ w.cell? ⟨b, o + 6, none⟩ = some (.string ⟨x.rf.toArray⟩) ∧ w.cell? ⟨b, o + 7, none⟩ = some (.bool x.st)
theorem Cols.at {w : World} {B : Nat → Prop} {a : Option Addr} {l : List Cl} (h : Cols w B a l) (k : Nat) (hk : k < l.length) : ∃ b off, a = some ⟨b, off, none⟩ ∧ B b ∧ ∀ i (h : i < l.length), ColAt w b (off + i * 8) l[i] := by
 obtain ⟨b, off, e, hb, hc⟩ := Rw.at h (k * 8) (by omega)
 refine ⟨b, off, e, hb, fun i hi => ?_⟩
 have g : ∀ j, j < 8 → w.cell? ⟨b, off + i * 8 + j, none⟩ = _ := fun j hj => by rw [Nat.add_assoc, hc _ (by omega), clF_at hi hj]
 exact ⟨g 0 (by omega), g 1 (by omega), g 2 (by omega), g 3 (by omega), g 4 (by omega), g 5 (by omega), g 6 (by omega), g 7 (by omega)⟩
def Ints (w : World) (B : Nat → Prop) (a : Option Addr) (l : List Int) : Prop := Rw w B a l.length (fun m => .int .i64 (l.getD m 0))
theorem Ints.at {w : World} {B : Nat → Prop} {a : Option Addr} {l : List Int} (h : Ints w B a l) (k : Nat) (hk : k < l.length) : ∃ b off, a = some ⟨b, off, none⟩ ∧ B b ∧ ∀ i (h : i < l.length), w.cell? ⟨b, off + i, none⟩ = some (.int .i64 l[i]) := by
 obtain ⟨b, off, e, hb, hc⟩ := Rw.at h k hk
 refine ⟨b, off, e, hb, fun i hi => ?_⟩
 rw [hc i hi, List.getD_eq_getElem?_getD, List.getElem?_eq_getElem hi]; rfl
def Tb.Has (w : World) (B : Nat → Prop) (t : Tb) (ca ua : Option Addr) : Prop := Cols w B ca t.cols ∧ Ints w B ua t.uq
theorem Tb.Has.same {w w' : World} {B B' : Nat → Prop} {t : Tb} {ca ua : Option Addr} (h : t.Has w B ca ua) (hs : ∀ b, B b → w'.heap[b]? = w.heap[b]?) (hB : ∀ b, B b → B' b) : t.Has w' B' ca ua := ⟨Rw.same h.1 hs hB, Rw.same h.2 hs hB⟩
theorem Tb.Has.inside {w : World} {B : Nat → Prop} {t : Tb} {ca ua : Option Addr} (h : t.Has w B ca ua) : t.Has w (fun b => B b ∧ b < w.heap.size) ca ua := ⟨Rw.inside h.1, Rw.inside h.2⟩
theorem Tb.Has.later {w w' : World} {B : Nat → Prop} {t : Tb} {ca ua : Option Addr} (h : t.Has w B ca ua) (hb : Below w.heap.size w w') : t.Has w' B ca ua := h.inside.same (fun b hb' => hb.block b hb'.2) (fun _ h => h.1)
theorem Cols.later {w w' : World} {B : Nat → Prop} {a : Option Addr} {l : List Cl} (h : Cols w B a l) (hb : Below w.heap.size w w') : Cols w' B a l := (Rw.inside h).same (fun b hb' => hb.block b hb'.2) (fun _ h => h.1)
theorem Ints.later {w w' : World} {B : Nat → Prop} {a : Option Addr} {l : List Int} (h : Ints w B a l) (hb : Below w.heap.size w w') : Ints w' B a l := (Rw.inside h).same (fun b hb' => hb.block b hb'.2) (fun _ h => h.1)
def Cl.ok (x : Cl) : Prop := x.nm.length ≤ maxLen ∧ x.rf.length ≤ maxLen
def Tb.ok (t : Tb) : Prop := t.nm.length ≤ maxLen ∧ t.cols.length ≤ maxLen ∧ (∀ x ∈ t.cols, x.ok) ∧ t.uq.length ≤ maxLen
def BoxT (ty : TypeId) (w W : World) (t : Tb) (ca : Option Addr) (cc : Nat) (ua : Option Addr) (uc : Nat) : Prop := W.heap[w.heap.size]? = some (.cells #[.string ⟨t.nm.toArray⟩, .slice ca t.cols.length cc, .slice ua t.uq.length uc, .bool t.rt] ty) ∧ Below w.heap.size w W
theorem BoxT.later {ty : TypeId} {w W W' : World} {t : Tb} {ca : Option Addr} {cc : Nat} {ua : Option Addr} {uc : Nat} (h : BoxT ty w W t ca cc ua uc) (hB : Below W.heap.size W W') : BoxT ty w W' t ca cc ua uc := ⟨heap_keptC h.1 hB, h.2.trans (hB.mono h.2.size)⟩
theorem boxT (ty : TypeId) (w : World) (t : Tb) (ca : Option Addr) (cc : Nat) (ua : Option Addr) (uc : Nat) : BoxT ty w (w.alloc (.cells #[.string ⟨t.nm.toArray⟩, .slice ca t.cols.length cc, .slice ua t.uq.length uc, .bool t.rt] ty)) t ca cc ua uc := ⟨heap_newC _ _, (Below.refl _ _).alloc (Nat.le_refl _) _⟩
theorem BoxT.drew {ty : TypeId} {w W : World} {t : Tb} {ca : Option Addr} {cc : Nat} {ua : Option Addr} {uc : Nat} (h : BoxT ty w W t ca cc ua uc) : BoxT ty w W.drew t ca cc ua uc := h.later (Below.refl _ _).drew
theorem BoxT.drewN {ty : TypeId} {w W : World} {t : Tb} {ca : Option Addr} {cc : Nat} {ua : Option Addr} {uc : Nat} (h : BoxT ty w W t ca cc ua uc) (n : Nat) : BoxT ty w (W.drewN n) t ca cc ua uc := h.later (below_drewN (Below.refl _ _) n)
variable {w V V' : World} {t : Tb} {ca : Option Addr} {cc : Nat} {ua : Option Addr} {uc : Nat} {o : Array Value}
end Go.Proofs.YtlddhbamcndggaaGreatDoor
namespace Go.Proofs.YtlddhbamcndggaaGreatDoor
open Go.RowKit
set_option linter.unusedSimpArgs false
def GoodC (l : List Cl) (i : Nat) (h : i < l.length) : Prop := colB l[i] = true ∧ ∀ k (hk : k < i), (l[k]'(by omega)).nm ≠ l[i].nm
def GoodU (n : Nat) (u : List Int) (i : Nat) (h : i < u.length) : Prop := (0 ≤ u[i] ∧ u[i] < (n : Int)) ∧ ∀ j (hj : j + 1 = i), (u[j]'(by omega)) < u[i]
structure TabP (t : Tb) : Prop where
 nm : nameB t.nm = true
 len : 1 ≤ t.cols.length ∧ t.cols.length ≤ 6
 cols : ∀ i (h : i < t.cols.length), GoodC t.cols i h
 uq : ∀ i (h : i < t.uq.length), GoodU t.cols.length t.uq i h
noncomputable def tabB (t : Tb) : Bool := @decide (TabP t) (Classical.propDecidable _)
theorem tab_yes {t : Tb} (h : TabP t) : tabB t = true := by unfold tabB; exact @decide_eq_true _ (Classical.propDecidable _) h
theorem tab_no {t : Tb} (h : ¬ TabP t) : tabB t = false := by unfold tabB; exact @decide_eq_false _ (Classical.propDecidable _) h
theorem uq_ge {n : Nat} {u : List Int} (h : ∀ i (h : i < u.length), GoodU n u i h) : ∀ i (hi : i < u.length), (i : Int) ≤ u[i]
 | 0, hi => by have := (h 0 hi).1.1; omega
 | i + 1, hi => by
  have h1 := uq_ge h i (by omega)
  have h2 := (h (i + 1) hi).2 i rfl
  omega
theorem uq_len {n : Nat} {u : List Int} (h : ∀ i (h : i < u.length), GoodU n u i h) : u.length ≤ n := by
 by_cases h0 : u.length = 0
 ·
  omega
 ·
  have h1 := uq_ge h (u.length - 1) (by omega)
  have h2 := (h (u.length - 1) (by omega)).1.2
  omega
def FirstC (l : List Cl) (t : List UInt8) (q : Int) : Prop := (q = -1 ∧ ∀ k (h : k < l.length), l[k].nm ≠ t) ∨ ∃ k, ∃ h : k < l.length, q = (k : Int) ∧ l[k].nm = t ∧ ∀ j (hj : j < k), (l[j]'(by omega)).nm ≠ t
theorem first_one {l : List Cl} {t : List UInt8} {q q' : Int} (h : FirstC l t q) (h' : FirstC l t q') : q = q' := by
  rcases h with ⟨rfl, h⟩ | ⟨k, hk, rfl, e, h⟩
  · rcases h' with ⟨rfl, -⟩ | ⟨k', hk', rfl, e', -⟩
    · rfl
    · exact absurd e' (h k' hk')
  · rcases h' with ⟨rfl, h'⟩ | ⟨k', hk', rfl, e', h'⟩
    · exact absurd e (h' k hk)
    · rcases Nat.lt_trichotomy k k' with c | c | c
      · exact absurd e (h' k c)
      · rw [c]
      · exact absurd e' (h k' c)
theorem least_nat {P : Nat → Prop} (n : Nat) (h : P n) : ∃ k, P k ∧ ∀ j, j < k → ¬ P j := by
 induction n using Nat.strongRecOn with
 | _ n ih =>
  by_cases hh : ∃ j, j < n ∧ P j
  ·
   obtain ⟨j, hj, hp⟩ := hh
   exact ih j hj hp
  ·
   exact ⟨n, h, fun j hj hp => hh ⟨j, hj, hp⟩⟩
theorem first_some (l : List Cl) (t : List UInt8) : ∃ q, FirstC l t q := by
 by_cases h : ∃ k, ∃ h : k < l.length, l[k].nm = t
 ·
  obtain ⟨n, hn⟩ := h
  obtain ⟨k, ⟨hk, e⟩, hmin⟩ := least_nat (P := fun k => ∃ h : k < l.length, l[k].nm = t) n hn
  exact ⟨k, .inr ⟨k, hk, rfl, e, fun j hj he => hmin j hj ⟨by omega, he⟩⟩⟩
 ·
  exact ⟨-1, .inl ⟨rfl, fun k hk e => h ⟨k, hk, e⟩⟩⟩
noncomputable def placeC (l : List Cl) (t : List UInt8) : Int := Classical.choose (first_some l t)
theorem place_first (l : List Cl) (t : List UInt8) : FirstC l t (placeC l t) := Classical.choose_spec (first_some l t)
theorem place_eq {l : List Cl} {t : List UInt8} {q : Int} (h : FirstC l t q) : placeC l t = q := first_one (place_first l t) h
set_option maxRecDepth 100000 in
set_option maxHeartbeats 3200000 in
theorem placeS (t : Tb) (s : List UInt8) (ca : Option Addr) (cc : Nat) (ua : Option Addr) (uc : Nat) (B : Nat → Prop) (w : World) (hl : t.cols.length ≤ maxLen) (hS : t.Has w B ca ua) :
  Calls Tryz.prog 60 #[.agg #[.string ⟨t.nm.toArray⟩, .slice ca t.cols.length cc, .slice ua t.uq.length uc, .bool t.rt], .string ⟨s.toArray⟩] w fun e w' => e = .returned (.int .i64 (placeC t.cols s)) ∧ Below w.heap.size w w' := by
 unfold maxLen at hl
 have HS : Hid (t.Has w B ca ua) := hS
 have HX := Lib.hid (boxT 75 w t ca cc ua uc)
 clear hS
 go_enter Tryz.func60, Tryz.ntmps60
 go_wp2_with fail
 go_loopw [5] (fun i wr => ∃ k : Nat, k ≤ t.cols.length ∧ i = .int .i64 k ∧ Hid ((∀ m (h : m < t.cols.length), m < k → t.cols[m].nm ≠ s) ∧ BoxT 75 w wr t ca cc ua uc)) (fun i _ => t.cols.length - (intOf i).toNat)
 case atStart => exact ⟨0, Nat.zero_le _, rfl, fun m _ h => absurd h (by omega), HX.out⟩
 case round =>
  obtain ⟨k, hk, rfl, HW⟩ := hrel
  have x1 := cell_at (o := 1) HW.out.2.1 rfl
  by_cases hlt : k < t.cols.length
  ·
   have hki : (k : Int) < (t.cols.length : Int) := by omega
   obtain ⟨b, off, rfl, -, hc⟩ := (HS.out.later HW.out.2.2).1.at k hlt
   have c0 := (hc k hlt).1
   clear hc
   by_cases he : t.cols[k].nm = s
   ·
    have HP : Hid (placeC t.cols s = k) := place_eq (.inr ⟨k, hlt, rfl, he, fun j hj => HW.out.1 j (by omega) hj⟩)
    rw [he] at c0
    clear he
    go_wp2_with fail
    go_ret
    exact ⟨ret_i HP.out.symm, HW.out.2.2⟩
   ·
    have HN : Hid (∀ m (h : m < t.cols.length), m < k + 1 → t.cols[m].nm ≠ s) := fun m h hm => by
     by_cases e : m = k
     ·
      subst e; exact he
     ·
      exact HW.out.1 m h (by omega)
    have hne : (t.cols[k].nm == s) = false := by simpa using he
    clear he
    generalize t.cols[k] = x at *
    go_wp2_with fail
    go_roundw
    case rel => exact ⟨k + 1, by omega, by go_num, HN.out, HW.out.2⟩
    case measure => simp [intOf]; omega
  ·
   have HP : Hid (placeC t.cols s = -1) := place_eq (.inl ⟨rfl, fun m h => HW.out.1 m h (by omega)⟩)
   have hki : decide ((k : Int) < (t.cols.length : Int)) = false := by simp; omega
   go_wp2_with fail
   go_ret
   exact ⟨ret_i HP.out.symm, HW.out.2.2⟩
set_option maxRecDepth 100000 in
set_option maxHeartbeats 3200000 in
theorem placeI (t : Tb) (s : List UInt8) (ca : Option Addr) (cc : Nat) (ua : Option Addr) (uc : Nat) (B : Nat → Prop) (w : World) (hl : t.cols.length ≤ maxLen) (hS : t.Has w B ca ua) :
  Calls Tryz.prog 116 #[.agg #[.string ⟨t.nm.toArray⟩, .slice ca t.cols.length cc, .slice ua t.uq.length uc, .bool t.rt], .string ⟨s.toArray⟩] w fun e w' => e = .returned (.int .i64 (placeC t.cols s)) ∧ Below w.heap.size w w' := by
 unfold maxLen at hl
 have HS : Hid (t.Has w B ca ua) := hS
 have HX := Lib.hid (boxT 75 w t ca cc ua uc)
 clear hS
 go_enter Tryz.func116, Tryz.ntmps116
 go_wp2_with fail
 go_loopw [9] (fun i wr => ∃ k : Nat, k ≤ t.cols.length ∧ i = .int .i64 k ∧ Hid ((∀ m (h : m < t.cols.length), m < k → t.cols[m].nm ≠ s) ∧ BoxT 75 w wr t ca cc ua uc)) (fun i _ => t.cols.length - (intOf i).toNat)
 case atStart => exact ⟨0, Nat.zero_le _, rfl, fun m _ h => absurd h (by omega), HX.out⟩
 case round =>
  obtain ⟨k, hk, rfl, HW⟩ := hrel
  have x1 := cell_at (o := 1) HW.out.2.1 rfl
  by_cases hlt : k < t.cols.length
  ·
   have hki : (k : Int) < (t.cols.length : Int) := by omega
   obtain ⟨b, off, rfl, -, hc⟩ := (HS.out.later HW.out.2.2).1.at k hlt
   have c0 := (hc k hlt).1
   clear hc
   by_cases he : t.cols[k].nm = s
   ·
    have HP : Hid (placeC t.cols s = k) := place_eq (.inr ⟨k, hlt, rfl, he, fun j hj => HW.out.1 j (by omega) hj⟩)
    rw [he] at c0
    clear he
    go_wp2_with fail
    go_ret
    exact ⟨ret_i HP.out.symm, HW.out.2.2⟩
   ·
    have HN : Hid (∀ m (h : m < t.cols.length), m < k + 1 → t.cols[m].nm ≠ s) := fun m h hm => by
     by_cases e : m = k
     ·
      subst e; exact he
     ·
      exact HW.out.1 m h (by omega)
    have hne : (t.cols[k].nm == s) = false := by simpa using he
    clear he
    generalize t.cols[k] = x at *
    go_wp2_with fail
    go_roundw
    case rel => exact ⟨k + 1, by omega, by go_num, HN.out, HW.out.2⟩
    case measure => simp [intOf]; omega
  ·
   have HP : Hid (placeC t.cols s = -1) := place_eq (.inl ⟨rfl, fun m h => HW.out.1 m h (by omega)⟩)
   have hki : decide ((k : Int) < (t.cols.length : Int)) = false := by simp; omega
   go_wp2_with fail
   go_ret
   exact ⟨ret_i HP.out.symm, HW.out.2.2⟩
end Go.Proofs.YtlddhbamcndggaaGreatDoor
