import Derived.Test.YtkncpfhblciplaaWbd
import Derived.Test.YtkncpfhblciplaaWbe
import Derived.BigQuiet
import Derived.Deep.RegionWith
namespace Go.Proofs.Ytkncpfhblciplaa
open Go.RowKit
set_option linter.unusedSimpArgs false
set_option maxHeartbeats 400000 in
theorem idOKi (n : Int) (w : World) : Calls Try.prog 79 #[.int .i64 n] w fun e w' => e = .returned (.bool (inB 1 n 1000000)) ∧ w' = w := by
  go_enter Try.func79, Try.ntmps79
  go_wp2
  all_goals
    go_ret
    refine ⟨ret_b ?_, rfl⟩
    rw [Bool.eq_iff_iff]; simp [inB]; try omega
theorem in01 (n : Int) : inB 0 n 1 = (n == 0 || n == 1) := by
  unfold inB
  rw [Bool.eq_iff_iff]; simp; omega
set_option maxHeartbeats 1600000 in
theorem atomOKi (x : At) (w : World) (ht : x.t.length ≤ maxLen) :
    Calls Try.prog 42 #[.agg #[.int .i64 x.k, .int .i64 x.n, .string ⟨x.t.toArray⟩]] w fun e w' => e = .returned (.bool (atOK x)) ∧ Below w.heap.size w w' := by
  have HTL : Hid (x.t.length ≤ maxLen) := ht
  clear ht
  rcases (by omega : x.k = 1 ∨ x.k = 2 ∨ x.k = 3 ∨ x.k = 4 ∨ (x.k < 1 ∨ 4 < x.k)) with k | k | k | k | k
  · have HP : Hid (atOK x = _) := atOK1 k
    rw [k]
    go_enter Try.func42, Try.ntmps42
    go_wp2_with (go_at_call 77; refine (numberOK _ _).mono ?_; rintro e w' ⟨rfl, rfl⟩)
    all_goals
      go_ret
      exact ⟨ret_b (end_b HP (by simp [*])), (Below.refl _ _).alloc (Nat.le_refl _) _⟩
  · have HP : Hid (atOK x = _) := atOK2 k
    rw [k]
    go_enter Try.func42, Try.ntmps42
    go_wp2_with (go_at_call 78; refine (textOK _ _ HTL.out).mono ?_; rintro e w' ⟨rfl, rfl⟩)
    all_goals
      go_ret
      exact ⟨ret_b (end_b HP (by simp [*])), (Below.refl _ _).alloc (Nat.le_refl _) _⟩
  · have HP : Hid (atOK x = _) := atOK3 k
    rw [in01] at HP
    rw [k]
    go_enter Try.func42, Try.ntmps42
    go_wp2_with fail
    all_goals
      go_ret
      exact ⟨ret_b (end_b HP (by simp [*])), (Below.refl _ _).alloc (Nat.le_refl _) _⟩
  · have HP : Hid (atOK x = _) := atOK4 k
    rw [k]
    go_enter Try.func42, Try.ntmps42
    go_wp2_with (go_at_call 79; refine (idOKi _ _).mono ?_; rintro e w' ⟨rfl, rfl⟩)
    all_goals
      go_ret
      exact ⟨ret_b (end_b HP (by simp [*])), (Below.refl _ _).alloc (Nat.le_refl _) _⟩
  · have HP : Hid (atOK x = false) := atOKN k
    have k1 : (x.k == 1) = false := by simp; omega
    have k2 : (x.k == 2) = false := by simp; omega
    have k3 : (x.k == 3) = false := by simp; omega
    have k4 : (x.k == 4) = false := by simp; omega
    go_enter Try.func42, Try.ntmps42
    go_wp2_with fail
    go_ret
    exact ⟨ret_b (end_b HP rfl), (Below.refl _ _).alloc (Nat.le_refl _) _⟩
theorem nanS (x : ByteArray) (w : World) : Calls Try.prog 118 #[.string x] w fun e w' => e = .returned (.bool false) ∧ w' = w := by
  go_enter Try.func118, Try.ntmps118
  go_wp2_with fail
  go_ret
  exact ⟨by simp, rfl⟩
theorem bl_self : ∀ t : List UInt8, Op.bytesLess t t = false
  | [] => rfl
  | a :: r => by unfold Op.bytesLess; simp [bl_self r]
set_option maxHeartbeats 1600000 in
theorem cmpStr (x y : List UInt8) (w : World) : Calls Try.prog 106 #[.string ⟨x.toArray⟩, .string ⟨y.toArray⟩] w fun e w' => e = .returned (.int .i64 (if x = y then 0 else if Op.bytesLess x y then -1 else 1)) ∧ w' = w := by
  by_cases h1 : x = y
  · rw [if_pos h1]
    subst h1
    have d1 := bl_self x
    go_enter Try.func106, Try.ntmps106
    go_wp2_with (go_at_call 118; refine (nanS _ _).mono ?_; rintro e w' ⟨rfl, rfl⟩)
    go_ret
    exact ⟨rfl, rfl⟩
  · rw [if_neg h1]
    have e1 : (x == y) = false := by simpa using h1
    clear h1
    cases d1 : Op.bytesLess x y
    · go_enter Try.func106, Try.ntmps106
      go_wp2_with (go_at_call 118; refine (nanS _ _).mono ?_; rintro e w' ⟨rfl, rfl⟩)
      go_ret
      exact ⟨rfl, rfl⟩
    · go_enter Try.func106, Try.ntmps106
      go_wp2_with (go_at_call 118; refine (nanS _ _).mono ?_; rintro e w' ⟨rfl, rfl⟩)
      go_ret
      exact ⟨rfl, rfl⟩
set_option maxHeartbeats 1600000 in
theorem compareI (a b : At) (w : World) :
    Calls Try.prog 90 #[.agg #[.int .i64 a.k, .int .i64 a.n, .string ⟨a.t.toArray⟩], .agg #[.int .i64 b.k, .int .i64 b.n, .string ⟨b.t.toArray⟩]] w fun e w' => e = .returned (.int .i64 (cmpA a b)) ∧ Below w.heap.size w w' := by
  by_cases h : a.k = b.k
  case neg =>
    have HC : Hid (cmpA a b = (if a.k < b.k then -1 else if b.k < a.k then 1 else 0)) := by
      show cmpA a b = _
      unfold cmpA
      rw [if_pos h]
      by_cases hl : a.k < b.k
      · rw [if_pos hl, if_pos hl]
      · rw [if_neg hl, if_neg hl, if_pos (by omega)]
    have hk : (a.k != b.k) = true := by simpa using h
    clear h
    go_enter Try.func90, Try.ntmps90
    go_wp2_with (go_at_call 105; refine (cmpInt _ _ _).mono ?_; rintro e w' ⟨rfl, rfl⟩; rw [← HC.out])
    go_ret
    exact ⟨rfl, below2 _ _ _⟩
  by_cases h2 : a.n = b.n
  case neg =>
    have HC : Hid (cmpA a b = (if a.n < b.n then -1 else if b.n < a.n then 1 else 0)) := by
      show cmpA a b = _
      unfold cmpA
      rw [if_neg (by simp [h]), if_pos h2]
      by_cases hl : a.n < b.n
      · rw [if_pos hl, if_pos hl]
      · rw [if_neg hl, if_neg hl, if_pos (by omega)]
    have hk : (a.n != b.n) = true := by simpa using h2
    rw [h]
    clear h h2
    go_enter Try.func90, Try.ntmps90
    go_wp2_with (go_at_call 105; refine (cmpInt _ _ _).mono ?_; rintro e w' ⟨rfl, rfl⟩; rw [← HC.out])
    go_ret
    exact ⟨rfl, below2 _ _ _⟩
  have HC : Hid (cmpA a b = (if a.t = b.t then 0 else if Op.bytesLess a.t b.t then -1 else 1)) := by
    show cmpA a b = _
    unfold cmpA
    rw [if_neg (by simp [h]), if_neg (by simp [h2])]
    by_cases hl : a.t = b.t
    · rw [if_neg (by simp [hl]), if_pos hl]
    · rw [if_pos hl, if_neg hl]
  rw [h, h2]
  clear h h2
  go_enter Try.func90, Try.ntmps90
  go_wp2_with (go_at_call 106; refine (cmpStr _ _ _).mono ?_; rintro e w' ⟨rfl, rfl⟩; rw [← HC.out])
  go_ret
  exact ⟨rfl, below2 _ _ _⟩
end Go.Proofs.Ytkncpfhblciplaa
