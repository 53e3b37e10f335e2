import Derived.Test.YtngbhifafdbpkaaGreatZag
import Derived.Test.YtngbhifafdbpkaaGreatZaa
import Derived.BigQuiet
import Derived.Deep.RegionWith
namespace Go.Proofs.YtngbhifafdbpkaaGreat
open Go.RowKit
def errAt (l : List At) (i : Nat) : Int := if atOK (l.getD i atZ) = false then 1 else if (l.getD i atZ).k ≠ (l.getD 0 atZ).k then 9 else 0
def errFrom (l : List At) : Nat → Nat → Int
  | 0, _ => 0
  | n + 1, i => if errAt l i = 0 then errFrom l n (i + 1) else errAt l i
def errOf (l : List At) : Int := errFrom l l.length 0
theorem errFrom_succ (l : List At) (k : Nat) (h : k < l.length) : errFrom l (l.length - k) k = if errAt l k = 0 then errFrom l (l.length - (k + 1)) (k + 1) else errAt l k := by
  rw [show l.length - k = (l.length - (k + 1)) + 1 by omega, errFrom]
end Go.Proofs.YtngbhifafdbpkaaGreat
namespace Go.Proofs.YtngbhifafdbpkaaGreat
open Go.RowKit
set_option linter.unusedSimpArgs false
theorem nanI (x : Int) (w : World) : Calls Tryz.prog 119 #[.int .i64 x] w fun e w' => e = .returned (.bool false) ∧ w' = w := by
  go_enter Tryz.func119, Tryz.ntmps119
  go_wp2_with fail
  go_ret
  exact ⟨by simp, rfl⟩
set_option maxHeartbeats 1600000 in
theorem cmpInt (x y : Int) (w : World) : Calls Tryz.prog 98 #[.int .i64 x, .int .i64 y] w fun e w' => e = .returned (.int .i64 (if x < y then -1 else if y < x then 1 else 0)) ∧ w' = w := by
  by_cases h1 : x < y
  · rw [if_pos h1]
    have d1 : decide (x < y) = true := decide_eq_true h1
    clear h1
    go_enter Tryz.func98, Tryz.ntmps98
    go_wp2_with (go_at_call 119; refine (nanI _ _).mono ?_; rintro e w' ⟨rfl, rfl⟩)
    go_ret
    exact ⟨rfl, rfl⟩
  · rw [if_neg h1]
    have d1 : decide (x < y) = false := decide_eq_false h1
    clear h1
    by_cases h2 : y < x
    · rw [if_pos h2]
      have d2 : decide (y < x) = true := decide_eq_true h2
      clear h2
      go_enter Tryz.func98, Tryz.ntmps98
      go_wp2_with (go_at_call 119; refine (nanI _ _).mono ?_; rintro e w' ⟨rfl, rfl⟩)
      go_ret
      exact ⟨rfl, rfl⟩
    · rw [if_neg h2]
      have d2 : decide (y < x) = false := decide_eq_false h2
      clear h2
      go_enter Tryz.func98, Tryz.ntmps98
      go_wp2_with (go_at_call 119; refine (nanI _ _).mono ?_; rintro e w' ⟨rfl, rfl⟩)
      go_ret
      exact ⟨rfl, rfl⟩
end Go.Proofs.YtngbhifafdbpkaaGreat
namespace Go.Proofs.YtngbhifafdbpkaaGreat
open Go.RowKit
set_option linter.unusedSimpArgs false
set_option maxHeartbeats 400000 in
theorem idOKi (n : Int) (w : World) : Calls Tryz.prog 43 #[.int .i64 n] w fun e w' => e = .returned (.bool (inB 1 n 1000000)) ∧ w' = w := by
  go_enter Tryz.func43, Tryz.ntmps43
  go_wp2
  all_goals
    go_ret
    refine ⟨ret_b ?_, rfl⟩
    rw [Bool.eq_iff_iff]; simp [inB]; try omega
theorem in01 (n : Int) : inB 0 n 1 = (n == 0 || n == 1) := by
  unfold inB
  rw [Bool.eq_iff_iff]; simp; omega
set_option maxHeartbeats 1600000 in
theorem atomOKi (x : At) (w : World) (ht : x.t.length ≤ maxLen) :
    Calls Tryz.prog 127 #[.agg #[.int .i64 x.k, .int .i64 x.n, .string ⟨x.t.toArray⟩]] w fun e w' => e = .returned (.bool (atOK x)) ∧ Below w.heap.size w w' := by
  have HTL : Hid (x.t.length ≤ maxLen) := ht
  clear ht
  rcases (by omega : x.k = 1 ∨ x.k = 2 ∨ x.k = 3 ∨ x.k = 4 ∨ (x.k < 1 ∨ 4 < x.k)) with k | k | k | k | k
  · have HP : Hid (atOK x = _) := atOK1 k
    rw [k]
    go_enter Tryz.func127, Tryz.ntmps127
    go_wp2_with (go_at_call 114; refine (numberOK _ _).mono ?_; rintro e w' ⟨rfl, rfl⟩)
    all_goals
      go_ret
      exact ⟨ret_b (end_b HP (by simp [*])), (Below.refl _ _).alloc (Nat.le_refl _) _⟩
  · have HP : Hid (atOK x = _) := atOK2 k
    rw [k]
    go_enter Tryz.func127, Tryz.ntmps127
    go_wp2_with (go_at_call 130; refine (textOK _ _ HTL.out).mono ?_; rintro e w' ⟨rfl, rfl⟩)
    all_goals
      go_ret
      exact ⟨ret_b (end_b HP (by simp [*])), (Below.refl _ _).alloc (Nat.le_refl _) _⟩
  · have HP : Hid (atOK x = _) := atOK3 k
    rw [in01] at HP
    rw [k]
    go_enter Tryz.func127, Tryz.ntmps127
    go_wp2_with fail
    all_goals
      go_ret
      exact ⟨ret_b (end_b HP (by simp [*])), (Below.refl _ _).alloc (Nat.le_refl _) _⟩
  · have HP : Hid (atOK x = _) := atOK4 k
    rw [k]
    go_enter Tryz.func127, Tryz.ntmps127
    go_wp2_with (go_at_call 43; refine (idOKi _ _).mono ?_; rintro e w' ⟨rfl, rfl⟩)
    all_goals
      go_ret
      exact ⟨ret_b (end_b HP (by simp [*])), (Below.refl _ _).alloc (Nat.le_refl _) _⟩
  · have HP : Hid (atOK x = false) := atOKN k
    have k1 : (x.k == 1) = false := by simp; omega
    have k2 : (x.k == 2) = false := by simp; omega
    have k3 : (x.k == 3) = false := by simp; omega
    have k4 : (x.k == 4) = false := by simp; omega
    go_enter Tryz.func127, Tryz.ntmps127
    go_wp2_with fail
    go_ret
    exact ⟨ret_b (end_b HP rfl), (Below.refl _ _).alloc (Nat.le_refl _) _⟩
theorem nanS (x : ByteArray) (w : World) : Calls Tryz.prog 118 #[.string x] w fun e w' => e = .returned (.bool false) ∧ w' = w := by
  go_enter Tryz.func118, Tryz.ntmps118
  go_wp2_with fail
  go_ret
  exact ⟨by simp, rfl⟩
theorem bl_self : ∀ t : List UInt8, Op.bytesLess t t = false
  | [] => rfl
  | a :: r => by unfold Op.bytesLess; simp [bl_self r]
set_option maxHeartbeats 1600000 in
theorem cmpStr (x y : List UInt8) (w : World) : Calls Tryz.prog 97 #[.string ⟨x.toArray⟩, .string ⟨y.toArray⟩] w fun e w' => e = .returned (.int .i64 (if x = y then 0 else if Op.bytesLess x y then -1 else 1)) ∧ w' = w := by
  by_cases h1 : x = y
  · rw [if_pos h1]
    subst h1
    have d1 := bl_self x
    go_enter Tryz.func97, Tryz.ntmps97
    go_wp2_with (go_at_call 118; refine (nanS _ _).mono ?_; rintro e w' ⟨rfl, rfl⟩)
    go_ret
    exact ⟨rfl, rfl⟩
  · rw [if_neg h1]
    have e1 : (x == y) = false := by simpa using h1
    clear h1
    cases d1 : Op.bytesLess x y
    · go_enter Tryz.func97, Tryz.ntmps97
      go_wp2_with (go_at_call 118; refine (nanS _ _).mono ?_; rintro e w' ⟨rfl, rfl⟩)
      go_ret
      exact ⟨rfl, rfl⟩
    · go_enter Tryz.func97, Tryz.ntmps97
      go_wp2_with (go_at_call 118; refine (nanS _ _).mono ?_; rintro e w' ⟨rfl, rfl⟩)
      go_ret
      exact ⟨rfl, rfl⟩
set_option maxHeartbeats 1600000 in
theorem compareI (a b : At) (w : World) :
    Calls Tryz.prog 122 #[.agg #[.int .i64 a.k, .int .i64 a.n, .string ⟨a.t.toArray⟩], .agg #[.int .i64 b.k, .int .i64 b.n, .string ⟨b.t.toArray⟩]] w fun e w' => e = .returned (.int .i64 (cmpA a b)) ∧ Below w.heap.size w w' := by
  by_cases h : a.k = b.k
  case neg =>
    have HC : Hid (cmpA a b = (if a.k < b.k then -1 else if b.k < a.k then 1 else 0)) := by
      show cmpA a b = _
      unfold cmpA
      rw [if_pos h]
      by_cases hl : a.k < b.k
      · rw [if_pos hl, if_pos hl]
      · rw [if_neg hl, if_neg hl, if_pos (by omega)]
    have hk : (a.k != b.k) = true := by simpa using h
    clear h
    go_enter Tryz.func122, Tryz.ntmps122
    go_wp2_with (go_at_call 98; refine (cmpInt _ _ _).mono ?_; rintro e w' ⟨rfl, rfl⟩; rw [← HC.out])
    go_ret
    exact ⟨rfl, below2 _ _ _⟩
  by_cases h2 : a.n = b.n
  case neg =>
    have HC : Hid (cmpA a b = (if a.n < b.n then -1 else if b.n < a.n then 1 else 0)) := by
      show cmpA a b = _
      unfold cmpA
      rw [if_neg (by simp [h]), if_pos h2]
      by_cases hl : a.n < b.n
      · rw [if_pos hl, if_pos hl]
      · rw [if_neg hl, if_neg hl, if_pos (by omega)]
    have hk : (a.n != b.n) = true := by simpa using h2
    rw [h]
    clear h h2
    go_enter Tryz.func122, Tryz.ntmps122
    go_wp2_with (go_at_call 98; refine (cmpInt _ _ _).mono ?_; rintro e w' ⟨rfl, rfl⟩; rw [← HC.out])
    go_ret
    exact ⟨rfl, below2 _ _ _⟩
  have HC : Hid (cmpA a b = (if a.t = b.t then 0 else if Op.bytesLess a.t b.t then -1 else 1)) := by
    show cmpA a b = _
    unfold cmpA
    rw [if_neg (by simp [h]), if_neg (by simp [h2])]
    by_cases hl : a.t = b.t
    · rw [if_neg (by simp [hl]), if_pos hl]
    · rw [if_pos hl, if_neg hl]
  rw [h, h2]
  clear h h2
  go_enter Tryz.func122, Tryz.ntmps122
  go_wp2_with (go_at_call 97; refine (cmpStr _ _ _).mono ?_; rintro e w' ⟨rfl, rfl⟩; rw [← HC.out])
  go_ret
  exact ⟨rfl, below2 _ _ _⟩
end Go.Proofs.YtngbhifafdbpkaaGreat
