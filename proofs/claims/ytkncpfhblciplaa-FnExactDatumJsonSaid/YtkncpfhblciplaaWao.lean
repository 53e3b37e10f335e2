import Derived.Test.YtkncpfhblciplaaWan
namespace Go.Proofs.Ytkncpfhblciplaa
open Go.RowKit
set_option linter.unusedSimpArgs false
def atOK (x : At) : Bool :=
  if x.k = 1 then inB (-1000000000) x.n 1000000000 && x.t.isEmpty
  else if x.k = 2 then (x.n == 0) && textB x.t
  else if x.k = 3 then inB 0 x.n 1 && x.t.isEmpty
  else if x.k = 4 then inB 1 x.n 1000000 && x.t.isEmpty
  else false
theorem atOK1 {x : At} (h : x.k = 1) : atOK x = (inB (-1000000000) x.n 1000000000 && x.t.isEmpty) := by unfold atOK; rw [if_pos h]
theorem atOK2 {x : At} (h : x.k = 2) : atOK x = ((x.n == 0) && textB x.t) := by unfold atOK; rw [if_neg (by omega), if_pos h]
theorem atOK3 {x : At} (h : x.k = 3) : atOK x = (inB 0 x.n 1 && x.t.isEmpty) := by unfold atOK; rw [if_neg (by omega), if_neg (by omega), if_pos h]
theorem atOK4 {x : At} (h : x.k = 4) : atOK x = (inB 1 x.n 1000000 && x.t.isEmpty) := by unfold atOK; rw [if_neg (by omega), if_neg (by omega), if_neg (by omega), if_pos h]
theorem atOKN {x : At} (h : x.k < 1 ∨ 4 < x.k) : atOK x = false := by unfold atOK; rw [if_neg (by omega), if_neg (by omega), if_neg (by omega), if_neg (by omega)]
theorem end_b {a x y : Bool} (HP : Hid (a = x)) (h : y = x) : y = a := by rw [HP.out]; exact h
theorem atOK_text {x : At} (h : atOK x = true) : x.t.length ≤ 200 := by
  unfold atOK at h
  split at h
  · simp at h; simp [h.2]
  split at h
  · simp [textB] at h; exact h.2.1
  split at h
  · simp at h; simp [h.2]
  split at h
  · simp at h; simp [h.2]
  · cases h
set_option maxHeartbeats 1600000 in
theorem atomOKs (x : At) (w : World) (ht : x.t.length ≤ maxLen) :
    Calls Try.prog 39 #[.agg #[.int .i64 x.k, .int .i64 x.n, .string ⟨x.t.toArray⟩]] w fun e w' => e = .returned (.bool (atOK x)) ∧ Below w.heap.size w w' := by
  have HTL : Hid (x.t.length ≤ maxLen) := ht
  clear ht
  rcases (by omega : x.k = 1 ∨ x.k = 2 ∨ x.k = 3 ∨ x.k = 4 ∨ (x.k < 1 ∨ 4 < x.k)) with k | k | k | k | k
  · have HP : Hid (atOK x = _) := atOK1 k
    rw [k]
    go_enter Try.func39, Try.ntmps39
    go_wp2_with (go_at_call 71; refine (inS _ _ _ _).mono ?_; rintro e w' ⟨rfl, rfl⟩)
    all_goals
      go_ret
      exact ⟨ret_b (end_b HP (by simp [*])), (Below.refl _ _).alloc (Nat.le_refl _) _⟩
  · have HP : Hid (atOK x = _) := atOK2 k
    rw [k]
    go_enter Try.func39, Try.ntmps39
    go_wp2_with (go_at_call 72; refine (textS _ _ HTL.out).mono ?_; rintro e w' ⟨rfl, rfl⟩)
    all_goals
      go_ret
      exact ⟨ret_b (end_b HP (by simp [*])), (Below.refl _ _).alloc (Nat.le_refl _) _⟩
  · have HP : Hid (atOK x = _) := atOK3 k
    rw [k]
    go_enter Try.func39, Try.ntmps39
    go_wp2_with (go_at_call 71; refine (inS _ _ _ _).mono ?_; rintro e w' ⟨rfl, rfl⟩)
    all_goals
      go_ret
      exact ⟨ret_b (end_b HP (by simp [*])), (Below.refl _ _).alloc (Nat.le_refl _) _⟩
  · have HP : Hid (atOK x = _) := atOK4 k
    rw [k]
    go_enter Try.func39, Try.ntmps39
    go_wp2_with (go_at_call 71; refine (inS _ _ _ _).mono ?_; rintro e w' ⟨rfl, rfl⟩)
    all_goals
      go_ret
      exact ⟨ret_b (end_b HP (by simp [*])), (Below.refl _ _).alloc (Nat.le_refl _) _⟩
  · have HP : Hid (atOK x = false) := atOKN k
    have k1 : (x.k == 1) = false := by simp; omega
    have k2 : (x.k == 2) = false := by simp; omega
    have k3 : (x.k == 3) = false := by simp; omega
    have k4 : (x.k == 4) = false := by simp; omega
    go_enter Try.func39, Try.ntmps39
    go_wp2_with fail
    go_ret
    exact ⟨ret_b (end_b HP rfl), (Below.refl _ _).alloc (Nat.le_refl _) _⟩
def cmpA (a b : At) : Int :=
  if a.k ≠ b.k then (if a.k < b.k then -1 else 1)
  else if a.n ≠ b.n then (if a.n < b.n then -1 else 1)
  else if a.t ≠ b.t then (if Op.bytesLess a.t b.t then -1 else 1)
  else 0
theorem bitS (b : Bool) (w : World) : Calls Try.prog 100 #[.bool b] w fun e w' => e = .returned (.int .i64 (if b then 1 else 0)) ∧ w' = w := by
  cases b
  · go_enter Try.func100, Try.ntmps100
    go_wp2_with fail
    go_ret
    exact ⟨rfl, rfl⟩
  · go_enter Try.func100, Try.ntmps100
    go_wp2_with fail
    go_ret
    exact ⟨rfl, rfl⟩
theorem cmp_k {a b : At} (h : a.k ≠ b.k) : cmpA a b = 1 - 2 * (if decide (a.k < b.k) then 1 else 0) := by
  unfold cmpA
  rw [if_pos h]
  by_cases hl : a.k < b.k <;> simp [hl]
theorem cmp_n {a b : At} (h : a.k = b.k) (h2 : a.n ≠ b.n) : cmpA a b = 1 - 2 * (if decide (a.n < b.n) then 1 else 0) := by
  unfold cmpA
  rw [if_neg (by simp [h]), if_pos h2]
  by_cases hl : a.n < b.n <;> simp [hl]
theorem cmp_t {a b : At} (h : a.k = b.k) (h2 : a.n = b.n) (h3 : a.t ≠ b.t) : cmpA a b = 1 - 2 * (if Op.bytesLess a.t b.t then 1 else 0) := by
  unfold cmpA
  rw [if_neg (by simp [h]), if_neg (by simp [h2]), if_pos h3]
  by_cases hl : Op.bytesLess a.t b.t = true <;> simp [hl]
theorem cmp_0 {a b : At} (h : a.k = b.k) (h2 : a.n = b.n) (h3 : a.t = b.t) : cmpA a b = 0 := by
  unfold cmpA
  rw [if_neg (by simp [h]), if_neg (by simp [h2]), if_neg (by simp [h3])]
theorem below2 (w : World) (o o' : Obj) : Below w.heap.size w ((w.alloc o).alloc o') := ((Below.refl _ _).alloc (Nat.le_refl _) _).alloc (by simp) _
set_option maxHeartbeats 1600000 in
theorem orderS (a b : At) (w : World) :
    Calls Try.prog 87 #[.agg #[.int .i64 a.k, .int .i64 a.n, .string ⟨a.t.toArray⟩], .agg #[.int .i64 b.k, .int .i64 b.n, .string ⟨b.t.toArray⟩]] w fun e w' => e = .returned (.int .i64 (cmpA a b)) ∧ Below w.heap.size w w' := by
  by_cases h : a.k = b.k
  case neg =>
    have HC : Hid (cmpA a b = _) := cmp_k h
    have hk : (a.k != b.k) = true := by simpa using h
    obtain ⟨l, hl⟩ : ∃ l, l = decide (a.k < b.k) := ⟨_, rfl⟩
    rw [← hl] at HC
    clear h
    cases l
    · have hd : decide (a.k < b.k) = false := hl.symm
      clear hl
      go_enter Try.func87, Try.ntmps87
      go_wp2_with (go_at_call 100; refine (bitS false _).mono ?_; rintro e w' ⟨rfl, rfl⟩)
      go_ret
      exact ⟨by rw [HC.out]; rfl, below2 _ _ _⟩
    · have hd : decide (a.k < b.k) = true := hl.symm
      clear hl
      go_enter Try.func87, Try.ntmps87
      go_wp2_with (go_at_call 100; refine (bitS true _).mono ?_; rintro e w' ⟨rfl, rfl⟩)
      go_ret
      exact ⟨by rw [HC.out]; rfl, below2 _ _ _⟩
  by_cases h2 : a.n = b.n
  case neg =>
    have HC : Hid (cmpA a b = _) := cmp_n h h2
    have hk : (a.n != b.n) = true := by simpa using h2
    obtain ⟨l, hl⟩ : ∃ l, l = decide (a.n < b.n) := ⟨_, rfl⟩
    rw [← hl] at HC
    clear h2
    rw [h]
    clear h
    cases l
    · have hd : decide (a.n < b.n) = false := hl.symm
      clear hl
      go_enter Try.func87, Try.ntmps87
      go_wp2_with (go_at_call 100; refine (bitS false _).mono ?_; rintro e w' ⟨rfl, rfl⟩)
      go_ret
      exact ⟨by rw [HC.out]; rfl, below2 _ _ _⟩
    · have hd : decide (a.n < b.n) = true := hl.symm
      clear hl
      go_enter Try.func87, Try.ntmps87
      go_wp2_with (go_at_call 100; refine (bitS true _).mono ?_; rintro e w' ⟨rfl, rfl⟩)
      go_ret
      exact ⟨by rw [HC.out]; rfl, below2 _ _ _⟩
  by_cases h3 : a.t = b.t
  case neg =>
    have HC : Hid (cmpA a b = _) := cmp_t h h2 h3
    have hk : (a.t == b.t) = false := by simpa using h3
    obtain ⟨l, hl⟩ : ∃ l, l = Op.bytesLess a.t b.t := ⟨_, rfl⟩
    rw [← hl] at HC
    rw [h, h2]
    clear h h2
    cases l
    · have hd : Op.bytesLess a.t b.t = false := hl.symm
      clear hl
      go_enter Try.func87, Try.ntmps87
      go_wp2_with (go_at_call 100; refine (bitS false _).mono ?_; rintro e w' ⟨rfl, rfl⟩)
      go_ret
      exact ⟨by rw [HC.out]; rfl, below2 _ _ _⟩
    · have hd : Op.bytesLess a.t b.t = true := hl.symm
      clear hl
      go_enter Try.func87, Try.ntmps87
      go_wp2_with (go_at_call 100; refine (bitS true _).mono ?_; rintro e w' ⟨rfl, rfl⟩)
      go_ret
      exact ⟨by rw [HC.out]; rfl, below2 _ _ _⟩
  have HC : Hid (cmpA a b = 0) := cmp_0 h h2 h3
  rw [h, h2, h3]
  clear h h2 h3
  go_enter Try.func87, Try.ntmps87
  go_wp2_with fail
  go_ret
  exact ⟨by rw [HC.out]; rfl, below2 _ _ _⟩
end Go.Proofs.Ytkncpfhblciplaa
