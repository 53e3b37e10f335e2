import Derived.Test.YtkncpfhblciplaaWaf
namespace Go.Proofs.Ytkncpfhblciplaa
open Go.RowKit
set_option linter.unusedSimpArgs false
set_option maxHeartbeats 400000 in
theorem numberOK (n : Int) (w : World) : Calls Try.prog 77 #[.int .i64 n] w fun e w' => e = .returned (.bool (inB (-1000000000) n 1000000000)) ∧ w' = w := by
  go_enter Try.func77, Try.ntmps77
  go_wp2
  all_goals
    go_ret
    refine ⟨ret_b ?_, rfl⟩
    rw [Bool.eq_iff_iff]; simp [inB]; try omega
theorem part_end {j : J} {x : Bool} (HP : Hid (partB j = x)) {y : Bool} (h : y = x) : y = partB j := by rw [HP.out]; exact h
set_option maxHeartbeats 1600000 in
theorem partOK0 (j : J) (h0 : j.k = 0) (ka ia : Option Addr) (kc ic : Nat) (B : Nat → Prop) (w : World) (ht : j.t.length ≤ maxLen) (hkl : j.keys.length ≤ maxLen) (hkx : ∀ x ∈ j.keys, x.length ≤ maxLen) (hk : Strs w B ka j.keys) :
    Calls Try.prog 116 #[.agg #[.int .i64 j.k, .int .i64 j.n, .string ⟨j.t.toArray⟩, .slice ka j.keys.length kc, .slice ia j.items.length ic]] w fun e w' => e = .returned (.bool (partB j)) ∧ Below w.heap.size w w' := by
  have HTL : Hid (j.t.length ≤ maxLen) := ht
  have HKL : Hid (j.keys.length ≤ maxLen) := hkl
  have HKX : Hid (∀ x ∈ j.keys, x.length ≤ maxLen) := hkx
  have HK : Hid (Strs w B ka j.keys) := hk
  have HP : Hid (partB j = _) := part0 h0
  clear hk hkl hkx ht
  rw [h0]
  go_enter Try.func116, Try.ntmps116
  go_wp2_with fail
  go_quiet (fail)
  go_wp2_with (fail)
  all_goals
    go_ret
    refine ⟨ret_b (part_end HP ?_), ?_⟩
    · simp [noKeys, noItems, *]
    · exact below_drewN ((Below.refl _ _).alloc (Nat.le_refl _) _) _
set_option maxHeartbeats 1600000 in
theorem partOK2 (j : J) (h0 : j.k = 2) (ka ia : Option Addr) (kc ic : Nat) (B : Nat → Prop) (w : World) (ht : j.t.length ≤ maxLen) (hkl : j.keys.length ≤ maxLen) (hkx : ∀ x ∈ j.keys, x.length ≤ maxLen) (hk : Strs w B ka j.keys) :
    Calls Try.prog 116 #[.agg #[.int .i64 j.k, .int .i64 j.n, .string ⟨j.t.toArray⟩, .slice ka j.keys.length kc, .slice ia j.items.length ic]] w fun e w' => e = .returned (.bool (partB j)) ∧ Below w.heap.size w w' := by
  have HTL : Hid (j.t.length ≤ maxLen) := ht
  have HKL : Hid (j.keys.length ≤ maxLen) := hkl
  have HKX : Hid (∀ x ∈ j.keys, x.length ≤ maxLen) := hkx
  have HK : Hid (Strs w B ka j.keys) := hk
  have HP : Hid (partB j = _) := part2 h0
  clear hk hkl hkx ht
  rw [h0]
  go_enter Try.func116, Try.ntmps116
  go_wp2_with fail
  go_quiet (fail)
  go_wp2_with ((go_at_call 77; refine (numberOK _ _).mono ?_; rintro e w' ⟨rfl, rfl⟩))
  all_goals
    go_ret
    refine ⟨ret_b (part_end HP ?_), ?_⟩
    · simp [noKeys, noItems, *]
    · exact below_drewN ((Below.refl _ _).alloc (Nat.le_refl _) _) _
set_option maxHeartbeats 1600000 in
theorem partOK3 (j : J) (h0 : j.k = 3) (ka ia : Option Addr) (kc ic : Nat) (B : Nat → Prop) (w : World) (ht : j.t.length ≤ maxLen) (hkl : j.keys.length ≤ maxLen) (hkx : ∀ x ∈ j.keys, x.length ≤ maxLen) (hk : Strs w B ka j.keys) :
    Calls Try.prog 116 #[.agg #[.int .i64 j.k, .int .i64 j.n, .string ⟨j.t.toArray⟩, .slice ka j.keys.length kc, .slice ia j.items.length ic]] w fun e w' => e = .returned (.bool (partB j)) ∧ Below w.heap.size w w' := by
  have HTL : Hid (j.t.length ≤ maxLen) := ht
  have HKL : Hid (j.keys.length ≤ maxLen) := hkl
  have HKX : Hid (∀ x ∈ j.keys, x.length ≤ maxLen) := hkx
  have HK : Hid (Strs w B ka j.keys) := hk
  have HP : Hid (partB j = _) := part3 h0
  clear hk hkl hkx ht
  rw [h0]
  go_enter Try.func116, Try.ntmps116
  go_wp2_with fail
  go_quiet (fail)
  go_wp2_with ((go_at_call 78; refine (textOK _ _ HTL.out).mono ?_; rintro e w' ⟨rfl, rfl⟩))
  all_goals
    go_ret
    refine ⟨ret_b (part_end HP ?_), ?_⟩
    · simp [noKeys, noItems, *]
    · exact below_drewN ((Below.refl _ _).alloc (Nat.le_refl _) _) _
set_option maxHeartbeats 1600000 in
theorem partOK4 (j : J) (h0 : j.k = 4) (ka ia : Option Addr) (kc ic : Nat) (B : Nat → Prop) (w : World) (ht : j.t.length ≤ maxLen) (hkl : j.keys.length ≤ maxLen) (hkx : ∀ x ∈ j.keys, x.length ≤ maxLen) (hk : Strs w B ka j.keys) :
    Calls Try.prog 116 #[.agg #[.int .i64 j.k, .int .i64 j.n, .string ⟨j.t.toArray⟩, .slice ka j.keys.length kc, .slice ia j.items.length ic]] w fun e w' => e = .returned (.bool (partB j)) ∧ Below w.heap.size w w' := by
  have HTL : Hid (j.t.length ≤ maxLen) := ht
  have HKL : Hid (j.keys.length ≤ maxLen) := hkl
  have HKX : Hid (∀ x ∈ j.keys, x.length ≤ maxLen) := hkx
  have HK : Hid (Strs w B ka j.keys) := hk
  have HP : Hid (partB j = _) := part4 h0
  clear hk hkl hkx ht
  rw [h0]
  go_enter Try.func116, Try.ntmps116
  go_wp2_with fail
  go_quiet (fail)
  go_wp2_with (fail)
  all_goals
    go_ret
    refine ⟨ret_b (part_end HP ?_), ?_⟩
    · simp [noKeys, noItems, *]
    · exact below_drewN ((Below.refl _ _).alloc (Nat.le_refl _) _) _
set_option maxHeartbeats 1600000 in
theorem partOK1 (j : J) (h0 : j.k = 1) (ka ia : Option Addr) (kc ic : Nat) (B : Nat → Prop) (w : World) (ht : j.t.length ≤ maxLen) (hkl : j.keys.length ≤ maxLen) (hkx : ∀ x ∈ j.keys, x.length ≤ maxLen) (hk : Strs w B ka j.keys) :
    Calls Try.prog 116 #[.agg #[.int .i64 j.k, .int .i64 j.n, .string ⟨j.t.toArray⟩, .slice ka j.keys.length kc, .slice ia j.items.length ic]] w fun e w' => e = .returned (.bool (partB j)) ∧ Below w.heap.size w w' := by
  have HTL : Hid (j.t.length ≤ maxLen) := ht
  have HKL : Hid (j.keys.length ≤ maxLen) := hkl
  have HKX : Hid (∀ x ∈ j.keys, x.length ≤ maxLen) := hkx
  have HK : Hid (Strs w B ka j.keys) := hk
  have HP : Hid (partB j = _) := part1 h0
  clear hk hkl hkx ht
  rw [h0]
  go_enter Try.func116, Try.ntmps116
  go_wp2_with fail
  go_quiet (fail)
  go_wp2_with (fail)
  all_goals
    go_ret
    refine ⟨ret_b (part_end HP ?_), ?_⟩
    · first | (simp [noKeys, noItems, inB, *]; done) | (simp [noKeys, noItems, inB, *]; omega)
    · exact below_drewN ((Below.refl _ _).alloc (Nat.le_refl _) _) _
set_option maxHeartbeats 1600000 in
theorem partOK5 (j : J) (h0 : j.k = 5) (ka ia : Option Addr) (kc ic : Nat) (B : Nat → Prop) (w : World) (ht : j.t.length ≤ maxLen) (hkl : j.keys.length ≤ maxLen) (hkx : ∀ x ∈ j.keys, x.length ≤ maxLen) (hk : Strs w B ka j.keys) :
    Calls Try.prog 116 #[.agg #[.int .i64 j.k, .int .i64 j.n, .string ⟨j.t.toArray⟩, .slice ka j.keys.length kc, .slice ia j.items.length ic]] w fun e w' => e = .returned (.bool (partB j)) ∧ Below w.heap.size w w' := by
  have HTL : Hid (j.t.length ≤ maxLen) := ht
  have HKL : Hid (j.keys.length ≤ maxLen) := hkl
  have HKX : Hid (∀ x ∈ j.keys, x.length ≤ maxLen) := hkx
  have HK : Hid (Strs w B ka j.keys) := hk
  have HP : Hid (partB j = _) := part5 h0
  clear hk hkl hkx ht
  rw [h0]
  go_enter Try.func116, Try.ntmps116
  go_wp2_with fail
  go_quiet (fail)
  go_wp2_with ((go_at_call 125; refine (keysOK _ _ _ B _ HKL.out HKX.out ?_).mono ?_; exact HK.out.later (below_drewN ((Below.refl _ _).alloc (Nat.le_refl _) _) _); rintro e w' ⟨rfl, hB1⟩))
  all_goals
    go_ret
    refine ⟨ret_b (part_end HP ?_), ?_⟩
    · simp [noKeys, noItems, *]
    · first | exact below_drewN ((Below.refl _ _).alloc (Nat.le_refl _) _) _ | exact (below_drewN ((Below.refl _ _).alloc (Nat.le_refl _) _) _).trans (hB1.mono (by simp))
set_option maxHeartbeats 1600000 in
theorem partOKN (j : J) (h0 : j.k < 0 ∨ 5 < j.k) (ka ia : Option Addr) (kc ic : Nat) (B : Nat → Prop) (w : World) (ht : j.t.length ≤ maxLen) (hkl : j.keys.length ≤ maxLen) (hkx : ∀ x ∈ j.keys, x.length ≤ maxLen) (hk : Strs w B ka j.keys) :
    Calls Try.prog 116 #[.agg #[.int .i64 j.k, .int .i64 j.n, .string ⟨j.t.toArray⟩, .slice ka j.keys.length kc, .slice ia j.items.length ic]] w fun e w' => e = .returned (.bool (partB j)) ∧ Below w.heap.size w w' := by
  have HTL : Hid (j.t.length ≤ maxLen) := ht
  have HKL : Hid (j.keys.length ≤ maxLen) := hkl
  have HKX : Hid (∀ x ∈ j.keys, x.length ≤ maxLen) := hkx
  have HK : Hid (Strs w B ka j.keys) := hk
  have HP : Hid (partB j = _) := partN h0
  clear hk hkl hkx ht
  have q0 : (j.k == 0) = false := by simp; omega
  have q1 : (j.k == 1) = false := by simp; omega
  have q2 : (j.k == 2) = false := by simp; omega
  have q3 : (j.k == 3) = false := by simp; omega
  have q4 : (j.k == 4) = false := by simp; omega
  have q5 : (j.k == 5) = false := by simp; omega
  clear h0
  go_enter Try.func116, Try.ntmps116
  go_wp2_with fail
  go_quiet (fail)
  go_wp2_with (fail)
  all_goals
    go_ret
    refine ⟨ret_b (part_end HP ?_), ?_⟩
    · rfl
    · exact below_drewN ((Below.refl _ _).alloc (Nat.le_refl _) _) _
theorem partOK (j : J) (cs : List Value) (B : Nat → Prop) (w : World) (hr : RJ w B j cs) :
    Calls Try.prog 116 #[.agg cs.toArray] w fun e w' => e = .returned (.bool (partB j)) ∧ Below w.heap.size w w' := by
  rw [RJ_eq] at hr
  obtain ⟨ka, kc, ia, ic, rfl, ht, hkl, hil, hkx, hk, hi⟩ := hr
  by_cases h : j.k < 0 ∨ 5 < j.k
  · exact partOKN j h ka ia kc ic B w ht hkl hkx hk
  · have : j.k = 0 ∨ j.k = 1 ∨ j.k = 2 ∨ j.k = 3 ∨ j.k = 4 ∨ j.k = 5 := by omega
    rcases this with h | h | h | h | h | h
    · exact partOK0 j h ka ia kc ic B w ht hkl hkx hk
    · exact partOK1 j h ka ia kc ic B w ht hkl hkx hk
    · exact partOK2 j h ka ia kc ic B w ht hkl hkx hk
    · exact partOK3 j h ka ia kc ic B w ht hkl hkx hk
    · exact partOK4 j h ka ia kc ic B w ht hkl hkx hk
    · exact partOK5 j h ka ia kc ic B w ht hkl hkx hk
end Go.Proofs.Ytkncpfhblciplaa
