import Derived.Test.YtkncpfhblciplaaYbe
namespace Go.Proofs.Ytkncpfhblciplaa
open Go.RowKit
set_option linter.unusedSimpArgs false
set_option maxRecDepth 100000 in
set_option maxHeartbeats 1600000 in
theorem okN (d : Nat) (hd : d ≤ 12) (j : J) (h0 : j.k < 0 ∨ 5 < j.k) (ka ia : Option Addr) (kc ic : Nat) (w : World) :
    Calls Try.prog 83 #[.agg #[.int .i64 j.k, .int .i64 j.n, .string ⟨j.t.toArray⟩, .slice ka j.keys.length kc, .slice ia j.items.length ic], .int .i64 ((d : Int) + 1)] w (OkAns (d + 1) j w) := by
  have HO : Hid (okD (d + 1) j = false) := ok_nopart (partN h0)
  have hdz : ((d : Int) + 1 == 0) = false := by simp; omega
  have q0 : (j.k == 0) = false := by simp; omega
  have q1 : (j.k == 1) = false := by simp; omega
  have q2 : (j.k == 2) = false := by simp; omega
  have q3 : (j.k == 3) = false := by simp; omega
  have q4 : (j.k != 4) = true := by simp; omega
  have q5 : (j.k != 5) = true := by simp; omega
  clear h0
  cases ek : ((j.keys.length : Int) == 0)
  all_goals
    go_enter Try.func83, Try.ntmps83
    go_wp2_with fail
    go_ret2
    exact ⟨0, ret_ib HO.out.symm, by omega, by omega, (fun h => by rw [HO.out] at h; cases h), (Below.refl _ _).alloc (Nat.le_refl _) _⟩
set_option maxRecDepth 100000 in
set_option maxHeartbeats 8000000 in
theorem okBad4 (d : Nat) (hd : d ≤ 12) (j : J) (h0 : j.k = 4) (ka ia : Option Addr) (kc ic : Nat) (w : World)
    (hb : ¬ (j.n = 0 ∧ j.t = [] ∧ j.keys.length = 0)) :
    Calls Try.prog 83 #[.agg #[.int .i64 j.k, .int .i64 j.n, .string ⟨j.t.toArray⟩, .slice ka j.keys.length kc, .slice ia j.items.length ic], .int .i64 ((d : Int) + 1)] w (OkAns (d + 1) j w) := by
  have HO : Hid (okD (d + 1) j = false) := by
    refine ok_nopart ?_
    rw [part4 h0, Bool.eq_false_iff]
    intro h
    simp [noKeys] at h
    apply hb
    refine ⟨h.1, h.2.1, ?_⟩
    rw [h.2.2]; rfl
  have hdz : ((d : Int) + 1 == 0) = false := by simp; omega
  rw [h0]
  clear h0
  by_cases hn : j.n = 0
  · by_cases ht : j.t = []
    · have hl : ¬ (j.keys.length = 0) := fun h => hb ⟨hn, ht, h⟩
      have ek : ((j.keys.length : Int) == 0) = false := by simp; intro h; rw [h] at hl; exact hl rfl
      have hgt : decide (0 < j.keys.length) = true := by simp; omega
      clear hl hb
      have hti : j.t.isEmpty = true := by rw [ht]; rfl
      go_enter Try.func83, Try.ntmps83
      go_wp2_with fail
      all_goals (go_ret2; exact ⟨0, ret_ib HO.out.symm, by omega, by omega, (fun h => by rw [HO.out] at h; cases h), (Below.refl _ _).alloc (Nat.le_refl _) _⟩)
    · have hti : j.t.isEmpty = false := by cases e : j.t.isEmpty; rfl; exact absurd (List.isEmpty_iff.1 e) ht
      clear hb
      go_enter Try.func83, Try.ntmps83
      go_wp2_with fail
      all_goals (go_ret2; exact ⟨0, ret_ib HO.out.symm, by omega, by omega, (fun h => by rw [HO.out] at h; cases h), (Below.refl _ _).alloc (Nat.le_refl _) _⟩)
  · have hnn : (j.n != 0) = true := by simp; exact hn
    clear hb
    have hx : True := trivial
    · clear hx
      go_enter Try.func83, Try.ntmps83
      go_wp2_with fail
      all_goals (go_ret2; exact ⟨0, ret_ib HO.out.symm, by omega, by omega, (fun h => by rw [HO.out] at h; cases h), (Below.refl _ _).alloc (Nat.le_refl _) _⟩)
set_option maxRecDepth 100000 in
set_option maxHeartbeats 8000000 in
theorem okBad5 (d : Nat) (hd : d ≤ 12) (j : J) (h0 : j.k = 5) (ka ia : Option Addr) (kc ic : Nat) (w : World)
    (hb : ¬ (j.n = 0 ∧ j.t = [] ∧ j.keys.length = j.items.length)) :
    Calls Try.prog 83 #[.agg #[.int .i64 j.k, .int .i64 j.n, .string ⟨j.t.toArray⟩, .slice ka j.keys.length kc, .slice ia j.items.length ic], .int .i64 ((d : Int) + 1)] w (OkAns (d + 1) j w) := by
  have HO : Hid (okD (d + 1) j = false) := by
    refine ok_nopart ?_
    rw [part5 h0, Bool.eq_false_iff]
    intro h
    simp [noKeys] at h
    apply hb
    refine ⟨h.1, h.2.1, ?_⟩
    have := h.2.2.1; omega
  have hdz : ((d : Int) + 1 == 0) = false := by simp; omega
  rw [h0]
  clear h0
  by_cases hn : j.n = 0
  · by_cases ht : j.t = []
    · have hl : ¬ (j.keys.length = j.items.length) := fun h => hb ⟨hn, ht, h⟩
      have hti : j.t.isEmpty = true := by rw [ht]; rfl
      by_cases hk0 : j.keys.length = 0
      · have ek : ((j.keys.length : Int) == 0) = true := by simp; exact List.eq_nil_of_length_eq_zero hk0
        have ei : ((j.items.length : Int) == 0) = false := by simp; intro h; rw [h] at hl; exact hl hk0
        have hne : ((0 : Int) != (j.items.length : Int)) = true := by simp; omega
        have hne' : ((j.keys.length : Int) != (j.items.length : Int)) = true := by simp; omega
        clear hl hb
        go_enter Try.func83, Try.ntmps83
        go_wp2_with fail
        all_goals (go_ret2; exact ⟨0, ret_ib HO.out.symm, by omega, by omega, (fun h => by rw [HO.out] at h; cases h), (Below.refl _ _).alloc (Nat.le_refl _) _⟩)
      have ek : ((j.keys.length : Int) == 0) = false := by simp; intro h; rw [h] at hk0; exact hk0 rfl
      have hne : ((j.keys.length : Int) != (j.items.length : Int)) = true := by simp; omega
      clear hl hb
      have hx : True := trivial
      go_enter Try.func83, Try.ntmps83
      go_wp2_with fail
      all_goals (go_ret2; exact ⟨0, ret_ib HO.out.symm, by omega, by omega, (fun h => by rw [HO.out] at h; cases h), (Below.refl _ _).alloc (Nat.le_refl _) _⟩)
    · have hti : j.t.isEmpty = false := by cases e : j.t.isEmpty; rfl; exact absurd (List.isEmpty_iff.1 e) ht
      clear hb
      go_enter Try.func83, Try.ntmps83
      go_wp2_with fail
      all_goals (go_ret2; exact ⟨0, ret_ib HO.out.symm, by omega, by omega, (fun h => by rw [HO.out] at h; cases h), (Below.refl _ _).alloc (Nat.le_refl _) _⟩)
  · have hnn : (j.n != 0) = true := by simp; exact hn
    clear hb
    have hx : True := trivial
    · clear hx
      go_enter Try.func83, Try.ntmps83
      go_wp2_with fail
      all_goals (go_ret2; exact ⟨0, ret_ib HO.out.symm, by omega, by omega, (fun h => by rw [HO.out] at h; cases h), (Below.refl _ _).alloc (Nat.le_refl _) _⟩)
end Go.Proofs.Ytkncpfhblciplaa
