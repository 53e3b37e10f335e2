import Derived.Test.YtkncpfhblciplaaWbi
namespace Go.Proofs.Ytkncpfhblciplaa
open Go.RowKit
set_option linter.unusedSimpArgs false
theorem errFrom_zero (l : List At) : ∀ n i, errFrom l n i = 0 ↔ ∀ j, i ≤ j → j < i + n → errAt l j = 0
  | 0, i => ⟨fun _ j h h' => by omega, fun _ => rfl⟩
  | n + 1, i => by
    rw [errFrom]
    constructor
    · intro h j h1 h2
      split at h
      · rename_i e
        by_cases hj : j = i
        · rw [hj]; exact e
        · exact (errFrom_zero l n (i + 1)).1 h j (by omega) (by omega)
      · rename_i e
        exact absurd h e
    · intro h
      rw [if_pos (h i (by omega) (by omega))]
      exact (errFrom_zero l n (i + 1)).2 (fun j h1 h2 => h j (by omega) (by omega))
theorem errOf_zero (l : List At) : errOf l = 0 ↔ ∀ j, j < l.length → errAt l j = 0 := by
  unfold errOf
  rw [errFrom_zero]
  exact ⟨fun h j hj => h j (by omega) (by omega), fun h j _ hj => h j (by omega)⟩
theorem errAt_zero {l : List At} {i : Nat} : errAt l i = 0 ↔ atOK (l.getD i atZ) = true ∧ (l.getD i atZ).k = (l.getD 0 atZ).k := by
  unfold errAt
  split
  · rename_i h
    exact ⟨fun h => by omega, fun h' => by rw [h] at h'; exact absurd h'.1 (by simp)⟩
  · rename_i h
    split
    · rename_i h2
      exact ⟨fun h => by omega, fun h' => absurd h'.2 h2⟩
    · rename_i h2
      exact ⟨fun _ => ⟨by simpa using h, by simpa using h2⟩, fun _ => rfl⟩
theorem datumB_eq (l : List At) : datumB l = (decide (l.length ≤ 8) && (decide (errOf l = 0) && riseB l)) := by
  unfold datumB
  congr 1
  rw [Bool.eq_iff_iff, List.all_eq_true, Bool.and_eq_true, decide_eq_true_iff, errOf_zero]
  unfold riseB
  rw [List.all_eq_true]
  unfold stepB
  constructor
  · intro h
    refine ⟨fun j hj => ?_, fun j hj => ?_⟩
    · have := h j (List.mem_range.2 hj)
      rw [Bool.and_eq_true, Bool.and_eq_true, beq_iff_eq] at this
      exact errAt_zero.2 ⟨this.1, this.2.1⟩
    · have := h j hj
      rw [Bool.and_eq_true, Bool.and_eq_true] at this
      exact this.2.2
  · intro h j hj
    have h1 := errAt_zero.1 (h.1 j (List.mem_range.1 hj))
    rw [Bool.and_eq_true, Bool.and_eq_true, beq_iff_eq]
    exact ⟨h1.1, h1.2, h.2 j hj⟩
set_option maxRecDepth 100000 in
set_option maxHeartbeats 3200000 in
theorem datumOKi (l : List At) (a : Option Addr) (c : Nat) (S : Nat) (w : World) (hl : l.length ≤ maxLen) (hx : ∀ x ∈ l, x.t.length ≤ maxLen) (hw : S ≤ w.heap.size) (hA : Ats w (· < S) a l) :
    Calls Try.prog 56 #[.slice a l.length c] w fun e w' => e = .returned (.bool (datumB l)) ∧ Below w.heap.size w w' := by
  have AC : Hid (∀ W, Below w.heap.size w W → Calls Try.prog 88 #[.slice a l.length c] W fun e w' => e = .returned (.int .i64 (errOf l)) ∧ Below w.heap.size w w') := fun W h => (atomsCodeI l a c S W hl hx (Nat.le_trans hw h.size) (hA.below (h.mono hw))).mono (fun e w' ⟨he, hB⟩ => ⟨he, h.trans (hB.mono h.size)⟩)
  have RI : Hid (∀ W, Below w.heap.size w W → Calls Try.prog 89 #[.slice a l.length c, .func (.func 90) #[] #[]] W fun e w' => e = .returned (.bool (riseB l)) ∧ Below w.heap.size w w') := fun W h => (risesI l a c S W hl (Nat.le_trans hw h.size) (hA.below (h.mono hw))).mono (fun e w' ⟨he, hB⟩ => ⟨he, h.trans (hB.mono h.size)⟩)
  have HD : Hid (datumB l = _) := datumB_eq l
  have hr := Below.refl w.heap.size w
  unfold maxLen at hl
  clear hA hx hw
  by_cases h8 : l.length ≤ 8
  case neg =>
    have d8 : decide ((l.length : Int) ≤ 8) = false := by simp; omega
    have HR : Hid (datumB l = false) := datumB_long (by omega)
    clear h8 HD
    go_enter Try.func56, Try.ntmps56
    go_wp2_with fail
    go_ret
    exact ⟨ret_b HR.out.symm, hr⟩
  have d8 : decide ((l.length : Int) ≤ 8) = true := by simp; omega
  by_cases he : errOf l = 0
  case neg =>
    have HR : Hid (datumB l = false) := by show datumB l = false; rw [HD.out, decide_eq_false he]; simp
    have d9 : (errOf l == 0) = false := by simpa using he
    clear h8 HD he
    generalize errOf l = q at *
    go_enter Try.func56, Try.ntmps56
    go_wp2_with (go_at_call 88; refine (AC.out _ hr).mono ?_; rintro e w1 ⟨rfl, hr⟩)
    go_ret
    exact ⟨ret_b HR.out.symm, hr⟩
  have HR : Hid (datumB l = riseB l) := by show datumB l = riseB l; rw [HD.out, decide_eq_true he, decide_eq_true h8]; simp
  rw [he] at AC
  clear h8 HD he
  generalize riseB l = q at *
  go_enter Try.func56, Try.ntmps56
  go_wp2_with (first | (go_at_call 88; refine (AC.out _ hr).mono ?_; rintro e w1 ⟨rfl, hr⟩) | (go_at_call 89; refine (RI.out _ hr).mono ?_; rintro e w2 ⟨rfl, hr⟩))
  go_ret
  exact ⟨ret_b HR.out.symm, hr⟩
end Go.Proofs.Ytkncpfhblciplaa
