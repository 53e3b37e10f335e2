import Derived.Test.YtpjjpdbmooiplaaGreatDoorXbm
namespace Go.Proofs.YtpjjpdbmooiplaaGreatDoor
open Go.RowKit
set_option linter.unusedSimpArgs false
theorem ret_bi {a b : Bool} {c d : Int} (h : a = b) (h' : c = d) : Ending.returned (.tuple #[.bool a, .int .i64 c]) = .returned (.tuple #[.bool b, .int .i64 d]) := by rw [h, h']
def condsB (list : List CondV) : Bool := list.all condB && decide (list.length ≤ 8)
noncomputable def condsC (t : Tb) : List CondV → Int
  | [] => 0
  | c :: l => if condC t c = 0 then condsC t l else condC t c
noncomputable def allM (t : Tb) (r : RowV) (list : List CondV) : Bool := list.all (matchC t r)
theorem conds_no {list : List CondV} {k : Nat} (hk : k < list.length) (h : condB list[k] = false) : condsB list = false := by
  unfold condsB
  rw [List.all_eq_false.2 ⟨_, List.getElem_mem hk, by simp [h]⟩]; rfl
theorem conds_yes {list : List CondV} (h : ∀ k (hk : k < list.length), condB list[k] = true) : condsB list = decide (list.length ≤ 8) := by
  unfold condsB
  rw [List.all_eq_true.2 (fun x hx => by obtain ⟨k, hk, rfl⟩ := List.mem_iff_getElem.1 hx; exact h k hk), Bool.true_and]
theorem condsC_at {t : Tb} : ∀ {list : List CondV} {k : Nat} (hk : k < list.length), (∀ m (h : m < list.length), m < k → condC t list[m] = 0) → condC t list[k] ≠ 0 → condsC t list = condC t list[k]
  | c :: l, 0, _, _, h => by
    simp only [List.getElem_cons_zero] at h ⊢
    unfold condsC; rw [if_neg h]
  | c :: l, k + 1, hk, hb, h => by
    have h0 : condC t c = 0 := hb 0 (by simp) (by omega)
    have hk' : k < l.length := by simpa using hk
    simp only [List.getElem_cons_succ] at h ⊢
    unfold condsC; rw [if_pos h0]
    exact condsC_at hk' (fun m hm hmk => by have := hb (m + 1) (by simpa using hm) (by omega); simpa using this) h
theorem condsC_zero {t : Tb} : ∀ {list : List CondV}, (∀ m (h : m < list.length), condC t list[m] = 0) → condsC t list = 0
  | [], _ => rfl
  | c :: l, h => by
    have h0 : condC t c = 0 := h 0 (by simp)
    unfold condsC; rw [if_pos h0]
    exact condsC_zero fun m hm => by have := h (m + 1) (by simpa using hm); simpa using this
theorem condsC_all {t : Tb} : ∀ {list : List CondV}, condsC t list = 0 → ∀ c ∈ list, condC t c = 0
  | [], _, c, h => by simp at h
  | x :: l, h, c, hc => by
    unfold condsC at h
    by_cases h0 : condC t x = 0
    · rw [if_pos h0] at h
      rcases List.mem_cons.1 hc with rfl | hc
      · exact h0
      · exact condsC_all h c hc
    · rw [if_neg h0] at h; exact absurd h h0
theorem conds_all {list : List CondV} (h : condsB list = true) : ∀ c ∈ list, condB c = true := by
  unfold condsB at h
  simp only [Bool.and_eq_true] at h
  exact List.all_eq_true.1 h.1
theorem allM_no {t : Tb} {r : RowV} {list : List CondV} {k : Nat} (hk : k < list.length) (h : matchC t r list[k] = false) : allM t r list = false := by
  unfold allM
  exact List.all_eq_false.2 ⟨_, List.getElem_mem hk, by simp [h]⟩
theorem allM_yes {t : Tb} {r : RowV} {list : List CondV} (h : ∀ k (hk : k < list.length), matchC t r list[k] = true) : allM t r list = true := by
  unfold allM
  exact List.all_eq_true.2 (fun x hx => by obtain ⟨k, hk, rfl⟩ := List.mem_iff_getElem.1 hx; exact h k hk)
theorem le_cond {list : List CondV} {K : Nat} (h : (dCondS list).le K) {k : Nat} (hk : k < list.length) : list[k].col.length ≤ K ∧ (dAtomS list[k].val).le K :=
  ⟨(Ls_le.1 h).2.2 k hk 0 (by omega), (Ls_le.1 h).2.2 k hk 2 (by omega)⟩
end Go.Proofs.YtpjjpdbmooiplaaGreatDoor
