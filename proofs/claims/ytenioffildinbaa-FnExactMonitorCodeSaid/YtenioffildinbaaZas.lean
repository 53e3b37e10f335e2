import Derived.Test.YtenioffildinbaaZar
namespace Go.Proofs.Ytenioffildinbaa
open Go.RowKit
set_option linter.unusedSimpArgs false
def GoodC (l : List Cl) (i : Nat) (h : i < l.length) : Prop := colB l[i] = true ∧ ∀ k (hk : k < i), (l[k]'(by omega)).nm ≠ l[i].nm
def GoodU (n : Nat) (u : List Int) (i : Nat) (h : i < u.length) : Prop := (0 ≤ u[i] ∧ u[i] < (n : Int)) ∧ ∀ j (hj : j + 1 = i), (u[j]'(by omega)) < u[i]
structure TabP (t : Tb) : Prop where
  nm : nameB t.nm = true
  len : 1 ≤ t.cols.length ∧ t.cols.length ≤ 6
  cols : ∀ i (h : i < t.cols.length), GoodC t.cols i h
  uq : ∀ i (h : i < t.uq.length), GoodU t.cols.length t.uq i h
noncomputable def tabB (t : Tb) : Bool := @decide (TabP t) (Classical.propDecidable _)
theorem tab_yes {t : Tb} (h : TabP t) : tabB t = true := by unfold tabB; exact @decide_eq_true _ (Classical.propDecidable _) h
theorem tab_no {t : Tb} (h : ¬ TabP t) : tabB t = false := by unfold tabB; exact @decide_eq_false _ (Classical.propDecidable _) h
theorem uq_ge {n : Nat} {u : List Int} (h : ∀ i (h : i < u.length), GoodU n u i h) : ∀ i (hi : i < u.length), (i : Int) ≤ u[i]
  | 0, hi => by have := (h 0 hi).1.1; omega
  | i + 1, hi => by
    have h1 := uq_ge h i (by omega)
    have h2 := (h (i + 1) hi).2 i rfl
    omega
theorem uq_len {n : Nat} {u : List Int} (h : ∀ i (h : i < u.length), GoodU n u i h) : u.length ≤ n := by
  by_cases h0 : u.length = 0
  · omega
  · have h1 := uq_ge h (u.length - 1) (by omega)
    have h2 := (h (u.length - 1) (by omega)).1.2
    omega
def FirstC (l : List Cl) (t : List UInt8) (q : Int) : Prop := (q = -1 ∧ ∀ k (h : k < l.length), l[k].nm ≠ t) ∨ ∃ k, ∃ h : k < l.length, q = (k : Int) ∧ l[k].nm = t ∧ ∀ j (hj : j < k), (l[j]'(by omega)).nm ≠ t
theorem first_one {l : List Cl} {t : List UInt8} {q q' : Int} (h : FirstC l t q) (h' : FirstC l t q') : q = q' := by
  rcases h with ⟨rfl, h⟩ | ⟨k, hk, rfl, e, h⟩
  · rcases h' with ⟨rfl, -⟩ | ⟨k', hk', rfl, e', -⟩
    · rfl
    · exact absurd e' (h k' hk')
  · rcases h' with ⟨rfl, h'⟩ | ⟨k', hk', rfl, e', h'⟩
    · exact absurd e (h' k hk)
    · rcases Nat.lt_trichotomy k k' with c | c | c
      · exact absurd e (h' k c)
      · rw [c]
      · exact absurd e' (h k' c)
theorem least_nat {P : Nat → Prop} (n : Nat) (h : P n) : ∃ k, P k ∧ ∀ j, j < k → ¬ P j := by
  induction n using Nat.strongRecOn with
  | _ n ih =>
    by_cases hh : ∃ j, j < n ∧ P j
    · obtain ⟨j, hj, hp⟩ := hh
      exact ih j hj hp
    · exact ⟨n, h, fun j hj hp => hh ⟨j, hj, hp⟩⟩
theorem first_some (l : List Cl) (t : List UInt8) : ∃ q, FirstC l t q := by
  by_cases h : ∃ k, ∃ h : k < l.length, l[k].nm = t
  · obtain ⟨n, hn⟩ := h
    obtain ⟨k, ⟨hk, e⟩, hmin⟩ := least_nat (P := fun k => ∃ h : k < l.length, l[k].nm = t) n hn
    exact ⟨k, .inr ⟨k, hk, rfl, e, fun j hj he => hmin j hj ⟨by omega, he⟩⟩⟩
  · exact ⟨-1, .inl ⟨rfl, fun k hk e => h ⟨k, hk, e⟩⟩⟩
noncomputable def placeC (l : List Cl) (t : List UInt8) : Int := Classical.choose (first_some l t)
theorem place_first (l : List Cl) (t : List UInt8) : FirstC l t (placeC l t) := Classical.choose_spec (first_some l t)
theorem place_eq {l : List Cl} {t : List UInt8} {q : Int} (h : FirstC l t q) : placeC l t = q := first_one (place_first l t) h
set_option maxRecDepth 100000 in
set_option maxHeartbeats 3200000 in
theorem placeS (t : Tb) (s : List UInt8) (ca : Option Addr) (cc : Nat) (ua : Option Addr) (uc : Nat) (B : Nat → Prop) (w : World) (hl : t.cols.length ≤ maxLen) (hS : t.Has w B ca ua) :
    Calls Try.prog 45 #[.agg #[.string ⟨t.nm.toArray⟩, .slice ca t.cols.length cc, .slice ua t.uq.length uc, .bool t.rt], .string ⟨s.toArray⟩] w fun e w' => e = .returned (.int .i64 (placeC t.cols s)) ∧ Below w.heap.size w w' := by
  unfold maxLen at hl
  have HS : Hid (t.Has w B ca ua) := hS
  have HX := Lib.hid (boxT 84 w t ca cc ua uc)
  clear hS
  go_enter Try.func45, Try.ntmps45
  go_wp2_with fail
  go_loopw [5] (fun i wr => ∃ k : Nat, k ≤ t.cols.length ∧ i = .int .i64 k ∧ Hid ((∀ m (h : m < t.cols.length), m < k → t.cols[m].nm ≠ s) ∧ BoxT 84 w wr t ca cc ua uc)) (fun i _ => t.cols.length - (intOf i).toNat)
  case atStart => exact ⟨0, Nat.zero_le _, rfl, fun m _ h => absurd h (by omega), HX.out⟩
  case round =>
    obtain ⟨k, hk, rfl, HW⟩ := hrel
    have x1 := cell_at (o := 1) HW.out.2.1 rfl
    by_cases hlt : k < t.cols.length
    · have hki : (k : Int) < (t.cols.length : Int) := by omega
      obtain ⟨b, off, rfl, -, hc⟩ := (HS.out.later HW.out.2.2).1.at k hlt
      have c0 := (hc k hlt).1
      clear hc
      by_cases he : t.cols[k].nm = s
      · have HP : Hid (placeC t.cols s = k) := place_eq (.inr ⟨k, hlt, rfl, he, fun j hj => HW.out.1 j (by omega) hj⟩)
        rw [he] at c0
        clear he
        go_wp2_with fail
        go_ret
        exact ⟨ret_i HP.out.symm, HW.out.2.2⟩
      · have HN : Hid (∀ m (h : m < t.cols.length), m < k + 1 → t.cols[m].nm ≠ s) := fun m h hm => by
          by_cases e : m = k
          · subst e; exact he
          · exact HW.out.1 m h (by omega)
        have hne : (t.cols[k].nm == s) = false := by simpa using he
        clear he
        generalize t.cols[k] = x at *
        go_wp2_with fail
        go_roundw
        case rel => exact ⟨k + 1, by omega, by go_num, HN.out, HW.out.2⟩
        case measure => simp [intOf]; omega
    · have HP : Hid (placeC t.cols s = -1) := place_eq (.inl ⟨rfl, fun m h => HW.out.1 m h (by omega)⟩)
      have hki : decide ((k : Int) < (t.cols.length : Int)) = false := by simp; omega
      go_wp2_with fail
      go_ret
      exact ⟨ret_i HP.out.symm, HW.out.2.2⟩
set_option maxRecDepth 100000 in
set_option maxHeartbeats 3200000 in
theorem placeI (t : Tb) (s : List UInt8) (ca : Option Addr) (cc : Nat) (ua : Option Addr) (uc : Nat) (B : Nat → Prop) (w : World) (hl : t.cols.length ≤ maxLen) (hS : t.Has w B ca ua) :
    Calls Try.prog 82 #[.agg #[.string ⟨t.nm.toArray⟩, .slice ca t.cols.length cc, .slice ua t.uq.length uc, .bool t.rt], .string ⟨s.toArray⟩] w fun e w' => e = .returned (.int .i64 (placeC t.cols s)) ∧ Below w.heap.size w w' := by
  unfold maxLen at hl
  have HS : Hid (t.Has w B ca ua) := hS
  have HX := Lib.hid (boxT 84 w t ca cc ua uc)
  clear hS
  go_enter Try.func82, Try.ntmps82
  go_wp2_with fail
  go_loopw [9] (fun i wr => ∃ k : Nat, k ≤ t.cols.length ∧ i = .int .i64 k ∧ Hid ((∀ m (h : m < t.cols.length), m < k → t.cols[m].nm ≠ s) ∧ BoxT 84 w wr t ca cc ua uc)) (fun i _ => t.cols.length - (intOf i).toNat)
  case atStart => exact ⟨0, Nat.zero_le _, rfl, fun m _ h => absurd h (by omega), HX.out⟩
  case round =>
    obtain ⟨k, hk, rfl, HW⟩ := hrel
    have x1 := cell_at (o := 1) HW.out.2.1 rfl
    by_cases hlt : k < t.cols.length
    · have hki : (k : Int) < (t.cols.length : Int) := by omega
      obtain ⟨b, off, rfl, -, hc⟩ := (HS.out.later HW.out.2.2).1.at k hlt
      have c0 := (hc k hlt).1
      clear hc
      by_cases he : t.cols[k].nm = s
      · have HP : Hid (placeC t.cols s = k) := place_eq (.inr ⟨k, hlt, rfl, he, fun j hj => HW.out.1 j (by omega) hj⟩)
        rw [he] at c0
        clear he
        go_wp2_with fail
        go_ret
        exact ⟨ret_i HP.out.symm, HW.out.2.2⟩
      · have HN : Hid (∀ m (h : m < t.cols.length), m < k + 1 → t.cols[m].nm ≠ s) := fun m h hm => by
          by_cases e : m = k
          · subst e; exact he
          · exact HW.out.1 m h (by omega)
        have hne : (t.cols[k].nm == s) = false := by simpa using he
        clear he
        generalize t.cols[k] = x at *
        go_wp2_with fail
        go_roundw
        case rel => exact ⟨k + 1, by omega, by go_num, HN.out, HW.out.2⟩
        case measure => simp [intOf]; omega
    · have HP : Hid (placeC t.cols s = -1) := place_eq (.inl ⟨rfl, fun m h => HW.out.1 m h (by omega)⟩)
      have hki : decide ((k : Int) < (t.cols.length : Int)) = false := by simp; omega
      go_wp2_with fail
      go_ret
      exact ⟨ret_i HP.out.symm, HW.out.2.2⟩
end Go.Proofs.Ytenioffildinbaa
