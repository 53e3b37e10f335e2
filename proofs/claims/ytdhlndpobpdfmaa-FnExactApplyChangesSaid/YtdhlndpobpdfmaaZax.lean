import Derived.Test.YtdhlndpobpdfmaaZat
namespace Go.Proofs.Ytdhlndpobpdfmaa
open Go.RowKit
set_option linter.unusedSimpArgs false
def putL : List RowV → RowV → List RowV
  | [], r => [r]
  | y :: l, r => if y.id < r.id then y :: putL l r else if y.id = r.id then r :: l else r :: y :: l
theorem putL_at {r : RowV} : ∀ {l : List RowV} {k t : Nat}, k ≤ l.length → (∀ m (h : m < l.length), m < k → l[m].id < r.id) → (∀ h : k < l.length, ¬ l[k].id < r.id) → ((t = k + 1 ∧ ∃ h : k < l.length, l[k].id = r.id) ∨ (t = k ∧ ∀ h : k < l.length, l[k].id ≠ r.id)) → putL l r = l.take k ++ r :: l.drop t
  | [], k, t, hk, _, _, ht => by
    have h0 : k = 0 := by simpa using hk
    subst h0
    rcases ht with ⟨_, h, _⟩ | ⟨rfl, _⟩
    · simp at h
    · rfl
  | y :: l, 0, t, _, _, hge, ht => by
    have h1 : ¬ y.id < r.id := hge (by simp)
    rcases ht with ⟨rfl, _, h⟩ | ⟨rfl, h⟩
    · have h' : y.id = r.id := h
      simp [putL, h1, h']
    · have h' : y.id ≠ r.id := h (by simp)
      simp [putL, h1, h']
  | y :: l, k + 1, t, hk, hlt, hge, ht => by
    have h1 : y.id < r.id := hlt 0 (by simp) (by omega)
    have ih := putL_at (r := r) (l := l) (k := k) (t := t - 1) (by simpa using hk) (fun m h hm => by have := hlt (m + 1) (by simpa using h) (by omega); simpa using this) (fun h => by have := hge (by simpa using h); simpa using this) (by
      rcases ht with ⟨rfl, h, e⟩ | ⟨rfl, h⟩
      · exact .inl ⟨by omega, by simpa using h, by simpa using e⟩
      · exact .inr ⟨by omega, fun h2 => by have := h (by simpa using h2); simpa using this⟩)
    have ht1 : ∃ t', t = t' + 1 := by
      rcases ht with ⟨rfl, _⟩ | ⟨rfl, _⟩ <;> exact ⟨_, rfl⟩
    obtain ⟨t', rfl⟩ := ht1
    simp only [Nat.add_sub_cancel] at ih
    simp [putL, h1, ih]
theorem P_len {l : List RowV} {r : RowV} {k t : Nat} (hk : k ≤ l.length) : (l.take k ++ r :: l.drop t).length = k + 1 + (l.length - t) := by
  simp; omega
theorem P_lt {l : List RowV} {r : RowV} {k t a : Nat} (hk : k ≤ l.length) (ha : a < k) : lsF dRow (l.take k ++ r :: l.drop t) a = dRow (l[a]'(by omega)) := by
  rw [lsF_at (by rw [P_len hk]; omega)]
  congr 1
  rw [List.getElem_append_left (by simp; omega)]
  simp
theorem P_eq {l : List RowV} {r : RowV} {k t : Nat} (hk : k ≤ l.length) : lsF dRow (l.take k ++ r :: l.drop t) k = dRow r := by
  rw [lsF_at (by rw [P_len hk]; omega)]
  congr 1
  rw [List.getElem_append_right (by simp; omega)]
  simp [Nat.min_eq_left hk]
theorem P_gt {l : List RowV} {r : RowV} {k t b : Nat} (hk : k ≤ l.length) (hb : b < l.length - t) : lsF dRow (l.take k ++ r :: l.drop t) (k + 1 + b) = dRow (l[t + b]'(by omega)) := by
  rw [lsF_at (by rw [P_len hk]; omega)]
  congr 1
  rw [List.getElem_append_right (by simp; omega)]
  have h1 : k + 1 + b - (l.take k).length = b + 1 := by simp [Nat.min_eq_left hk]; omega
  simp only [h1, List.getElem_cons_succ, List.getElem_drop]
end Go.Proofs.Ytdhlndpobpdfmaa
