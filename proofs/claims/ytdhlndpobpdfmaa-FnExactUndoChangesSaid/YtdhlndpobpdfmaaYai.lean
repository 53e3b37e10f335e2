import Derived.Test.YtdhlndpobpdfmaaYah
namespace Go.Proofs.Ytdhlndpobpdfmaa
open Go.RowKit
def riseIds (l : List RowV) : Prop := ∀ i (h : i + 1 < l.length), l[i].id < l[i + 1].id
def plainP (x : StV) : Prop := ∀ i (h : i < x.tables.length), riseIds x.tables[i]
noncomputable def plainB (x : StV) : Bool := @decide (plainP x) (Classical.propDecidable _)
theorem plain_yes {x : StV} (h : plainP x) : plainB x = true := @decide_eq_true _ (Classical.propDecidable _) h
theorem plain_no {x : StV} (h : ¬ plainP x) : plainB x = false := @decide_eq_false _ (Classical.propDecidable _) h
theorem plain_of {x : StV} (h : plainB x = true) : plainP x := @of_decide_eq_true _ (Classical.propDecidable _) h
def rowZ : RowV := ⟨0, []⟩
def rplI : List RowV → Int → Int
  | [], _ => -1
  | r :: l, id => if r.id = id then 0 else if rplI l id < 0 then -1 else rplI l id + 1
theorem rpl_at {id : Int} : ∀ {l : List RowV} {k : Nat} (h : k < l.length), l[k].id = id → (∀ m (h : m < l.length), m < k → l[m].id ≠ id) → rplI l id = k
  | r :: l, 0, _, e, _ => by
    have e' : r.id = id := e
    simp [rplI, e']
  | r :: l, k + 1, h, e, hn => by
    have h0 : r.id ≠ id := hn 0 (by simp) (by omega)
    have ih := rpl_at (l := l) (k := k) (by simpa using h) (by simpa using e) (fun m hm hk => by have := hn (m + 1) (by simpa using hm) (by omega); simpa using this)
    simp only [rplI, if_neg h0, ih]
    rw [if_neg (by omega)]; omega
theorem rpl_none {id : Int} : ∀ {l : List RowV}, (∀ m (h : m < l.length), l[m].id ≠ id) → rplI l id = -1
  | [], _ => rfl
  | r :: l, hn => by
    have h0 : r.id ≠ id := hn 0 (by simp)
    have ih := rpl_none (l := l) (fun m hm => by have := hn (m + 1) (by simpa using hm); simpa using this)
    simp [rplI, if_neg h0, ih]
theorem rpl_cases (l : List RowV) (id : Int) : (rplI l id = -1 ∧ ∀ m (h : m < l.length), l[m].id ≠ id) ∨ ∃ k : Nat, ∃ h : k < l.length, rplI l id = k ∧ l[k].id = id ∧ ∀ m (h : m < l.length), m < k → l[m].id ≠ id := by
  by_cases h : ∃ k, ∃ h : k < l.length, l[k].id = id
  · obtain ⟨k, hk⟩ := h
    have hm : ∃ k, (∃ h : k < l.length, l[k].id = id) ∧ ∀ m, m < k → ¬ ∃ h : m < l.length, l[m].id = id := by
      have key : ∀ n k, k ≤ n → (∃ h : k < l.length, l[k].id = id) → ∃ k, (∃ h : k < l.length, l[k].id = id) ∧ ∀ m, m < k → ¬ ∃ h : m < l.length, l[m].id = id := by
        intro n
        induction n with
        | zero => intro k hk h; exact ⟨k, h, fun m hm => by omega⟩
        | succ n ih =>
          intro k hk h
          by_cases he : ∃ m, m < k ∧ ∃ h : m < l.length, l[m].id = id
          · obtain ⟨m, hm, h'⟩ := he
            exact ih m (by omega) h'
          · exact ⟨k, h, fun m hm h' => he ⟨m, hm, h'⟩⟩
      exact key k k (Nat.le_refl _) hk
    obtain ⟨k, ⟨hk, e⟩, hn⟩ := hm
    exact .inr ⟨k, hk, rpl_at hk e (fun m h hm e => hn m hm ⟨h, e⟩), e, fun m h hm e => hn m hm ⟨h, e⟩⟩
  · have hn : ∀ m (h : m < l.length), l[m].id ≠ id := fun m hm e => h ⟨m, hm, e⟩
    exact .inl ⟨rpl_none hn, hn⟩
theorem getD_tab {α : Type} {l : List α} {i : Nat} {z : α} (h : i < l.length) : l.getD i z = l[i] := by rw [List.getD_eq_getElem?_getD, List.getElem?_eq_getElem h]; rfl
end Go.Proofs.Ytdhlndpobpdfmaa
