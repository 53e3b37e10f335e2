import Derived.Test.YtgiaabgcbpafgaaDRwA
namespace Go.Proofs.Ytgiaabgcbpafgaa
open Go.RowKit
/-! stores as lists -/
def riseIds (l : List RowV) : Prop := ∀ i (h : i + 1 < l.length), l[i].id < l[i + 1].id
def plainP (x : StV) : Prop := ∀ i (h : i < x.tables.length), riseIds x.tables[i]
noncomputable def plainB (x : StV) : Bool := @decide (plainP x) (Classical.propDecidable _)
theorem plain_yes {x : StV} (h : plainP x) : plainB x = true := @decide_eq_true _ (Classical.propDecidable _) h
theorem plain_no {x : StV} (h : ¬ plainP x) : plainB x = false := @decide_eq_false _ (Classical.propDecidable _) h
theorem plain_of {x : StV} (h : plainB x = true) : plainP x := @of_decide_eq_true _ (Classical.propDecidable _) h
def rowZ : RowV := ⟨0, []⟩
/-- the place of the first row with that Id, or -1 -/
def rplI : List RowV → Int → Int
  | [], _ => -1
  | r :: l, id => if r.id = id then 0 else if rplI l id < 0 then -1 else rplI l id + 1
theorem rpl_at {id : Int} : ∀ {l : List RowV} {k : Nat} (h : k < l.length), l[k].id = id → (∀ m (h : m < l.length), m < k → l[m].id ≠ id) → rplI l id = k
  | r :: l, 0, _, e, _ => by
    have e' : r.id = id := e
    simp [rplI, e']
  | r :: l, k + 1, h, e, hn => by
    have h0 : r.id ≠ id := hn 0 (by simp) (by omega)
    have ih := rpl_at (l := l) (k := k) (by simpa using h) (by simpa using e) (fun m hm hk => by have := hn (m + 1) (by simpa using hm) (by omega); simpa using this)
    simp only [rplI, if_neg h0, ih]
    rw [if_neg (by omega)]; omega
theorem rpl_none {id : Int} : ∀ {l : List RowV}, (∀ m (h : m < l.length), l[m].id ≠ id) → rplI l id = -1
  | [], _ => rfl
  | r :: l, hn => by
    have h0 : r.id ≠ id := hn 0 (by simp)
    have ih := rpl_none (l := l) (fun m hm => by have := hn (m + 1) (by simpa using hm); simpa using this)
    simp [rplI, if_neg h0, ih]
theorem rpl_cases (l : List RowV) (id : Int) : (rplI l id = -1 ∧ ∀ m (h : m < l.length), l[m].id ≠ id) ∨ ∃ k : Nat, ∃ h : k < l.length, rplI l id = k ∧ l[k].id = id ∧ ∀ m (h : m < l.length), m < k → l[m].id ≠ id := by
  by_cases h : ∃ k, ∃ h : k < l.length, l[k].id = id
  · obtain ⟨k, hk⟩ := h
    have hm : ∃ k, (∃ h : k < l.length, l[k].id = id) ∧ ∀ m, m < k → ¬ ∃ h : m < l.length, l[m].id = id := by
      have key : ∀ n k, k ≤ n → (∃ h : k < l.length, l[k].id = id) → ∃ k, (∃ h : k < l.length, l[k].id = id) ∧ ∀ m, m < k → ¬ ∃ h : m < l.length, l[m].id = id := by
        intro n
        induction n with
        | zero => intro k hk h; exact ⟨k, h, fun m hm => by omega⟩
        | succ n ih =>
          intro k hk h
          by_cases he : ∃ m, m < k ∧ ∃ h : m < l.length, l[m].id = id
          · obtain ⟨m, hm, h'⟩ := he
            exact ih m (by omega) h'
          · exact ⟨k, h, fun m hm h' => he ⟨m, hm, h'⟩⟩
      exact key k k (Nat.le_refl _) hk
    obtain ⟨k, ⟨hk, e⟩, hn⟩ := hm
    exact .inr ⟨k, hk, rpl_at hk e (fun m h hm e => hn m hm ⟨h, e⟩), e, fun m h hm e => hn m hm ⟨h, e⟩⟩
  · have hn : ∀ m (h : m < l.length), l[m].id ≠ id := fun m hm e => h ⟨m, hm, e⟩
    exact .inl ⟨rpl_none hn, hn⟩
/-- what RowAt answers -/
noncomputable def rowAtP (x : StV) (t id : Int) : Int × RowV :=
  if plainB x = true then
    if 0 ≤ t ∧ t < x.tables.length then
      if rplI (x.tables.getD t.toNat []) id < 0 then (5, rowZ) else (0, (x.tables.getD t.toNat []).getD (rplI (x.tables.getD t.toNat []) id).toNat rowZ)
    else (10, rowZ)
  else (1, rowZ)
theorem getD_tab {α : Type} {l : List α} {i : Nat} {z : α} (h : i < l.length) : l.getD i z = l[i] := by rw [List.getD_eq_getElem?_getD, List.getElem?_eq_getElem h]; rfl
/-- parts of what is bounded are bounded -/
theorem le_row {K : Nat} {x : StV} (h : (dRowSS x.tables).le K) {i : Nat} (hi : i < x.tables.length) {k : Nat} (hk : k < x.tables[i].length) : (dAtomSS x.tables[i][k].cells).le K := by
  have h1 : (dRowS x.tables[i]).le K := (Ls_le.1 h).2.2 i hi 0 (by omega)
  exact (Ls_le.1 h1).2.2 k hk 1 (by omega)
theorem szT_at {α : Type} {n : Nat} {d : α → Nat → D} {l : List α} {i j : Nat} (hi : i < l.length) (hj : j < n) : (d l[i] j).sz ≤ (Ls n d l).sz := by
  rw [Ls_sz]
  have h1 : szT n (lsF d l i) ≤ szL n d l l.length := sumN_le (g := fun i => szT n (lsF d l i)) hi
  rw [lsF_at hi] at h1
  have h2 : (d l[i] j).sz ≤ szT n (d l[i]) := sumN_le (g := fun j => (d l[i] j).sz) hj
  omega
theorem sz_row {x : StV} {i : Nat} (hi : i < x.tables.length) {k : Nat} (hk : k < x.tables[i].length) : (dAtomSS x.tables[i][k].cells).sz ≤ (dRowSS x.tables).sz := by
  have h1 : (dRowS x.tables[i]).sz ≤ (dRowSS x.tables).sz := szT_at (n := 1) (d := cRowS) (j := 0) hi (by omega)
  have h2 : (dAtomSS x.tables[i][k].cells).sz ≤ (dRowS x.tables[i]).sz := szT_at (n := 2) (d := dRow) (j := 1) hk (by omega)
  omega
theorem rowZ_le : (∀ j, j < 2 → (dRow rowZ j).le maxLen) ∧ (dAtomSS rowZ.cells).sz ≤ 100000000 := ⟨fun j hj => by
    rcases (by omega : j = 0 ∨ j = 1) with rfl | rfl
    · exact (by decide : (Lit.int .i64 0).wf = true)
    · exact Ls_le.2 ⟨by omega, by simp [rowZ], fun i h => absurd h (by simp [rowZ])⟩, by simp [dAtomSS, Ls_sz, rowZ, szL_zero]⟩
theorem rowAt_le {x : StV} (t id : Int) (h : (dRowSS x.tables).le maxLen) (hz : (dRowSS x.tables).sz ≤ 1048576) : (∀ j, j < 2 → (dRow (rowAtP x t id).2 j).le maxLen) ∧ (dAtomSS (rowAtP x t id).2.cells).sz ≤ 100000000 := by
  unfold rowAtP
  split
  · split
    · rename_i ht
      split
      · exact rowZ_le
      · rename_i hp
        have hi : t.toNat < x.tables.length := by omega
        rw [getD_tab hi] at hp ⊢
        rcases rpl_cases x.tables[t.toNat] id with ⟨e, -⟩ | ⟨k, hk, e, -, -⟩
        · omega
        · rw [e, Int.toNat_natCast]
          simp only []
          rw [getD_tab hk]
          have := sz_row hi hk
          exact ⟨fun j hj => (Ls_le.1 ((Ls_le.1 h).2.2 _ hi 0 (by omega))).2.2 k hk j hj, by omega⟩
    · exact rowZ_le
  · exact rowZ_le
end Go.Proofs.Ytgiaabgcbpafgaa
