import Derived.Test.YtngbhifafdbpkaaGreatZba
import Derived.Test.YtngbhifafdbpkaaGreatZay
namespace Go.Proofs.YtngbhifafdbpkaaGreat
open Go.RowKit
set_option linter.unusedSimpArgs false
theorem sumN_ne {g : Nat → Nat} : ∀ {n : Nat}, sumN n g ≠ 0 ↔ ∃ i, i < n ∧ g i ≠ 0
  | 0 => ⟨fun h => absurd rfl h, fun ⟨i, h, _⟩ => by omega⟩
  | n + 1 => by
    rw [sumN_succ]
    have ih := sumN_ne (g := g) (n := n)
    constructor
    · intro h
      by_cases h1 : g n = 0
      · obtain ⟨i, hi, hg⟩ := ih.1 (by omega)
        exact ⟨i, by omega, hg⟩
      · exact ⟨n, by omega, h1⟩
    · rintro ⟨i, hi, hg⟩
      by_cases e : i = n
      · subst e; omega
      · have := ih.2 ⟨i, by omega, hg⟩; omega
def pulls (cols : List Cl) (rows : List RowV) (nm : List UInt8) (a : At) : Prop := ∃ c, ∃ hc : c < cols.length, pullB cols[c] nm = true ∧ ∃ r ∈ rows, hasB (r.cells.getD c []) a = true
def holds (l : List Tb) (ts : List (List RowV)) (nm : List UInt8) (a : At) : Prop := ∃ i, ∃ hi : i < l.length, pulls l[i].cols (ts.getD i []) nm a
theorem setsN_ne {rows : List RowV} {c : Nat} {a : At} : setsN rows c a rows.length ≠ 0 ↔ ∃ r ∈ rows, hasB (r.cells.getD c []) a = true := by
  unfold setsN
  rw [sumN_ne]
  constructor
  · rintro ⟨i, hi, h⟩
    refine ⟨rows[i], List.getElem_mem hi, ?_⟩
    have e : cellAtN rows i c = rows[i].cells.getD c [] := by unfold cellAtN; rw [getD_tab hi]
    rw [e] at h
    split at h
    · assumption
    · exact absurd rfl h
  · rintro ⟨r, hr, h⟩
    obtain ⟨i, hi, rfl⟩ := List.mem_iff_getElem.1 hr
    refine ⟨i, hi, ?_⟩
    have e : cellAtN rows i c = rows[i].cells.getD c [] := by unfold cellAtN; rw [getD_tab hi]
    rw [e, if_pos h]
    omega
theorem colsN_ne {cols : List Cl} {rows : List RowV} {nm : List UInt8} {a : At} : colsN cols rows nm a cols.length ≠ 0 ↔ pulls cols rows nm a := by
  unfold colsN
  rw [sumN_ne]
  constructor
  · rintro ⟨c, hc, h⟩
    rw [List.getElem?_eq_getElem hc] at h
    simp only at h
    split at h
    · rename_i hp
      exact ⟨c, hc, hp, setsN_ne.1 h⟩
    · exact absurd rfl h
  · rintro ⟨c, hc, hp, h⟩
    refine ⟨c, hc, ?_⟩
    rw [List.getElem?_eq_getElem hc]
    simp only [if_pos hp]
    exact setsN_ne.2 h
theorem pulls_nil {cols : List Cl} {nm : List UInt8} {a : At} : ¬ pulls cols [] nm a := by
  rintro ⟨c, hc, -, r, hr, -⟩
  cases hr
theorem strong_ne {l : List Tb} {ts : List (List RowV)} {nm : List UInt8} {a : At} : strongN l ts nm a l.length ≠ 0 ↔ holds l ts nm a := by
  unfold strongN
  rw [sumN_ne]
  constructor
  · rintro ⟨i, hi, h⟩
    rw [List.getElem?_eq_getElem hi] at h
    by_cases ht : i < ts.length
    · rw [List.getElem?_eq_getElem ht] at h
      refine ⟨i, hi, ?_⟩
      rw [List.getD_eq_getElem?_getD, List.getElem?_eq_getElem ht]
      exact colsN_ne.1 h
    · rw [List.getElem?_eq_none (by omega)] at h
      exact absurd rfl h
  · rintro ⟨i, hi, h⟩
    refine ⟨i, hi, ?_⟩
    by_cases ht : i < ts.length
    · rw [List.getD_eq_getElem?_getD, List.getElem?_eq_getElem ht] at h
      rw [List.getElem?_eq_getElem hi, List.getElem?_eq_getElem ht]
      exact colsN_ne.2 h
    · rw [List.getD_eq_getElem?_getD, List.getElem?_eq_none (by omega)] at h
      exact absurd h pulls_nil
theorem holds_mono {l : List Tb} {ts ts' : List (List RowV)} {nm : List UInt8} {a : At} (h : ∀ i, ∀ r ∈ ts.getD i [], r ∈ ts'.getD i []) (hh : holds l ts nm a) : holds l ts' nm a := by
  obtain ⟨i, hi, c, hc, hp, r, hr, hb⟩ := hh
  exact ⟨i, hi, c, hc, hp, r, h i r hr, hb⟩
noncomputable def keepR (K : Int → Prop) (rows : List RowV) : List RowV := rows.filter (fun r => @decide (K r.id) (Classical.propDecidable _))
noncomputable def keepT (K : Nat → Int → Prop) (X : List (List RowV)) : List (List RowV) := X.mapIdx (fun i rows => keepR (K i) rows)
theorem mem_keepR {K : Int → Prop} {rows : List RowV} {r : RowV} : r ∈ keepR K rows ↔ r ∈ rows ∧ K r.id := by
  unfold keepR
  rw [List.mem_filter]
  constructor
  · rintro ⟨h1, h2⟩; exact ⟨h1, @of_decide_eq_true _ (Classical.propDecidable _) h2⟩
  · rintro ⟨h1, h2⟩; exact ⟨h1, @decide_eq_true _ (Classical.propDecidable _) h2⟩
theorem keepR_congr {K K' : Int → Prop} {rows : List RowV} (h : ∀ r ∈ rows, (K r.id ↔ K' r.id)) : keepR K rows = keepR K' rows := by
  unfold keepR
  refine List.filter_congr (fun r hr => ?_)
  have := h r hr
  rw [Bool.eq_iff_iff]
  exact ⟨fun e => @decide_eq_true _ (Classical.propDecidable _) (this.1 (@of_decide_eq_true _ (Classical.propDecidable _) e)), fun e => @decide_eq_true _ (Classical.propDecidable _) (this.2 (@of_decide_eq_true _ (Classical.propDecidable _) e))⟩
theorem keepT_len (K : Nat → Int → Prop) (X : List (List RowV)) : (keepT K X).length = X.length := by unfold keepT; simp
theorem keepT_at {K : Nat → Int → Prop} {X : List (List RowV)} {i : Nat} (h : i < X.length) : (keepT K X)[i]'(by rw [keepT_len]; exact h) = keepR (K i) X[i] := by unfold keepT; simp
theorem keepT_getD (K : Nat → Int → Prop) (X : List (List RowV)) (i : Nat) : (keepT K X).getD i [] = keepR (K i) (X.getD i []) := by
  by_cases h : i < X.length
  · rw [List.getD_eq_getElem?_getD, List.getElem?_eq_getElem (by rw [keepT_len]; exact h), List.getD_eq_getElem?_getD, List.getElem?_eq_getElem h]
    exact keepT_at h
  · rw [List.getD_eq_getElem?_getD, List.getElem?_eq_none (by rw [keepT_len]; omega), List.getD_eq_getElem?_getD, List.getElem?_eq_none (by omega)]
    rfl
theorem keepT_congr {K K' : Nat → Int → Prop} {X : List (List RowV)} (h : ∀ i (hi : i < X.length), ∀ r ∈ X[i], (K i r.id ↔ K' i r.id)) : keepT K X = keepT K' X := by
  refine List.ext_getElem (by rw [keepT_len, keepT_len]) (fun i h1 h2 => ?_)
  rw [keepT_len] at h1
  rw [keepT_at h1, keepT_at h1]
  exact keepR_congr (h i h1)
theorem keepT_all (X : List (List RowV)) : keepT (fun _ _ => True) X = X := by
  refine List.ext_getElem (keepT_len _ _) (fun i h1 h2 => ?_)
  rw [keepT_at h2]
  unfold keepR
  rw [List.filter_eq_self]
  intro r _
  exact @decide_eq_true _ (Classical.propDecidable _) trivial
def closS (l : List Tb) (X : List (List RowV)) (S : Nat → Int → Prop) : Prop := ∀ i id, S i id → ∃ hi : i < l.length, l[i].rt = true ∨ holds l (keepT S X) l[i].nm ⟨4, id, []⟩
def gset (l : List Tb) (X : List (List RowV)) : Nat → Int → Prop := fun i id => ∃ S, closS l X S ∧ S i id
theorem keep_mono {K K' : Nat → Int → Prop} {X : List (List RowV)} (h : ∀ i id, K i id → K' i id) : ∀ i, ∀ r ∈ (keepT K X).getD i [], r ∈ (keepT K' X).getD i [] := fun i r hr => by
  rw [keepT_getD, mem_keepR] at hr ⊢
  exact ⟨hr.1, h i _ hr.2⟩
theorem gset_clos (l : List Tb) (X : List (List RowV)) : closS l X (gset l X) := by
  rintro i id ⟨S, hS, hi⟩
  obtain ⟨hl, h⟩ := hS i id hi
  refine ⟨hl, h.imp (fun h => h) (fun h => holds_mono (keep_mono (fun j z hz => ⟨S, hS, hz⟩)) h)⟩
theorem keep_drop {l : List Tb} {X : List (List RowV)} {K : Nat → Int → Prop} (hK : ∀ i id, gset l X i id → K i id) {i : Nat} (hi : i < l.length) {id : Int} (hr : l[i].rt = false) (hh : ¬ holds l (keepT K X) l[i].nm ⟨4, id, []⟩) : ¬ gset l X i id := fun hg => by
  obtain ⟨_, h⟩ := gset_clos l X i id hg
  rcases h with h | h
  · rw [hr] at h; cases h
  · exact hh (holds_mono (keep_mono hK) h)
theorem keep_end {l : List Tb} {X : List (List RowV)} {K : Nat → Int → Prop} (hl : X.length = l.length) (hK : ∀ i id, gset l X i id → K i id) (hh : ∀ i (hi : i < l.length), ∀ r ∈ (keepT K X).getD i [], l[i].rt = true ∨ holds l (keepT K X) l[i].nm ⟨4, r.id, []⟩) : keepT K X = keepT (gset l X) X := by
  have hS : keepT (fun i id => K i id ∧ ∃ r ∈ X.getD i [], r.id = id) X = keepT K X := keepT_congr (fun i hi r hr => ⟨fun h => h.1, fun h => ⟨h, r, by rw [List.getD_eq_getElem?_getD, List.getElem?_eq_getElem hi]; exact hr, rfl⟩⟩)
  have hc : closS l X (fun i id => K i id ∧ ∃ r ∈ X.getD i [], r.id = id) := by
    rintro i id ⟨hk, r, hr, rfl⟩
    have hi : i < l.length := by
      by_cases h : i < X.length
      · omega
      · rw [List.getD_eq_getElem?_getD, List.getElem?_eq_none (by omega)] at hr; cases hr
    rw [hS]
    exact ⟨hi, hh i hi r (by rw [keepT_getD, mem_keepR]; exact ⟨hr, hk⟩)⟩
  refine keepT_congr (fun i hi r hr => ⟨fun h => ⟨_, hc, h, r, by rw [List.getD_eq_getElem?_getD, List.getElem?_eq_getElem hi]; exact hr, rfl⟩, fun h => hK i _ h⟩)
theorem erase_keep {rows : List RowV} (h : riseIds rows) {k : Nat} (hk : k < rows.length) : rows.eraseIdx k = keepR (fun id => id ≠ rows[k].id) rows := by
  have key : ∀ (n : Nat) (rows : List RowV) (k : Nat) (hk : k < rows.length), rows.length = n → rows.Pairwise (fun a b => a.id < b.id) → rows.eraseIdx k = keepR (fun id => id ≠ rows[k].id) rows := by
    intro n
    induction n with
    | zero => intro rows k hk hn; omega
    | succ n ih =>
      intro rows k hk hn hp
      cases rows with
      | nil => simp at hk
      | cons r rows =>
        have hp' := List.pairwise_cons.1 hp
        cases k with
        | zero =>
          unfold keepR
          rw [List.eraseIdx_cons_zero, List.filter_cons_of_neg (by intro e; exact absurd rfl (@of_decide_eq_true _ (Classical.propDecidable _) e))]
          symm
          rw [List.filter_eq_self]
          intro z hz
          exact @decide_eq_true _ (Classical.propDecidable _) (fun e => by have := hp'.1 z hz; have e2 : z.id = r.id := e; omega)
        | succ k =>
          have hk' : k < rows.length := by simpa using hk
          have := ih rows k hk' (by simpa using hn) hp'.2
          have hne : r.id ≠ rows[k].id := by have := hp'.1 _ (List.getElem_mem hk'); omega
          rw [List.eraseIdx_cons_succ, this]
          unfold keepR
          rw [List.getElem_cons_succ]
          exact (List.filter_cons_of_pos (p := fun r : RowV => @decide (r.id ≠ rows[k].id) (Classical.propDecidable _)) (@decide_eq_true _ (Classical.propDecidable _) hne)).symm
  have hpw : rows.Pairwise (fun a b => a.id < b.id) := by
    rw [List.pairwise_iff_getElem]
    intro i j hi hj hij
    induction j with
    | zero => omega
    | succ j ih =>
      have h1 := h j hj
      by_cases e : i = j
      · subst e; exact h1
      · have := ih (by omega) (by omega); omega
  exact key _ rows k hk rfl hpw
theorem keepR_two {K K' : Int → Prop} {rows : List RowV} : keepR K' (keepR K rows) = keepR (fun id => K id ∧ K' id) rows := by
  unfold keepR
  rw [List.filter_filter]
  refine List.filter_congr (fun r _ => ?_)
  rw [Bool.eq_iff_iff, Bool.and_eq_true]
  constructor
  · rintro ⟨h1, h2⟩
    exact @decide_eq_true _ (Classical.propDecidable _) ⟨@of_decide_eq_true _ (Classical.propDecidable _) h2, @of_decide_eq_true _ (Classical.propDecidable _) h1⟩
  · intro h
    have h3 := @of_decide_eq_true _ (Classical.propDecidable _) h
    exact ⟨@decide_eq_true _ (Classical.propDecidable _) h3.2, @decide_eq_true _ (Classical.propDecidable _) h3.1⟩
theorem keepT_set {K : Nat → Int → Prop} {X : List (List RowV)} {i : Nat} (hi : i < X.length) (K' : Int → Prop) : (keepT K X).set i (keepR K' ((keepT K X)[i]'(by rw [keepT_len]; exact hi))) = keepT (fun j id => K j id ∧ (j = i → K' id)) X := by
  refine List.ext_getElem (by rw [List.length_set, keepT_len, keepT_len]) (fun j h1 h2 => ?_)
  rw [keepT_len] at h2
  rw [keepT_at h2]
  by_cases e : j = i
  · subst e
    rw [List.getElem_set_self, keepT_at hi, keepR_two]
    exact keepR_congr (fun r _ => by simp)
  · rw [List.getElem_set_ne (by omega), keepT_at h2]
    exact keepR_congr (fun r _ => by simp [e])
theorem rise_keep {rows : List RowV} (h : riseIds rows) (K : Int → Prop) : riseIds (keepR K rows) := by
  have hpw : rows.Pairwise (fun a b => a.id < b.id) := by
    rw [List.pairwise_iff_getElem]
    intro i j hi hj hij
    induction j with
    | zero => omega
    | succ j ih =>
      have h1 := h j hj
      by_cases e : i = j
      · subst e; exact h1
      · have := ih (by omega) (by omega); omega
  have h2 : (keepR K rows).Pairwise (fun a b => a.id < b.id) := by
    unfold keepR
    exact hpw.sublist List.filter_sublist
  exact fun i hi => List.pairwise_iff_getElem.1 h2 i (i + 1) (by omega) hi (by omega)
theorem form_keep {l : List Tb} {x : StV} (h : FormP l x) (K : Nat → Int → Prop) : FormP l ⟨keepT K x.tables, x.next⟩ := by
  refine ⟨by rw [keepT_len]; exact h.1, h.2.1, fun i hi hi' => ?_⟩
  have hx : i < x.tables.length := by have := h.1; omega
  have hr := h.2.2 i hi hx
  show RowsP l[i] ((keepT K x.tables)[i]) x.next
  rw [keepT_at hx]
  refine ⟨Nat.le_trans (List.length_filter_le _ _) hr.1, rise_keep hr.2.1 _, fun k hk => ?_⟩
  obtain ⟨j, hj, e⟩ := List.mem_iff_getElem.1 (mem_keepR.1 (List.getElem_mem hk)).1
  rw [← e]
  exact hr.2.2 j hj
end Go.Proofs.YtngbhifafdbpkaaGreat
