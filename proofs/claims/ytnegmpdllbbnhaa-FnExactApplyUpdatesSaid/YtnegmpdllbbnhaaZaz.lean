import Derived.Test.YtnegmpdllbbnhaaZaw
import Derived.Test.YtnegmpdllbbnhaaZax
import Derived.Test.YtnegmpdllbbnhaaZay
namespace Go.Proofs.Ytnegmpdllbbnhaa
open Go.RowKit
set_option linter.unusedSimpArgs false
def AscR (l : List RowV) : Prop := l.Pairwise (fun a b => a.id < b.id)
theorem asc_of {l : List RowV} (h : riseIds l) : AscR l := by
  have key : ∀ n (l : List RowV), l.length = n → riseIds l → AscR l := by
    intro n
    induction n with
    | zero => intro l hl _; rw [List.eq_nil_of_length_eq_zero hl]; exact List.Pairwise.nil
    | succ n ih =>
      intro l hl h
      cases l with
      | nil => cases hl
      | cons y l =>
        have ht : riseIds l := fun i hi => by have := h (i + 1) (by simpa using hi); simpa using this
        have ha := ih l (by simpa using hl) ht
        refine List.Pairwise.cons (fun z hz => ?_) ha
        cases l with
        | nil => cases hz
        | cons y2 l2 =>
          have h0 : y.id < y2.id := h 0 (by simp)
          rcases List.mem_cons.1 hz with rfl | hz
          · exact h0
          · have := (List.pairwise_cons.1 ha).1 z hz; omega
  exact key _ l rfl h
theorem mem_put {r : RowV} : ∀ {l : List RowV} {z : RowV}, z ∈ putL l r → z = r ∨ z ∈ l
  | [], z, h => .inl (by simpa [putL] using h)
  | y :: l, z, h => by
    unfold putL at h
    split at h
    · rcases List.mem_cons.1 h with rfl | h
      · exact .inr (by simp)
      · rcases mem_put h with h | h
        · exact .inl h
        · exact .inr (by simp [h])
    · split at h
      · rcases List.mem_cons.1 h with rfl | h
        · exact .inl rfl
        · exact .inr (by simp [h])
      · rcases List.mem_cons.1 h with rfl | h
        · exact .inl rfl
        · exact .inr h
theorem asc_put {r : RowV} : ∀ {l : List RowV}, AscR l → AscR (putL l r)
  | [], _ => by unfold putL; exact List.pairwise_singleton _ _
  | y :: l, h => by
    have h1 := (List.pairwise_cons.1 h).1
    have h2 := (List.pairwise_cons.1 h).2
    unfold putL
    split
    · rename_i hlt
      refine List.Pairwise.cons (fun z hz => ?_) (asc_put h2)
      rcases mem_put hz with rfl | hz
      · exact hlt
      · exact h1 z hz
    · split
      · rename_i hlt he
        exact List.Pairwise.cons (fun z hz => by have := h1 z hz; omega) h2
      · rename_i hlt he
        refine List.Pairwise.cons (fun z hz => ?_) h
        rcases List.mem_cons.1 hz with rfl | hz
        · omega
        · have := h1 z hz; omega
theorem len_put {r : RowV} : ∀ (l : List RowV), (putL l r).length ≤ l.length + 1
  | [] => by simp [putL]
  | y :: l => by
    have := len_put (r := r) l
    unfold putL
    split
    · simp; omega
    · split <;> simp
theorem asc_erase {l : List RowV} (h : AscR l) (k : Nat) : AscR (l.eraseIdx k) := h.sublist (List.eraseIdx_sublist l k)
theorem le_rows {l : List RowV} {K : Nat} (h : (dRowS l).le K) : ∀ z ∈ l, iOK z.id ∧ (dAtomSS z.cells).le K := fun z hz => by
  obtain ⟨i, hi, rfl⟩ := List.mem_iff_getElem.1 hz
  exact ⟨(Ls_le.1 h).2.2 i hi 0 (by omega), (Ls_le.1 h).2.2 i hi 1 (by omega)⟩
theorem rows_le {l : List RowV} {K : Nat} (hl : l.length ≤ K) (h : ∀ z ∈ l, iOK z.id ∧ (dAtomSS z.cells).le K) : (dRowS l).le K :=
  Ls_le.2 ⟨by omega, hl, fun i hi j hj => by
    have := h _ (List.getElem_mem hi)
    rcases (by omega : j = 0 ∨ j = 1) with rfl | rfl
    · exact this.1
    · exact this.2⟩
theorem kind_old {c : ChV} (h : kindC c = 2) : c.oid = c.cid := by
  unfold kindC at h
  split at h
  · omega
  split at h
  · rename_i h2; simp at h2; exact h2.2
  split at h <;> omega
theorem rowD_there {rows : List RowV} {id : Int} {o : RowV} (hid : 1 ≤ id) (ho : o.id = id) (h : rowD rows id = o) : ∃ k : Nat, ∃ hk : k < rows.length, rplI rows id = k ∧ rows[k].id = id := by
  rcases rpl_cases rows id with ⟨hp, -⟩ | ⟨k, hk, hp, he, -⟩
  · rw [rowD_none hp] at h
    subst h
    have : (0 : Int) = id := ho
    omega
  · exact ⟨k, hk, hp, he⟩
end Go.Proofs.Ytnegmpdllbbnhaa
