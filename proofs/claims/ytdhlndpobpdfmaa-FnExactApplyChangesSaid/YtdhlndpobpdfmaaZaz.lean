import Derived.Test.YtdhlndpobpdfmaaZaw
import Derived.Test.YtdhlndpobpdfmaaZax
import Derived.Test.YtdhlndpobpdfmaaZay
namespace Go.Proofs.Ytdhlndpobpdfmaa
open Go.RowKit
set_option linter.unusedSimpArgs false
def AscR (l : List RowV) : Prop := l.Pairwise (fun a b => a.id < b.id)
theorem asc_of {l : List RowV} (h : riseIds l) : AscR l := by
  have key : ∀ n (l : List RowV), l.length = n → riseIds l → AscR l := by
    intro n
    induction n with
    | zero => intro l hl _; rw [List.eq_nil_of_length_eq_zero hl]; exact List.Pairwise.nil
    | succ n ih =>
      intro l hl h
      cases l with
      | nil => cases hl
      | cons y l =>
        have ht : riseIds l := fun i hi => by have := h (i + 1) (by simpa using hi); simpa using this
        have ha := ih l (by simpa using hl) ht
        refine List.Pairwise.cons (fun z hz => ?_) ha
        cases l with
        | nil => cases hz
        | cons y2 l2 =>
          have h0 : y.id < y2.id := h 0 (by simp)
          rcases List.mem_cons.1 hz with rfl | hz
          · exact h0
          · have := (List.pairwise_cons.1 ha).1 z hz; omega
  exact key _ l rfl h
theorem mem_put {r : RowV} : ∀ {l : List RowV} {z : RowV}, z ∈ putL l r → z = r ∨ z ∈ l
  | [], z, h => .inl (by simpa [putL] using h)
  | y :: l, z, h => by
    unfold putL at h
    split at h
    · rcases List.mem_cons.1 h with rfl | h
      · exact .inr (by simp)
      · rcases mem_put h with h | h
        · exact .inl h
        · exact .inr (by simp [h])
    · split at h
      · rcases List.mem_cons.1 h with rfl | h
        · exact .inl rfl
        · exact .inr (by simp [h])
      · rcases List.mem_cons.1 h with rfl | h
        · exact .inl rfl
        · exact .inr h
theorem asc_put {r : RowV} : ∀ {l : List RowV}, AscR l → AscR (putL l r)
  | [], _ => by unfold putL; exact List.pairwise_singleton _ _
  | y :: l, h => by
    have h1 := (List.pairwise_cons.1 h).1
    have h2 := (List.pairwise_cons.1 h).2
    unfold putL
    split
    · rename_i hlt
      refine List.Pairwise.cons (fun z hz => ?_) (asc_put h2)
      rcases mem_put hz with rfl | hz
      · exact hlt
      · exact h1 z hz
    · split
      · rename_i hlt he
        exact List.Pairwise.cons (fun z hz => by have := h1 z hz; omega) h2
      · rename_i hlt he
        refine List.Pairwise.cons (fun z hz => ?_) h
        rcases List.mem_cons.1 hz with rfl | hz
        · omega
        · have := h1 z hz; omega
theorem len_put {r : RowV} : ∀ (l : List RowV), (putL l r).length ≤ l.length + 1
  | [] => by simp [putL]
  | y :: l => by
    have := len_put (r := r) l
    unfold putL
    split
    · simp; omega
    · split <;> simp
theorem len_put_old {r : RowV} : ∀ {l : List RowV}, AscR l → (∃ y ∈ l, y.id = r.id) → (putL l r).length = l.length
  | [], _, h => by obtain ⟨y, hy, -⟩ := h; cases hy
  | y :: l, ha, h => by
    have h1 := (List.pairwise_cons.1 ha).1
    have h2 := (List.pairwise_cons.1 ha).2
    unfold putL
    split
    · rename_i hlt
      obtain ⟨z, hz, he⟩ := h
      rcases List.mem_cons.1 hz with rfl | hz
      · omega
      · simp [len_put_old h2 ⟨z, hz, he⟩]
    · split
      · simp
      · rename_i hlt hne
        obtain ⟨z, hz, he⟩ := h
        rcases List.mem_cons.1 hz with rfl | hz
        · exact absurd he hne
        · have := h1 z hz; omega
theorem asc_erase {l : List RowV} (h : AscR l) (k : Nat) : AscR (l.eraseIdx k) := h.sublist (List.eraseIdx_sublist l k)
theorem le_rows {l : List RowV} {K : Nat} (h : (dRowS l).le K) : ∀ z ∈ l, iOK z.id ∧ (dAtomSS z.cells).le K := fun z hz => by
  obtain ⟨i, hi, rfl⟩ := List.mem_iff_getElem.1 hz
  exact ⟨(Ls_le.1 h).2.2 i hi 0 (by omega), (Ls_le.1 h).2.2 i hi 1 (by omega)⟩
theorem rows_le {l : List RowV} {K : Nat} (hl : l.length ≤ K) (h : ∀ z ∈ l, iOK z.id ∧ (dAtomSS z.cells).le K) : (dRowS l).le K :=
  Ls_le.2 ⟨by omega, hl, fun i hi j hj => by
    have := h _ (List.getElem_mem hi)
    rcases (by omega : j = 0 ∨ j = 1) with rfl | rfl
    · exact this.1
    · exact this.2⟩
def ApP (x : StV) : Prop := (∀ l ∈ x.tables, AscR l) ∧ (dRowSS x.tables).le 1048576
theorem ap_set {x : StV} {i : Nat} {l : List RowV} {n : Int} (h : ApP x) (ha : AscR l) (hl : (dRowS l).le 1048576) : ApP ⟨x.tables.set i l, n⟩ := by
  refine ⟨fun m hm => ?_, Ls_le.2 ⟨by omega, by rw [List.length_set]; exact (Ls_le.1 h.2).2.1, fun k hk j hj => ?_⟩⟩
  · rcases List.mem_or_eq_of_mem_set hm with hm | rfl
    · exact h.1 m hm
    · exact ha
  · obtain rfl : j = 0 := by omega
    show (dRowS ((x.tables.set i l)[k])).le 1048576
    rw [List.getElem_set]
    split
    · exact hl
    · exact (Ls_le.1 h.2).2.2 k (by rw [List.length_set] at hk; exact hk) 0 (by omega)
def tabI (x : StV) (t : Int) : List RowV := x.tables.getD t.toNat []
theorem tabI_at {x : StV} {i : Nat} (h : i < x.tables.length) : tabI x (i : Int) = x.tables[i] := by unfold tabI; rw [Int.toNat_natCast, List.getD_eq_getElem?_getD, List.getElem?_eq_getElem h]; rfl
def nextI (n id : Int) : Int := if n < Go.RowKit.wrap64 (id + 1) then Go.RowKit.wrap64 (id + 1) else n
def dropC (x : StV) (c : ChV) : StV := ⟨x.tables.set c.tab.toNat ((tabI x c.tab).eraseIdx (rplI (tabI x c.tab) c.cid).toNat), x.next⟩
def putC' (x : StV) (c : ChV) : StV := ⟨x.tables.set c.tab.toNat (putL (tabI x c.tab) ⟨c.nid, c.ncs⟩), nextI x.next c.cid⟩
noncomputable def apL : StV → List ChV → StV × Int
  | x, [] => (x, 0)
  | x, c :: r =>
    if c.cid < 1 ∨ ¬ (0 ≤ c.tab ∧ c.tab < x.tables.length) ∨ kindC c = 0 then (x, 1)
    else if eqB (rowD (tabI x c.tab) c.cid) ⟨c.oid, c.ocs⟩ = false then (x, 13)
    else if kindC c = 2 then apL (dropC x c) r
    else if kindC c = 1 ∧ 12 ≤ (tabI x c.tab).length then (x, 7)
    else apL (putC' x c) r
theorem kind_old {c : ChV} (h : kindC c = 2) : c.oid = c.cid := by
  unfold kindC at h
  split at h
  · omega
  split at h
  · rename_i h2; simp at h2; exact h2.2
  split at h <;> omega
theorem kind_three {c : ChV} (h : kindC c = 3) : c.oid = c.cid ∧ c.nid = c.cid := by
  unfold kindC at h
  split at h
  · omega
  split at h
  · omega
  split at h
  · rename_i h3; simp at h3; exact h3
  · omega
theorem rowD_there {rows : List RowV} {id : Int} {o : RowV} (hid : 1 ≤ id) (ho : o.id = id) (h : rowD rows id = o) : ∃ k : Nat, ∃ hk : k < rows.length, rplI rows id = k ∧ rows[k].id = id := by
  rcases rpl_cases rows id with ⟨hp, -⟩ | ⟨k, hk, hp, he, -⟩
  · rw [rowD_none hp] at h
    subst h
    have : (0 : Int) = id := ho
    omega
  · exact ⟨k, hk, hp, he⟩
end Go.Proofs.Ytdhlndpobpdfmaa
