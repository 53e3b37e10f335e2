import Derived.Test.YtdhlndpobpdfmaaZbg
import Derived.Test.YtdhlndpobpdfmaaZbh
import Derived.Test.YtdhlndpobpdfmaaZbi
namespace Go.Proofs.Ytdhlndpobpdfmaa
open Go.RowKit
set_option linter.unusedSimpArgs false
theorem own_one {W : World} {l : List (List At)} {X : Nat → Prop} {v : Value} (h : Own W (dAtomSS l) X v) : v.oneCell' = true := by
  obtain ⟨a, c, rfl, -⟩ := h; rfl
theorem TabW.one {W : World} {T : Tab3} (h : TabW W T) : ∀ u ∈ cs3 T.ts, u.oneCell' = true := fun u hu => by
  unfold cs3 at hu
  rw [List.mem_flatMap] at hu
  obtain ⟨t, ht, hu⟩ := hu
  rcases List.mem_cons.1 hu with rfl | hu
  · rfl
  · rcases List.mem_cons.1 hu with rfl | hu
    · exact own_one (h.ow t ht).1
    · cases hu
theorem map_setV (Ts : List Tab3) (i : Nat) (T' : Tab3) : ((Ts.map Tab3.v).toArray.setIfInBounds i T'.v) = ((Ts.set i T').map Tab3.v).toArray := by simp [List.map_set]
theorem take_set2 {cs cur : List Value} {k len : Nat} {a b : Value} (hk : k < len) (hc : len * 2 ≤ cur.length) (h : cur.take (len * 2) = cs) : ((cur.set (k * 2) a).set (k * 2 + 1) b).take (len * 2) = cs.take (k * 2) ++ [a, b] ++ cs.drop ((k + 1) * 2) := by
  have hl : cs.length = len * 2 := by rw [← h, List.length_take]; omega
  have hT : (cs.take (k * 2)).length = k * 2 := by rw [List.length_take]; omega
  have hT2 : (cs.take (k * 2) ++ [a, b]).length = (k + 1) * 2 := by rw [List.length_append, hT]; simp; omega
  refine List.ext_getElem? (fun j => ?_)
  by_cases hj : j < len * 2
  · rcases (by omega : j < k * 2 ∨ j = k * 2 ∨ j = k * 2 + 1 ∨ (k + 1) * 2 ≤ j) with e | e | e | e
    · rw [List.getElem?_take_of_lt hj, List.getElem?_set_ne (by omega), List.getElem?_set_ne (by omega), List.append_assoc, List.getElem?_append_left (by omega), List.getElem?_take_of_lt e, ← h, List.getElem?_take_of_lt hj]
    · subst e
      rw [List.getElem?_take_of_lt hj, List.getElem?_set_ne (by omega), List.getElem?_set_self (by omega), List.append_assoc, List.getElem?_append_right (by omega), hT, Nat.sub_self]; rfl
    · subst e
      rw [List.getElem?_take_of_lt hj, List.getElem?_set_self (by rw [List.length_set]; omega), List.append_assoc, List.getElem?_append_right (by omega), hT, show k * 2 + 1 - k * 2 = 1 by omega]; rfl
    · rw [List.getElem?_take_of_lt hj, List.getElem?_set_ne (by omega), List.getElem?_set_ne (by omega), List.getElem?_append_right (by omega), hT2, List.getElem?_drop, show (k + 1) * 2 + (j - (k + 1) * 2) = j by omega, ← h, List.getElem?_take_of_lt hj]
  · rw [List.getElem?_eq_none (by rw [List.length_take]; omega), List.getElem?_eq_none (by rw [List.length_append, hT2, List.length_drop]; omega)]
noncomputable def dnC (x : StV) (c : ChV) : StV × Int :=
  if c.cid < 1 ∨ ¬ (0 ≤ c.tab ∧ c.tab < x.tables.length) ∨ kindC c = 0 then (x, 1)
  else if eqB (rowD (tabI x c.tab) c.cid) ⟨c.oid, c.ocs⟩ = false then (x, 13)
  else if kindC c = 2 then (dropC x c, 0)
  else if kindC c = 1 ∧ 12 ≤ (tabI x c.tab).length then (x, 7)
  else (putC' x c, 0)
theorem apL_cons (x : StV) (c : ChV) (r : List ChV) : apL x (c :: r) = if (dnC x c).2 = 0 then apL (dnC x c).1 r else dnC x c := by
  rw [apL]
  unfold dnC
  by_cases h1 : c.cid < 1 ∨ ¬ (0 ≤ c.tab ∧ c.tab < x.tables.length) ∨ kindC c = 0
  · simp only [if_pos h1]; rfl
  simp only [if_neg h1]
  by_cases h2 : eqB (rowD (tabI x c.tab) c.cid) ⟨c.oid, c.ocs⟩ = false
  · simp only [if_pos h2]; rfl
  simp only [if_neg h2]
  by_cases h3 : kindC c = 2
  · simp only [if_pos h3]; rfl
  simp only [if_neg h3]
  by_cases h4 : kindC c = 1 ∧ 12 ≤ (tabI x c.tab).length
  · simp only [if_pos h4]; rfl
  simp only [if_neg h4]; rfl
theorem dn_P {x : StV} {c : ChV} (h : ApP x) (hc : iOK c.nid ∧ (dAtomSS c.ncs).le 1048576) : ApP (dnC x c).1 := by
  unfold dnC
  by_cases h1 : c.cid < 1 ∨ ¬ (0 ≤ c.tab ∧ c.tab < x.tables.length) ∨ kindC c = 0
  · simp only [if_pos h1]; exact h
  simp only [if_neg h1]
  by_cases h2 : eqB (rowD (tabI x c.tab) c.cid) ⟨c.oid, c.ocs⟩ = false
  · simp only [if_pos h2]; exact h
  simp only [if_neg h2]
  have hi : c.tab.toNat < x.tables.length := by omega
  have ht : tabI x c.tab = x.tables[c.tab.toNat] := by unfold tabI; rw [List.getD_eq_getElem?_getD, List.getElem?_eq_getElem hi]; rfl
  by_cases h3 : kindC c = 2
  · simp only [if_pos h3]; unfold dropC; rw [ht]; exact ap_dropP h hi _
  simp only [if_neg h3]
  by_cases h4 : kindC c = 1 ∧ 12 ≤ (tabI x c.tab).length
  · simp only [if_pos h4]; exact h
  simp only [if_neg h4]
  unfold putC'
  rw [ht]
  refine ap_putP h hi _ hc ?_
  by_cases h5 : kindC c = 1
  · rw [← ht]; exact .inr (by omega)
  · left
    have hk := kind_rng c
    have h6 : kindC c = 3 := by omega
    have hs := kind_three h6
    have he := eqB_iff.1 (by simpa using h2)
    rw [ht] at he
    obtain ⟨k, hk, -, hid⟩ := rowD_there (by omega) hs.1 he
    exact ⟨_, List.getElem_mem hk, by rw [hid]; exact hs.2.symm⟩
end Go.Proofs.Ytdhlndpobpdfmaa
