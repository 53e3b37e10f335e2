import Derived.Test.YtnegmpdllbbnhaaZbk
import Derived.Test.YtnegmpdllbbnhaaZbl
import Derived.Test.YtnegmpdllbbnhaaZbm
namespace Go.Proofs.Ytnegmpdllbbnhaa
open Go.RowKit
set_option linter.unusedSimpArgs false
theorem own_one {W : World} {l : List (List At)} {X : Nat → Prop} {v : Value} (h : Own W (dAtomSS l) X v) : v.oneCell' = true := by
  obtain ⟨a, c, rfl, -⟩ := h; rfl
theorem TabW.one {W : World} {T : Tab3} (h : TabW W T) : ∀ u ∈ cs3 T.ts, u.oneCell' = true := fun u hu => by
  unfold cs3 at hu
  rw [List.mem_flatMap] at hu
  obtain ⟨t, ht, hu⟩ := hu
  rcases List.mem_cons.1 hu with rfl | hu
  · rfl
  · rcases List.mem_cons.1 hu with rfl | hu
    · exact own_one (h.ow t ht).1
    · cases hu
theorem take_set2 {cs cur : List Value} {k len : Nat} {a b : Value} (hk : k < len) (hc : len * 2 ≤ cur.length) (h : cur.take (len * 2) = cs) : ((cur.set (k * 2) a).set (k * 2 + 1) b).take (len * 2) = cs.take (k * 2) ++ [a, b] ++ cs.drop ((k + 1) * 2) := by
  have hl : cs.length = len * 2 := by rw [← h, List.length_take]; omega
  have hT : (cs.take (k * 2)).length = k * 2 := by rw [List.length_take]; omega
  have hT2 : (cs.take (k * 2) ++ [a, b]).length = (k + 1) * 2 := by rw [List.length_append, hT]; simp; omega
  refine List.ext_getElem? (fun j => ?_)
  by_cases hj : j < len * 2
  · rcases (by omega : j < k * 2 ∨ j = k * 2 ∨ j = k * 2 + 1 ∨ (k + 1) * 2 ≤ j) with e | e | e | e
    · rw [List.getElem?_take_of_lt hj, List.getElem?_set_ne (by omega), List.getElem?_set_ne (by omega), List.append_assoc, List.getElem?_append_left (by omega), List.getElem?_take_of_lt e, ← h, List.getElem?_take_of_lt hj]
    · subst e
      rw [List.getElem?_take_of_lt hj, List.getElem?_set_ne (by omega), List.getElem?_set_self (by omega), List.append_assoc, List.getElem?_append_right (by omega), hT, Nat.sub_self]; rfl
    · subst e
      rw [List.getElem?_take_of_lt hj, List.getElem?_set_self (by rw [List.length_set]; omega), List.append_assoc, List.getElem?_append_right (by omega), hT, show k * 2 + 1 - k * 2 = 1 by omega]; rfl
    · rw [List.getElem?_take_of_lt hj, List.getElem?_set_ne (by omega), List.getElem?_set_ne (by omega), List.getElem?_append_right (by omega), hT2, List.getElem?_drop, show (k + 1) * 2 + (j - (k + 1) * 2) = j by omega, ← h, List.getElem?_take_of_lt hj]
  · rw [List.getElem?_eq_none (by rw [List.length_take]; omega), List.getElem?_eq_none (by rw [List.length_append, hT2, List.length_drop]; omega)]
end Go.Proofs.Ytnegmpdllbbnhaa
