import Derived.Test.YtplkmffoldbinaaGreatZbm
import Derived.Test.YtplkmffoldbinaaGreatZbr
namespace Go.Proofs.YtplkmffoldbinaaGreat
open Go.RowKit
set_option linter.unusedSimpArgs false
noncomputable def rowM (t : Tb) : List (List At) → List MutV → Int × List (List At)
  | cs, [] => (0, cs)
  | cs, c :: l => if (mutP (t.cols.getD (placeC t.cols c.col).toNat clZ) (cs.getD (placeC t.cols c.col).toNat []) c).1 = 0 then rowM t (cs.set (placeC t.cols c.col).toNat (mutP (t.cols.getD (placeC t.cols c.col).toNat clZ) (cs.getD (placeC t.cols c.col).toNat []) c).2) l else ((mutP (t.cols.getD (placeC t.cols c.col).toNat clZ) (cs.getD (placeC t.cols c.col).toNat []) c).1, [])
theorem rowM_step {t : Tb} {cs : List (List At)} {list : List MutV} {m k : Nat} (hm : m < list.length) (hk : k < t.cols.length) (hl : cs.length = t.cols.length) (hp : placeC t.cols list[m].col = (k : Int)) (h0 : (mutP t.cols[k] (cs[k]'(by omega)) list[m]).1 = 0) : rowM t cs (list.drop m) = rowM t (cs.set k (mutP t.cols[k] (cs[k]'(by omega)) list[m]).2) (list.drop (m + 1)) := by
  rw [List.drop_eq_getElem_cons hm]
  conv => lhs; unfold rowM
  rw [hp, Int.toNat_natCast]
  have e1 : t.cols.getD k clZ = t.cols[k] := by rw [List.getD_eq_getElem?_getD, List.getElem?_eq_getElem hk]; rfl
  have e2 : cs.getD k [] = cs[k]'(by omega) := by rw [List.getD_eq_getElem?_getD, List.getElem?_eq_getElem (by omega)]; rfl
  rw [e1, e2, if_pos h0]
theorem rowM_stop {t : Tb} {cs : List (List At)} {list : List MutV} {m k : Nat} (hm : m < list.length) (hk : k < t.cols.length) (hl : cs.length = t.cols.length) (hp : placeC t.cols list[m].col = (k : Int)) (h0 : ¬ (mutP t.cols[k] (cs[k]'(by omega)) list[m]).1 = 0) : rowM t cs (list.drop m) = ((mutP t.cols[k] (cs[k]'(by omega)) list[m]).1, []) := by
  rw [List.drop_eq_getElem_cons hm]
  unfold rowM
  rw [hp, Int.toNat_natCast]
  have e1 : t.cols.getD k clZ = t.cols[k] := by rw [List.getD_eq_getElem?_getD, List.getElem?_eq_getElem hk]; rfl
  have e2 : cs.getD k [] = cs[k]'(by omega) := by rw [List.getD_eq_getElem?_getD, List.getElem?_eq_getElem (by omega)]; rfl
  rw [e1, e2, if_neg h0]
theorem mutC_place {t : Tb} {c : MutV} (h : mutC t c = 0) : ∃ k, ∃ hk : k < t.cols.length, placeC t.cols c.col = (k : Int) ∧ mutK t.cols[k].k c = 0 := by
  rcases place_cases t.cols c.col with hp | ⟨k, hk, hp⟩
  · rw [mut_none hp] at h; omega
  · exact ⟨k, hk, hp, (mut_at hk hp).symm.trans h⟩
theorem CanM.row {t : Tb} {cs : List (List At)} {c : MutV} {k : Nat} (hI : RowI t cs) (hk : k < t.cols.length) (hm : mutB c = true) (hc : mutK t.cols[k].k c = 0) : CanM t.cols[k] (cs[k]'(by have := hI.1; omega)) c := by
  obtain ⟨hl, hI⟩ := hI
  obtain ⟨h1, h2, h3⟩ := hI k hk
  unfold mutB inB at hm
  simp only [Bool.and_eq_true, decide_eq_true_eq] at hm
  have hkn : kindNo t.cols[k].k c.val = false := by
    cases e : kindNo t.cols[k].k c.val
    · rfl
    · rw [mutK_kind e] at hc; omega
  have hv := Dk.of (k := t.cols[k].k) hm.2.1 (fun h0 => by
    rw [kindNo_at h0] at hkn
    rw [at_getD h0]
    simpa using hkn)
  refine ⟨h1, h3, h2, hv.2, hv.1, hm.1, fun h5 => ?_⟩
  by_cases e1 : t.cols[k].k = 1
  · by_cases e2 : c.val.length = 1
    · exact ⟨e1, e2⟩
    · rw [mutK_no hkn h5 (.inr e2)] at hc; omega
  · rw [mutK_no hkn h5 (.inl e1)] at hc; omega
theorem RowI.set {t : Tb} {cs : List (List At)} {k : Nat} {o : List At} (hI : RowI t cs) (hk : k < t.cols.length) (hd : Dk t.cols[k].k o) (h8 : o.length ≤ 8) : RowI t (cs.set k o) := by
  obtain ⟨hl, hI⟩ := hI
  refine ⟨by rw [List.length_set]; exact hl, fun i hi => ?_⟩
  obtain ⟨h1, h2, h3⟩ := hI i hi
  by_cases e : i = k
  · subst e
    rw [set_at (by omega)]
    exact ⟨h1, hd, h8⟩
  · rw [set_other (by omega) e]
    exact ⟨h1, h2, h3⟩
end Go.Proofs.YtplkmffoldbinaaGreat
