import Derived.Test.YtkjfefjkelckiaaGreatZbn
import Derived.Test.YtkjfefjkelckiaaGreatZbr
import Derived.Test.YtkjfefjkelckiaaGreatZbp
namespace Go.Proofs.YtkjfefjkelckiaaGreat
open Go.RowKit
set_option linter.unusedSimpArgs false
def RowI (t : Tb) (cs : List (List At)) : Prop := ∃ h : cs.length = t.cols.length, ∀ i (hi : i < t.cols.length), colB t.cols[i] = true ∧ Dk t.cols[i].k (cs[i]'(by omega)) ∧ (cs[i]'(by omega)).length ≤ 8
theorem rok_I {t : Tb} {r : RowV} (h : rokM t r = true) : RowI t r.cells := by
  unfold rokM at h
  simp only [Bool.and_eq_true] at h
  have hT : TabP t := by have := h.1; unfold tabB at this; exact @of_decide_eq_true _ (Classical.propDecidable _) this
  have hR : RowP t r.id r.cells := by have := h.2; unfold rowB at this; exact @of_decide_eq_true _ (Classical.propDecidable _) this
  refine ⟨hR.len, fun i hi => ?_⟩
  have hcol : colB t.cols[i] = true := (hT.cols i hi).1
  have hc := hR.fit i (by have := hR.len; omega) hi
  have hk := Dk.of hc.1 (fit_few hcol hc.2).2
  exact ⟨hcol, hk.1, hk.2⟩
theorem iOK_small {n : Int} (h : -9223372036854775808 ≤ n ∧ n ≤ 9223372036854775807) : iOK n := by
  show (decide (IntKind.i64.min ≤ n) && decide (n ≤ IntKind.i64.max)) = true
  rw [show IntKind.i64.min = -9223372036854775808 from by decide, show IntKind.i64.max = 9223372036854775807 from by decide, decide_eq_true h.1, decide_eq_true h.2]; rfl
theorem dk_le {k : Int} {L : List At} (hk : 1 ≤ k ∧ k ≤ 4) (h : Dk k L) (h8 : L.length ≤ 8) : (dAtomS L).le maxLen ∧ (dAtomS L).sz ≤ 2000 := by
  have ht : ∀ i (hi : i < L.length), L[i].t.length ≤ 200 := fun i hi => atOK_text (h.2 _ (List.getElem_mem hi)).2
  refine ⟨Ls_le.2 ⟨by omega, by unfold maxLen; omega, fun i hi j hj => ?_⟩, ?_⟩
  · have hx := h.2 _ (List.getElem_mem hi)
    rcases (by omega : j = 0 ∨ j = 1 ∨ j = 2) with rfl | rfl | rfl
    · exact iOK_small (by rw [hx.1]; omega)
    · refine iOK_small ?_
      have ho := hx.2
      rw [show L[i] = L[i] from rfl] at ho
      unfold atOK at ho
      unfold inB at ho
      split at ho
      · simp at ho; omega
      · split at ho
        · simp at ho; omega
        · split at ho
          · simp at ho; omega
          · split at ho
            · simp at ho; omega
            · cases ho
    · show L[i].t.length ≤ maxLen
      have := ht i hi
      unfold maxLen; omega
  · show L.length + szL 3 dAtom L L.length ≤ 2000
    have : szL 3 dAtom L L.length ≤ L.length * 200 := by
      unfold szL
      have h1 := sumN_bound (g := fun i => szT 3 (lsF dAtom L i)) (h := fun _ => 200 + 0 * 0) (n := L.length) (fun i hi => by
        rw [lsF_at hi]
        have := ht i hi
        simp [szT, sumN, dAtom, D.sz]
        omega)
      have h2 := sumN_lin 200 0 (fun _ => 0) L.length
      omega
    omega
theorem rowI_le {t : Tb} {cs : List (List At)} (h : RowI t cs) (h6 : t.cols.length ≤ 6) : (dAtomSS cs).le maxLen ∧ (dAtomSS cs).sz ≤ 100000 := by
  obtain ⟨hl, h⟩ := h
  have hd : ∀ i (hi : i < cs.length), (dAtomS cs[i]).le maxLen ∧ (dAtomS cs[i]).sz ≤ 2000 := fun i hi => by
    obtain ⟨h1, h2, h3⟩ := h i (by omega)
    exact dk_le (colB_kind h1) h2 h3
  refine ⟨Ls_le.2 ⟨by omega, by unfold maxLen; omega, fun i hi j _ => (hd i hi).1⟩, ?_⟩
  show cs.length + szL 1 cAtomS cs cs.length ≤ 100000
  have : szL 1 cAtomS cs cs.length ≤ cs.length * 2000 := by
    unfold szL
    have h1 := sumN_bound (g := fun i => szT 1 (lsF cAtomS cs i)) (h := fun _ => 2000 + 0 * 0) (n := cs.length) (fun i hi => by
      rw [lsF_at hi]
      have := (hd i hi).2
      simp [szT, sumN, cAtomS]
      exact this)
    have h2 := sumN_lin 2000 0 (fun _ => 0) cs.length
    omega
  omega
end Go.Proofs.YtkjfefjkelckiaaGreat
namespace Go.Proofs.YtkjfefjkelckiaaGreat
open Go.RowKit
set_option linter.unusedSimpArgs false
theorem rowW_I {t : Tb} : ∀ {list : List SetV} {cs : List (List At)}, RowI t cs → (∀ x ∈ list, setB x = true ∧ ∃ k, k < t.cols.length ∧ placeC t.cols x.col = (k : Int)) → (rowW t cs list).1 = 0 → RowI t (rowW t cs list).2
  | [], cs, hI, _, _ => hI
  | x :: l, cs, hI, hq, h0 => by
    obtain ⟨hs, k, hk, hp⟩ := hq x (by simp)
    have e1 : t.cols.getD k clZ = t.cols[k] := by rw [List.getD_eq_getElem?_getD, List.getElem?_eq_getElem hk]; rfl
    unfold rowW at h0 ⊢
    rw [hp, Int.toNat_natCast, e1] at h0 ⊢
    by_cases hz : fitC t.cols[k] x.val = 0
    · rw [if_pos hz] at h0 ⊢
      refine rowW_I ?_ (fun y hy => hq y (by simp [hy])) h0
      have hd : datumB x.val = true := by
        unfold setB at hs
        simp only [Bool.and_eq_true] at hs
        exact hs.2.1
      obtain ⟨hl, hI⟩ := hI
      have hc := (hI k hk).1
      have hf := fit_few hc hz
      have hdk := Dk.of hd hf.2
      refine ⟨by rw [List.length_set]; exact hl, fun i hi => ?_⟩
      by_cases e : i = k
      · subst e
        have hlt : i < cs.length := by omega
        have e3 : (cs.set i x.val)[i]'(by rw [List.length_set]; exact hlt) = x.val := List.getElem_set_self _
        rw [e3]
        exact ⟨hc, hdk.1, hf.1⟩
      · have e3 : (cs.set k x.val)[i]'(by rw [List.length_set]; omega) = cs[i]'(by omega) := List.getElem_set_ne (fun h => e h.symm) _
        rw [e3]
        exact hI i hi
    · rw [if_neg hz] at h0
      exact absurd h0 hz
theorem se_le {t : Tb} {r : RowV} {list : List SetV} (hid : iOK r.id) : (∀ j, j < 2 → (dRow (seR t r list) j).le maxLen) ∧ (dAtomSS (seR t r list).cells).sz ≤ 100000000 := by
  unfold seR
  split
  · rename_i h
    unfold rowWR
    split
    · rename_i h0
      have hI := rowW_I (rok_I h.2.1) (fun x hx => by
        obtain ⟨k, hk, rfl⟩ := List.mem_iff_getElem.1 hx
        exact ⟨(val_set ((vals_all h.2.2.1).2 k hk)).1, setK_place (setsC_all h.2.2.2 k hk)⟩) h0
      have h6 : t.cols.length ≤ 6 := by
        have := h.2.1
        unfold rokM at this
        simp only [Bool.and_eq_true] at this
        have hT : TabP t := by have := this.1; unfold tabB at this; exact @of_decide_eq_true _ (Classical.propDecidable _) this
        exact hT.len.2
      have hle := rowI_le hI h6
      refine ⟨fun j hj => ?_, by have := hle.2; show (dAtomSS (rowW t r.cells list).2).sz ≤ _; omega⟩
      rcases (by omega : j = 0 ∨ j = 1) with rfl | rfl
      · exact hid
      · exact hle.1
    · exact rowZ_le
  · exact rowZ_le
end Go.Proofs.YtkjfefjkelckiaaGreat
