import Derived.Test.YtponpcbedcihaaaGreatZbu
namespace Go.Proofs.YtponpcbedcihaaaGreat
open Go.RowKit
set_option linter.unusedSimpArgs false
theorem iOK_small {n : Int} (h : -9223372036854775808 ≤ n ∧ n ≤ 9223372036854775807) : iOK n := by
  show (decide (IntKind.i64.min ≤ n) && decide (n ≤ IntKind.i64.max)) = true
  rw [show IntKind.i64.min = -9223372036854775808 from by decide, show IntKind.i64.max = 9223372036854775807 from by decide, decide_eq_true h.1, decide_eq_true h.2]; rfl
theorem rowM_I {t : Tb} : ∀ {list : List MutV} {cs : List (List At)}, RowI t cs → (∀ k (h : k < list.length), mutB list[k] = true ∧ mutC t list[k] = 0) → (rowM t cs list).1 = 0 → RowI t (rowM t cs list).2
  | [], cs, hI, _, _ => hI
  | c :: l, cs, hI, hq, h0 => by
    have h1 : mutB c = true ∧ mutC t c = 0 := hq 0 (by simp)
    obtain ⟨k, hk, hp, hm⟩ := mutC_place h1.2
    have hkc : k < cs.length := by have := hI.1; omega
    have hC := CanM.row hI hk h1.1 hm
    have e1 : t.cols.getD k clZ = t.cols[k] := by rw [List.getD_eq_getElem?_getD, List.getElem?_eq_getElem hk]; rfl
    have e2 : cs.getD k [] = cs[k] := by rw [List.getD_eq_getElem?_getD, List.getElem?_eq_getElem hkc]; rfl
    unfold rowM at h0 ⊢
    rw [hp, Int.toNat_natCast, e1, e2] at h0 ⊢
    by_cases hz : (mutP t.cols[k] cs[k] c).1 = 0
    · rw [if_pos hz] at h0 ⊢
      exact rowM_I (hI.set hk (mutP_ok hC hz).1 (mutP_ok hC hz).2.1) (fun k h => by have := hq (k + 1) (by simpa using h); simpa using this) h0
    · rw [if_neg hz] at h0
      exact absurd h0 hz
theorem dk_le {k : Int} {L : List At} (hk : 1 ≤ k ∧ k ≤ 4) (h : Dk k L) (h8 : L.length ≤ 8) : (dAtomS L).le maxLen ∧ (dAtomS L).sz ≤ 2000 := by
  have ht : ∀ i (hi : i < L.length), L[i].t.length ≤ 200 := fun i hi => atOK_text (h.2 _ (List.getElem_mem hi)).2
  refine ⟨Ls_le.2 ⟨by omega, by unfold maxLen; omega, fun i hi j hj => ?_⟩, ?_⟩
  · have hx := h.2 _ (List.getElem_mem hi)
    rcases (by omega : j = 0 ∨ j = 1 ∨ j = 2) with rfl | rfl | rfl
    · exact iOK_small (by rw [hx.1]; omega)
    · refine iOK_small ?_
      have ho := hx.2
      rw [show L[i] = L[i] from rfl] at ho
      unfold atOK at ho
      unfold inB at ho
      split at ho
      · simp at ho; omega
      · split at ho
        · simp at ho; omega
        · split at ho
          · simp at ho; omega
          · split at ho
            · simp at ho; omega
            · cases ho
    · show L[i].t.length ≤ maxLen
      have := ht i hi
      unfold maxLen; omega
  · show L.length + szL 3 dAtom L L.length ≤ 2000
    have : szL 3 dAtom L L.length ≤ L.length * 200 := by
      unfold szL
      have h1 := sumN_bound (g := fun i => szT 3 (lsF dAtom L i)) (h := fun _ => 200 + 0 * 0) (n := L.length) (fun i hi => by
        rw [lsF_at hi]
        have := ht i hi
        simp [szT, sumN, dAtom, D.sz]
        omega)
      have h2 := sumN_lin 200 0 (fun _ => 0) L.length
      omega
    omega
theorem rowI_le {t : Tb} {cs : List (List At)} (h : RowI t cs) (h6 : t.cols.length ≤ 6) : (dAtomSS cs).le maxLen ∧ (dAtomSS cs).sz ≤ 100000 := by
  obtain ⟨hl, h⟩ := h
  have hd : ∀ i (hi : i < cs.length), (dAtomS cs[i]).le maxLen ∧ (dAtomS cs[i]).sz ≤ 2000 := fun i hi => by
    obtain ⟨h1, h2, h3⟩ := h i (by omega)
    exact dk_le (colB_kind h1) h2 h3
  refine ⟨Ls_le.2 ⟨by omega, by unfold maxLen; omega, fun i hi j _ => (hd i hi).1⟩, ?_⟩
  show cs.length + szL 1 cAtomS cs cs.length ≤ 100000
  have : szL 1 cAtomS cs cs.length ≤ cs.length * 2000 := by
    unfold szL
    have h1 := sumN_bound (g := fun i => szT 1 (lsF cAtomS cs i)) (h := fun _ => 2000 + 0 * 0) (n := cs.length) (fun i hi => by
      rw [lsF_at hi]
      have := (hd i hi).2
      simp [szT, sumN, cAtomS]
      exact this)
    have h2 := sumN_lin 2000 0 (fun _ => 0) cs.length
    omega
  omega
theorem mr_le {t : Tb} {r : RowV} {list : List MutV} (hid : iOK r.id) : (∀ j, j < 2 → (dRow (mrR t r list) j).le maxLen) ∧ (dAtomSS (mrR t r list).cells).sz ≤ 100000000 := by
  unfold mrR
  split
  · rename_i h
    unfold rowR
    split
    · rename_i h0
      have hI := rowM_I (rok_I h.2.1) (muts_each h.2.2.1 h.2.2.2) h0
      have h6 : t.cols.length ≤ 6 := by
        have := h.2.1
        unfold rokM at this
        simp only [Bool.and_eq_true] at this
        have hT : TabP t := by have := this.1; unfold tabB at this; exact @of_decide_eq_true _ (Classical.propDecidable _) this
        exact hT.len.2
      have hle := rowI_le hI h6
      refine ⟨fun j hj => ?_, by have := hle.2; show (dAtomSS (rowM t r.cells list).2).sz ≤ _; omega⟩
      rcases (by omega : j = 0 ∨ j = 1) with rfl | rfl
      · exact hid
      · exact hle.1
    · exact rowZ_le
  · exact rowZ_le
end Go.Proofs.YtponpcbedcihaaaGreat
