import Derived.Test.YtkjfefjkelckiaaYbi
import Derived.Test.YtkjfefjkelckiaaYbs
import Derived.Test.YtkjfefjkelckiaaYbo
import Derived.Test.YtkjfefjkelckiaaYbp
namespace Go.Proofs.Ytkjfefjkelckiaa
open Go.RowKit
set_option linter.unusedSimpArgs false
def RowI (t : Tb) (cs : List (List At)) : Prop := ∃ h : cs.length = t.cols.length, ∀ i (hi : i < t.cols.length), colB t.cols[i] = true ∧ Dk t.cols[i].k (cs[i]'(by omega)) ∧ (cs[i]'(by omega)).length ≤ 8
theorem rok_I {t : Tb} {r : RowV} (h : rokM t r = true) : RowI t r.cells := by
  unfold rokM at h
  simp only [Bool.and_eq_true] at h
  have hT : TabP t := by have := h.1; unfold tabB at this; exact @of_decide_eq_true _ (Classical.propDecidable _) this
  have hR : RowP t r.id r.cells := by have := h.2; unfold rowB at this; exact @of_decide_eq_true _ (Classical.propDecidable _) this
  refine ⟨hR.len, fun i hi => ?_⟩
  have hcol : colB t.cols[i] = true := (hT.cols i hi).1
  have hc := hR.fit i (by have := hR.len; omega) hi
  have hk := Dk.of hc.1 (fit_few hcol hc.2).2
  exact ⟨hcol, hk.1, hk.2⟩
theorem iOK_small {n : Int} (h : -9223372036854775808 ≤ n ∧ n ≤ 9223372036854775807) : iOK n := by
  show (decide (IntKind.i64.min ≤ n) && decide (n ≤ IntKind.i64.max)) = true
  rw [show IntKind.i64.min = -9223372036854775808 from by decide, show IntKind.i64.max = 9223372036854775807 from by decide, decide_eq_true h.1, decide_eq_true h.2]; rfl
theorem dk_le {k : Int} {L : List At} (hk : 1 ≤ k ∧ k ≤ 4) (h : Dk k L) (h8 : L.length ≤ 8) : (dAtomS L).le maxLen ∧ (dAtomS L).sz ≤ 2000 := by
  have ht : ∀ i (hi : i < L.length), L[i].t.length ≤ 200 := fun i hi => atOK_text (h.2 _ (List.getElem_mem hi)).2
  refine ⟨Ls_le.2 ⟨by omega, by unfold maxLen; omega, fun i hi j hj => ?_⟩, ?_⟩
  · have hx := h.2 _ (List.getElem_mem hi)
    rcases (by omega : j = 0 ∨ j = 1 ∨ j = 2) with rfl | rfl | rfl
    · exact iOK_small (by rw [hx.1]; omega)
    · refine iOK_small ?_
      have ho := hx.2
      rw [show L[i] = L[i] from rfl] at ho
      unfold atOK at ho
      unfold inB at ho
      split at ho
      · simp at ho; omega
      · split at ho
        · simp at ho; omega
        · split at ho
          · simp at ho; omega
          · split at ho
            · simp at ho; omega
            · cases ho
    · show L[i].t.length ≤ maxLen
      have := ht i hi
      unfold maxLen; omega
  · show L.length + szL 3 dAtom L L.length ≤ 2000
    have : szL 3 dAtom L L.length ≤ L.length * 200 := by
      unfold szL
      have h1 := sumN_bound (g := fun i => szT 3 (lsF dAtom L i)) (h := fun _ => 200 + 0 * 0) (n := L.length) (fun i hi => by
        rw [lsF_at hi]
        have := ht i hi
        simp [szT, sumN, dAtom, D.sz]
        omega)
      have h2 := sumN_lin 200 0 (fun _ => 0) L.length
      omega
    omega
end Go.Proofs.Ytkjfefjkelckiaa
namespace Go.Proofs.Ytkjfefjkelckiaa
open Go.RowKit
set_option linter.unusedSimpArgs false
theorem cell_small {t : Tb} {r : RowV} {s : List UInt8} (h : rokM t r = true) (hid : iOK r.id) : (dAtomS (cellOf t r s)).le maxLen ∧ (dAtomS (cellOf t r s)).sz ≤ 2000 := by
  obtain ⟨hl, hI⟩ := rok_I h
  rcases place_cases t.cols s with hp | ⟨k, hk, hp⟩
  · rw [cell_id hp]
    refine ⟨Ls_le.2 ⟨by omega, by simp [maxLen], fun i hi j hj => ?_⟩, by simp [dAtomS, Ls, D.sz, sumN, lsF, dAtom]⟩
    obtain rfl : i = 0 := by simpa using hi
    rcases (by omega : j = 0 ∨ j = 1 ∨ j = 2) with rfl | rfl | rfl
    · show iOK 4; unfold iOK; decide
    · exact hid
    · show (0 : Nat) ≤ maxLen; omega
  · rw [cell_col (by omega) hp]
    obtain ⟨h1, h2, h3⟩ := hI k hk
    exact dk_le (colB_kind h1) h2 h3
theorem pk_le {t : Tb} {r : RowV} {l : List (List UInt8)} (hid : iOK r.id) : (∀ j, j < 2 → (dRow (pkR t r l) j).le maxLen) ∧ (dAtomSS (pkR t r l).cells).sz ≤ 100000000 := by
  unfold pkR
  split
  · rename_i h
    have hd : ∀ i (hi : i < (l.map (cellOf t r)).length), (dAtomS (l.map (cellOf t r))[i]).le maxLen ∧ (dAtomS (l.map (cellOf t r))[i]).sz ≤ 2000 := fun i hi => by
      rw [List.getElem_map]
      exact cell_small h.2.1 hid
    refine ⟨fun j hj => ?_, ?_⟩
    · rcases (by omega : j = 0 ∨ j = 1) with rfl | rfl
      · exact hid
      · exact Ls_le.2 ⟨by omega, by rw [List.length_map]; unfold maxLen; omega, fun i hi j _ => (hd i hi).1⟩
    · show (l.map (cellOf t r)).length + szL 1 cAtomS (l.map (cellOf t r)) (l.map (cellOf t r)).length ≤ _
      have : szL 1 cAtomS (l.map (cellOf t r)) (l.map (cellOf t r)).length ≤ (l.map (cellOf t r)).length * 2000 := by
        unfold szL
        have h1 := sumN_bound (g := fun i => szT 1 (lsF cAtomS (l.map (cellOf t r)) i)) (h := fun _ => 2000 + 0 * 0) (n := (l.map (cellOf t r)).length) (fun i hi => by
          rw [lsF_at hi]
          have := (hd i hi).2
          simp only [szT, sumN, cAtomS, Nat.zero_add]
          omega)
        have h2 := sumN_lin 2000 0 (fun _ => 0) (l.map (cellOf t r)).length
        omega
      rw [List.length_map] at *
      omega
  · exact rowZ_le
end Go.Proofs.Ytkjfefjkelckiaa
