import Derived.Test.YtkjfefjkelckiaaZbk
namespace Go.Proofs.Ytkjfefjkelckiaa
open Go.RowKit
set_option linter.unusedSimpArgs false
theorem RowAns.few {w : World} {x : RowV} {n : Int} {e : Ending} {w' : World} (h : RowAns w x n e w') : ∃ ra rc, e = .returned (.tuple #[.agg #[.int .i64 x.id, .slice ra x.cells.length rc], .int .i64 n]) ∧ Rd w' (· < w'.heap.size) (dAtomSS x.cells) (.slice ra x.cells.length rc) ∧ Below w.heap.size w w' := by
  obtain ⟨ra, rc, h1, h2, h3⟩ := h
  exact ⟨ra, rc, h1, h2.mono (fun _ h => h.2), h3⟩
theorem rowZ_leF : (∀ j, j < 2 → (dRow rowZ j).le maxLen) ∧ (dAtomSS rowZ.cells).sz ≤ 100000000 := by
  refine ⟨fun j hj => ?_, by show (dAtomSS []).sz ≤ _; simp [dAtomSS, Ls, D.sz, sumN]⟩
  rcases (by omega : j = 0 ∨ j = 1) with rfl | rfl
  · show iOK 0; unfold iOK; decide
  · exact Ls_le.2 ⟨by omega, by simp [rowZ], fun i hi => by simp [rowZ] at hi⟩
theorem iOK_dfN {c : Cl} (h1 : iOK c.lo) (h2 : iOK c.hi) : iOK (dfN c) := by
  have h0 : iOK 0 := by unfold iOK; decide
  unfold dfN
  split
  · rcases (by omega : max c.lo (min c.hi 0) = c.lo ∨ max c.lo (min c.hi 0) = c.hi ∨ max c.lo (min c.hi 0) = 0) with e | e | e <;> rw [e] <;> assumption
  · exact h0
theorem dfL_le {c : Cl} (hk : iOK c.k) (h1 : iOK c.lo) (h2 : iOK c.hi) : (dAtomS (dfL c)).le maxLen ∧ (dAtomS (dfL c)).sz ≤ 1 := by
  unfold dfL
  split
  · exact ⟨Ls_le.2 ⟨by omega, by simp, fun i hi => by simp at hi⟩, by simp [dAtomS, Ls, D.sz, sumN]⟩
  · refine ⟨Ls_le.2 ⟨by omega, by simp [maxLen], fun i hi j hj => ?_⟩, by simp [dAtomS, Ls, D.sz, sumN, lsF, dAtom]⟩
    obtain rfl : i = 0 := by simpa using hi
    rcases (by omega : j = 0 ∨ j = 1 ∨ j = 2) with rfl | rfl | rfl
    · exact hk
    · exact iOK_dfN h1 h2
    · show (0 : Nat) ≤ maxLen; omega
theorem fr_le {t : Tb} {id : Int} (h : (dColumnS t.cols).le maxLen) (hid : iOK id) : (∀ j, j < 2 → (dRow (frR t id) j).le maxLen) ∧ (dAtomSS (frR t id).cells).sz ≤ 100000000 := by
  unfold frR
  split
  · rename_i h0
    have h6 := (tab_of h0.1).len.2
    have hd : ∀ i (hi : i < (t.cols.map dfL).length), (dAtomS (t.cols.map dfL)[i]).le maxLen ∧ (dAtomS (t.cols.map dfL)[i]).sz ≤ 1 := fun i hi => by
      have hi' : i < t.cols.length := by simpa using hi
      rw [List.getElem_map]
      have hc := (Ls_le.1 h).2.2 i hi'
      exact dfL_le (hc 1 (by omega)) (hc 4 (by omega)) (hc 5 (by omega))
    refine ⟨fun j hj => ?_, ?_⟩
    · rcases (by omega : j = 0 ∨ j = 1) with rfl | rfl
      · exact hid
      · exact Ls_le.2 ⟨by omega, by rw [List.length_map]; unfold maxLen; omega, fun i hi j _ => (hd i hi).1⟩
    · show (t.cols.map dfL).length + szL 1 cAtomS (t.cols.map dfL) (t.cols.map dfL).length ≤ _
      have : szL 1 cAtomS (t.cols.map dfL) (t.cols.map dfL).length ≤ (t.cols.map dfL).length * 1 := by
        unfold szL
        have h1 := sumN_bound (g := fun i => szT 1 (lsF cAtomS (t.cols.map dfL) i)) (h := fun _ => 1 + 0 * 0) (n := (t.cols.map dfL).length) (fun i hi => by
          rw [lsF_at hi]
          have := (hd i hi).2
          simp only [szT, sumN, cAtomS, Nat.zero_add]
          omega)
        have h2 := sumN_lin 1 0 (fun _ => 0) (t.cols.map dfL).length
        omega
      rw [List.length_map] at *
      omega
  · exact rowZ_leF
end Go.Proofs.Ytkjfefjkelckiaa
