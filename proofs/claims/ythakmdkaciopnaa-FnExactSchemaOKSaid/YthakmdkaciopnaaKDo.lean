import Derived.Test.YthakmdkaciopnaaKDt
import Derived.Deep.RegionHeld3
namespace Go.Proofs.Ythakmdkaciopnaa
open Go.RowKit
set_option linter.unusedSimpArgs false
def stepB (l : List At) (i : Nat) : Bool := atOK (l.getD i atZ) && (((l.getD i atZ).k == (l.getD 0 atZ).k) && (decide (i = 0) || decide (cmpA (l.getD (i - 1) atZ) (l.getD i atZ) < 0)))
/-- when a set is right -/
def datumB (l : List At) : Bool := decide (l.length ≤ 8) && (List.range l.length).all (stepB l)
theorem datumB_no {l : List At} {i : Nat} (hi : i < l.length) (h : stepB l i = false) : datumB l = false := by
  unfold datumB
  rw [Bool.and_eq_false_iff]
  right
  rw [List.all_eq_false]
  exact ⟨i, List.mem_range.2 hi, by simp [h]⟩
theorem datumB_yes {l : List At} (h : ∀ i, i < l.length → stepB l i = true) : datumB l = decide (l.length ≤ 8) := by
  unfold datumB
  rw [List.all_eq_true.2 (fun i hi => h i (List.mem_range.1 hi)), Bool.and_true]
theorem datumB_long {l : List At} (h : 8 < l.length) : datumB l = false := by
  unfold datumB
  simp; omega
theorem Ats.three {w : World} {B : Nat → Prop} {b off : Nat} {l : List At} (h : Ats w B (some ⟨b, off, none⟩) l) (k : Nat) (hk : k < l.length) :
    w.cell? ⟨b, off + k * 3, none⟩ = some (.int .i64 l[k].k) ∧ w.cell? ⟨b, off + k * 3 + 1, none⟩ = some (.int .i64 l[k].n) ∧ w.cell? ⟨b, off + k * 3 + 2, none⟩ = some (.string ⟨l[k].t.toArray⟩) := by
  obtain ⟨b', off', e, -, h0, h1, h2⟩ := h.item k hk
  injection e with e
  injection e with e1 e2
  subst e1 e2
  exact ⟨h0, h1, h2⟩
theorem step_ok {l : List At} {i : Nat} (hi : i < l.length) (h : atOK l[i] = false) : stepB l i = false := by unfold stepB; rw [at_getD hi, h]; rfl
theorem step_kind {l : List At} {i : Nat} (hi : i < l.length) (h : ¬ l[i].k = (l[0]'(by omega)).k) : stepB l i = false := by
  unfold stepB; rw [at_getD hi, at_getD (show 0 < l.length by omega)]; simp [h]
theorem step_zero {l : List At} (hi : 0 < l.length) (h : atOK l[0] = true) : stepB l 0 = true := by unfold stepB; rw [at_getD hi, h]; simp
theorem step_up {l : List At} {m : Nat} (hi : m + 1 < l.length) (h : atOK l[m + 1] = true) (hk : l[m + 1].k = (l[0]'(by omega)).k) : stepB l (m + 1) = decide (cmpA (l[m]'(by omega)) l[m + 1] < 0) := by
  unfold stepB; rw [at_getD hi, h, at_getD (show 0 < l.length by omega), Nat.add_sub_cancel, at_getD (show m < l.length by omega), hk]; simp
end Go.Proofs.Ythakmdkaciopnaa
