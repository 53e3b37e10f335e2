import Derived.Test.YtpigpidfpafcgaaZbm
import Derived.Test.YtpigpidfpafcgaaZbc
import Derived.ArgAppend
import Derived.Deep.RegionLaw
import Derived.Deep.RegionHeld3
import Derived.Test.YtpigpidfpafcgaaZbd
import Derived.Test.YtpigpidfpafcgaaZbt
import Derived.Test.YtpigpidfpafcgaaZba
import Derived.Test.YtpigpidfpafcgaaZac
import Derived.Test.YtpigpidfpafcgaaZay
import Derived.Test.YtpigpidfpafcgaaZaf
import Derived.Test.YtpigpidfpafcgaaZax
import Derived.Test.YtpigpidfpafcgaaZag
import Derived.Test.YtpigpidfpafcgaaZbr
import Derived.Test.YtpigpidfpafcgaaZai
namespace Go.Proofs.Ytpigpidfpafcgaa
open Go.RowKit
set_option linter.unusedSimpArgs false
theorem set_at {α : Type} {l : List α} {k : Nat} {o : α} (h : k < l.length) : (l.set k o)[k]'(by simpa using h) = o := List.getElem_set_self _
theorem set_other {α : Type} {l : List α} {k i : Nat} {o : α} (h : i < l.length) (hn : i ≠ k) : (l.set k o)[i]'(by simpa using h) = l[i] := List.getElem_set_ne (fun e => hn e.symm) _
theorem OwnAts.own {w : World} {B : Nat → Prop} {a : Option Addr} {l : List At} (h : OwnAts w B a l) (c : Nat) : Own w (dAtomS l) B (.slice a l.length c) := by
  refine ⟨a, c, rfl, ?_⟩
  rcases h with h | ⟨b, off, ha, hb, hc⟩
  · exact .inl h
  refine .inr ⟨b, off, fun _ _ _ => False, ha, hb, by omega, fun _ _ _ h => h.elim, fun _ _ _ _ _ h => h.elim, fun i j hi hj => ?_⟩
  obtain ⟨h1, h2⟩ := hc (i * 3 + j) (by omega)
  rw [← Nat.add_assoc] at h1 h2
  refine ⟨_, h1, h2, ?_⟩
  rw [lsF_at hi]
  rcases (by omega : j = 0 ∨ j = 1 ∨ j = 2) with rfl | rfl | rfl
  · rw [Nat.add_zero, atF0 hi]; rfl
  · rw [atF1 hi]; rfl
  · rw [atF2 hi]; rfl
def RowI (t : Tb) (cs : List (List At)) : Prop := ∃ h : cs.length = t.cols.length, ∀ i (hi : i < t.cols.length), colB t.cols[i] = true ∧ Dk t.cols[i].k (cs[i]'(by omega)) ∧ (cs[i]'(by omega)).length ≤ 8
theorem CanM.row {t : Tb} {cs : List (List At)} {c : MutV} {k : Nat} (hI : RowI t cs) (hk : k < t.cols.length) (hm : mutB c = true) (hc : mutK t.cols[k].k c = 0) : CanM t.cols[k] (cs[k]'(by have := hI.1; omega)) c := by
  obtain ⟨hl, hI⟩ := hI
  obtain ⟨h1, h2, h3⟩ := hI k hk
  unfold mutB inB at hm
  simp only [Bool.and_eq_true, decide_eq_true_eq] at hm
  have hkn : kindNo t.cols[k].k c.val = false := by
    cases e : kindNo t.cols[k].k c.val
    · rfl
    · rw [mutK_kind e] at hc; omega
  have hv := Dk.of (k := t.cols[k].k) hm.2.1 (fun h0 => by
    rw [kindNo_at h0] at hkn
    rw [at_getD h0]
    simpa using hkn)
  refine ⟨h1, h3, h2, hv.2, hv.1, hm.1, fun h5 => ?_⟩
  by_cases e1 : t.cols[k].k = 1
  · by_cases e2 : c.val.length = 1
    · exact ⟨e1, e2⟩
    · rw [mutK_no hkn h5 (.inr e2)] at hc; omega
  · rw [mutK_no hkn h5 (.inl e1)] at hc; omega
theorem RowI.set {t : Tb} {cs : List (List At)} {k : Nat} {o : List At} (hI : RowI t cs) (hk : k < t.cols.length) (hd : Dk t.cols[k].k o) (h8 : o.length ≤ 8) : RowI t (cs.set k o) := by
  obtain ⟨hl, hI⟩ := hI
  refine ⟨by rw [List.length_set]; exact hl, fun i hi => ?_⟩
  obtain ⟨h1, h2, h3⟩ := hI i hi
  by_cases e : i = k
  · subst e
    rw [set_at (by omega)]
    exact ⟨h1, hd, h8⟩
  · rw [set_other (by omega) e]
    exact ⟨h1, h2, h3⟩
end Go.Proofs.Ytpigpidfpafcgaa
namespace Go.Proofs.Ytpigpidfpafcgaa
open Go.RowKit
set_option linter.unusedSimpArgs false
theorem iOK_small {n : Int} (h : -9223372036854775808 ≤ n ∧ n ≤ 9223372036854775807) : iOK n := by
  show (decide (IntKind.i64.min ≤ n) && decide (n ≤ IntKind.i64.max)) = true
  rw [show IntKind.i64.min = -9223372036854775808 from by decide, show IntKind.i64.max = 9223372036854775807 from by decide, decide_eq_true h.1, decide_eq_true h.2]; rfl
theorem dk_le {k : Int} {L : List At} (hk : 1 ≤ k ∧ k ≤ 4) (h : Dk k L) (h8 : L.length ≤ 8) : (dAtomS L).le maxLen ∧ (dAtomS L).sz ≤ 2000 := by
  have ht : ∀ i (hi : i < L.length), L[i].t.length ≤ 200 := fun i hi => atOK_text (h.2 _ (List.getElem_mem hi)).2
  refine ⟨Ls_le.2 ⟨by omega, by unfold maxLen; omega, fun i hi j hj => ?_⟩, ?_⟩
  · have hx := h.2 _ (List.getElem_mem hi)
    rcases (by omega : j = 0 ∨ j = 1 ∨ j = 2) with rfl | rfl | rfl
    · exact iOK_small (by rw [hx.1]; omega)
    · refine iOK_small ?_
      have ho := hx.2
      rw [show L[i] = L[i] from rfl] at ho
      unfold atOK at ho
      unfold inB at ho
      split at ho
      · simp at ho; omega
      · split at ho
        · simp at ho; omega
        · split at ho
          · simp at ho; omega
          · split at ho
            · simp at ho; omega
            · cases ho
    · show L[i].t.length ≤ maxLen
      have := ht i hi
      unfold maxLen; omega
  · show L.length + szL 3 dAtom L L.length ≤ 2000
    have : szL 3 dAtom L L.length ≤ L.length * 200 := by
      unfold szL
      have h1 := sumN_bound (g := fun i => szT 3 (lsF dAtom L i)) (h := fun _ => 200 + 0 * 0) (n := L.length) (fun i hi => by
        rw [lsF_at hi]
        have := ht i hi
        simp [szT, sumN, dAtom, D.sz]
        omega)
      have h2 := sumN_lin 200 0 (fun _ => 0) L.length
      omega
    omega
end Go.Proofs.Ytpigpidfpafcgaa
