import Derived.Test.YtnegmpdllbbnhaaZba
import Derived.Test.YtnegmpdllbbnhaaZbb
import Derived.Test.YtnegmpdllbbnhaaZbe
namespace Go.Proofs.Ytnegmpdllbbnhaa
open Go.RowKit
set_option linter.unusedSimpArgs false
def chU (u : UpV) : ChV := ⟨0, u.uid, u.oid, u.ocs, u.nid, u.ncs⟩
noncomputable def upL : List RowV → List UpV → List RowV × Int
  | l, [] => (l, 0)
  | l, u :: r => if (inC l 9223372036854775807 (chU u)).2 = 0 then upL (inC l 9223372036854775807 (chU u)).1 r else inC l 9223372036854775807 (chU u)
theorem upL_cons (l : List RowV) (u : UpV) (r : List UpV) : upL l (u :: r) = if (inC l 9223372036854775807 (chU u)).2 = 0 then upL (inC l 9223372036854775807 (chU u)).1 r else inC l 9223372036854775807 (chU u) := by rw [upL]
theorem up_go {l : List RowV} {u : UpV} {r : List UpV} {y : List RowV} (h : inC l 9223372036854775807 (chU u) = (y, 0)) : upL l (u :: r) = upL y r := by rw [upL_cons, h]; simp
theorem up_end {l : List RowV} {u : UpV} {r : List UpV} {y : List RowV} {n : Int} (h : inC l 9223372036854775807 (chU u) = (y, n)) (hn : n ≠ 0) : upL l (u :: r) = (y, n) := by rw [upL_cons, h]; simp [hn]
def UpP (l : List RowV) (K : Nat) : Prop := AscR l ∧ (∀ z ∈ l, iOK z.id ∧ (dAtomSS z.cells).le 1048576) ∧ l.length ≤ K
theorem UpP.le {l : List RowV} {K : Nat} (h : UpP l K) (hK : K ≤ 1048576) : (dRowS l).le 1048576 := rows_le (Nat.le_trans h.2.2 hK) h.2.1
theorem UpP.drop {l : List RowV} {K : Nat} (h : UpP l K) (k : Nat) : UpP (l.eraseIdx k) (K + 1) := ⟨asc_erase h.1 k, fun z hz => h.2.1 z (List.mem_of_mem_eraseIdx hz), Nat.le_trans (List.length_eraseIdx_le _ _) (Nat.le_succ_of_le h.2.2)⟩
theorem UpP.put {l : List RowV} {K : Nat} (h : UpP l K) {r : RowV} (hr : iOK r.id ∧ (dAtomSS r.cells).le 1048576) : UpP (putL l r) (K + 1) := ⟨asc_put h.1, fun z hz => by
  rcases mem_put hz with rfl | hz
  · exact hr
  · exact h.2.1 z hz, by have := len_put (r := r) l; have := h.2.2; omega⟩
theorem UpP.mono {l : List RowV} {K K' : Nat} (h : UpP l K) (hK : K ≤ K') : UpP l K' := ⟨h.1, h.2.1, Nat.le_trans h.2.2 hK⟩
theorem UpP.go {l : List RowV} {K : Nat} (h : UpP l K) {u : UpV} (hu : iOK u.nid ∧ (dAtomSS u.ncs).le 1048576) (m : Int) : UpP (inC l m (chU u)).1 (K + 1) := by
  unfold inC
  split
  · exact h.mono (Nat.le_succ _)
  split
  · exact h.mono (Nat.le_succ _)
  split
  · exact h.drop _
  split
  · exact h.mono (Nat.le_succ _)
  · exact h.put hu
theorem up_kindd {u : UpV} (h1 : 1 ≤ u.uid) (h0 : kindC (chU u) ≠ 0) : (u.nid = 0 → kindC (chU u) = 2) ∧ (u.nid ≠ 0 → kindC (chU u) ≠ 2) := by
  have e1 : ∀ b : Bool, (u.nid = 0 → (u.nid == u.uid) = false) := fun _ h => by simp; omega
  refine ⟨fun h => ?_, fun h => ?_⟩
  · unfold kindC chU at h0 ⊢
    simp only at h0 ⊢
    have a : (u.nid == u.uid) = false := by simp; omega
    have b : (u.nid == 0) = true := by simpa using h
    simp only [a, b, Bool.and_false, Bool.false_eq_true, if_false, Bool.true_and] at h0 ⊢
    cases hb : (u.oid == u.uid)
    · simp [hb] at h0
    · simp
  · unfold kindC chU
    simp only
    have b : (u.nid == 0) = false := by simpa using h
    simp only [b, Bool.false_and, Bool.false_eq_true, if_false]
    split
    · omega
    split <;> omega
noncomputable def upR (l : List RowV) (us : List UpV) : List RowV × Int := if 4096 < l.length ∨ 4096 < us.length then ([], 2) else if @decide (riseIds l) (Classical.propDecidable _) = true then upL l us else ([], 1)
theorem upR_long {l : List RowV} {us : List UpV} (h : 4096 < l.length ∨ 4096 < us.length) : upR l us = ([], 2) := by unfold upR; rw [if_pos h]
theorem upR_bad {l : List RowV} {us : List UpV} (h : ¬ 4096 < l.length) (h' : ¬ 4096 < us.length) (hr : ¬ riseIds l) : upR l us = ([], 1) := by unfold upR; rw [if_neg (by omega), if_neg (by simp [hr])]
theorem upR_ok {l : List RowV} {us : List UpV} (h : ¬ 4096 < l.length) (h' : ¬ 4096 < us.length) (hr : riseIds l) : upR l us = upL l us := by unfold upR; rw [if_neg (by omega), if_pos (by simp [hr])]
end Go.Proofs.Ytnegmpdllbbnhaa
