import Derived.Test.YtdhlndpobpdfmaaZbj
import Derived.Handy
namespace Go.Proofs.Ytdhlndpobpdfmaa
open Go.RowKit
set_option linter.unusedSimpArgs false
theorem dn_bad {x : StV} {c : ChV} (h : c.cid < 1 ∨ ¬ (0 ≤ c.tab ∧ c.tab < x.tables.length) ∨ kindC c = 0) : dnC x c = (x, 1) := by unfold dnC; rw [if_pos h]
theorem dn_ref {x : StV} {c : ChV} (h : ¬ (c.cid < 1 ∨ ¬ (0 ≤ c.tab ∧ c.tab < x.tables.length) ∨ kindC c = 0)) (h2 : eqB (rowD (tabI x c.tab) c.cid) ⟨c.oid, c.ocs⟩ = false) : dnC x c = (x, 13) := by unfold dnC; rw [if_neg h, if_pos h2]
theorem dn_drop {x : StV} {c : ChV} (h : ¬ (c.cid < 1 ∨ ¬ (0 ≤ c.tab ∧ c.tab < x.tables.length) ∨ kindC c = 0)) (h2 : eqB (rowD (tabI x c.tab) c.cid) ⟨c.oid, c.ocs⟩ = true) (h3 : kindC c = 2) : dnC x c = (dropC x c, 0) := by unfold dnC; rw [if_neg h, if_neg (by simp [h2]), if_pos h3]
theorem dn_full {x : StV} {c : ChV} (h : ¬ (c.cid < 1 ∨ ¬ (0 ≤ c.tab ∧ c.tab < x.tables.length) ∨ kindC c = 0)) (h2 : eqB (rowD (tabI x c.tab) c.cid) ⟨c.oid, c.ocs⟩ = true) (h3 : kindC c = 1) (h4 : 12 ≤ (tabI x c.tab).length) : dnC x c = (x, 7) := by unfold dnC; rw [if_neg h, if_neg (by simp [h2]), if_neg (by omega), if_pos ⟨h3, h4⟩]
theorem dn_put {x : StV} {c : ChV} (h : ¬ (c.cid < 1 ∨ ¬ (0 ≤ c.tab ∧ c.tab < x.tables.length) ∨ kindC c = 0)) (h2 : eqB (rowD (tabI x c.tab) c.cid) ⟨c.oid, c.ocs⟩ = true) (h3 : kindC c ≠ 2) (h4 : ¬ (kindC c = 1 ∧ 12 ≤ (tabI x c.tab).length)) : dnC x c = (putC' x c, 0) := by unfold dnC; rw [if_neg h, if_neg (by simp [h2]), if_neg h3, if_neg h4]
theorem kind_there {t cid oid nid : Int} {ocs ncs : List (List At)} (hc : 1 ≤ cid) (ho : oid = cid) (h0 : kindC ⟨t, cid, oid, ocs, nid, ncs⟩ ≠ 0) : kindC ⟨t, cid, oid, ocs, nid, ncs⟩ = 2 ∨ (kindC ⟨t, cid, oid, ocs, nid, ncs⟩ = 3 ∧ nid = cid) := by
  unfold kindC at h0 ⊢
  simp only at h0 ⊢
  have e0 : (oid == 0) = false := by simp; omega
  have e1 : (oid == cid) = true := by simpa using ho
  simp only [e0, e1, Bool.false_and, Bool.and_true, Bool.true_and, Bool.false_eq_true, if_false] at h0 ⊢
  cases h2 : (nid == 0)
  · cases h3 : (nid == cid)
    · simp [h2, h3] at h0
    · have e : nid = cid := by simpa using h3
      right; simp [h2, h3, e]
  · left; simp [h2]
theorem kind_not {t cid oid nid : Int} {ocs ncs : List (List At)} (hc : 1 ≤ cid) (ho : oid = 0) (h0 : kindC ⟨t, cid, oid, ocs, nid, ncs⟩ ≠ 0) : kindC ⟨t, cid, oid, ocs, nid, ncs⟩ = 1 ∧ nid = cid := by
  unfold kindC at h0 ⊢
  simp only at h0 ⊢
  have e0 : (oid == 0) = true := by simpa using ho
  have e1 : (oid == cid) = false := by simp; omega
  simp only [e0, e1, Bool.true_and, Bool.and_false, Bool.false_and, Bool.false_eq_true, if_false] at h0 ⊢
  cases h3 : (nid == cid)
  · simp [h3] at h0
  · have e : nid = cid := by simpa using h3
    simp [h3, e]
theorem st_set {Ts : List Tab3} {n n' : Int} {i : Nat} {T' : Tab3} : stOf (Ts.set i T') n' = ⟨(stOf Ts n).tables.set i T'.rows, n'⟩ := by simp [stOf, List.map_set]
theorem tab_at3 {Ts : List Tab3} {n : Int} {i : Nat} (hi : i < Ts.length) : tabI (stOf Ts n) (i : Int) = Ts[i].rows := by
  rw [tabI_at (by rw [stOf_len]; exact hi), stOf_at hi]
theorem iOK_rng {n : Int} (h : iOK n) : -9223372036854775808 ≤ n ∧ n ≤ 9223372036854775807 := by
  unfold iOK Lit.wf at h
  simp only [Bool.and_eq_true, decide_eq_true_eq] at h
  exact h
theorem next_ok {n id : Int} (hn : iOK n) : iOK (nextI n id) := by
  unfold nextI
  split
  · exact RowKit.wrap64_wf _
  · exact hn
theorem next_max {n : Int} (hn : iOK n) : nextI n 9223372036854775807 = n := by
  unfold nextI
  have := iOK_rng hn
  rw [if_neg]
  rw [show wrap64 (9223372036854775807 + 1) = -9223372036854775808 by go_arith]
  omega
theorem next_in {n id : Int} (hi : iOK id) (h : id ≠ 9223372036854775807) : nextI n id = if n < id + 1 then id + 1 else n := by
  have := iOK_rng hi
  unfold nextI
  rw [show wrap64 (id + 1) = id + 1 by go_arith]
theorem dn_next {x : StV} {c : ChV} (h : iOK x.next) : iOK (dnC x c).1.next := by
  unfold dnC dropC putC'
  split
  · exact h
  split
  · exact h
  split
  · exact h
  split
  · exact h
  · exact next_ok h
end Go.Proofs.Ytdhlndpobpdfmaa
