import Derived.Test.YtnegmpdllbbnhaaZbn
import Derived.Handy
namespace Go.Proofs.Ytnegmpdllbbnhaa
open Go.RowKit
set_option linter.unusedSimpArgs false
theorem kind_there {t cid oid nid : Int} {ocs ncs : List (List At)} (hc : 1 ≤ cid) (ho : oid = cid) (h0 : kindC ⟨t, cid, oid, ocs, nid, ncs⟩ ≠ 0) : kindC ⟨t, cid, oid, ocs, nid, ncs⟩ = 2 ∨ (kindC ⟨t, cid, oid, ocs, nid, ncs⟩ = 3 ∧ nid = cid) := by
  unfold kindC at h0 ⊢
  simp only at h0 ⊢
  have e0 : (oid == 0) = false := by simp; omega
  have e1 : (oid == cid) = true := by simpa using ho
  simp only [e0, e1, Bool.false_and, Bool.and_true, Bool.true_and, Bool.false_eq_true, if_false] at h0 ⊢
  cases h2 : (nid == 0)
  · cases h3 : (nid == cid)
    · simp [h2, h3] at h0
    · have e : nid = cid := by simpa using h3
      right; simp [h2, h3, e]
  · left; simp [h2]
theorem kind_not {t cid oid nid : Int} {ocs ncs : List (List At)} (hc : 1 ≤ cid) (ho : oid = 0) (h0 : kindC ⟨t, cid, oid, ocs, nid, ncs⟩ ≠ 0) : kindC ⟨t, cid, oid, ocs, nid, ncs⟩ = 1 ∧ nid = cid := by
  unfold kindC at h0 ⊢
  simp only at h0 ⊢
  have e0 : (oid == 0) = true := by simpa using ho
  have e1 : (oid == cid) = false := by simp; omega
  simp only [e0, e1, Bool.true_and, Bool.and_false, Bool.false_and, Bool.false_eq_true, if_false] at h0 ⊢
  cases h3 : (nid == cid)
  · simp [h3] at h0
  · have e : nid = cid := by simpa using h3
    simp [h3, e]
end Go.Proofs.Ytnegmpdllbbnhaa
