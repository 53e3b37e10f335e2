import Derived.Test.YtdhlndpobpdfmaaZaz
namespace Go.Proofs.Ytdhlndpobpdfmaa
open Go.RowKit
set_option linter.unusedSimpArgs false
noncomputable def inC (l : List RowV) (most : Int) (c : ChV) : List RowV × Int :=
  if c.cid < 1 ∨ kindC c = 0 then (l, 1)
  else if eqB (rowD l c.cid) ⟨c.oid, c.ocs⟩ = false then (l, 13)
  else if kindC c = 2 then (l.eraseIdx (rplI l c.cid).toNat, 0)
  else if kindC c = 1 ∧ most ≤ (l.length : Int) then (l, 7)
  else (putL l ⟨c.nid, c.ncs⟩, 0)
theorem in_bad {l : List RowV} {m : Int} {c : ChV} (h : c.cid < 1 ∨ kindC c = 0) : inC l m c = (l, 1) := by unfold inC; rw [if_pos h]
theorem in_ref {l : List RowV} {m : Int} {c : ChV} (h : ¬ (c.cid < 1 ∨ kindC c = 0)) (h2 : eqB (rowD l c.cid) ⟨c.oid, c.ocs⟩ = false) : inC l m c = (l, 13) := by unfold inC; rw [if_neg h, if_pos h2]
theorem in_drop {l : List RowV} {m : Int} {c : ChV} (h : ¬ (c.cid < 1 ∨ kindC c = 0)) (h2 : eqB (rowD l c.cid) ⟨c.oid, c.ocs⟩ = true) (h3 : kindC c = 2) : inC l m c = (l.eraseIdx (rplI l c.cid).toNat, 0) := by unfold inC; rw [if_neg h, if_neg (by simp [h2]), if_pos h3]
theorem in_full {l : List RowV} {m : Int} {c : ChV} (h : ¬ (c.cid < 1 ∨ kindC c = 0)) (h2 : eqB (rowD l c.cid) ⟨c.oid, c.ocs⟩ = true) (h3 : kindC c = 1) (h4 : m ≤ (l.length : Int)) : inC l m c = (l, 7) := by unfold inC; rw [if_neg h, if_neg (by simp [h2]), if_neg (by omega), if_pos ⟨h3, h4⟩]
theorem in_put {l : List RowV} {m : Int} {c : ChV} (h : ¬ (c.cid < 1 ∨ kindC c = 0)) (h2 : eqB (rowD l c.cid) ⟨c.oid, c.ocs⟩ = true) (h3 : kindC c ≠ 2) (h4 : ¬ (kindC c = 1 ∧ m ≤ (l.length : Int))) : inC l m c = (putL l ⟨c.nid, c.ncs⟩, 0) := by unfold inC; rw [if_neg h, if_neg (by simp [h2]), if_neg h3, if_neg h4]
theorem in_kind {l : List RowV} {m : Int} {c : ChV} (h0 : (inC l m c).2 = 0) : 1 ≤ c.cid ∧ kindC c ≠ 0 := by
  by_cases h1 : c.cid < 1 ∨ kindC c = 0
  · rw [in_bad h1] at h0; simp at h0
  · exact ⟨by have : ¬ c.cid < 1 := fun h => h1 (.inl h); omega, fun h => h1 (.inr h)⟩
end Go.Proofs.Ytdhlndpobpdfmaa
