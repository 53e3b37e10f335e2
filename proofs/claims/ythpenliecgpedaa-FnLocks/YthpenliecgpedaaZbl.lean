import Derived.Test.YthpenliecgpedaaZbk
namespace Go.Proofs.Ythpenliecgpedaa
open Go.RowKit Go.MuLone
set_option linter.unusedSimpArgs false
theorem rem_at {α : Type} {q : List α} {p : Nat} (hp : p < q.length) {i : Nat} (hi : i < (q.take p ++ q.drop (p + 1)).length) : ∃ j, ∃ hj : j < q.length, (q.take p ++ q.drop (p + 1))[i] = q[j] ∧ ((i < p ∧ j = i) ∨ (p ≤ i ∧ j = i + 1)) := by
  have hl : (q.take p ++ q.drop (p + 1)).length = q.length - 1 := by rw [List.length_append, List.length_take, List.length_drop]; omega
  by_cases h : i < p
  · refine ⟨i, by omega, ?_, .inl ⟨h, rfl⟩⟩
    rw [List.getElem_append_left (by simp; omega), List.getElem_take]
  · refine ⟨i + 1, by omega, ?_, .inr ⟨by omega, rfl⟩⟩
    rw [List.getElem_append_right (by simp; omega), List.getElem_drop]
    congr 1
    simp
    omega
theorem QuP.del {q : List Int} {n : Int} (h : QuP q) (hn : fq q n < q.length) (h0 : (delQ q n).length ≠ 0) : QuP (delQ q n) := by
  have hl : (delQ q n).length ≤ q.length := delQ_len q n
  have h3 := h.len
  refine ⟨⟨by omega, by omega⟩, fun m hm => ?_, fun m hm j hj => ?_⟩
  · obtain ⟨i, hi, e, -⟩ := rem_at hn hm
    show sesB ((q.take (fq q n) ++ q.drop (fq q n + 1))[m]) = true
    rw [e]; exact h.ses i hi
  · obtain ⟨i, hi, e, k1⟩ := rem_at hn hm
    obtain ⟨i2, hi2, e2, k2⟩ := rem_at hn (i := j) (by show j < (delQ q n).length; omega)
    exact fun heq => h.once i hi i2 (by omega) (e2.symm.trans (heq.trans e))
theorem LksP.leave {l : List LkV} (h : LksP l) (n : Int) (s : List UInt8) : LksP (leaveL l n s) := by
  by_cases hin : lvIn l n s = true
  case neg => rw [(leave_no (by simpa using hin)).1]; exact h
  rw [(leave_in hin).1]
  have hk : fk l s < l.length := by
    unfold lvIn at hin
    rw [Bool.and_eq_true] at hin
    exact of_decide_eq_true hin.1
  have hX : lvX l s = l[fk l s] := atL_at hk
  have hfq : fq l[fk l s].qu n < l[fk l s].qu.length := by
    unfold lvIn at hin
    rw [Bool.and_eq_true, hX, fq_in] at hin
    exact of_decide_eq_true hin.2
  split
  · have hl : (l.take (fk l s) ++ l.drop (fk l s + 1)).length = l.length - 1 := by rw [List.length_append, List.length_take, List.length_drop]; omega
    refine ⟨by have := h.len; omega, fun k hk2 => ?_, fun k hk2 => ?_, fun i hi => ?_⟩
    · obtain ⟨j, hj, e, -⟩ := rem_at hk hk2
      rw [e]; exact h.nam j hj
    · obtain ⟨j, hj, e, -⟩ := rem_at hk hk2
      rw [e]; exact h.que j hj
    · obtain ⟨j, hj, e, k1⟩ := rem_at hk (i := i) (by omega)
      obtain ⟨j2, hj2, e2, k2⟩ := rem_at hk hi
      rw [e, e2]
      exact upL_lt h.up j j2 hj hj2 (by omega)
  · rename_i h0
    have hQ : QuP (lvQ l n s) := by
      unfold lvQ at h0 ⊢
      rw [hX] at h0 ⊢
      exact (h.que _ hk).del hfq h0
    have hat : ∀ k (hk2 : k < (l.set (fk l s) ⟨(lvX l s).nm, lvQ l n s⟩).length), (l.set (fk l s) ⟨(lvX l s).nm, lvQ l n s⟩)[k].nm = (l[k]'(by rw [List.length_set] at hk2; exact hk2)).nm ∧ ((l.set (fk l s) ⟨(lvX l s).nm, lvQ l n s⟩)[k].qu = lvQ l n s ∨ (l.set (fk l s) ⟨(lvX l s).nm, lvQ l n s⟩)[k].qu = (l[k]'(by rw [List.length_set] at hk2; exact hk2)).qu) := fun k hk2 => by
      by_cases e : fk l s = k
      · subst e
        rw [List.getElem_set_self]
        exact ⟨by show (lvX l s).nm = _; exact congrArg LkV.nm hX, .inl rfl⟩
      · rw [List.getElem_set_ne e]
        exact ⟨rfl, .inr rfl⟩
    refine ⟨by rw [List.length_set]; exact h.len, fun k hk2 => ?_, fun k hk2 => ?_, fun i hi => ?_⟩
    · rw [(hat k hk2).1]; exact h.nam k (by rw [List.length_set] at hk2; exact hk2)
    · rcases (hat k hk2).2 with e | e
      · rw [e]; exact hQ
      · rw [e]; exact h.que k (by rw [List.length_set] at hk2; exact hk2)
    · rw [(hat i (by omega)).1, (hat (i + 1) hi).1]
      exact h.up i (by rw [List.length_set] at hi; exact hi)
end Go.Proofs.Ythpenliecgpedaa
