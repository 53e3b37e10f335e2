import Derived.Test.YtbaelhehjepepaaKJn
namespace Go.Proofs.Ytbaelhehjepepaa
open Go.RowKit
set_option linter.unusedSimpArgs false
noncomputable def joinC (a b : List At) : Int := if twoC a b = 0 then (if 8 < (joinL a b).length then 6 else 0) else twoC a b
noncomputable def joinR (a b : List At) : List At := if twoC a b = 0 ∧ ¬ 8 < (joinL a b).length then joinL a b else []
theorem two_len {a b : List At} (h : twoC a b = 0) : a.length ≤ 4096 ∧ b.length ≤ 4096 := by
  unfold twoC at h
  split at h
  · omega
  · omega
/-- the last limb of both: a list that was built, or none where it is too long -/
theorem AI.ans2 {w W : World} {B : Nat} {v : Value} {l : List At} {c : Int} (h : AI w B W v l) : AAns2 w l c (.returned (.tuple #[v, .int .i64 c])) W := by
  obtain ⟨a, cp, rfl, ho⟩ := h.buf.own
  exact ⟨a, cp, rfl, ho.same (fun _ _ => rfl) (fun b hb => ⟨Nat.le_trans h.old hb.1, hb.2⟩), h.bel⟩
end Go.Proofs.Ytbaelhehjepepaa
