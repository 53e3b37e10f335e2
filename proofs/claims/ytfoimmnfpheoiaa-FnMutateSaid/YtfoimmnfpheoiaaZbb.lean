import Derived.Test.YtfoimmnfpheoiaaZba
import Derived.Test.YtfoimmnfpheoiaaZag
import Derived.Test.YtfoimmnfpheoiaaZaj
import Derived.Test.YtfoimmnfpheoiaaZaz
namespace Go.Proofs.Ytfoimmnfpheoiaa
open Go.RowKit
set_option linter.unusedSimpArgs false
def outB (c : Cl) (x : At) : Bool := (c.k == 1) && !(inB c.lo x.n c.hi)
def fitC (c : Cl) (l : List At) : Int :=
  if 0 < l.length ∧ (l.getD 0 atZ).k ≠ c.k then 9
  else if inB c.mn l.length c.mx = false then 6
  else if l.any (outB c) then 4 else 0
theorem fit9 {c : Cl} {l : List At} (h : 0 < l.length) (hk : ¬ l[0].k = c.k) : fitC c l = 9 := by
  unfold fitC; rw [at_getD h, if_pos ⟨h, hk⟩]
theorem fit6 {c : Cl} {l : List At} (h : ¬ (0 < l.length ∧ (l.getD 0 atZ).k ≠ c.k)) (hm : inB c.mn l.length c.mx = false) : fitC c l = 6 := by
  unfold fitC; rw [if_neg h, if_pos hm]
theorem fit4 {c : Cl} {l : List At} (h : ¬ (0 < l.length ∧ (l.getD 0 atZ).k ≠ c.k)) (hm : inB c.mn l.length c.mx = true) {k : Nat} (hk : k < l.length) (ho : outB c l[k] = true) : fitC c l = 4 := by
  unfold fitC; rw [if_neg h, if_neg (by simp [hm]), if_pos]
  rw [List.any_eq_true]; exact ⟨_, List.getElem_mem hk, ho⟩
theorem fit0 {c : Cl} {l : List At} (h : ¬ (0 < l.length ∧ (l.getD 0 atZ).k ≠ c.k)) (hm : inB c.mn l.length c.mx = true) (ho : ∀ k (hk : k < l.length), outB c l[k] = false) : fitC c l = 0 := by
  unfold fitC; rw [if_neg h, if_neg (by simp [hm]), if_neg]
  rw [List.any_eq_true]; rintro ⟨x, hx, h⟩
  obtain ⟨k, hk, rfl⟩ := List.mem_iff_getElem.1 hx
  rw [ho k hk] at h; cases h
end Go.Proofs.Ytfoimmnfpheoiaa
namespace Go.Proofs.Ytfoimmnfpheoiaa
open Go.RowKit
set_option linter.unusedSimpArgs false
def Cl.ok (x : Cl) : Prop := x.nm.length ≤ maxLen ∧ x.rf.length ≤ maxLen
end Go.Proofs.Ytfoimmnfpheoiaa
