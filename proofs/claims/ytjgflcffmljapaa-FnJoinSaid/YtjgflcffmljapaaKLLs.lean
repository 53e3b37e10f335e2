import Derived.Test.YtjgflcffmljapaaKOf
import Derived.Test.YtjgflcffmljapaaKMk
import Derived.Test.YtjgflcffmljapaaKMeB
namespace Go.Proofs.Ytjgflcffmljapaa
open Go.RowKit
set_option linter.unusedSimpArgs false
/-- what impl.DatumLess is to answer -/
def LessSaid : Prop := ∀ (a b : List At) (b1 o1 b2 o2 ca cb : Nat) (S : Nat) (w : World), a.length ≤ 1048576 → b.length ≤ 1048576 → (∀ x ∈ a, x.t.length ≤ maxLen) → (∀ x ∈ b, x.t.length ≤ maxLen) → S ≤ w.heap.size → Ats w (· < S) (some ⟨b1, o1, none⟩) a → Ats w (· < S) (some ⟨b2, o2, none⟩) b →
    Calls Try.prog 15 #[.slice (some ⟨b1, o1, none⟩) a.length ca, .slice (some ⟨b2, o2, none⟩) b.length cb] w (AAns2 w (lessL a b) (twoC a b))
theorem Less_len (a b : List At) : (lessL a b).length ≤ 4096 := by
  unfold lessL
  split
  · rename_i h
    have := (two_len h).1
    exact Nat.le_trans (List.length_filter_le _ _) this
  · simp
end Go.Proofs.Ytjgflcffmljapaa
