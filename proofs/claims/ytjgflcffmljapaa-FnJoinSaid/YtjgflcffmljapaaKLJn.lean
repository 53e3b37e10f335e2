import Derived.Test.YtjgflcffmljapaaKOf
import Derived.Test.YtjgflcffmljapaaKMk
import Derived.Test.YtjgflcffmljapaaKMeB
namespace Go.Proofs.Ytjgflcffmljapaa
open Go.RowKit
set_option linter.unusedSimpArgs false
/-- what impl.DatumJoin is to answer -/
def JoinSaid : Prop := ∀ (a b : List At) (b1 o1 b2 o2 ca cb : Nat) (S : Nat) (w : World), a.length ≤ 1048576 → b.length ≤ 1048576 → (∀ x ∈ a, x.t.length ≤ maxLen) → (∀ x ∈ b, x.t.length ≤ maxLen) → S ≤ w.heap.size → Ats w (· < S) (some ⟨b1, o1, none⟩) a → Ats w (· < S) (some ⟨b2, o2, none⟩) b →
    Calls Try.prog 13 #[.slice (some ⟨b1, o1, none⟩) a.length ca, .slice (some ⟨b2, o2, none⟩) b.length cb] w (AAns2 w (joinR a b) (joinC a b))
theorem Join_len (a b : List At) : (joinR a b).length ≤ 4096 := by
  unfold joinR
  split
  · rename_i h
    omega
  · simp
end Go.Proofs.Ytjgflcffmljapaa
