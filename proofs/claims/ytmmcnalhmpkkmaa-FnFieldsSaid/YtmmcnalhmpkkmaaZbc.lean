import Derived.Test.YtmmcnalhmpkkmaaZbb
namespace Go.Proofs.Ytmmcnalhmpkkmaa
open Go.RowKit
set_option linter.unusedSimpArgs false
theorem Row.at {w : World} {b off n : Nat} {f : Nat → Value} (h : Row w b off n f) (m : Nat) (hm : m < n) {o : Nat} (ho : o = off + m) : w.cell? ⟨b, o, none⟩ = some (f m) ∧ w.frozen? ⟨b, o, none⟩ = false := by
  subst ho; exact h m hm
end Go.Proofs.Ytmmcnalhmpkkmaa
