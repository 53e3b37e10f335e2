import Derived.Test.YtbaelhehjepepaaKMi
import Derived.Test.YtbaelhehjepepaaKTw
namespace Go.Proofs.Ytbaelhehjepepaa
open Go.RowKit
set_option linter.unusedSimpArgs false
/-- the answer of a function that builds a list of atoms, with a code -/
def AAns2 (w : World) (l : List At) (c : Int) (e : Ending) (w' : World) : Prop := ∃ a cp, e = .returned (.tuple #[.slice a l.length cp, .int .i64 c]) ∧ OwnAts w' (fun b => w.heap.size ≤ b ∧ b < w'.heap.size) a l ∧ Below w.heap.size w w'
noncomputable def lessL (a b : List At) : List At := if twoC a b = 0 then minusA a b else []
theorem AAns2.none {w w' : World} {l : List At} {c : Int} {a : Option Addr} {cp : Nat} (hl : l = []) (hB : Below w.heap.size w w') : AAns2 w l c (.returned (.tuple #[.slice a 0 cp, .int .i64 c])) w' := by
  subst hl
  exact ⟨a, cp, rfl, .inl rfl, hB⟩
end Go.Proofs.Ytbaelhehjepepaa
