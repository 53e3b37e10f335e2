import Derived.WalkKit
namespace Go.Proofs.Ytoalhminembpkaa
def lessI (left : Int) (n : Nat) : Int := if (n : Int) ≤ left then left - n else -1
def inB (lo n hi : Int) : Bool := decide (lo ≤ n ∧ n ≤ hi)
def left (room : Int) : Option Nat → Int
  | some n => if (n : Int) ≤ room then room - n else -1
  | none => -1
end Go.Proofs.Ytoalhminembpkaa
