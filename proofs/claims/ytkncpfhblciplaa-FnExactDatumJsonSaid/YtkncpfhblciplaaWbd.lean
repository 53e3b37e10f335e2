import Derived.Test.YtkncpfhblciplaaWbc
namespace Go.Proofs.Ytkncpfhblciplaa
open Go.RowKit
theorem neq_selfK (c : Int) : (c != c) = false := by simp
def errAt (l : List At) (i : Nat) : Int := if atOK (l.getD i atZ) = false then 1 else if (l.getD i atZ).k ≠ (l.getD 0 atZ).k then 9 else 0
def errFrom (l : List At) : Nat → Nat → Int
  | 0, _ => 0
  | n + 1, i => if errAt l i = 0 then errFrom l n (i + 1) else errAt l i
def errOf (l : List At) : Int := errFrom l l.length 0
theorem errFrom_succ (l : List At) (k : Nat) (h : k < l.length) : errFrom l (l.length - k) k = if errAt l k = 0 then errFrom l (l.length - (k + 1)) (k + 1) else errAt l k := by
  rw [show l.length - k = (l.length - (k + 1)) + 1 by omega, errFrom]
end Go.Proofs.Ytkncpfhblciplaa
