import Derived.WalkKit
namespace Go.Proofs.Ytnkgojjgiemgmaa
structure J where
  k : Int
  n : Int
  t : List UInt8
  keys : List (List UInt8)
  items : List J
def szK (keys : List (List UInt8)) : Nat := keys.length + (keys.map List.length).sum
def J.sz : J → Nat
  | ⟨_, _, t, keys, items⟩ => t.length + szK keys + (items.length + (items.map fun x => x.sz).sum)
def lessI (left : Int) (n : Nat) : Int := if (n : Int) ≤ left then left - n else -1
def charB (c : UInt8) : Bool := decide (32 ≤ (c.toNat : Int) ∧ (c.toNat : Int) ≤ 126)
def textB (t : List UInt8) : Bool := decide (t.length ≤ 200) && t.all charB
def keyB (keys : List (List UInt8)) (m : Nat) : Bool := textB (keys.getD m []) && (decide (m = 0) || Op.bytesLess (keys.getD (m - 1) []) (keys.getD m []))
def keysTo (keys : List (List UInt8)) (i : Nat) : Bool := (List.range i).all (keyB keys)
def keysB (keys : List (List UInt8)) : Bool := keysTo keys keys.length
def inB (lo n hi : Int) : Bool := decide (lo ≤ n ∧ n ≤ hi)
def noKeys (j : J) : Bool := ((j.keys.length : Int) == 0)
def noItems (j : J) : Bool := ((j.items.length : Int) == 0)
def partB (j : J) : Bool :=
  if j.k = 0 then (j.n == 0) && (j.t.isEmpty && (noKeys j && noItems j))
  else if j.k = 1 then inB 0 j.n 1 && (j.t.isEmpty && (noKeys j && noItems j))
  else if j.k = 2 then inB (-1000000000) j.n 1000000000 && (j.t.isEmpty && (noKeys j && noItems j))
  else if j.k = 3 then (j.n == 0) && (textB j.t && (noKeys j && noItems j))
  else if j.k = 4 then (j.n == 0) && (j.t.isEmpty && noKeys j)
  else if j.k = 5 then (j.n == 0) && (j.t.isEmpty && (((j.keys.length : Int) == (j.items.length : Int)) && keysB j.keys))
  else false
def addO : Option Nat → Option Nat → Option Nat
  | some a, some b => some (a + b)
  | _, _ => none
def sumO : List (Option Nat) → Option Nat
  | [] => some 0
  | x :: l => addO x (sumO l)
def cnt : Nat → J → Option Nat
  | 0, _ => none
  | d + 1, j => if partB j then addO (some 1) (sumO (j.items.map (cnt d))) else none
def left (room : Int) : Option Nat → Int
  | some n => if (n : Int) ≤ room then room - n else -1
  | none => -1
end Go.Proofs.Ytnkgojjgiemgmaa
