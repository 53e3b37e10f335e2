import Derived.Test.YtponpcbedcihaaaDAtA
namespace Go.Proofs.Ytponpcbedcihaaa
open Go.RowKit
set_option linter.unusedSimpArgs false
structure RowV where
  id : Int
  cells : List (List At)
def dRow (x : RowV) : Nat → D
  | 0 => .i x.id
  | _ => dAtomSS x.cells
theorem szT_Row (x : RowV) : szT 2 (dRow x) = (dAtomSS x.cells).sz := by simp [szT, sumN, dRow, D.sz]
def dRowS (l : List RowV) : D := Ls 2 dRow l
def cRowS (x : List RowV) : Nat → D := fun _ => dRowS x
def dRowSS (l : List (List RowV)) : D := Ls 1 cRowS l
structure StV where
  tables : List (List RowV)
  next : Int
def dStore (x : StV) : Nat → D
  | 0 => dRowSS x.tables
  | _ => .i x.next
theorem szT_Store (x : StV) : szT 2 (dStore x) = (dRowSS x.tables).sz := by simp [szT, sumN, dStore, D.sz]
end Go.Proofs.Ytponpcbedcihaaa
