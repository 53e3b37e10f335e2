import Derived.Test.YtndlhcdgpkeifaaDoorDBox
namespace Go.Proofs.YtndlhcdgpkeifaaDoor
open Go.RowKit
set_option linter.unusedSimpArgs false
def dColumn (x : Cl) : Nat → D
  | 0 => .s x.nm
  | 1 => .i x.k
  | 2 => .i x.mn
  | 3 => .i x.mx
  | 4 => .i x.lo
  | 5 => .i x.hi
  | 6 => .s x.rf
  | _ => .b x.st
theorem szT_Column (x : Cl) : szT 8 (dColumn x) = x.nm.length + x.rf.length := by simp [szT, sumN, dColumn, D.sz]
def dColumnS (l : List Cl) : D := Ls 8 dColumn l
def cInt (x : Int) : Nat → D := fun _ => .i x
def dIntS (l : List Int) : D := Ls 1 cInt l
def dTable (x : Tb) : Nat → D
  | 0 => .s x.nm
  | 1 => dColumnS x.cols
  | 2 => dIntS x.uq
  | _ => .b x.rt
theorem szT_Table (x : Tb) : szT 4 (dTable x) = x.nm.length + (dColumnS x.cols).sz + (dIntS x.uq).sz := by simp [szT, sumN, dTable, D.sz]
def dTableS (l : List Tb) : D := Ls 4 dTable l
structure ScV where
  tables : List Tb
def dSchema (x : ScV) : Nat → D
  | _ => dTableS x.tables
theorem szT_Schema (x : ScV) : szT 1 (dSchema x) = (dTableS x.tables).sz := by simp [szT, sumN, dSchema, D.sz]
end Go.Proofs.YtndlhcdgpkeifaaDoor
