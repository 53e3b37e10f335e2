import Derived.Test.YtkncpfhblciplaaZac
import Derived.Test.YtkncpfhblciplaaZap
import Derived.Deep.OwnRows
import Derived.Laws.IdiomStrings
import Derived.Deep.MidRow
import Derived.Deep.QuietTactic
import Derived.BigQuiet
import Derived.Deep.RegionWith
namespace Go.Proofs.Ytkncpfhblciplaa
open Go.RowKit
set_option linter.unusedSimpArgs false
inductive D where
  | i (n : Int)
  | s (t : List UInt8)
  | b (x : Bool)
  | l (n m : Nat) (f : Nat → Nat → D)
def sumN : Nat → (Nat → Nat) → Nat
  | 0, _ => 0
  | n + 1, g => sumN n g + g n
def D.sz : D → Nat
  | .i _ => 0
  | .s t => t.length
  | .b _ => 0
  | .l n m f => m + sumN m (fun i => sumN n (fun j => (f i j).sz))
def iOK (n : Int) : Prop := (Lit.int .i64 n).wf = true
def D.le (K : Nat) : D → Prop
  | .i n => iOK n
  | .s t => t.length ≤ K
  | .b _ => True
  | .l n m f => n ≤ 64 ∧ m ≤ K ∧ ∀ i j, i < m → j < n → (f i j).le K
theorem D.le.mono {K K' : Nat} (h : K ≤ K') : ∀ d : D, d.le K → d.le K'
  | .i _, h0 => h0
  | .s _, h0 => Nat.le_trans h0 h
  | .b _, _ => trivial
  | .l _ _ f, h0 => ⟨h0.1, Nat.le_trans h0.2.1 h, fun i j hi hj => D.le.mono h (f i j) (h0.2.2 i j hi hj)⟩
end Go.Proofs.Ytkncpfhblciplaa
