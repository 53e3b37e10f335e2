import Derived.Test.YtkncpfhblciplaaWai
import Derived.Test.YtkncpfhblciplaaWao
import Derived.Test.YtkncpfhblciplaaWax
namespace Go.Proofs.Ytkncpfhblciplaa
open Go.RowKit
set_option linter.unusedSimpArgs false
def uuidW : List UInt8 := [117, 117, 105, 100]
def namedW : List UInt8 := [110, 97, 109, 101, 100, 45, 117, 117, 105, 100]
def setW : List UInt8 := [115, 101, 116]
def it0 (j : J) : J := j.items.getD 0 dflt
def it1 (j : J) : J := j.items.getD 1 dflt
def pairB (j : J) : Bool := decide (j.k = 4 ∧ j.items.length = 2 ∧ (it0 j).k = 3)
def wdA (w : List UInt8) (x : J) : Option At := if w = uuidW ∧ x.k = 2 ∧ inB 1 x.n 1000000 = true then some ⟨4, x.n, []⟩ else none
def wdN (w : List UInt8) (x : J) : Option (List UInt8) := if w = namedW ∧ x.k = 3 then some x.t else none
def wdL (w : List UInt8) (x : J) : Option (List J) := if w = setW ∧ x.k = 4 then some x.items else none
def paA (j : J) : Option At :=
  if j.k = 2 then some ⟨1, j.n, []⟩ else if j.k = 3 then some ⟨2, 0, j.t⟩ else if j.k = 1 then some ⟨3, j.n, []⟩
  else if pairB j = true then wdA (it0 j).t (it1 j) else none
def paN (j : J) : Option (List UInt8) := if pairB j = true then wdN (it0 j).t (it1 j) else none
def paL (j : J) : Option (List J) := if pairB j = true then wdL (it0 j).t (it1 j) else none
end Go.Proofs.Ytkncpfhblciplaa
