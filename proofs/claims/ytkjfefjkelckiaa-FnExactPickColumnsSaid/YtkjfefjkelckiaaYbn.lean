import Derived.Test.YtkjfefjkelckiaaYbk
namespace Go.Proofs.Ytkjfefjkelckiaa
open Go.RowKit
set_option linter.unusedSimpArgs false
theorem Rd.row {w : World} {B : Nat → Prop} {l : List (List At)} {a : Option Addr} {c : Nat} (h : Rd w B (dAtomSS l) (.slice a l.length c)) : ∃ X, Sets w (· < w.heap.size) a l X := h.lt.sets
end Go.Proofs.Ytkjfefjkelckiaa
