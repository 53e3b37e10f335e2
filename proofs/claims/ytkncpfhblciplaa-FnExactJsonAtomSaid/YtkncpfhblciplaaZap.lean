import Derived.Test.YtkncpfhblciplaaZab
namespace Go.Proofs.Ytkncpfhblciplaa
open Go.RowKit
theorem Strs.mono {w : World} {B B' : Nat → Prop} {a : Option Addr} {keys : List (List UInt8)} (h : Strs w B a keys) (hB : ∀ b, B b → B' b) : Strs w B' a keys := h.same (fun _ _ => rfl) hB
end Go.Proofs.Ytkncpfhblciplaa
