import Derived.WalkKit
import Derived.Deep.MidRow
namespace Go.Proofs.Ythpenliecgpedaa
def inB (lo n hi : Int) : Bool := decide (lo ≤ n ∧ n ≤ hi)
def left (room : Int) : Option Nat → Int
  | some n => if (n : Int) ≤ room then room - n else -1
  | none => -1
end Go.Proofs.Ythpenliecgpedaa
namespace Go.Proofs.Ythpenliecgpedaa
open Go.RowKit
def Strs (w : World) (B : Nat → Prop) (a : Option Addr) (keys : List (List UInt8)) : Prop :=
  keys.length = 0 ∨ ∃ b off, a = some ⟨b, off, none⟩ ∧ B b ∧ ∀ i (h : i < keys.length), w.cell? ⟨b, off + i, none⟩ = some (.string ⟨keys[i].toArray⟩)
theorem Strs.same {w w' : World} {B B' : Nat → Prop} {a : Option Addr} {keys : List (List UInt8)} (h : Strs w B a keys) (hs : ∀ b, B b → w'.heap[b]? = w.heap[b]?) (hB : ∀ b, B b → B' b) : Strs w' B' a keys := by
  rcases h with h | ⟨b, off, ha, hb, hc⟩
  · exact .inl h
  · exact .inr ⟨b, off, ha, hB b hb, fun i hi => by rw [World.cell?_of_block (w := w) (a := ⟨b, off + i, none⟩) (hs b hb)]; exact hc i hi⟩
theorem Strs.below {w w' : World} {S : Nat} {a : Option Addr} {keys : List (List UInt8)} (h : Strs w (· < S) a keys) (hb : Below S w w') : Strs w' (· < S) a keys :=
  h.same (fun b hb' => hb.block b hb') (fun _ h => h)
theorem Strs.inside {w : World} {B : Nat → Prop} {a : Option Addr} {keys : List (List UInt8)} (h : Strs w B a keys) : Strs w (fun b => B b ∧ b < w.heap.size) a keys := by
  by_cases h0 : keys.length = 0
  · exact .inl h0
  · rcases h with h | ⟨b, off, ha, hb, hc⟩
    · exact .inl h
    · exact .inr ⟨b, off, ha, ⟨hb, World.block_lt_of_cell? _ _ (hc 0 (by omega))⟩, hc⟩
theorem Strs.later {w w' : World} {B : Nat → Prop} {a : Option Addr} {keys : List (List UInt8)} (h : Strs w B a keys) (hb : Below w.heap.size w w') : Strs w' B a keys :=
  h.inside.same (fun b hb' => hb.block b hb'.2) (fun _ h => h.1)
end Go.Proofs.Ythpenliecgpedaa
