import Derived.WalkKit
import Derived.Deep.MidRow
import Derived.Test.YtfoimmnfpheoiaaProg
import Derived.WalkSpells
import Derived.WalkLawsBesides
import Derived.Deep.OwnRows
namespace Go.Proofs.Ytfoimmnfpheoiaa
def charB (c : UInt8) : Bool := decide (32 ≤ (c.toNat : Int) ∧ (c.toNat : Int) ≤ 126)
def textB (t : List UInt8) : Bool := decide (t.length ≤ 200) && t.all charB
def inB (lo n hi : Int) : Bool := decide (lo ≤ n ∧ n ≤ hi)
def left (room : Int) : Option Nat → Int
  | some n => if (n : Int) ≤ room then room - n else -1
  | none => -1
end Go.Proofs.Ytfoimmnfpheoiaa
namespace Go.Proofs.Ytfoimmnfpheoiaa
open Go.RowKit
def Strs (w : World) (B : Nat → Prop) (a : Option Addr) (keys : List (List UInt8)) : Prop :=
  keys.length = 0 ∨ ∃ b off, a = some ⟨b, off, none⟩ ∧ B b ∧ ∀ i (h : i < keys.length), w.cell? ⟨b, off + i, none⟩ = some (.string ⟨keys[i].toArray⟩)
theorem Strs.same {w w' : World} {B B' : Nat → Prop} {a : Option Addr} {keys : List (List UInt8)} (h : Strs w B a keys) (hs : ∀ b, B b → w'.heap[b]? = w.heap[b]?) (hB : ∀ b, B b → B' b) : Strs w' B' a keys := by
  rcases h with h | ⟨b, off, ha, hb, hc⟩
  · exact .inl h
  · exact .inr ⟨b, off, ha, hB b hb, fun i hi => by rw [World.cell?_of_block (w := w) (a := ⟨b, off + i, none⟩) (hs b hb)]; exact hc i hi⟩
theorem Strs.below {w w' : World} {S : Nat} {a : Option Addr} {keys : List (List UInt8)} (h : Strs w (· < S) a keys) (hb : Below S w w') : Strs w' (· < S) a keys :=
  h.same (fun b hb' => hb.block b hb') (fun _ h => h)
theorem Strs.inside {w : World} {B : Nat → Prop} {a : Option Addr} {keys : List (List UInt8)} (h : Strs w B a keys) : Strs w (fun b => B b ∧ b < w.heap.size) a keys := by
  by_cases h0 : keys.length = 0
  · exact .inl h0
  · rcases h with h | ⟨b, off, ha, hb, hc⟩
    · exact .inl h
    · exact .inr ⟨b, off, ha, ⟨hb, World.block_lt_of_cell? _ _ (hc 0 (by omega))⟩, hc⟩
theorem Strs.later {w w' : World} {B : Nat → Prop} {a : Option Addr} {keys : List (List UInt8)} (h : Strs w B a keys) (hb : Below w.heap.size w w') : Strs w' B a keys :=
  h.inside.same (fun b hb' => hb.block b hb'.2) (fun _ h => h.1)
end Go.Proofs.Ytfoimmnfpheoiaa
namespace Go.Proofs.Ytfoimmnfpheoiaa
open Go.RowKit
theorem ret_i {a b : Int} (h : a = b) : Ending.returned (.int .i64 a) = .returned (.int .i64 b) := by rw [h]
theorem ret_b {a b : Bool} (h : a = b) : Ending.returned (.bool a) = .returned (.bool b) := by rw [h]
end Go.Proofs.Ytfoimmnfpheoiaa
namespace Go.Proofs.Ytfoimmnfpheoiaa
open Go.RowKit
theorem three {w w4 : World} {o0 o1 o2 : Obj} (hb : Below (((w.alloc o0).alloc o1).alloc o2).heap.size (((w.alloc o0).alloc o1).alloc o2) w4) :
    w4.heap[w.heap.size]? = some o0 ∧ w4.heap[w.heap.size + 1]? = some o1 ∧ w4.heap[w.heap.size + 1 + 1]? = some o2 ∧ w.heap.size + 1 + 1 + 1 ≤ w4.heap.size ∧ Below w.heap.size w w4 := by
  have hs : (((w.alloc o0).alloc o1).alloc o2).heap.size = w.heap.size + 1 + 1 + 1 := by simp
  have h0 : (((w.alloc o0).alloc o1).alloc o2).heap = ((w.heap.push o0).push o1).push o2 := rfl
  refine ⟨?_, ?_, ?_, ?_, ?_⟩
  · rw [hb.block _ (by omega), h0, Array.getElem?_push, if_neg (by simp; omega), Array.getElem?_push, if_neg (by simp), Array.getElem?_push, if_pos rfl]
  · rw [hb.block _ (by omega), h0, Array.getElem?_push, if_neg (by simp), Array.getElem?_push, if_pos (by simp)]
  · rw [hb.block _ (by omega), h0, Array.getElem?_push, if_pos (by simp)]
  · have := hb.size; omega
  · exact ((((Below.refl _ _).alloc (Nat.le_refl _) _).alloc (by simp) _).alloc (by simp; omega) _).trans (hb.mono (by omega))
theorem cell_at {w : World} {b o : Nat} {cs : Array Value} {t : TypeId} {v : Value} (h : w.heap[b]? = some (.cells cs t)) (hv : cs[o]? = some v) : w.cell? ⟨b, o, none⟩ = some v := by
  simp [World.cell?, h, hv]
theorem frozen_at {w : World} {b : Nat} (o : Nat) {cs : Array Value} {t : TypeId} (h : w.heap[b]? = some (.cells cs t)) : w.frozen? ⟨b, o, none⟩ = false := by
  simp [World.frozen?, h]
theorem heap_set {w : World} {b : Nat} (o : Nat) {cs : Array Value} {t : TypeId} (v : Value) (h : w.heap[b]? = some (.cells cs t)) : (w.setCell ⟨b, o, none⟩ v).heap[b]? = some (.cells (cs.setIfInBounds o v) t) := by
  simp [World.setCell, Array.getElem?_modify, h]
end Go.Proofs.Ytfoimmnfpheoiaa
