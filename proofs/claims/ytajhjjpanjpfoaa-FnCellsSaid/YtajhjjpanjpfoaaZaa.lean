import Derived.WalkKit
import Derived.Deep.MidRow
import Derived.Test.YtajhjjpanjpfoaaProg
import Derived.WalkSpells
import Derived.WalkLawsBesides
import Derived.Deep.OwnRows
namespace Go.Proofs.Ytajhjjpanjpfoaa
def charB (c : UInt8) : Bool := decide (32 ≤ (c.toNat : Int) ∧ (c.toNat : Int) ≤ 126)
def textB (t : List UInt8) : Bool := decide (t.length ≤ 200) && t.all charB
def inB (lo n hi : Int) : Bool := decide (lo ≤ n ∧ n ≤ hi)
def left (room : Int) : Option Nat → Int
  | some n => if (n : Int) ≤ room then room - n else -1
  | none => -1
end Go.Proofs.Ytajhjjpanjpfoaa
namespace Go.Proofs.Ytajhjjpanjpfoaa
open Go.RowKit
def Strs (w : World) (B : Nat → Prop) (a : Option Addr) (keys : List (List UInt8)) : Prop :=
  keys.length = 0 ∨ ∃ b off, a = some ⟨b, off, none⟩ ∧ B b ∧ ∀ i (h : i < keys.length), w.cell? ⟨b, off + i, none⟩ = some (.string ⟨keys[i].toArray⟩)
theorem Strs.same {w w' : World} {B B' : Nat → Prop} {a : Option Addr} {keys : List (List UInt8)} (h : Strs w B a keys) (hs : ∀ b, B b → w'.heap[b]? = w.heap[b]?) (hB : ∀ b, B b → B' b) : Strs w' B' a keys := by
  rcases h with h | ⟨b, off, ha, hb, hc⟩
  · exact .inl h
  · exact .inr ⟨b, off, ha, hB b hb, fun i hi => by rw [World.cell?_of_block (w := w) (a := ⟨b, off + i, none⟩) (hs b hb)]; exact hc i hi⟩
theorem Strs.below {w w' : World} {S : Nat} {a : Option Addr} {keys : List (List UInt8)} (h : Strs w (· < S) a keys) (hb : Below S w w') : Strs w' (· < S) a keys :=
  h.same (fun b hb' => hb.block b hb') (fun _ h => h)
theorem Strs.inside {w : World} {B : Nat → Prop} {a : Option Addr} {keys : List (List UInt8)} (h : Strs w B a keys) : Strs w (fun b => B b ∧ b < w.heap.size) a keys := by
  by_cases h0 : keys.length = 0
  · exact .inl h0
  · rcases h with h | ⟨b, off, ha, hb, hc⟩
    · exact .inl h
    · exact .inr ⟨b, off, ha, ⟨hb, World.block_lt_of_cell? _ _ (hc 0 (by omega))⟩, hc⟩
theorem Strs.later {w w' : World} {B : Nat → Prop} {a : Option Addr} {keys : List (List UInt8)} (h : Strs w B a keys) (hb : Below w.heap.size w w') : Strs w' B a keys :=
  h.inside.same (fun b hb' => hb.block b hb'.2) (fun _ h => h.1)
end Go.Proofs.Ytajhjjpanjpfoaa
namespace Go.Proofs.Ytajhjjpanjpfoaa
open Go.RowKit
theorem ret_i {a b : Int} (h : a = b) : Ending.returned (.int .i64 a) = .returned (.int .i64 b) := by rw [h]
theorem ret_b {a b : Bool} (h : a = b) : Ending.returned (.bool a) = .returned (.bool b) := by rw [h]
end Go.Proofs.Ytajhjjpanjpfoaa
namespace Go.Proofs.Ytajhjjpanjpfoaa
open Go.RowKit
theorem three {w w4 : World} {o0 o1 o2 : Obj} (hb : Below (((w.alloc o0).alloc o1).alloc o2).heap.size (((w.alloc o0).alloc o1).alloc o2) w4) :
    w4.heap[w.heap.size]? = some o0 ∧ w4.heap[w.heap.size + 1]? = some o1 ∧ w4.heap[w.heap.size + 1 + 1]? = some o2 ∧ w.heap.size + 1 + 1 + 1 ≤ w4.heap.size ∧ Below w.heap.size w w4 := by
  have hs : (((w.alloc o0).alloc o1).alloc o2).heap.size = w.heap.size + 1 + 1 + 1 := by simp
  have h0 : (((w.alloc o0).alloc o1).alloc o2).heap = ((w.heap.push o0).push o1).push o2 := rfl
  refine ⟨?_, ?_, ?_, ?_, ?_⟩
  · rw [hb.block _ (by omega), h0, Array.getElem?_push, if_neg (by simp; omega), Array.getElem?_push, if_neg (by simp), Array.getElem?_push, if_pos rfl]
  · rw [hb.block _ (by omega), h0, Array.getElem?_push, if_neg (by simp), Array.getElem?_push, if_pos (by simp)]
  · rw [hb.block _ (by omega), h0, Array.getElem?_push, if_pos (by simp)]
  · have := hb.size; omega
  · exact ((((Below.refl _ _).alloc (Nat.le_refl _) _).alloc (by simp) _).alloc (by simp; omega) _).trans (hb.mono (by omega))
theorem cell_at {w : World} {b o : Nat} {cs : Array Value} {t : TypeId} {v : Value} (h : w.heap[b]? = some (.cells cs t)) (hv : cs[o]? = some v) : w.cell? ⟨b, o, none⟩ = some v := by
  simp [World.cell?, h, hv]
theorem frozen_at {w : World} {b : Nat} (o : Nat) {cs : Array Value} {t : TypeId} (h : w.heap[b]? = some (.cells cs t)) : w.frozen? ⟨b, o, none⟩ = false := by
  simp [World.frozen?, h]
theorem heap_set {w : World} {b : Nat} (o : Nat) {cs : Array Value} {t : TypeId} (v : Value) (h : w.heap[b]? = some (.cells cs t)) : (w.setCell ⟨b, o, none⟩ v).heap[b]? = some (.cells (cs.setIfInBounds o v) t) := by
  simp [World.setCell, Array.getElem?_modify, h]
end Go.Proofs.Ytajhjjpanjpfoaa
namespace Go.Proofs.Ytajhjjpanjpfoaa
open Go.RowKit
theorem Strs.mono {w : World} {B B' : Nat → Prop} {a : Option Addr} {keys : List (List UInt8)} (h : Strs w B a keys) (hB : ∀ b, B b → B' b) : Strs w B' a keys := h.same (fun _ _ => rfl) hB
structure Frm (B : Nat → Prop) (w w' : World) : Prop where
  os : w'.os = w.os
  tape : w'.tape = w.tape
  output : w'.output = w.output
  size : w.heap.size ≤ w'.heap.size
  block : ∀ b, b < w.heap.size → ¬ B b → w'.heap[b]? = w.heap[b]?
theorem Frm.refl (B : Nat → Prop) (w : World) : Frm B w w := ⟨rfl, rfl, rfl, Nat.le_refl _, fun _ _ _ => rfl⟩
theorem Frm.trans {B : Nat → Prop} {a b c : World} (h : Frm B a b) (k : Frm B b c) : Frm B a c :=
  ⟨k.os.trans h.os, k.tape.trans h.tape, k.output.trans h.output, Nat.le_trans h.size k.size, fun i hi hn => (k.block i (Nat.lt_of_lt_of_le hi h.size) hn).trans (h.block i hi hn)⟩
theorem Frm.mono {B B' : Nat → Prop} {w w' : World} (h : Frm B w w') (hB : ∀ b, B b → B' b) : Frm B' w w' := ⟨h.os, h.tape, h.output, h.size, fun b hb hn => h.block b hb (fun h => hn (hB b h))⟩
theorem Frm.of_below {B : Nat → Prop} {w w' : World} (h : Below w.heap.size w w') : Frm B w w' := ⟨h.os, h.tape, h.output, h.size, fun b hb _ => h.block b hb⟩
theorem Frm.below {B : Nat → Prop} {w w' : World} {S : Nat} (h : Frm B w w') (hS : S ≤ w.heap.size) (hB : ∀ b, b < S → ¬ B b) : Below S w w' := ⟨h.os, h.tape, h.output, h.size, fun b hb => h.block b (by omega) (hB b hb)⟩
theorem Frm.set {B : Nat → Prop} {a w : World} (h : Frm B a w) {b o : Nat} (hb : B b) (v : Value) : Frm B a (w.setCell ⟨b, o, none⟩ v) :=
  h.trans ⟨rfl, rfl, rfl, by simp [World.setCell], fun c _ hn => Below.heap_setCell _ _ _ _ (by intro e; exact hn (e ▸ hb))⟩
end Go.Proofs.Ytajhjjpanjpfoaa
