import Derived.WalkKit
import Derived.Deep.MidRow
import Derived.Test.YtlbcaaodkggohaaGreatDoorProg
import Derived.WalkSpells
import Derived.WalkLawsBesides
import Derived.Deep.OwnRows
import Derived.Deep.RegionLaw
import Derived.Deep.RegionWith
import Derived.BigQuiet
import Derived.Lib.Hide
namespace Go.Proofs.YtlbcaaodkggohaaGreatDoor
structure J where
 k : Int
 n : Int
 t : List UInt8
 keys : List (List UInt8)
 items : List J
def charB (c : UInt8) : Bool := decide (32 ≤ (c.toNat : Int) ∧ (c.toNat : Int) ≤ 126)
def textB (t : List UInt8) : Bool := decide (t.length ≤ 200) && t.all charB
def keyB (keys : List (List UInt8)) (m : Nat) : Bool := textB (keys.getD m []) && (decide (m = 0) || Op.bytesLess (keys.getD (m - 1) []) (keys.getD m []))
def keysTo (keys : List (List UInt8)) (i : Nat) : Bool := (List.range i).all (keyB keys)
def keysB (keys : List (List UInt8)) : Bool := keysTo keys keys.length
def inB (lo n hi : Int) : Bool := decide (lo ≤ n ∧ n ≤ hi)
def noKeys (j : J) : Bool := ((j.keys.length : Int) == 0)
def noItems (j : J) : Bool := ((j.items.length : Int) == 0)
def partB (j : J) : Bool :=
 if j.k = 0 then (j.n == 0) && (j.t.isEmpty && (noKeys j && noItems j))
 else if j.k = 1 then inB 0 j.n 1 && (j.t.isEmpty && (noKeys j && noItems j))
 else if j.k = 2 then inB (-1000000000) j.n 1000000000 && (j.t.isEmpty && (noKeys j && noItems j))
 else if j.k = 3 then (j.n == 0) && (textB j.t && (noKeys j && noItems j))
 else if j.k = 4 then (j.n == 0) && (j.t.isEmpty && noKeys j)
 else if j.k = 5 then (j.n == 0) && (j.t.isEmpty && (((j.keys.length : Int) == (j.items.length : Int)) && keysB j.keys))
 else false
def addO : Option Nat → Option Nat → Option Nat
 | some a, some b => some (a + b)
 | _, _ => none
def sumO : List (Option Nat) → Option Nat
 | [] => some 0
 | x :: l => addO x (sumO l)
def cnt : Nat → J → Option Nat
 | 0, _ => none
 | d + 1, j => if partB j then addO (some 1) (sumO (j.items.map (cnt d))) else none
def left (room : Int) : Option Nat → Int
 | some n => if (n : Int) ≤ room then room - n else -1
 | none => -1
end Go.Proofs.YtlbcaaodkggohaaGreatDoor
namespace Go.Proofs.YtlbcaaodkggohaaGreatDoor
open Go.RowKit
def Strs (w : World) (B : Nat → Prop) (a : Option Addr) (keys : List (List UInt8)) : Prop :=
 keys.length = 0 ∨ ∃ b off, a = some ⟨b, off, none⟩ ∧ B b ∧ ∀ i (h : i < keys.length), w.cell? ⟨b, off + i, none⟩ = some (.string ⟨keys[i].toArray⟩)
end Go.Proofs.YtlbcaaodkggohaaGreatDoor
namespace Go.Proofs.YtlbcaaodkggohaaGreatDoor
open Go.RowKit
theorem ret_i {a b : Int} (h : a = b) : Ending.returned (.int .i64 a) = .returned (.int .i64 b) := by rw [h]
theorem ret_b {a b : Bool} (h : a = b) : Ending.returned (.bool a) = .returned (.bool b) := by rw [h]
end Go.Proofs.YtlbcaaodkggohaaGreatDoor
namespace Go.Proofs.YtlbcaaodkggohaaGreatDoor
open Go.RowKit
theorem three {w w4 : World} {o0 o1 o2 : Obj} (hb : Below (((w.alloc o0).alloc o1).alloc o2).heap.size (((w.alloc o0).alloc o1).alloc o2) w4) :
    w4.heap[w.heap.size]? = some o0 ∧ w4.heap[w.heap.size + 1]? = some o1 ∧ w4.heap[w.heap.size + 1 + 1]? = some o2 ∧ w.heap.size + 1 + 1 + 1 ≤ w4.heap.size ∧ Below w.heap.size w w4 := by
  have hs : (((w.alloc o0).alloc o1).alloc o2).heap.size = w.heap.size + 1 + 1 + 1 := by simp
  have h0 : (((w.alloc o0).alloc o1).alloc o2).heap = ((w.heap.push o0).push o1).push o2 := rfl; refine ⟨?_, ?_, ?_, ?_, ?_⟩
  · rw [hb.block _ (by omega), h0, Array.getElem?_push, if_neg (by simp; omega), Array.getElem?_push, if_neg (by simp), Array.getElem?_push, if_pos rfl]
  · rw [hb.block _ (by omega), h0, Array.getElem?_push, if_neg (by simp), Array.getElem?_push, if_pos (by simp)]
  · rw [hb.block _ (by omega), h0, Array.getElem?_push, if_pos (by simp)]
  · have := hb.size; omega
  · exact ((((Below.refl _ _).alloc (Nat.le_refl _) _).alloc (by simp) _).alloc (by simp; omega) _).trans (hb.mono (by omega))
theorem cell_at {w : World} {b o : Nat} {cs : Array Value} {t : TypeId} {v : Value} (h : w.heap[b]? = some (.cells cs t)) (hv : cs[o]? = some v) : w.cell? ⟨b, o, none⟩ = some v := by
 simp [World.cell?, h, hv]
theorem frozen_at {w : World} {b : Nat} (o : Nat) {cs : Array Value} {t : TypeId} (h : w.heap[b]? = some (.cells cs t)) : w.frozen? ⟨b, o, none⟩ = false := by
 simp [World.frozen?, h]
theorem ck2 (o0 o1 : Nat) {w : World} {b : Nat} {cs : Array Value} {t : TypeId} {v0 v1 : Value} (h : w.heap[b]? = some (.cells cs t)) (h0 : cs[o0]? = some v0 := by exact rfl) (h1 : cs[o1]? = some v1 := by exact rfl) : w.cell? ⟨b, o0, none⟩ = some v0 ∧ w.cell? ⟨b, o1, none⟩ = some v1 := ⟨cell_at (o := o0) h h0, cell_at (o := o1) h h1⟩
theorem fk2 (o0 o1 : Nat) {w : World} {b : Nat} {cs : Array Value} {t : TypeId} (h : w.heap[b]? = some (.cells cs t)) : w.frozen? ⟨b, o0, none⟩ = false ∧ w.frozen? ⟨b, o1, none⟩ = false := ⟨frozen_at o0 h, frozen_at o1 h⟩
theorem ck3 (o0 o1 o2 : Nat) {w : World} {b : Nat} {cs : Array Value} {t : TypeId} {v0 v1 v2 : Value} (h : w.heap[b]? = some (.cells cs t)) (h0 : cs[o0]? = some v0 := by exact rfl) (h1 : cs[o1]? = some v1 := by exact rfl) (h2 : cs[o2]? = some v2 := by exact rfl) : w.cell? ⟨b, o0, none⟩ = some v0 ∧ w.cell? ⟨b, o1, none⟩ = some v1 ∧ w.cell? ⟨b, o2, none⟩ = some v2 := ⟨cell_at (o := o0) h h0, cell_at (o := o1) h h1, cell_at (o := o2) h h2⟩
theorem fk3 (o0 o1 o2 : Nat) {w : World} {b : Nat} {cs : Array Value} {t : TypeId} (h : w.heap[b]? = some (.cells cs t)) : w.frozen? ⟨b, o0, none⟩ = false ∧ w.frozen? ⟨b, o1, none⟩ = false ∧ w.frozen? ⟨b, o2, none⟩ = false := ⟨frozen_at o0 h, frozen_at o1 h, frozen_at o2 h⟩
theorem ck4 (o0 o1 o2 o3 : Nat) {w : World} {b : Nat} {cs : Array Value} {t : TypeId} {v0 v1 v2 v3 : Value} (h : w.heap[b]? = some (.cells cs t)) (h0 : cs[o0]? = some v0 := by exact rfl) (h1 : cs[o1]? = some v1 := by exact rfl) (h2 : cs[o2]? = some v2 := by exact rfl) (h3 : cs[o3]? = some v3 := by exact rfl) : w.cell? ⟨b, o0, none⟩ = some v0 ∧ w.cell? ⟨b, o1, none⟩ = some v1 ∧ w.cell? ⟨b, o2, none⟩ = some v2 ∧ w.cell? ⟨b, o3, none⟩ = some v3 := ⟨cell_at (o := o0) h h0, cell_at (o := o1) h h1, cell_at (o := o2) h h2, cell_at (o := o3) h h3⟩
theorem fk4 (o0 o1 o2 o3 : Nat) {w : World} {b : Nat} {cs : Array Value} {t : TypeId} (h : w.heap[b]? = some (.cells cs t)) : w.frozen? ⟨b, o0, none⟩ = false ∧ w.frozen? ⟨b, o1, none⟩ = false ∧ w.frozen? ⟨b, o2, none⟩ = false ∧ w.frozen? ⟨b, o3, none⟩ = false := ⟨frozen_at o0 h, frozen_at o1 h, frozen_at o2 h, frozen_at o3 h⟩
theorem ck5 (o0 o1 o2 o3 o4 : Nat) {w : World} {b : Nat} {cs : Array Value} {t : TypeId} {v0 v1 v2 v3 v4 : Value} (h : w.heap[b]? = some (.cells cs t)) (h0 : cs[o0]? = some v0 := by exact rfl) (h1 : cs[o1]? = some v1 := by exact rfl) (h2 : cs[o2]? = some v2 := by exact rfl) (h3 : cs[o3]? = some v3 := by exact rfl) (h4 : cs[o4]? = some v4 := by exact rfl) : w.cell? ⟨b, o0, none⟩ = some v0 ∧ w.cell? ⟨b, o1, none⟩ = some v1 ∧ w.cell? ⟨b, o2, none⟩ = some v2 ∧ w.cell? ⟨b, o3, none⟩ = some v3 ∧ w.cell? ⟨b, o4, none⟩ = some v4 := ⟨cell_at (o := o0) h h0, cell_at (o := o1) h h1, cell_at (o := o2) h h2, cell_at (o := o3) h h3, cell_at (o := o4) h h4⟩
theorem fk5 (o0 o1 o2 o3 o4 : Nat) {w : World} {b : Nat} {cs : Array Value} {t : TypeId} (h : w.heap[b]? = some (.cells cs t)) : w.frozen? ⟨b, o0, none⟩ = false ∧ w.frozen? ⟨b, o1, none⟩ = false ∧ w.frozen? ⟨b, o2, none⟩ = false ∧ w.frozen? ⟨b, o3, none⟩ = false ∧ w.frozen? ⟨b, o4, none⟩ = false := ⟨frozen_at o0 h, frozen_at o1 h, frozen_at o2 h, frozen_at o3 h, frozen_at o4 h⟩
theorem ck6 (o0 o1 o2 o3 o4 o5 : Nat) {w : World} {b : Nat} {cs : Array Value} {t : TypeId} {v0 v1 v2 v3 v4 v5 : Value} (h : w.heap[b]? = some (.cells cs t)) (h0 : cs[o0]? = some v0 := by exact rfl) (h1 : cs[o1]? = some v1 := by exact rfl) (h2 : cs[o2]? = some v2 := by exact rfl) (h3 : cs[o3]? = some v3 := by exact rfl) (h4 : cs[o4]? = some v4 := by exact rfl) (h5 : cs[o5]? = some v5 := by exact rfl) : w.cell? ⟨b, o0, none⟩ = some v0 ∧ w.cell? ⟨b, o1, none⟩ = some v1 ∧ w.cell? ⟨b, o2, none⟩ = some v2 ∧ w.cell? ⟨b, o3, none⟩ = some v3 ∧ w.cell? ⟨b, o4, none⟩ = some v4 ∧ w.cell? ⟨b, o5, none⟩ = some v5 := ⟨cell_at (o := o0) h h0, cell_at (o := o1) h h1, cell_at (o := o2) h h2, cell_at (o := o3) h h3, cell_at (o := o4) h h4, cell_at (o := o5) h h5⟩
theorem fk6 (o0 o1 o2 o3 o4 o5 : Nat) {w : World} {b : Nat} {cs : Array Value} {t : TypeId} (h : w.heap[b]? = some (.cells cs t)) : w.frozen? ⟨b, o0, none⟩ = false ∧ w.frozen? ⟨b, o1, none⟩ = false ∧ w.frozen? ⟨b, o2, none⟩ = false ∧ w.frozen? ⟨b, o3, none⟩ = false ∧ w.frozen? ⟨b, o4, none⟩ = false ∧ w.frozen? ⟨b, o5, none⟩ = false := ⟨frozen_at o0 h, frozen_at o1 h, frozen_at o2 h, frozen_at o3 h, frozen_at o4 h, frozen_at o5 h⟩
theorem ck7 (o0 o1 o2 o3 o4 o5 o6 : Nat) {w : World} {b : Nat} {cs : Array Value} {t : TypeId} {v0 v1 v2 v3 v4 v5 v6 : Value} (h : w.heap[b]? = some (.cells cs t)) (h0 : cs[o0]? = some v0 := by exact rfl) (h1 : cs[o1]? = some v1 := by exact rfl) (h2 : cs[o2]? = some v2 := by exact rfl) (h3 : cs[o3]? = some v3 := by exact rfl) (h4 : cs[o4]? = some v4 := by exact rfl) (h5 : cs[o5]? = some v5 := by exact rfl) (h6 : cs[o6]? = some v6 := by exact rfl) : w.cell? ⟨b, o0, none⟩ = some v0 ∧ w.cell? ⟨b, o1, none⟩ = some v1 ∧ w.cell? ⟨b, o2, none⟩ = some v2 ∧ w.cell? ⟨b, o3, none⟩ = some v3 ∧ w.cell? ⟨b, o4, none⟩ = some v4 ∧ w.cell? ⟨b, o5, none⟩ = some v5 ∧ w.cell? ⟨b, o6, none⟩ = some v6 := ⟨cell_at (o := o0) h h0, cell_at (o := o1) h h1, cell_at (o := o2) h h2, cell_at (o := o3) h h3, cell_at (o := o4) h h4, cell_at (o := o5) h h5, cell_at (o := o6) h h6⟩
theorem fk7 (o0 o1 o2 o3 o4 o5 o6 : Nat) {w : World} {b : Nat} {cs : Array Value} {t : TypeId} (h : w.heap[b]? = some (.cells cs t)) : w.frozen? ⟨b, o0, none⟩ = false ∧ w.frozen? ⟨b, o1, none⟩ = false ∧ w.frozen? ⟨b, o2, none⟩ = false ∧ w.frozen? ⟨b, o3, none⟩ = false ∧ w.frozen? ⟨b, o4, none⟩ = false ∧ w.frozen? ⟨b, o5, none⟩ = false ∧ w.frozen? ⟨b, o6, none⟩ = false := ⟨frozen_at o0 h, frozen_at o1 h, frozen_at o2 h, frozen_at o3 h, frozen_at o4 h, frozen_at o5 h, frozen_at o6 h⟩
theorem ck8 (o0 o1 o2 o3 o4 o5 o6 o7 : Nat) {w : World} {b : Nat} {cs : Array Value} {t : TypeId} {v0 v1 v2 v3 v4 v5 v6 v7 : Value} (h : w.heap[b]? = some (.cells cs t)) (h0 : cs[o0]? = some v0 := by exact rfl) (h1 : cs[o1]? = some v1 := by exact rfl) (h2 : cs[o2]? = some v2 := by exact rfl) (h3 : cs[o3]? = some v3 := by exact rfl) (h4 : cs[o4]? = some v4 := by exact rfl) (h5 : cs[o5]? = some v5 := by exact rfl) (h6 : cs[o6]? = some v6 := by exact rfl) (h7 : cs[o7]? = some v7 := by exact rfl) : w.cell? ⟨b, o0, none⟩ = some v0 ∧ w.cell? ⟨b, o1, none⟩ = some v1 ∧ w.cell? ⟨b, o2, none⟩ = some v2 ∧ w.cell? ⟨b, o3, none⟩ = some v3 ∧ w.cell? ⟨b, o4, none⟩ = some v4 ∧ w.cell? ⟨b, o5, none⟩ = some v5 ∧ w.cell? ⟨b, o6, none⟩ = some v6 ∧ w.cell? ⟨b, o7, none⟩ = some v7 := ⟨cell_at (o := o0) h h0, cell_at (o := o1) h h1, cell_at (o := o2) h h2, cell_at (o := o3) h h3, cell_at (o := o4) h h4, cell_at (o := o5) h h5, cell_at (o := o6) h h6, cell_at (o := o7) h h7⟩
theorem fk8 (o0 o1 o2 o3 o4 o5 o6 o7 : Nat) {w : World} {b : Nat} {cs : Array Value} {t : TypeId} (h : w.heap[b]? = some (.cells cs t)) : w.frozen? ⟨b, o0, none⟩ = false ∧ w.frozen? ⟨b, o1, none⟩ = false ∧ w.frozen? ⟨b, o2, none⟩ = false ∧ w.frozen? ⟨b, o3, none⟩ = false ∧ w.frozen? ⟨b, o4, none⟩ = false ∧ w.frozen? ⟨b, o5, none⟩ = false ∧ w.frozen? ⟨b, o6, none⟩ = false ∧ w.frozen? ⟨b, o7, none⟩ = false := ⟨frozen_at o0 h, frozen_at o1 h, frozen_at o2 h, frozen_at o3 h, frozen_at o4 h, frozen_at o5 h, frozen_at o6 h, frozen_at o7 h⟩
theorem ck9 (o0 o1 o2 o3 o4 o5 o6 o7 o8 : Nat) {w : World} {b : Nat} {cs : Array Value} {t : TypeId} {v0 v1 v2 v3 v4 v5 v6 v7 v8 : Value} (h : w.heap[b]? = some (.cells cs t)) (h0 : cs[o0]? = some v0 := by exact rfl) (h1 : cs[o1]? = some v1 := by exact rfl) (h2 : cs[o2]? = some v2 := by exact rfl) (h3 : cs[o3]? = some v3 := by exact rfl) (h4 : cs[o4]? = some v4 := by exact rfl) (h5 : cs[o5]? = some v5 := by exact rfl) (h6 : cs[o6]? = some v6 := by exact rfl) (h7 : cs[o7]? = some v7 := by exact rfl) (h8 : cs[o8]? = some v8 := by exact rfl) : w.cell? ⟨b, o0, none⟩ = some v0 ∧ w.cell? ⟨b, o1, none⟩ = some v1 ∧ w.cell? ⟨b, o2, none⟩ = some v2 ∧ w.cell? ⟨b, o3, none⟩ = some v3 ∧ w.cell? ⟨b, o4, none⟩ = some v4 ∧ w.cell? ⟨b, o5, none⟩ = some v5 ∧ w.cell? ⟨b, o6, none⟩ = some v6 ∧ w.cell? ⟨b, o7, none⟩ = some v7 ∧ w.cell? ⟨b, o8, none⟩ = some v8 := ⟨cell_at (o := o0) h h0, cell_at (o := o1) h h1, cell_at (o := o2) h h2, cell_at (o := o3) h h3, cell_at (o := o4) h h4, cell_at (o := o5) h h5, cell_at (o := o6) h h6, cell_at (o := o7) h h7, cell_at (o := o8) h h8⟩
theorem fk9 (o0 o1 o2 o3 o4 o5 o6 o7 o8 : Nat) {w : World} {b : Nat} {cs : Array Value} {t : TypeId} (h : w.heap[b]? = some (.cells cs t)) : w.frozen? ⟨b, o0, none⟩ = false ∧ w.frozen? ⟨b, o1, none⟩ = false ∧ w.frozen? ⟨b, o2, none⟩ = false ∧ w.frozen? ⟨b, o3, none⟩ = false ∧ w.frozen? ⟨b, o4, none⟩ = false ∧ w.frozen? ⟨b, o5, none⟩ = false ∧ w.frozen? ⟨b, o6, none⟩ = false ∧ w.frozen? ⟨b, o7, none⟩ = false ∧ w.frozen? ⟨b, o8, none⟩ = false := ⟨frozen_at o0 h, frozen_at o1 h, frozen_at o2 h, frozen_at o3 h, frozen_at o4 h, frozen_at o5 h, frozen_at o6 h, frozen_at o7 h, frozen_at o8 h⟩
theorem heap_set {w : World} {b : Nat} (o : Nat) {cs : Array Value} {t : TypeId} (v : Value) (h : w.heap[b]? = some (.cells cs t)) : (w.setCell ⟨b, o, none⟩ v).heap[b]? = some (.cells (cs.setIfInBounds o v) t) := by
 simp [World.setCell, Array.getElem?_modify, h]
end Go.Proofs.YtlbcaaodkggohaaGreatDoor
namespace Go.Proofs.YtlbcaaodkggohaaGreatDoor
open Go.RowKit
structure Frm (B : Nat → Prop) (w w' : World) : Prop where
 os : w'.os = w.os
 tape : w'.tape = w.tape
 output : w'.output = w.output
 size : w.heap.size ≤ w'.heap.size
 block : ∀ b, b < w.heap.size → ¬ B b → w'.heap[b]? = w.heap[b]?
theorem Frm.refl (B : Nat → Prop) (w : World) : Frm B w w := ⟨rfl, rfl, rfl, Nat.le_refl _, fun _ _ _ => rfl⟩
theorem Frm.trans {B : Nat → Prop} {a b c : World} (h : Frm B a b) (k : Frm B b c) : Frm B a c :=
 ⟨k.os.trans h.os, k.tape.trans h.tape, k.output.trans h.output, Nat.le_trans h.size k.size, fun i hi hn => (k.block i (Nat.lt_of_lt_of_le hi h.size) hn).trans (h.block i hi hn)⟩
theorem Frm.of_below {B : Nat → Prop} {w w' : World} (h : Below w.heap.size w w') : Frm B w w' := ⟨h.os, h.tape, h.output, h.size, fun b hb _ => h.block b hb⟩
theorem Frm.below {B : Nat → Prop} {w w' : World} {S : Nat} (h : Frm B w w') (hS : S ≤ w.heap.size) (hB : ∀ b, b < S → ¬ B b) : Below S w w' := ⟨h.os, h.tape, h.output, h.size, fun b hb => h.block b (by omega) (hB b hb)⟩
theorem Frm.set {B : Nat → Prop} {a w : World} (h : Frm B a w) {b o : Nat} (hb : B b) (v : Value) : Frm B a (w.setCell ⟨b, o, none⟩ v) :=
 h.trans ⟨rfl, rfl, rfl, by simp [World.setCell], fun c _ hn => Below.heap_setCell _ _ _ _ (by intro e; exact hn (e ▸ hb))⟩
end Go.Proofs.YtlbcaaodkggohaaGreatDoor
namespace Go.Proofs.YtlbcaaodkggohaaGreatDoor
open Go.RowKit
set_option linter.unusedSimpArgs false
def Byts (w : World) (B : Nat → Prop) (a : Option Addr) (l : List UInt8) : Prop :=
 l.length = 0 ∨ ∃ b off, a = some ⟨b, off, none⟩ ∧ B b ∧ ∀ i (h : i < l.length), w.cell? ⟨b, off + i, none⟩ = some (.int .u8 (l[i].toNat : Nat))
theorem Byts.same {w w' : World} {B B' : Nat → Prop} {a : Option Addr} {l : List UInt8} (h : Byts w B a l) (hk : ∀ b, B b → w'.heap[b]? = w.heap[b]?) (hB : ∀ b, B b → B' b) : Byts w' B' a l := by
  rcases h with h | ⟨b, off, e, hb, hc⟩
  · exact .inl h
  · exact .inr ⟨b, off, e, hB b hb, fun i hi => by rw [← hc i hi]; simp [World.cell?, hk b hb]⟩
structure Src (W : World) (p S : Nat) (a : Option Addr) (l : List UInt8) (c m s : Nat) : Prop where
 box : W.heap[p]? = some (.cells #[.slice a l.length c, .int .i64 (m : Int), .int .i64 (s : Int)] 71)
 sd : s < 2147483648
 byt : Byts W (· < S) a l
 le : S ≤ p
variable {W W' : World} {p S : Nat} {a : Option Addr} {l : List UInt8} {c m s : Nat}
theorem Src.cell (h : Src W p S a l c m s) : W.cell? ⟨p, 0, none⟩ = some (.slice a l.length c) ∧ W.cell? ⟨p, 1, none⟩ = some (.int .i64 (m : Int)) ∧ W.cell? ⟨p, 2, none⟩ = some (.int .i64 (s : Int)) :=
 ⟨cell_at (o := 0) h.box rfl, cell_at (o := 1) h.box rfl, cell_at (o := 2) h.box rfl⟩
theorem Src.on (h : Src W p S a l c m s) (hB : Below W.heap.size W W') : Src W' p S a l c m s := by
 have hp := (Array.getElem?_eq_some_iff.1 h.box).1; exact ⟨by rw [hB.block p hp]; exact h.box, h.sd, h.byt.same (fun b hb => hB.block b (by have := h.le; omega)) (fun _ h => h), h.le⟩
theorem Src.frm (h : Src W p S a l c m s) {B : Nat → Prop} (hF : Frm B W W') (hp : ¬ B p) (hS : ∀ b, b < S → ¬ B b) : Src W' p S a l c m s := by
 have h0 := (Array.getElem?_eq_some_iff.1 h.box).1; exact ⟨by rw [hF.block p h0 hp]; exact h.box, h.sd, h.byt.same (fun b hb => hF.block b (by have := h.le; omega) (hS b hb)) (fun _ h => h), h.le⟩
theorem Src.setAt (h : Src W p S a l c m s) (k : Nat) : Src (W.setCell ⟨p, 1, none⟩ (.int .i64 (k : Int))) p S a l c k s :=
 ⟨by rw [heap_set 1 _ h.box]; rfl, h.sd, h.byt.same (fun b hb => Below.heap_setCell W ⟨p, 1, none⟩ _ b (by have := h.le; show b ≠ p; omega)) (fun _ h => h), h.le⟩
theorem Src.setSeed (h : Src W p S a l c m s) (k : Nat) (hk : k < 2147483648) : Src (W.setCell ⟨p, 2, none⟩ (.int .i64 (k : Int))) p S a l c m k :=
 ⟨by rw [heap_set 2 _ h.box]; rfl, hk, h.byt.same (fun b hb => Below.heap_setCell W ⟨p, 2, none⟩ _ b (by have := h.le; show b ≠ p; omega)) (fun _ h => h), h.le⟩
theorem Frm.put1 (W : World) (p o : Nat) (v : Value) : Frm (· = p) W (W.setCell ⟨p, o, none⟩ v) := ⟨rfl, rfl, rfl, by simp, fun b _ hb => Below.heap_setCell W ⟨p, o, none⟩ v b hb⟩
theorem Frm.put2 (W : World) (p o o' : Nat) (v v' : Value) : Frm (· = p) W ((W.setCell ⟨p, o, none⟩ v).setCell ⟨p, o', none⟩ v') :=
 ⟨rfl, rfl, rfl, by simp, fun b _ hb => by rw [Below.heap_setCell _ ⟨p, o', none⟩ v' b hb, Below.heap_setCell W ⟨p, o, none⟩ v b hb]⟩
theorem Src.drew1 (h : Src W p S a l c m s) : Src W.drew p S a l c m s := h.on (Below.refl _ _).drew
theorem Frm.drew1 {B : Nat → Prop} (h : Frm B W W') : Frm B W W'.drew := by
 have hb := (Below.refl W'.heap.size W').drew; exact ⟨hb.os.trans h.os, hb.tape.trans h.tape, hb.output.trans h.output, Nat.le_trans h.size hb.size, fun b h1 h2 => (hb.block b (Nat.lt_of_lt_of_le h1 h.size)).trans (h.block b h1 h2)⟩
def ByteAns (W : World) (p S : Nat) (a : Option Addr) (l : List UInt8) (c m : Nat) (e : Ending) (W' : World) : Prop := ∃ b s' : Nat, e = .returned (.int .i64 (b : Int)) ∧ b < 256 ∧ Src W' p S a l c (m + 1) s' ∧ Frm (· = p) W W'
set_option maxRecDepth 100000 in
set_option maxHeartbeats 3200000 in
theorem srcByte (h : Src W p S a l c m s) (hm : m < 1000000) :
  Calls Tryz.prog 69 #[.pointer (some ⟨p, 0, none⟩)] W (ByteAns W p S a l c m) := by
 obtain ⟨k, hk⟩ : ∃ k, k = m + 1 := ⟨_, rfl⟩; have w1 : IntKind.i64.wrap ((m : Int) + 1) = (k : Int) := by rw [IntKind.wrap_i64]; omega
 obtain ⟨x0, x1, x2⟩ := h.cell; have z1 := frozen_at 1 h.box; have H1 := Lib.hid (h.setAt k); obtain ⟨y0, y1, y2⟩ := H1.out.cell; have z2 := frozen_at 2 H1.out.box; have HK : Hid (k = m + 1) := hk
 by_cases hl : k ≤ l.length
 ·
  have d1 : decide ((k : Int) ≤ (l.length : Int)) = true := decide_eq_true (by omega); have d2 : decide (k ≤ l.length) = true := decide_eq_true hl; have w2 : IntKind.i64.wrap ((k : Int) - 1) = (m : Int) := by rw [IntKind.wrap_i64]; omega
  have hml : m < l.length := by omega
  rcases H1.out.byt with h0 | ⟨b, off, rfl, hb, hc⟩
  ·
   omega
  have hcm := hc m hml; obtain ⟨v, hv⟩ : ∃ v : Nat, v = l[m].toNat := ⟨_, rfl⟩; have hv2 : v < 256 := by rw [hv]; exact UInt8.toNat_lt _
  rw [← hv] at hcm; have hs := h.sd; obtain ⟨u1, e1⟩ : ∃ u : Nat, u = s * 31 := ⟨_, rfl⟩; obtain ⟨u2, e2⟩ : ∃ u : Nat, u = u1 + v := ⟨_, rfl⟩; obtain ⟨u3, e3⟩ : ∃ u : Nat, u = u2 + 7 := ⟨_, rfl⟩; obtain ⟨s', e4⟩ : ∃ u : Nat, u = u3 % 2147483648 := ⟨_, rfl⟩; have f1 : IntKind.i64.wrap ((s : Int) * 31) = (u1 : Int) := by rw [IntKind.wrap_i64]; omega
  have f2 : IntKind.i64.wrap ((u1 : Int) + (v : Int)) = (u2 : Int) := by rw [IntKind.wrap_i64]; omega
  have f3 : IntKind.i64.wrap ((u2 : Int) + 7) = (u3 : Int) := by rw [IntKind.wrap_i64]; omega
  have f4 : (u3 : Int).tmod 2147483648 = (s' : Int) := by rw [Int.tmod_eq_emod_of_nonneg (by omega)]; omega
  have f5 : IntKind.i64.wrap (s' : Int) = (s' : Int) := by rw [IntKind.wrap_i64]; omega
  have f6 : IntKind.i64.wrap (v : Int) = (v : Int) := by rw [IntKind.wrap_i64]; omega
  have f7 : IntKind.i64.wrap ((u3 : Int) % 2147483648) = (s' : Int) := by rw [IntKind.wrap_i64]; omega
  have H2 := Lib.hid (H1.out.setSeed s' (by omega)); obtain ⟨t0, t1, t2⟩ := H2.out.cell
  have hcm2 : ((W.setCell ⟨p, 1, none⟩ (.int .i64 (k : Int))).setCell ⟨p, 2, none⟩ (.int .i64 (s' : Int))).cell? ⟨b, off + m, none⟩ = some (.int .u8 (v : Int)) := by
   rcases H2.out.byt with h0 | ⟨b', off', e', hb', hc'⟩
   ·
    omega
   ·
    cases e'
    rw [hv]; exact hc' m hml
  have HV := Lib.hid hv2; have HF := Lib.hid (Frm.put2 W p 1 2 (.int .i64 (k : Int)) (.int .i64 (s' : Int))); clear h hk e1 e2 e3 e4 hv hv2 hs hc hb hl hm; (go_enter Tryz.func69, Tryz.ntmps69); (go_wp2_with fail); go_region; (go_wp2_with fail); go_region; (go_wp2_with fail); go_region; (go_wp2_with fail); go_ret; exact ⟨v, s', rfl, HV.out, HK.out ▸ H2.out.drew1.drew1.drew1, HF.out.drew1.drew1.drew1⟩
 ·
  have d1 : decide ((k : Int) ≤ (l.length : Int)) = false := decide_eq_false (by omega); have d2 : decide (k ≤ l.length) = false := decide_eq_false hl
  by_cases h3 : 3000 < k
  ·
   have d3 : decide (3000 < (k : Int)) = true := decide_eq_true (by omega); have d4 : decide (3000 < k) = true := decide_eq_true h3; have HF := Lib.hid (Frm.put1 W p 1 (.int .i64 (k : Int))); clear h hk hl h3 hm; (go_enter Tryz.func69, Tryz.ntmps69); (go_wp2_with fail); go_region; (go_wp2_with fail); go_ret; exact ⟨0, s, rfl, by omega, HK.out ▸ H1.out.drew1, HF.out.drew1⟩
  ·
   have d3 : decide (3000 < (k : Int)) = false := decide_eq_false (by omega); have d4 : decide (3000 < k) = false := decide_eq_false h3; have hs := h.sd; obtain ⟨u1, e1⟩ : ∃ u : Nat, u = s * 1103515245 := ⟨_, rfl⟩; obtain ⟨u2, e2⟩ : ∃ u : Nat, u = u1 + 12345 := ⟨_, rfl⟩; obtain ⟨s', e4⟩ : ∃ u : Nat, u = u2 % 2147483648 := ⟨_, rfl⟩; obtain ⟨q, e5⟩ : ∃ u : Nat, u = s' / 65536 := ⟨_, rfl⟩; obtain ⟨v, e6⟩ : ∃ u : Nat, u = q % 256 := ⟨_, rfl⟩; have f1 : IntKind.i64.wrap ((s : Int) * 1103515245) = (u1 : Int) := by rw [IntKind.wrap_i64]; omega
   have f2 : IntKind.i64.wrap ((u1 : Int) + 12345) = (u2 : Int) := by rw [IntKind.wrap_i64]; omega
   have f4 : (u2 : Int).tmod 2147483648 = (s' : Int) := by rw [Int.tmod_eq_emod_of_nonneg (by omega)]; omega
   have f5 : IntKind.i64.wrap (s' : Int) = (s' : Int) := by rw [IntKind.wrap_i64]; omega
   have f7 : IntKind.i64.wrap ((u2 : Int) % 2147483648) = (s' : Int) := by rw [IntKind.wrap_i64]; omega
   have f8 : (s' : Int).tdiv 65536 = (q : Int) := by rw [Int.tdiv_eq_ediv_of_nonneg (by omega)]; omega
   have f9 : IntKind.i64.wrap ((s' : Int) / 65536) = (q : Int) := by rw [IntKind.wrap_i64]; omega
   have g1 : IntKind.i64.wrap (q : Int) = (q : Int) := by rw [IntKind.wrap_i64]; omega
   have g2 : (q : Int).tmod 256 = (v : Int) := by rw [Int.tmod_eq_emod_of_nonneg (by omega)]; omega
   have g3 : IntKind.i64.wrap ((q : Int) % 256) = (v : Int) := by rw [IntKind.wrap_i64]; omega
   have g4 : IntKind.i64.wrap (v : Int) = (v : Int) := by rw [IntKind.wrap_i64]; omega
   have H2 := Lib.hid (H1.out.setSeed s' (by omega)); obtain ⟨t0, t1, t2⟩ := H2.out.cell; have HV : Hid (v < 256) := by show v < 256; omega
   have HF := Lib.hid (Frm.put2 W p 1 2 (.int .i64 (k : Int)) (.int .i64 (s' : Int))); clear h hk e1 e2 e4 e5 e6 hs hl h3 hm; (go_enter Tryz.func69, Tryz.ntmps69); (go_wp2_with fail); go_region; (go_wp2_with fail); go_ret; exact ⟨v, s', rfl, HV.out, HK.out ▸ H2.out.drew1, HF.out.drew1⟩
def NextAns (W : World) (p S : Nat) (a : Option Addr) (l : List UInt8) (c m n : Nat) (e : Ending) (W' : World) : Prop := ∃ b s' : Nat, e = .returned (.int .i64 (b : Int)) ∧ b < n ∧ Src W' p S a l c (m + 1) s' ∧ Frm (· = p) W W'
set_option maxRecDepth 100000 in
set_option maxHeartbeats 1600000 in
theorem srcNext (h : Src W p S a l c m s) (hm : m < 1000000) (n : Nat) (h1 : 1 < n) (h2 : n ≤ 256) :
  Calls Tryz.prog 28 #[.pointer (some ⟨p, 0, none⟩), .int .i64 (n : Int)] W (NextAns W p S a l c m n) := by
 have BY := Lib.hid (srcByte h hm); have d1 : decide ((n : Int) ≤ 1) = false := decide_eq_false (by omega); have d2 : decide (n ≤ 1) = false := decide_eq_false (by omega); have d3 : decide ((n : Int) ≤ 256) = true := decide_eq_true (by omega); have d4 : decide (n ≤ 256) = true := decide_eq_true h2; have d5 : ((n : Int) == 0) = false := by rw [beq_eq_false_iff_ne]; omega
 have HN : Hid (1 < n ∧ n ≤ 256) := ⟨h1, h2⟩; have hn0 : n ≠ 0 := by omega
 clear h h1 h2 hm; (go_enter Tryz.func28, Tryz.ntmps28); (go_wp2_with fail); refine BY.out.mono ?_; rintro e w1 ⟨b, s', rfl, hb, hS, hF⟩; have HS := Lib.hid hS; have HF := Lib.hid hF; obtain ⟨r, hr⟩ : ∃ r : Nat, r = b % n := ⟨_, rfl⟩; have HR : Hid (r < n) := by show r < n; rw [hr]; exact Nat.mod_lt _ (by have := HN.out; omega)
 have t1 : (b : Int).tmod (n : Int) = (r : Int) := by rw [Int.tmod_eq_emod_of_nonneg (by omega), hr, Int.natCast_emod]
 have t3 : ((b : Int) % (n : Int)) = (r : Int) := by rw [hr, Int.natCast_emod]
 have t2 : IntKind.i64.wrap (r : Int) = (r : Int) := by have := HR.out; have := HN.out; rw [IntKind.wrap_i64]; omega
 clear hS hF hr hb; (go_wp2_with fail); go_ret; exact ⟨r, s', rfl, HR.out, HS.out, HF.out⟩
end Go.Proofs.YtlbcaaodkggohaaGreatDoor
