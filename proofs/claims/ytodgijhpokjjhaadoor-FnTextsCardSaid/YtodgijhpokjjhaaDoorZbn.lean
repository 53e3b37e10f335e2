import Derived.Test.YtodgijhpokjjhaaDoorZbm
import Derived.Deep.RegionLaw
import Derived.Deep.RegionWith
import Derived.Deep.RegionHeld3
import Derived.BigQuiet
import Derived.Lib.Hide
namespace Go.Proofs.YtodgijhpokjjhaaDoor
open Go.RowKit
set_option linter.unusedSimpArgs false
def fcs (f : Fr) (vb ve : Value) : Array Value := #[vb, .int .i64 f.d, .bool f.q, .bool f.s, .bool f.c, ve]
structure StO (w : World) (p : Nat) (W : World) (f : Fr) (out : List (List UInt8)) (vb ve : Value) : Prop where
  bel : Below w.heap.size w W
  own : w.heap.size ≤ p
  box : W.heap[p]? = some (.cells (fcs f vb ve) 42)
  ob : OB W w.heap.size 5 vb (bc f.buf)
  oe : OB W w.heap.size 9 ve (sc out)
  nb : vb.ownBlock ≠ some p
  ne : ve.ownBlock ≠ some p
  ap : ∀ g, vb.ownBlock = some g → ve.ownBlock ≠ some g
def FrS (w : World) (p : Nat) (W : World) (f : Fr) (out : List (List UInt8)) : Prop := ∃ vb ve, StO w p W f out vb ve
variable {w W W' : World} {p : Nat} {f f' : Fr} {out out' : List (List UInt8)} {vb ve vb' ve' : Value}
theorem StO.lt (h : StO w p W f out vb ve) : p < W.heap.size := (Array.getElem?_eq_some_iff.1 h.box).1
theorem StO.on (h : StO w p W f out vb ve) (hB : Below W.heap.size W W') : StO w p W' f out vb ve :=
  ⟨h.bel.trans (hB.mono h.bel.size), h.own, by rw [hB.block p h.lt]; exact h.box, h.ob.same (fun g hg => hB.block g (h.ob.lt hg).2), h.oe.same (fun g hg => hB.block g (h.oe.lt hg).2), h.nb, h.ne, h.ap⟩
theorem StO.drew (h : StO w p W f out vb ve) : StO w p W.drew f out vb ve := h.on (Below.refl _ _).drew
theorem StO.re (h : StO w p W f out vb ve) (hs : W'.heap.size = W.heap.size) (h1 : W'.os = W.os) (h2 : W'.tape = W.tape) (h3 : W'.output = W.output) (hk : ∀ k, k ≠ p → W'.heap[k]? = W.heap[k]?)
    (hbox : W'.heap[p]? = some (.cells (fcs f' vb' ve) 42)) (hob : OB W w.heap.size 5 vb' (bc f'.buf)) (hpl : ∀ g, vb'.ownBlock = some g → vb.ownBlock = some g) : StO w p W' f' out vb' ve :=
  ⟨h.bel.trans ⟨h1, h2, h3, by rw [hs]; exact Nat.le_refl _, fun k hk' => hk k (by have := h.own; omega)⟩, h.own, hbox, hob.same (fun g hg => hk g (fun e => h.nb (e ▸ hpl g hg))), h.oe.same (fun g hg => hk g (fun e => h.ne (e ▸ hg))), fun e => h.nb (hpl p e), h.ne, fun g hg => h.ap g (hpl g hg)⟩
theorem StO.put (h : StO w p W f out vb ve) (o : Nat) (v : Value) (f' : Fr) (hb : f'.buf = f.buf) (hc : (fcs f vb ve).setIfInBounds o v = fcs f' vb ve) : StO w p (W.setCell ⟨p, o, none⟩ v) f' out vb ve :=
  h.re (size_setO _ _ _ _) rfl rfl rfl (fun k hk => heap_setO _ _ _ _ _ hk) (by rw [heap_setCell_same W p o _ _ v h.box, hc]) (by rw [hb]; exact h.ob) (fun _ h => h)
theorem StO.push (h : StO w p W f out vb ve) {buf : List UInt8} (hb : OB W' w.heap.size 5 vb' (bc buf)) (hg : Gr W vb W' vb') : StO w p (W'.setCell ⟨p, 0, none⟩ vb') { f with buf := buf } out vb' ve := by
  have hlt := h.lt
  have hbx : W'.heap[p]? = some (.cells (fcs f vb ve) 42) := by rw [hg.block p hlt h.nb]; exact h.box
  have hbl : Below w.heap.size W W' := ⟨hg.os, hg.tape, hg.output, hg.size, fun k hk => hg.block k (by have := h.bel.size; omega) (fun e => by have := (h.ob.lt e).1; omega)⟩
  have hnb : vb'.ownBlock ≠ some p := fun e => by
    rcases hg.place p e with e' | e'
    · exact h.nb e'
    · omega
  have hs := hg.size
  refine ⟨(h.bel.trans hbl).trans ⟨rfl, rfl, rfl, by rw [size_setO]; exact Nat.le_refl _, fun k hk => heap_setO _ _ _ _ _ (by have := h.own; omega)⟩, h.own, by rw [heap_setCell_same W' p 0 _ _ _ hbx]; rfl, hb.same (fun g e => heap_setO _ _ _ _ _ (fun e' => hnb (e' ▸ e))), h.oe.same (fun g e => ?_), hnb, h.ne, fun g e => ?_⟩
  · rw [heap_setO _ p _ g _ (fun e' => h.ne (by rw [← e']; exact e)), hg.block g (h.oe.lt e).2 (fun e' => h.ap g e' e)]
  · rcases hg.place g e with e' | e'
    · exact h.ap g e'
    · intro e2
      have := (h.oe.lt e2).2
      omega
theorem StO.pushE (h : StO w p W f out vb ve) (hb : OB W' w.heap.size 9 ve' (sc out')) (hg : Gr W ve W' ve') : StO w p (W'.setCell ⟨p, 5, none⟩ ve') f out' vb ve' := by
  have hlt := h.lt
  have hbx : W'.heap[p]? = some (.cells (fcs f vb ve) 42) := by rw [hg.block p hlt h.ne]; exact h.box
  have hbl : Below w.heap.size W W' := ⟨hg.os, hg.tape, hg.output, hg.size, fun k hk => hg.block k (by have := h.bel.size; omega) (fun e => by have := (h.oe.lt e).1; omega)⟩
  have hnb : ve'.ownBlock ≠ some p := fun e => by
    rcases hg.place p e with e' | e'
    · exact h.ne e'
    · omega
  have hs := hg.size
  refine ⟨(h.bel.trans hbl).trans ⟨rfl, rfl, rfl, by rw [size_setO]; exact Nat.le_refl _, fun k hk => heap_setO _ _ _ _ _ (by have := h.own; omega)⟩, h.own, by rw [heap_setCell_same W' p 5 _ _ _ hbx]; rfl, h.ob.same (fun g e => ?_), hb.same (fun g e => heap_setO _ _ _ _ _ (fun e' => hnb (e' ▸ e))), h.nb, hnb, fun g e => ?_⟩
  · rw [heap_setO _ p _ g _ (fun e' => h.nb (by rw [← e']; exact e)), hg.block g (h.ob.lt e).2 (fun e' => h.ap g e e')]
  · intro e2
    rcases hg.place g e2 with e' | e'
    · exact h.ap g e e'
    · have := (h.ob.lt e).2
      omega
theorem StO.cutB {a : Addr} {n c : Nat} (h : StO w p W f out (.slice (some a) n c) ve) : StO w p (W.setCell ⟨p, 0, none⟩ (.slice (some a) 0 c)) { f with buf := [] } out (.slice (some a) 0 c) ve :=
  h.re (size_setO _ _ _ _) rfl rfl rfl (fun k hk => heap_setO _ _ _ _ _ hk) (by rw [heap_setCell_same W p 0 _ _ _ h.box]; rfl) (h.ob.cut) (fun _ h => h)
theorem StO.cell (h : StO w p W f out vb ve) : W.cell? ⟨p, 0, none⟩ = some vb ∧ W.cell? ⟨p, 1, none⟩ = some (.int .i64 f.d) ∧ W.cell? ⟨p, 2, none⟩ = some (.bool f.q) ∧ W.cell? ⟨p, 3, none⟩ = some (.bool f.s) ∧ W.cell? ⟨p, 4, none⟩ = some (.bool f.c) ∧ W.cell? ⟨p, 5, none⟩ = some ve :=
  ⟨cell_at (o := 0) h.box rfl, cell_at (o := 1) h.box rfl, cell_at (o := 2) h.box rfl, cell_at (o := 3) h.box rfl, cell_at (o := 4) h.box rfl, cell_at (o := 5) h.box rfl⟩
theorem StO.fz (h : StO w p W f out vb ve) (o : Nat) : W.frozen? ⟨p, o, none⟩ = false := frozen_at o h.box
theorem FrS.open (h : FrS w p W f out) : ∃ ba bp ea ep, StO w p W f out (.slice ba f.buf.length bp) (.slice ea out.length ep) := by
  obtain ⟨vb, ve, h⟩ := h
  obtain ⟨ba, bp, e1, -⟩ := h.ob.shape
  obtain ⟨ea, ep, e2, -⟩ := h.oe.shape
  rw [bc_len] at e1
  rw [sc_len] at e2
  subst e1 e2
  exact ⟨ba, bp, ea, ep, h⟩
end Go.Proofs.YtodgijhpokjjhaaDoor
