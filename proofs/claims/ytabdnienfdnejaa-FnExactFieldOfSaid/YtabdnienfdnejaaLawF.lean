import Derived.Test.YtabdnienfdnejaaFieldS
namespace Go.Proofs.Ytabdnienfdnejaa
open Go.RowKit
set_option linter.unusedSimpArgs false
theorem RJ.any {w : World} {B : Nat → Prop} {j : J} {cs : List Value} (h : RJ w B j cs) : RJ w (fun _ => True) j cs := RJ.same (fun _ _ => rfl) (fun _ _ => trivial) j cs h
theorem heap_new (w : World) (o : Obj) : (w.alloc o).heap[w.heap.size]? = some o := by
  show (w.heap.push o)[w.heap.size]? = _
  simp
theorem heap_alloc_kept {w : World} {b : Nat} {o o' : Obj} (h : w.heap[b]? = some o) : (w.alloc o').heap[b]? = some o := by
  rw [Below.heap_alloc _ _ _ (Array.getElem?_eq_some_iff.1 h).1]; exact h
theorem field_sz {j : J} (name : List UInt8) (l : Bool) (h : j.sz ≤ 1048576) : (fieldA j name l).1.sz ≤ 1048576 := by
  have hd : dflt.sz ≤ 1048576 := by rw [J.sz_eq]; simp [dflt, szK]
  unfold fieldA
  split
  · exact hd
  split
  · exact hd
  split
  · exact hd
  split
  · rename_i i _
    show (j.items.getD i dflt).sz ≤ _
    rw [List.getD_eq_getElem?_getD]
    cases e : j.items[i]? with
    | none => exact hd
    | some x => exact Nat.le_trans (J.sz_item j x (List.mem_of_getElem? e)) h
  · exact hd
theorem mnT_lt {j : J} (h : j.sz ≤ 1048576) : 1 + mnT j < 1000000000000 := by
  have h1 := mn_le j
  rw [mn_eq] at h1
  unfold mnT
  omega
/-- what the law holds in memory: its argument at S, the specification's answer at a0, the argument's copy at x0, the answer at g0 -/
structure Mem (w W : World) (j A X' G' : J) (a0 x0 g0 : Nat) (cs csA csX csG : List Value) : Prop where
  arg : RJ w (· < w.heap.size) j cs
  bel : Below w.heap.size w W
  gs : W.heap[w.heap.size]? = some (.cells cs.toArray 25)
  ga : W.heap[a0]? = some (.cells csA.toArray 29)
  gx : W.heap[x0]? = some (.cells csX.toArray 29)
  gg : W.heap[g0]? = some (.cells csG.toArray 29)
  ra : RJ W (· < a0) A csA
  ox : OwnJ W X' (fun b => a0 < b ∧ b < x0) csX
  og : OwnJ W G' (fun b => x0 < b ∧ b < g0) csG
  ord : w.heap.size < a0 ∧ a0 < x0 ∧ x0 < g0
variable {w W W' : World} {j A X' G' : J} {a0 x0 g0 : Nat} {cs csA csX csG : List Value}
theorem Mem.len (h : Mem w W j A X' G' a0 x0 g0 cs csA csX csG) : g0 < W.heap.size := (Array.getElem?_eq_some_iff.1 h.gg).1
theorem Mem.now (h : Mem w W j A X' G' a0 x0 g0 cs csA csX csG) : RJ W (· < w.heap.size) j cs := h.arg.below h.bel
theorem Mem.later (h : Mem w W j A X' G' a0 x0 g0 cs csA csX csG) (hB : Below W.heap.size W W') : Mem w W' j A X' G' a0 x0 g0 cs csA csX csG := by
  have hl := h.len
  have ho := h.ord
  exact ⟨h.arg, h.bel.trans (hB.mono h.bel.size), heap_kept2 h.gs hB, heap_kept2 h.ga hB, heap_kept2 h.gx hB, heap_kept2 h.gg hB, h.ra.later hB,
    OwnJ.same _ _ _ _ (fun b hb => hB.block b (by omega)) (fun _ h => h) h.ox, OwnJ.same _ _ _ _ (fun b hb => hB.block b (by omega)) (fun _ h => h) h.og, ho⟩
theorem Mem.markx {X2 : J} (h : Mem w W j A X' G' a0 x0 g0 cs csA csX csG) (hF : Frm (fun b => a0 < b ∧ b < x0) W W') (hX : OwnJ W' X2 (fun b => a0 < b ∧ b < x0) csX) : Mem w W' j A X2 G' a0 x0 g0 cs csA csX csG := by
  have hl := h.len
  have ho := h.ord
  have hs := hF.size
  exact ⟨h.arg, h.bel.trans (hF.below h.bel.size (fun b hb => by omega)), (hF.block _ (by omega) (by omega)).trans h.gs, (hF.block _ (by omega) (by omega)).trans h.ga, (hF.block _ (by omega) (by omega)).trans h.gx, (hF.block _ (by omega) (by omega)).trans h.gg,
    RJ.same (fun b hb => hF.block b (by omega) (by omega)) (fun _ h => h) _ _ h.ra, hX, OwnJ.same _ _ _ _ (fun b hb => hF.block b (by omega) (by omega)) (fun _ h => h) h.og, ho⟩
theorem Mem.markg {G2 : J} (h : Mem w W j A X' G' a0 x0 g0 cs csA csX csG) (hF : Frm (fun b => x0 < b ∧ b < g0) W W') (hG : OwnJ W' G2 (fun b => x0 < b ∧ b < g0) csG) : Mem w W' j A X' G2 a0 x0 g0 cs csA csX csG := by
  have hl := h.len
  have ho := h.ord
  have hs := hF.size
  exact ⟨h.arg, h.bel.trans (hF.below h.bel.size (fun b hb => by omega)), (hF.block _ (by omega) (by omega)).trans h.gs, (hF.block _ (by omega) (by omega)).trans h.ga, (hF.block _ (by omega) (by omega)).trans h.gx, (hF.block _ (by omega) (by omega)).trans h.gg,
    RJ.same (fun b hb => hF.block b (by omega) (by omega)) (fun _ h => h) _ _ h.ra, OwnJ.same _ _ _ _ (fun b hb => hF.block b (by omega) (by omega)) (fun _ h => h) h.ox, hG, ho⟩
end Go.Proofs.Ytabdnienfdnejaa
