import Derived.Test.YtodgijhpokjjhaaDoorZbs
import Derived.BigRegion
namespace Go.Proofs.YtodgijhpokjjhaaDoor
open Go.RowKit
set_option linter.unusedSimpArgs false
theorem StO.conv {w W : World} {p : Nat} {f : Fr} {out : List (List UInt8)} {a : Option Addr} {n c : Nat} {ve : Value} (h : StO w p W f out (.slice a n c) ve) : (convert 22 9 (.slice a n c)).run Tryd.prog W = .ok (.string ⟨f.buf.toArray⟩) W := h.ob.conv
set_option maxRecDepth 100000 in
set_option maxHeartbeats 3200000 in
theorem framerI {w W : World} {p : Nat} {f : Fr} {out : List (List UInt8)} (h : FrS w p W f out) :
    Calls Tryd.prog 13 #[.pointer (some ⟨p, 0, none⟩)] W fun e W' => e = .returned (.agg #[.string ⟨f.buf.toArray⟩, .int .i64 f.d, .bool f.q, .bool f.s, .bool f.c]) ∧ Below W.heap.size W W' := by
  obtain ⟨ba, bp, ea, ep, h⟩ := h.open
  have h1 := h.on ((Below.refl W.heap.size W).alloc (Nat.le_refl _) (.cells #[.string ⟨#[]⟩, .int .i64 0, .bool false, .bool false, .bool false] 31))
  have HB : Hid (Below W.heap.size W (W.alloc (.cells #[.string ⟨#[]⟩, .int .i64 0, .bool false, .bool false, .bool false] 31))) := (Below.refl W.heap.size W).alloc (Nat.le_refl _) _
  have hn := heap_new' W (.cells #[.string ⟨#[]⟩, .int .i64 0, .bool false, .bool false, .bool false] 31)
  have hne : ¬ p = W.heap.size := by have := h.lt; omega
  obtain ⟨W1, hW1⟩ : ∃ W1, W1 = W.alloc (.cells #[.string ⟨#[]⟩, .int .i64 0, .bool false, .bool false, .bool false] 31) := ⟨_, rfl⟩
  rw [← hW1] at h1 HB hn
  have hcv := h1.drew.conv
  obtain ⟨c0, c1, c2, c3, c4, c5⟩ := h1.drew.cell
  have r0 : W1.cell? ⟨W.heap.size, 0, none⟩ = some (.string ⟨#[]⟩) := cell_at (o := 0) hn rfl
  have r1 : W1.cell? ⟨W.heap.size, 1, none⟩ = some (.int .i64 0) := cell_at (o := 1) hn rfl
  have r2 : W1.cell? ⟨W.heap.size, 2, none⟩ = some (.bool false) := cell_at (o := 2) hn rfl
  have r3 : W1.cell? ⟨W.heap.size, 3, none⟩ = some (.bool false) := cell_at (o := 3) hn rfl
  have r4 : W1.cell? ⟨W.heap.size, 4, none⟩ = some (.bool false) := cell_at (o := 4) hn rfl
  have z0 := frozen_at 0 hn; have z1 := frozen_at 1 hn; have z2 := frozen_at 2 hn; have z3 := frozen_at 3 hn; have z4 := frozen_at 4 hn
  clear h1 h hn
  go_enter Tryd.func13, Tryd.ntmps13
  go_wp2_with fail
  rw [← hW1]
  clear hW1
  go_region
  go_wp2_with fail
  exact bodyPost_ret (v := .agg #[.string ⟨f.buf.toArray⟩, .int .i64 f.d, .bool f.q, .bool f.s, .bool f.c]) (by simp [results, Tryd.results13, go_sem, r0, r1, r2, r3, r4]) rfl ⟨rfl, (((((HB.out.setCell (Nat.le_refl _) _).setCell (Nat.le_refl _) _).setCell (Nat.le_refl _) _).setCell (Nat.le_refl _) _).setCell (Nat.le_refl _) _).drew⟩
end Go.Proofs.YtodgijhpokjjhaaDoor
