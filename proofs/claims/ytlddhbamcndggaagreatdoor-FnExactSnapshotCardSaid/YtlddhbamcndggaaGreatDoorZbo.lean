import Derived.Test.YtlddhbamcndggaaGreatDoorZbn
import Derived.Test.YtlddhbamcndggaaGreatDoorZTk
namespace Go.Proofs.YtlddhbamcndggaaGreatDoor
open Go.RowKit
set_option linter.unusedSimpArgs false
def RowOwn (w : World) (x : RowV) (e : Ending) (w' : World) : Prop := ∃ ra rc, e = .returned (.agg #[.int .i64 x.id, .slice ra x.cells.length rc]) ∧ Own w' (dAtomSS x.cells) (fun b => w.heap.size ≤ b ∧ b < w'.heap.size) (.slice ra x.cells.length rc) ∧ Below w.heap.size w w'
theorem RowOwn.nil {w w' : World} {x : RowV} (h : x = rowZ) (hB : Below w.heap.size w w') : RowOwn w x (.returned (.agg #[.int .i64 0, .slice none 0 0])) w' := by
 subst h; exact ⟨none, 0, rfl, ⟨none, 0, rfl, .inl rfl⟩, hB⟩
theorem chosen_all {t : Tb} {r : RowV} {list : List CondV} (h : allM t r list = true) : (chosen t [r] list).length = 1 := by unfold chosen; simp [h]
theorem chosen_none {t : Tb} {r : RowV} {list : List CondV} (h : allM t r list = false) : (chosen t [r] list).length = 0 := by unfold chosen; simp [h]
set_option maxRecDepth 100000 in
set_option maxHeartbeats 12800000 in
theorem seenI (t : Tb) (ca : Option Addr) (cc : Nat) (ua : Option Addr) (uc : Nat) (A : Nat → Prop) (m : MoV) (a2 : Option Addr) (c2 : Nat) (a7 : Option Addr) (c7 : Nat) (B : Nat → Prop) (k : Int) (r : RowV) (rb ro : Nat) (ra : Option Addr) (rc : Nat) (R : Nat → Prop) (w : World) (hto : t.ok) (hn4 : m.cs.length ≤ 4096) (hcs : (dStringS m.cs).le 1048576) (hw : (dCondS m.wh).le maxLen) (hr : (dAtomSS r.cells).le 1048576) (hid : iOK r.id) (hz : r.id = 0 → r.cells = []) (hq : r.id ≠ 0 → (∀ k (h : k < m.wh.length), Asks t r m.wh[k]) ∧ rokM t r = true ∧ pkN t m.cs = 0) (hTab : TabW w) (h0w : 0 < w.heap.size) (hT : t.Has w A ca ua) (rcs : Rd w B (dStringS m.cs) (.slice a2 m.cs.length c2)) (rh : Rd w B (dCondS m.wh) (.slice a7 m.wh.length c7)) (hR : Rd w R (dAtomSS r.cells) (.slice ra r.cells.length rc)) (i0 : w.cell? ⟨rb, ro, none⟩ = some (.int .i64 r.id)) (i1 : w.cell? ⟨rb, ro + 1, none⟩ = some (.slice ra r.cells.length rc)) :
  Calls Tryz.prog 38 #[.agg #[.string ⟨m.nm.toArray⟩, .string ⟨m.tb.toArray⟩, .slice a2 m.cs.length c2, .bool m.ini, .bool m.ins, .bool m.del, .bool m.mod, .slice a7 m.wh.length c7, .int .i64 k, .string ⟨t.nm.toArray⟩, .slice ca t.cols.length cc, .slice ua t.uq.length uc, .bool t.rt], .pointer (some ⟨rb, ro, none⟩)] w (RowOwn w (seenR t m r)) := by
 have HB0 := Lib.hid (boxE 77 81 w #[.string ⟨m.nm.toArray⟩, .string ⟨m.tb.toArray⟩, .slice a2 m.cs.length c2, .bool m.ini, .bool m.ins, .bool m.del, .bool m.mod, .slice a7 m.wh.length c7, .int .i64 k, .string ⟨t.nm.toArray⟩, .slice ca t.cols.length cc, .slice ua t.uq.length uc, .bool t.rt] #[.int .i64 0, .slice none 0 0])
 have RCE : Hid (∀ W, Below w.heap.size w W → W.cell? ⟨rb, ro, none⟩ = some (.int .i64 r.id) ∧ W.cell? ⟨rb, ro + 1, none⟩ = some (.slice ra r.cells.length rc)) := fun W h => ⟨(h.cell (p := ⟨rb, ro, none⟩) (World.block_lt_of_cell? _ _ i0)).trans i0, (h.cell (p := ⟨rb, ro + 1, none⟩) (World.block_lt_of_cell? _ _ i1)).trans i1⟩
 have IT : Hid (∀ W, BoxE 77 81 w W #[.string ⟨m.nm.toArray⟩, .string ⟨m.tb.toArray⟩, .slice a2 m.cs.length c2, .bool m.ini, .bool m.ins, .bool m.del, .bool m.mod, .slice a7 m.wh.length c7, .int .i64 k, .string ⟨t.nm.toArray⟩, .slice ca t.cols.length cc, .slice ua t.uq.length uc, .bool t.rt] #[.int .i64 0, .slice none 0 0] → Calls Tryz.prog 39 #[.pointer (some ⟨rb, ro, none⟩)] W fun e w' => e = .returned (.bool (r.id != 0)) ∧ BoxE 77 81 w w' #[.string ⟨m.nm.toArray⟩, .string ⟨m.tb.toArray⟩, .slice a2 m.cs.length c2, .bool m.ini, .bool m.ins, .bool m.del, .bool m.mod, .slice a7 m.wh.length c7, .int .i64 k, .string ⟨t.nm.toArray⟩, .slice ca t.cols.length cc, .slice ua t.uq.length uc, .bool t.rt] #[.int .i64 0, .slice none 0 0]) := fun W h => (isThereI r.id r.cells.length rb ro ra rc W (fun h => by rw [hz h]; rfl) (RCE.out W h.bel).1 (RCE.out W h.bel).2).mono (fun e w' ⟨he, hB⟩ => ⟨he, h.later hB⟩)
 have CH : Hid (r.id ≠ 0 → ∀ W, BoxE 77 81 w W #[.string ⟨m.nm.toArray⟩, .string ⟨m.tb.toArray⟩, .slice a2 m.cs.length c2, .bool m.ini, .bool m.ins, .bool m.del, .bool m.mod, .slice a7 m.wh.length c7, .int .i64 k, .string ⟨t.nm.toArray⟩, .slice ca t.cols.length cc, .slice ua t.uq.length uc, .bool t.rt] #[.int .i64 0, .slice none 0 0] → Calls Tryz.prog 80 #[.agg #[.string ⟨t.nm.toArray⟩, .slice ca t.cols.length cc, .slice ua t.uq.length uc, .bool t.rt], .slice (some ⟨W.heap.size, 0, none⟩) 1 1, .slice a7 m.wh.length c7] (W.alloc (.cells #[.int .i64 r.id, .slice ra r.cells.length rc] 81)) fun e w' => ∃ va vq, e = .returned (.slice va (chosen t [r] m.wh).length vq) ∧ BoxE 77 81 w w' #[.string ⟨m.nm.toArray⟩, .string ⟨m.tb.toArray⟩, .slice a2 m.cs.length c2, .bool m.ini, .bool m.ins, .bool m.del, .bool m.mod, .slice a7 m.wh.length c7, .int .i64 k, .string ⟨t.nm.toArray⟩, .slice ca t.cols.length cc, .slice ua t.uq.length uc, .bool t.rt] #[.int .i64 0, .slice none 0 0]) := fun h0 W h => by
  have hb := h.bel.trans ((below_allocD W (.cells #[.int .i64 r.id, .slice ra r.cells.length rc] 81)).mono h.bel.size)
  refine (chosen1 t ca cc ua uc A r ra rc R m.wh a7 c7 B W hto hw hr hid (hTab.later h0w hb) (by rw [size_allocD]; omega) (hq h0).1 (hT.later hb) (hR.later h.bel) (rh.later hb)).mono (fun e w' => ?_)
  rintro ⟨va, vq, he, -, hB⟩
  exact ⟨va, vq, he, (h.later (below_allocD _ _)).later hB⟩
 have PK : Hid (r.id ≠ 0 → ∀ W, Below w.heap.size w W → Calls Tryz.prog 81 #[.agg #[.string ⟨t.nm.toArray⟩, .slice ca t.cols.length cc, .slice ua t.uq.length uc, .bool t.rt], .agg #[.int .i64 r.id, .slice ra r.cells.length rc], .slice a2 m.cs.length c2] W (RowAnsO W ⟨r.id, m.cs.map (cellOf t r)⟩ 0)) := fun h0 W h => by
  have := pickColumnsI t ca cc ua uc A r ra rc R m.cs a2 c2 B W hto hcs hr hid (hT.later h) (hR.later h) (rcs.later h)
  rw [(pk_ok (by omega) (hq h0).2.1 (hq h0).2.2).1, (pk_ok (by omega) (hq h0).2.1 (hq h0).2.2).2] at this
  exact this
 clear hto hn4 hcs hw hr hid hz hq hTab h0w hT rcs rh hR i0 i1
 have CE : Hid (∀ W, BoxE 77 81 w W #[.string ⟨m.nm.toArray⟩, .string ⟨m.tb.toArray⟩, .slice a2 m.cs.length c2, .bool m.ini, .bool m.ins, .bool m.del, .bool m.mod, .slice a7 m.wh.length c7, .int .i64 k, .string ⟨t.nm.toArray⟩, .slice ca t.cols.length cc, .slice ua t.uq.length uc, .bool t.rt] #[.int .i64 0, .slice none 0 0] → W.cell? ⟨w.heap.size, 0, none⟩ = some (.string ⟨m.nm.toArray⟩) ∧ W.cell? ⟨w.heap.size, 1, none⟩ = some (.string ⟨m.tb.toArray⟩) ∧ W.cell? ⟨w.heap.size, 2, none⟩ = some (.slice a2 m.cs.length c2) ∧ W.cell? ⟨w.heap.size, 3, none⟩ = some (.bool m.ini) ∧ W.cell? ⟨w.heap.size, 4, none⟩ = some (.bool m.ins) ∧ W.cell? ⟨w.heap.size, 5, none⟩ = some (.bool m.del) ∧ W.cell? ⟨w.heap.size, 6, none⟩ = some (.bool m.mod) ∧ W.cell? ⟨w.heap.size, 7, none⟩ = some (.slice a7 m.wh.length c7) ∧ W.cell? ⟨w.heap.size, 8, none⟩ = some (.int .i64 k) ∧ W.cell? ⟨w.heap.size, 9, none⟩ = some (.string ⟨t.nm.toArray⟩) ∧ W.cell? ⟨w.heap.size, 10, none⟩ = some (.slice ca t.cols.length cc) ∧ W.cell? ⟨w.heap.size, 11, none⟩ = some (.slice ua t.uq.length uc) ∧ W.cell? ⟨w.heap.size, 12, none⟩ = some (.bool t.rt) ∧ W.cell? ⟨rb, ro, none⟩ = some (.int .i64 r.id) ∧ W.cell? ⟨rb, ro + 1, none⟩ = some (.slice ra r.cells.length rc)) := fun W h => ⟨cell_at (o := 0) h.a rfl, cell_at (o := 1) h.a rfl, cell_at (o := 2) h.a rfl, cell_at (o := 3) h.a rfl, cell_at (o := 4) h.a rfl, cell_at (o := 5) h.a rfl, cell_at (o := 6) h.a rfl, cell_at (o := 7) h.a rfl, cell_at (o := 8) h.a rfl, cell_at (o := 9) h.a rfl, cell_at (o := 10) h.a rfl, cell_at (o := 11) h.a rfl, cell_at (o := 12) h.a rfl, (RCE.out W h.bel).1, (RCE.out W h.bel).2⟩
 have HBD : Hid (BoxE 77 81 w ((w.alloc (.cells #[.string ⟨m.nm.toArray⟩, .string ⟨m.tb.toArray⟩, .slice a2 m.cs.length c2, .bool m.ini, .bool m.ins, .bool m.del, .bool m.mod, .slice a7 m.wh.length c7, .int .i64 k, .string ⟨t.nm.toArray⟩, .slice ca t.cols.length cc, .slice ua t.uq.length uc, .bool t.rt] 77)).alloc (.cells #[.int .i64 0, .slice none 0 0] 81)).drew #[.string ⟨m.nm.toArray⟩, .string ⟨m.tb.toArray⟩, .slice a2 m.cs.length c2, .bool m.ini, .bool m.ins, .bool m.del, .bool m.mod, .slice a7 m.wh.length c7, .int .i64 k, .string ⟨t.nm.toArray⟩, .slice ca t.cols.length cc, .slice ua t.uq.length uc, .bool t.rt] #[.int .i64 0, .slice none 0 0]) := ⟨HB0.out.a, HB0.out.b, HB0.out.bel.drew⟩
 by_cases h0 : r.id = 0
 case pos =>
  have HE := Lib.hid (seen_0 (t := t) (m := m) h0)
  have e0 : (r.id != 0) = false := by simpa using h0
  rw [e0] at IT
  clear h0 e0 CH PK
  go_enter Tryz.func38, Tryz.ntmps38
  go_wp2_with fail
  refine wp_region_held_drew (S := (fun W => W.cell? ⟨w.heap.size, 0, none⟩ = some (.string ⟨m.nm.toArray⟩) ∧ W.cell? ⟨w.heap.size, 1, none⟩ = some (.string ⟨m.tb.toArray⟩) ∧ W.cell? ⟨w.heap.size, 2, none⟩ = some (.slice a2 m.cs.length c2) ∧ W.cell? ⟨w.heap.size, 3, none⟩ = some (.bool m.ini) ∧ W.cell? ⟨w.heap.size, 4, none⟩ = some (.bool m.ins) ∧ W.cell? ⟨w.heap.size, 5, none⟩ = some (.bool m.del) ∧ W.cell? ⟨w.heap.size, 6, none⟩ = some (.bool m.mod) ∧ W.cell? ⟨w.heap.size, 7, none⟩ = some (.slice a7 m.wh.length c7) ∧ W.cell? ⟨w.heap.size, 8, none⟩ = some (.int .i64 k) ∧ W.cell? ⟨w.heap.size, 9, none⟩ = some (.string ⟨t.nm.toArray⟩) ∧ W.cell? ⟨w.heap.size, 10, none⟩ = some (.slice ca t.cols.length cc) ∧ W.cell? ⟨w.heap.size, 11, none⟩ = some (.slice ua t.uq.length uc) ∧ W.cell? ⟨w.heap.size, 12, none⟩ = some (.bool t.rt) ∧ W.cell? ⟨rb, ro, none⟩ = some (.int .i64 r.id) ∧ W.cell? ⟨rb, ro + 1, none⟩ = some (.slice ra r.cells.length rc))) (by kernel_rfl) ?_ (fun hHeld => ?_)
  ·
   (exact CE.out _ (by first | exact BW3.out | exact BW2.out | exact BW1.out | exact HBD.out | exact HB0.out))
  refine tkB (i := 0) ?_
  refine tkR (i := 1) (fun K hK => ?_)
  go_simp
  (go_at_call 39; refine (IT.out _ HBD.out).mono ?_; rintro e w1 ⟨rfl, hb⟩; have BW1 := Lib.hid hb; clear hb)
  refine hK.out _ _ ?_ (fun hHeld => ?_)
  ·
   (exact CE.out _ (by first | exact BW3.out | exact BW2.out | exact BW1.out | exact HBD.out | exact HB0.out))
  clear hK K
  try simp only [Act.put, tkS]
  refine tkB (i := 2) ?_
  refine tkB (i := 3) ?_
  refine tkV (i := 4) ?_
  refine tkV (i := 5) ?_
  refine tkV (i := 6) ?_
  refine tkV (i := 7) ?_
  refine tkV (i := 8) ?_
  refine tkV (i := 9) ?_
  refine tkV (i := 10) ?_
  refine tkV (i := 11) ?_
  refine tkV (i := 12) ?_
  refine tkV (i := 13) ?_
  refine tkV (i := 14) ?_
  refine tkV (i := 15) ?_
  refine tkB (i := 16) ?_
  refine wpAnyH_done (by kernel_rfl) ?_ _
  have d0 := cell_at (o := 0) BW1.out.b rfl
  have f0 := frozen_at 0 BW1.out.b
  have d1 := cell_at (o := 1) BW1.out.b rfl
  have f1 := frozen_at 1 BW1.out.b
  go_wp2_with fail
  exact bodyPost_ret (v := .agg #[.int .i64 0, .slice none 0 0]) (by simp [results, Tryz.results38, go_sem, *]) rfl (RowOwn.nil HE.out ((BW1.out.bel.setCell (show w.heap.size ≤ w.heap.size + 1 by omega) _).setCell (show w.heap.size ≤ w.heap.size + 1 by omega) _))
 have e0 : (r.id != 0) = true := by simpa using h0
 rw [e0] at IT
 replace CH := Lib.hid (CH.out h0)
 replace PK := Lib.hid (PK.out h0)
 cases ha : allM t r m.wh
 case false =>
  have HE := Lib.hid (seen_no (m := m) ha)
  rw [chosen_none ha] at CH
  clear h0 e0 ha PK
  go_enter Tryz.func38, Tryz.ntmps38
  go_wp2_with fail
  refine wp_region_held_drew (S := (fun W => W.cell? ⟨w.heap.size, 0, none⟩ = some (.string ⟨m.nm.toArray⟩) ∧ W.cell? ⟨w.heap.size, 1, none⟩ = some (.string ⟨m.tb.toArray⟩) ∧ W.cell? ⟨w.heap.size, 2, none⟩ = some (.slice a2 m.cs.length c2) ∧ W.cell? ⟨w.heap.size, 3, none⟩ = some (.bool m.ini) ∧ W.cell? ⟨w.heap.size, 4, none⟩ = some (.bool m.ins) ∧ W.cell? ⟨w.heap.size, 5, none⟩ = some (.bool m.del) ∧ W.cell? ⟨w.heap.size, 6, none⟩ = some (.bool m.mod) ∧ W.cell? ⟨w.heap.size, 7, none⟩ = some (.slice a7 m.wh.length c7) ∧ W.cell? ⟨w.heap.size, 8, none⟩ = some (.int .i64 k) ∧ W.cell? ⟨w.heap.size, 9, none⟩ = some (.string ⟨t.nm.toArray⟩) ∧ W.cell? ⟨w.heap.size, 10, none⟩ = some (.slice ca t.cols.length cc) ∧ W.cell? ⟨w.heap.size, 11, none⟩ = some (.slice ua t.uq.length uc) ∧ W.cell? ⟨w.heap.size, 12, none⟩ = some (.bool t.rt) ∧ W.cell? ⟨rb, ro, none⟩ = some (.int .i64 r.id) ∧ W.cell? ⟨rb, ro + 1, none⟩ = some (.slice ra r.cells.length rc))) (by kernel_rfl) ?_ (fun hHeld => ?_)
  ·
   (exact CE.out _ (by first | exact BW3.out | exact BW2.out | exact BW1.out | exact HBD.out | exact HB0.out))
  refine tkB (i := 0) ?_
  refine tkR (i := 1) (fun K hK => ?_)
  go_simp
  (go_at_call 39; refine (IT.out _ HBD.out).mono ?_; rintro e w1 ⟨rfl, hb⟩; have BW1 := Lib.hid hb; clear hb)
  refine hK.out _ _ ?_ (fun hHeld => ?_)
  ·
   (exact CE.out _ (by first | exact BW3.out | exact BW2.out | exact BW1.out | exact HBD.out | exact HB0.out))
  clear hK K
  try simp only [Act.put, tkS]
  refine tkB (i := 2) ?_
  refine tkB (i := 3) ?_
  refine tkB (i := 4) ?_
  refine tkB (i := 5) ?_
  refine tkB (i := 6) ?_
  refine tkB (i := 7) ?_
  refine tkB (i := 8) ?_
  refine tkB (i := 10) ?_
  refine tkB (i := 11) ?_
  refine tkB (i := 12) ?_
  refine tkR (i := 9) (fun K hK => ?_)
  go_simp
  have BW2 : Hid (BoxE 77 81 w (w1.alloc (.cells #[.int .i64 r.id, .slice ra r.cells.length rc] 81)) #[.string ⟨m.nm.toArray⟩, .string ⟨m.tb.toArray⟩, .slice a2 m.cs.length c2, .bool m.ini, .bool m.ins, .bool m.del, .bool m.mod, .slice a7 m.wh.length c7, .int .i64 k, .string ⟨t.nm.toArray⟩, .slice ca t.cols.length cc, .slice ua t.uq.length uc, .bool t.rt] #[.int .i64 0, .slice none 0 0]) := BW1.out.later (below_allocD _ _)
  refine hK.out _ _ ?_ (fun hHeld => ?_)
  ·
   (exact CE.out _ (by first | exact BW3.out | exact BW2.out | exact BW1.out | exact HBD.out | exact HB0.out))
  clear hK K
  try simp only [Act.put, tkS]
  refine tkR (i := 13) (fun K hK => ?_)
  go_simp
  (go_at_call 80; refine (CH.out _ BW1.out).mono ?_; rintro e w3 ⟨va, vq, rfl, hb⟩; have BW3 := Lib.hid hb; clear hb)
  refine hK.out _ _ ?_ (fun hHeld => ?_)
  ·
   (exact CE.out _ (by first | exact BW3.out | exact BW2.out | exact BW1.out | exact HBD.out | exact HB0.out))
  clear hK K
  try simp only [Act.put, tkS]
  refine tkB (i := 14) ?_
  refine tkB (i := 15) ?_
  refine tkB (i := 16) ?_
  refine wpAnyH_done (by kernel_rfl) ?_ _
  have d0 := cell_at (o := 0) BW3.out.b rfl
  have f0 := frozen_at 0 BW3.out.b
  have d1 := cell_at (o := 1) BW3.out.b rfl
  have f1 := frozen_at 1 BW3.out.b
  go_wp2_with fail
  exact bodyPost_ret (v := .agg #[.int .i64 0, .slice none 0 0]) (by simp [results, Tryz.results38, go_sem, *]) rfl (RowOwn.nil HE.out ((BW3.out.bel.setCell (show w.heap.size ≤ w.heap.size + 1 by omega) _).setCell (show w.heap.size ≤ w.heap.size + 1 by omega) _))
 have HE := Lib.hid (seen_yes h0 ha)
 rw [chosen_all ha] at CH
 clear h0 e0 ha
 generalize m.cs.map (cellOf t r) = ys at *
 go_enter Tryz.func38, Tryz.ntmps38
 go_wp2_with fail
 refine wp_region_held_drew (S := (fun W => W.cell? ⟨w.heap.size, 0, none⟩ = some (.string ⟨m.nm.toArray⟩) ∧ W.cell? ⟨w.heap.size, 1, none⟩ = some (.string ⟨m.tb.toArray⟩) ∧ W.cell? ⟨w.heap.size, 2, none⟩ = some (.slice a2 m.cs.length c2) ∧ W.cell? ⟨w.heap.size, 3, none⟩ = some (.bool m.ini) ∧ W.cell? ⟨w.heap.size, 4, none⟩ = some (.bool m.ins) ∧ W.cell? ⟨w.heap.size, 5, none⟩ = some (.bool m.del) ∧ W.cell? ⟨w.heap.size, 6, none⟩ = some (.bool m.mod) ∧ W.cell? ⟨w.heap.size, 7, none⟩ = some (.slice a7 m.wh.length c7) ∧ W.cell? ⟨w.heap.size, 8, none⟩ = some (.int .i64 k) ∧ W.cell? ⟨w.heap.size, 9, none⟩ = some (.string ⟨t.nm.toArray⟩) ∧ W.cell? ⟨w.heap.size, 10, none⟩ = some (.slice ca t.cols.length cc) ∧ W.cell? ⟨w.heap.size, 11, none⟩ = some (.slice ua t.uq.length uc) ∧ W.cell? ⟨w.heap.size, 12, none⟩ = some (.bool t.rt) ∧ W.cell? ⟨rb, ro, none⟩ = some (.int .i64 r.id) ∧ W.cell? ⟨rb, ro + 1, none⟩ = some (.slice ra r.cells.length rc))) (by kernel_rfl) ?_ (fun hHeld => ?_)
 ·
  (exact CE.out _ (by first | exact BW3.out | exact BW2.out | exact BW1.out | exact HBD.out | exact HB0.out))
 refine tkB (i := 0) ?_
 refine tkR (i := 1) (fun K hK => ?_)
 go_simp
 (go_at_call 39; refine (IT.out _ HBD.out).mono ?_; rintro e w1 ⟨rfl, hb⟩; have BW1 := Lib.hid hb; clear hb)
 refine hK.out _ _ ?_ (fun hHeld => ?_)
 ·
  (exact CE.out _ (by first | exact BW3.out | exact BW2.out | exact BW1.out | exact HBD.out | exact HB0.out))
 clear hK K
 try simp only [Act.put, tkS]
 refine tkB (i := 2) ?_
 refine tkB (i := 3) ?_
 refine tkB (i := 4) ?_
 refine tkB (i := 5) ?_
 refine tkB (i := 6) ?_
 refine tkB (i := 7) ?_
 refine tkB (i := 8) ?_
 refine tkB (i := 10) ?_
 refine tkB (i := 11) ?_
 refine tkB (i := 12) ?_
 refine tkR (i := 9) (fun K hK => ?_)
 go_simp
 have BW2 : Hid (BoxE 77 81 w (w1.alloc (.cells #[.int .i64 r.id, .slice ra r.cells.length rc] 81)) #[.string ⟨m.nm.toArray⟩, .string ⟨m.tb.toArray⟩, .slice a2 m.cs.length c2, .bool m.ini, .bool m.ins, .bool m.del, .bool m.mod, .slice a7 m.wh.length c7, .int .i64 k, .string ⟨t.nm.toArray⟩, .slice ca t.cols.length cc, .slice ua t.uq.length uc, .bool t.rt] #[.int .i64 0, .slice none 0 0]) := BW1.out.later (below_allocD _ _)
 refine hK.out _ _ ?_ (fun hHeld => ?_)
 ·
  (exact CE.out _ (by first | exact BW3.out | exact BW2.out | exact BW1.out | exact HBD.out | exact HB0.out))
 clear hK K
 try simp only [Act.put, tkS]
 refine tkR (i := 13) (fun K hK => ?_)
 go_simp
 (go_at_call 80; refine (CH.out _ BW1.out).mono ?_; rintro e w3 ⟨va, vq, rfl, hb⟩; have BW3 := Lib.hid hb; clear hb)
 refine hK.out _ _ ?_ (fun hHeld => ?_)
 ·
  (exact CE.out _ (by first | exact BW3.out | exact BW2.out | exact BW1.out | exact HBD.out | exact HB0.out))
 clear hK K
 try simp only [Act.put, tkS]
 refine tkB (i := 14) ?_
 refine tkB (i := 15) ?_
 refine tkB (i := 16) ?_
 refine wpAnyH_done (by kernel_rfl) ?_ _
 clear CH IT BW1 BW2 HB0 HBD
 go_upto_region 3 with fail
 go_cut [5, 6] from 25 to 37 (fun s c wx => ∃ (qc : Nat) (pa : Option Addr) (pc : Nat), s = .pointer (some ⟨qc, 0, none⟩) ∧ c = .int .i64 0 ∧ Hid (BoxE 77 81 w wx #[.string ⟨m.nm.toArray⟩, .string ⟨m.tb.toArray⟩, .slice a2 m.cs.length c2, .bool m.ini, .bool m.ins, .bool m.del, .bool m.mod, .slice a7 m.wh.length c7, .int .i64 k, .string ⟨t.nm.toArray⟩, .slice ca t.cols.length cc, .slice ua t.uq.length uc, .bool t.rt] #[.int .i64 0, .slice none 0 0] ∧ wx.heap[qc]? = some (.cells #[.int .i64 r.id, .slice pa ys.length pc] 81) ∧ w.heap.size + 1 < qc ∧ Own wx (dAtomSS ys) (fun d => (w.heap.size + 1 < d ∧ d ≠ qc) ∧ d < wx.heap.size) (.slice pa ys.length pc)))
 case first =>
  have HBL : Hid (w.heap.size + 1 < w3.heap.size) := (Array.getElem?_eq_some_iff.1 BW3.out.b).1
  have B0 : Hid (BoxE 77 81 w w3.drew #[.string ⟨m.nm.toArray⟩, .string ⟨m.tb.toArray⟩, .slice a2 m.cs.length c2, .bool m.ini, .bool m.ins, .bool m.del, .bool m.mod, .slice a7 m.wh.length c7, .int .i64 k, .string ⟨t.nm.toArray⟩, .slice ca t.cols.length cc, .slice ua t.uq.length uc, .bool t.rt] #[.int .i64 0, .slice none 0 0]) := ⟨BW3.out.a, BW3.out.b, BW3.out.bel.drew⟩
  refine wp_region_held_drew (S := (fun W => W.cell? ⟨w.heap.size, 0, none⟩ = some (.string ⟨m.nm.toArray⟩) ∧ W.cell? ⟨w.heap.size, 1, none⟩ = some (.string ⟨m.tb.toArray⟩) ∧ W.cell? ⟨w.heap.size, 2, none⟩ = some (.slice a2 m.cs.length c2) ∧ W.cell? ⟨w.heap.size, 3, none⟩ = some (.bool m.ini) ∧ W.cell? ⟨w.heap.size, 4, none⟩ = some (.bool m.ins) ∧ W.cell? ⟨w.heap.size, 5, none⟩ = some (.bool m.del) ∧ W.cell? ⟨w.heap.size, 6, none⟩ = some (.bool m.mod) ∧ W.cell? ⟨w.heap.size, 7, none⟩ = some (.slice a7 m.wh.length c7) ∧ W.cell? ⟨w.heap.size, 8, none⟩ = some (.int .i64 k) ∧ W.cell? ⟨w.heap.size, 9, none⟩ = some (.string ⟨t.nm.toArray⟩) ∧ W.cell? ⟨w.heap.size, 10, none⟩ = some (.slice ca t.cols.length cc) ∧ W.cell? ⟨w.heap.size, 11, none⟩ = some (.slice ua t.uq.length uc) ∧ W.cell? ⟨w.heap.size, 12, none⟩ = some (.bool t.rt) ∧ W.cell? ⟨rb, ro, none⟩ = some (.int .i64 r.id) ∧ W.cell? ⟨rb, ro + 1, none⟩ = some (.slice ra r.cells.length rc))) (by kernel_rfl) ?_ (fun hHeld => ?_)
  ·
   (exact CE.out _ (by first | exact B9.out | exact B2.out | exact B1.out | exact B0.out))
  refine tkB (i := 0) ?_
  refine tkB (i := 1) ?_
  refine tkB (i := 2) ?_
  refine tkB (i := 3) ?_
  refine tkB (i := 4) ?_
  refine tkB (i := 5) ?_
  refine tkB (i := 6) ?_
  refine tkB (i := 7) ?_
  refine wpAnyH_ready (rs := [8, 12]) (by kernel_rfl) (by simp) (AllReadyH.cons rfl (fun K hK => ?_) (AllReadyH.cons rfl (fun K hK => ?_) AllReadyH.nil))
  ·
   go_simp
   go_at_call 81
   refine (PK.out _ B0.out.bel).mono ?_
   rintro e w4 ⟨pa, pc, rfl, hown, hB4⟩
   have B1 : Hid (BoxE 77 81 w w4 #[.string ⟨m.nm.toArray⟩, .string ⟨m.tb.toArray⟩, .slice a2 m.cs.length c2, .bool m.ini, .bool m.ins, .bool m.del, .bool m.mod, .slice a7 m.wh.length c7, .int .i64 k, .string ⟨t.nm.toArray⟩, .slice ca t.cols.length cc, .slice ua t.uq.length uc, .bool t.rt] #[.int .i64 0, .slice none 0 0]) := B0.out.later hB4
   have HO1 : Hid (Own w4 (dAtomSS ys) (fun d => (w.heap.size + 1 < d ∧ d ≠ w4.heap.size) ∧ d < w4.heap.size) (.slice pa ys.length pc)) := hown.mono (fun d hd => by have h1 : w3.heap.size ≤ d := hd.1; have h3 := HBL.out; exact ⟨⟨by omega, by have := hd.2; omega⟩, hd.2⟩)
   clear hown hB4
   refine hK.out _ _ ?_ (fun hHeld => ?_)
   ·
    (exact CE.out _ (by first | exact B9.out | exact B2.out | exact B1.out | exact B0.out))
   clear hK K
   try simp only [Act.put, tkS]
   refine tkB (i := 9) ?_
   refine tkB (i := 10) ?_
   refine tkB (i := 11) ?_
   refine tkR (i := 12) (fun K hK => ?_)
   go_simp
   have B2 : Hid (BoxE 77 81 w (w4.alloc (.cells #[.int .i64 0, .slice none 0 0] 81)) #[.string ⟨m.nm.toArray⟩, .string ⟨m.tb.toArray⟩, .slice a2 m.cs.length c2, .bool m.ini, .bool m.ins, .bool m.del, .bool m.mod, .slice a7 m.wh.length c7, .int .i64 k, .string ⟨t.nm.toArray⟩, .slice ca t.cols.length cc, .slice ua t.uq.length uc, .bool t.rt] #[.int .i64 0, .slice none 0 0]) := B1.out.later (below_allocD _ _)
   refine hK.out _ _ ?_ (fun hHeld => ?_)
   ·
    (exact CE.out _ (by first | exact B9.out | exact B2.out | exact B1.out | exact B0.out))
   clear hK K
   try simp only [Act.put, tkS]
   refine tkR (i := 13) (fun K hK => ?_)
   have HX9 : Hid (BoxE 77 81 w (w4.alloc (.cells #[.int .i64 r.id, .slice pa ys.length pc] 81)) #[.string ⟨m.nm.toArray⟩, .string ⟨m.tb.toArray⟩, .slice a2 m.cs.length c2, .bool m.ini, .bool m.ins, .bool m.del, .bool m.mod, .slice a7 m.wh.length c7, .int .i64 k, .string ⟨t.nm.toArray⟩, .slice ca t.cols.length cc, .slice ua t.uq.length uc, .bool t.rt] #[.int .i64 0, .slice none 0 0] ∧ (w4.alloc (.cells #[.int .i64 r.id, .slice pa ys.length pc] 81)).heap[w4.heap.size]? = some (.cells #[.int .i64 r.id, .slice pa ys.length pc] 81) ∧ w.heap.size + 1 < w4.heap.size ∧ Own (w4.alloc (.cells #[.int .i64 r.id, .slice pa ys.length pc] 81)) (dAtomSS ys) (fun d => (w.heap.size + 1 < d ∧ d ≠ w4.heap.size) ∧ d < (w4.alloc (.cells #[.int .i64 r.id, .slice pa ys.length pc] 81)).heap.size) (.slice pa ys.length pc)) := ⟨B1.out.later (below_allocD _ _), heap_newD _ _, by have := (Array.getElem?_eq_some_iff.1 B1.out.b).1; omega, (HO1.out.later (below_allocD _ _)).mono (fun d hd => ⟨hd.1, by rw [size_allocD]; have := hd.2; omega⟩)⟩
   have B9 := Lib.hid HX9.out.1
   go_simp
   refine hK.out _ _ ?_ (fun hHeld => ?_)
   ·
    (exact CE.out _ (by first | exact B9.out | exact B2.out | exact B1.out | exact B0.out))
   clear hK K
   try simp only [Act.put, tkS]
   refine tkB (i := 14) ?_
   refine wpAnyH_done (by kernel_rfl) ?_ _
   go_wp2_with fail
   go_meet
   exact ⟨_, _, _, rfl, rfl, HX9⟩
  ·
   go_simp
   have B1 : Hid (BoxE 77 81 w (w3.alloc (.cells #[.int .i64 0, .slice none 0 0] 81)).drew #[.string ⟨m.nm.toArray⟩, .string ⟨m.tb.toArray⟩, .slice a2 m.cs.length c2, .bool m.ini, .bool m.ins, .bool m.del, .bool m.mod, .slice a7 m.wh.length c7, .int .i64 k, .string ⟨t.nm.toArray⟩, .slice ca t.cols.length cc, .slice ua t.uq.length uc, .bool t.rt] #[.int .i64 0, .slice none 0 0]) := ⟨(BW3.out.later (below_allocD _ _)).a, (BW3.out.later (below_allocD _ _)).b, (BW3.out.later (below_allocD _ _)).bel.drew⟩
   refine hK.out _ _ ?_ (fun hHeld => ?_)
   ·
    (exact CE.out _ (by first | exact B9.out | exact B2.out | exact B1.out | exact B0.out))
   clear hK K
   try simp only [Act.put, tkS]
   refine tkR (i := 8) (fun K hK => ?_)
   go_simp
   go_at_call 81
   refine (PK.out _ B1.out.bel).mono ?_
   rintro e w4 ⟨pa, pc, rfl, hown, hB4⟩
   have B2 : Hid (BoxE 77 81 w w4 #[.string ⟨m.nm.toArray⟩, .string ⟨m.tb.toArray⟩, .slice a2 m.cs.length c2, .bool m.ini, .bool m.ins, .bool m.del, .bool m.mod, .slice a7 m.wh.length c7, .int .i64 k, .string ⟨t.nm.toArray⟩, .slice ca t.cols.length cc, .slice ua t.uq.length uc, .bool t.rt] #[.int .i64 0, .slice none 0 0]) := B1.out.later hB4
   have HZ : Hid (w4.heap[w3.heap.size]? = some (.cells #[.int .i64 0, .slice none 0 0] 81)) := heap_keptD (show ((w3.alloc (.cells #[.int .i64 0, .slice none 0 0] 81)).drew).heap[w3.heap.size]? = some (.cells #[.int .i64 0, .slice none 0 0] 81) from heap_newD _ _) hB4
   have HO1 : Hid (Own w4 (dAtomSS ys) (fun d => (w.heap.size + 1 < d ∧ d ≠ w3.heap.size) ∧ d < w4.heap.size) (.slice pa ys.length pc)) := hown.mono (fun d hd => by have h1 := hd.1; have h2 : (w3.alloc (.cells #[.int .i64 0, .slice none 0 0] 81)).drew.heap.size = w3.heap.size + 1 := size_allocD _ _; have h3 := HBL.out; exact ⟨⟨by omega, by omega⟩, hd.2⟩)
   clear hown hB4
   refine hK.out _ _ ?_ (fun hHeld => ?_)
   ·
    (exact CE.out _ (by first | exact B9.out | exact B2.out | exact B1.out | exact B0.out))
   clear hK K
   try simp only [Act.put, tkS]
   refine tkB (i := 9) ?_
   refine tkB (i := 10) ?_
   refine tkB (i := 11) ?_
   refine tkR (i := 13) (fun K hK => ?_)
   have zc0 := cell_at (o := 0) HZ.out rfl
   have zf0 := frozen_at 0 HZ.out
   have zc1 := cell_at (o := 1) HZ.out rfl
   have zf1 := frozen_at 1 HZ.out
   have HX9 : Hid (BoxE 77 81 w ((w4.setCell ⟨w3.heap.size, 0, none⟩ (.int .i64 r.id)).setCell ⟨w3.heap.size, 1, none⟩ (.slice pa ys.length pc)) #[.string ⟨m.nm.toArray⟩, .string ⟨m.tb.toArray⟩, .slice a2 m.cs.length c2, .bool m.ini, .bool m.ins, .bool m.del, .bool m.mod, .slice a7 m.wh.length c7, .int .i64 k, .string ⟨t.nm.toArray⟩, .slice ca t.cols.length cc, .slice ua t.uq.length uc, .bool t.rt] #[.int .i64 0, .slice none 0 0] ∧ ((w4.setCell ⟨w3.heap.size, 0, none⟩ (.int .i64 r.id)).setCell ⟨w3.heap.size, 1, none⟩ (.slice pa ys.length pc)).heap[w3.heap.size]? = some (.cells #[.int .i64 r.id, .slice pa ys.length pc] 81) ∧ w.heap.size + 1 < w3.heap.size ∧ Own ((w4.setCell ⟨w3.heap.size, 0, none⟩ (.int .i64 r.id)).setCell ⟨w3.heap.size, 1, none⟩ (.slice pa ys.length pc)) (dAtomSS ys) (fun d => (w.heap.size + 1 < d ∧ d ≠ w3.heap.size) ∧ d < ((w4.setCell ⟨w3.heap.size, 0, none⟩ (.int .i64 r.id)).setCell ⟨w3.heap.size, 1, none⟩ (.slice pa ys.length pc)).heap.size) (.slice pa ys.length pc)) := ⟨⟨((((frm_set _ _ _ _).trans (frm_set _ _ _ _))).block _ (Array.getElem?_eq_some_iff.1 B2.out.a).1 (fun hx => by have h1 : w.heap.size = w3.heap.size := hx; have h2 := HBL.out; omega)).trans B2.out.a, ((((frm_set _ _ _ _).trans (frm_set _ _ _ _))).block _ (Array.getElem?_eq_some_iff.1 B2.out.b).1 (fun hx => by have h1 : w.heap.size + 1 = w3.heap.size := hx; have h2 := HBL.out; omega)).trans B2.out.b, (B2.out.bel.setCell (show w.heap.size ≤ w3.heap.size by have := HBL.out; omega) _).setCell (show w.heap.size ≤ w3.heap.size by have := HBL.out; omega) _⟩, by rw [(heap_set 1 _ (heap_set 0 _ HZ.out))]; rfl, HBL.out, (HO1.out.frm (F := (· = w3.heap.size)) ((frm_set _ _ _ _).trans (frm_set _ _ _ _)) (fun d hd e => hd.1.2 e)).mono (fun d hd => ⟨hd.1, by simpa using hd.2⟩)⟩
   have B9 := Lib.hid HX9.out.1
   go_simp
   clear zc0 zf0 zc1 zf1
   refine hK.out _ _ ?_ (fun hHeld => ?_)
   ·
    (exact CE.out _ (by first | exact B9.out | exact B2.out | exact B1.out | exact B0.out))
   clear hK K
   try simp only [Act.put, tkS]
   refine tkB (i := 14) ?_
   refine wpAnyH_done (by kernel_rfl) ?_ _
   go_wp2_with fail
   go_meet
   exact ⟨_, _, _, rfl, rfl, HX9⟩
 obtain ⟨qc, pa, pc, rfl, rfl, HX9⟩ := hcut
 generalize wc = w6 at *
 clear CE PK BW3
 have e0 := cell_at (o := 0) HX9.out.2.1 rfl
 have d0 := cell_at (o := 0) HX9.out.1.b rfl
 have f0 := frozen_at 0 HX9.out.1.b
 have e1 := cell_at (o := 1) HX9.out.2.1 rfl
 have d1 := cell_at (o := 1) HX9.out.1.b rfl
 have f1 := frozen_at 1 HX9.out.1.b
 go_wp2_with fail
 refine bodyPost_ret (v := .agg #[.int .i64 r.id, .slice pa ys.length pc]) (by simp [results, Tryz.results38, go_sem, *]) rfl ?_
 rw [HE.out]
 refine ⟨pa, pc, rfl, ?_, (HX9.out.1.bel.setCell (show w.heap.size ≤ w.heap.size + 1 by omega) _).setCell (show w.heap.size ≤ w.heap.size + 1 by omega) _⟩
 exact (HX9.out.2.2.2.frm (F := (· = w.heap.size + 1)) ((frm_set _ _ _ _).trans (frm_set _ _ _ _)) (fun d hd e => by have h1 := hd.1.1; have h2 : d = w.heap.size + 1 := e; omega)).mono (fun d hd => ⟨by have := hd.1.1; omega, by simpa using hd.2⟩)
end Go.Proofs.YtlddhbamcndggaaGreatDoor
