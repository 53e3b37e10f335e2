import Derived.Test.YtlddhbamcndggaaGreatDoorZbf
import Derived.Test.YtlddhbamcndggaaGreatDoorZbg
import Derived.Deep.CutRange
import Derived.Test.YtlddhbamcndggaaGreatDoorZTk
namespace Go.Proofs.YtlddhbamcndggaaGreatDoor
open Go.RowKit
set_option linter.unusedSimpArgs false
noncomputable def seeL (t : Tb) (m : MoV) (r : RowV) : List RowV := if 0 < (seenR t m r).id then [seenR t m r] else []
noncomputable def snapV (t : Tb) (m : MoV) (rows : List RowV) : List RowV := rows.flatMap (seeL t m)
theorem seeL_no {t : Tb} {m : MoV} {r : RowV} (h : ¬ 0 < (seenR t m r).id) : seeL t m r = [] := by unfold seeL; rw [if_neg h]
theorem seeL_yes {t : Tb} {m : MoV} {r : RowV} (h : 0 < (seenR t m r).id) : seeL t m r = [seenR t m r] := by unfold seeL; rw [if_pos h]
theorem seeL_len (t : Tb) (m : MoV) (r : RowV) : (seeL t m r).length ≤ 1 := by unfold seeL; split <;> simp
theorem snap_len (t : Tb) (m : MoV) : ∀ rows : List RowV, (snapV t m rows).length ≤ rows.length
 | [] => Nat.le_refl _
 | r :: rows => by
  have h1 := snap_len t m rows
  have h2 := seeL_len t m r
  show (seeL t m r ++ snapV t m rows).length ≤ rows.length + 1
  rw [List.length_append]; omega
theorem snap_take {t : Tb} {m : MoV} {rows : List RowV} {k : Nat} (h : k < rows.length) : snapV t m (rows.take (k + 1)) = snapV t m (rows.take k) ++ seeL t m rows[k] := by
 unfold snapV
 rw [List.take_succ_eq_append_getElem h, List.flatMap_append]; simp
theorem infoRwN : ∃ i, Tryz.prog.info? 81 = some i ∧ i.zero = some (.agg #[.int .i64 0, .slice none 0 0]) ∧ i.size = 2 ∧ i.bytes = 32 := by
 have h : (Tryz.prog.info? 81).map (fun i => (i.zero, i.size, i.bytes)) = some (some (.agg #[.int .i64 0, .slice none 0 0]), 2, 32) := by kernel_rfl
 obtain ⟨i, hi, hzz⟩ := Option.map_eq_some_iff.1 h
 simp only [Prod.mk.injEq] at hzz
 exact ⟨i, hi, hzz⟩
structure SnB (w W : World) (sv xv : Value) (xn : Int) (mc : Array Value) (P : List RowV) (v : Value) : Prop where
 f : BoxF 40 44 48 w W #[sv] #[xv, .int .i64 xn] mc
 gr : SG W (w.heap.size + 1 + 1 + 1) (fun d => w.heap.size ≤ d) 81 2 (lsF dRow P) P.length v
theorem SnB.later {w W W' : World} {sv xv : Value} {xn : Int} {mc : Array Value} {P : List RowV} {v : Value} (h : SnB w W sv xv xn mc P v) (hB : Below W.heap.size W W') : SnB w W' sv xv xn mc P v := ⟨h.f.later hB, h.gr.later hB⟩
theorem SnB.first (w : World) (sv xv : Value) (xn : Int) (mc : Array Value) : SnB w ((((w.alloc (.cells #[sv] 40)).alloc (.cells #[xv, .int .i64 xn] 44)).alloc (.cells mc 48)).alloc (.cells #[] 81)) sv xv xn mc [] (.slice (some ⟨w.heap.size + 1 + 1 + 1, 0, none⟩) 0 0) := by
 have h := boxF 40 44 48 w #[sv] #[xv, .int .i64 xn] mc
 have e := heap_newD (((w.alloc (.cells #[sv] 40)).alloc (.cells #[xv, .int .i64 xn] 44)).alloc (.cells mc 48)) (.cells #[] 81)
 rw [size_allocD, size_allocD, size_allocD] at e
 exact ⟨h.later (below_allocD _ _), SG.start (Nat.le_refl _) e⟩
theorem SnB.push {w W w3 : World} {sv xv : Value} {xn : Int} {mc : Array Value} {P P' : List RowV} {v v' : Value} (h : SnB w W sv xv xn mc P v) (hs : SG w3 (w.heap.size + 1 + 1 + 1) (fun d => w.heap.size ≤ d) 81 2 (lsF dRow P') P'.length v') (hg : W.grownBy w3 v.ownBlock) : SnB w w3 sv xv xn mc P' v' := by
  have hn : ∀ b, b < w.heap.size + 1 + 1 + 1 → some b ≠ v.ownBlock := fun b hb e => by have := (h.gr.low e.symm).1; omega
  refine ⟨⟨?_, ?_, ?_, h.f.bel.trans ⟨hg.os, hg.tape, hg.output, hg.size, fun b hb => hg.block b (Nat.lt_of_lt_of_le hb h.f.bel.size) (hn b (by omega))⟩⟩, hs⟩
  · rw [hg.block _ (Array.getElem?_eq_some_iff.1 h.f.a).1 (hn _ (by omega))]; exact h.f.a
  · rw [hg.block _ (Array.getElem?_eq_some_iff.1 h.f.b).1 (hn _ (by omega))]; exact h.f.b
  · rw [hg.block _ (Array.getElem?_eq_some_iff.1 h.f.c).1 (hn _ (by omega))]; exact h.f.c
theorem lsR_app {P : List RowV} {c : RowV} {i : Nat} (h : i < P.length) (j : Nat) : lsF dRow (P ++ [c]) i j = lsF dRow P i j := by
 rw [lsF_at (by simp; omega), lsF_at h, List.getElem_append_left h]
theorem lsR_last {P : List RowV} {c : RowV} : lsF dRow (P ++ [c]) P.length = dRow c := by
 rw [lsF_at (by simp)]; simp
set_option maxRecDepth 100000 in
set_option maxHeartbeats 25600000 in
theorem snapS (l : List Tb) (sa : Option Addr) (sc : Nat) (A : Nat → Prop) (x : StV) (xa : Option Addr) (xc : Nat) (X : Nat → Prop) (m : MoV) (a2 : Option Addr) (c2 : Nat) (a7 : Option Addr) (c7 : Nat) (B : Nat → Prop) (w : World) (k : Nat) (hk : k < l.length) (hkx : k < x.tables.length) (ht : tplC l m.tb = k) (hlo : (dTableS l).le maxLen) (hn4 : m.cs.length ≤ 4096) (hw : (dCondS m.wh).le 1048576) (hx : (dRowS x.tables[k]).le 1048576) (hq : ∀ i (h : i < x.tables[k].length), (∀ j (h' : j < m.wh.length), Asks l[k] x.tables[k][i] m.wh[j]) ∧ x.tables[k][i].cells.length = l[k].cols.length ∧ ∀ s, (cellOf l[k] x.tables[k][i] s).length ≤ 1048576) (hT : Rd w A (dTableS l) (.slice sa l.length sc)) (hR : Rd w X (dRowSS x.tables) (.slice xa x.tables.length xc)) (rcs : Rd w B (dStringS m.cs) (.slice a2 m.cs.length c2)) (rh : Rd w B (dCondS m.wh) (.slice a7 m.wh.length c7)) :
  Calls Tryz.prog 29 #[.agg #[.slice sa l.length sc], .agg #[.slice xa x.tables.length xc, .int .i64 x.next], .agg #[.string ⟨m.nm.toArray⟩, .string ⟨m.tb.toArray⟩, .slice a2 m.cs.length c2, .bool m.ini, .bool m.ins, .bool m.del, .bool m.mod, .slice a7 m.wh.length c7]] w fun e w' => ∃ a c, e = .returned (.slice a (snapV l[k] m x.tables[k]).length c) ∧ Rd w' (fun d => w.heap.size ≤ d ∧ d < w'.heap.size) (dRowS (snapV l[k] m x.tables[k])) (.slice a (snapV l[k] m x.tables[k]).length c) ∧ Below w.heap.size w w' := by
 have H0 := Lib.hid (SnB.first w (.slice sa l.length sc) (.slice xa x.tables.length xc) x.next #[.string ⟨m.nm.toArray⟩, .string ⟨m.tb.toArray⟩, .slice a2 m.cs.length c2, .bool m.ini, .bool m.ins, .bool m.del, .bool m.mod, .slice a7 m.wh.length c7])
 have FS : Hid (∀ W, Below w.heap.size w W → Calls Tryz.prog 56 #[.agg #[.slice sa l.length sc], .string ⟨m.tb.toArray⟩] W fun e w' => e = .returned (.int .i64 k) ∧ Below W.heap.size W w') := fun W h => by
  have := findTS l m.tb sa sc A W hlo (hT.later h)
  rw [ht] at this
  exact this
 have HTO : Hid (l[k].ok) := le_table ((Ls_le.1 hlo).2.2 k hk 0 (by omega)) ((Ls_le.1 hlo).2.2 k hk 1 (by omega)) ((Ls_le.1 hlo).2.2 k hk 2 (by omega))
 obtain ⟨tq, tf, rfl, -, tc⟩ := Rd.things (d := dTable) (n := 4) hT k hk
 obtain ⟨u0, t0, q0⟩ := tc 0 (by omega)
 obtain rfl : u0 = .string ⟨l[k].nm.toArray⟩ := q0
 rw [Nat.add_zero] at t0
 obtain ⟨u1, t1, q1⟩ := tc 1 (by omega)
 replace q1 : Rd w A (dColumnS l[k].cols) u1 := q1
 obtain ⟨ca, cc, rfl⟩ := q1.lsSlice
 obtain ⟨u2, t2, q2⟩ := tc 2 (by omega)
 replace q2 : Rd w A (dIntS l[k].uq) u2 := q2
 obtain ⟨ua, uc, rfl⟩ := q2.lsSlice
 obtain ⟨u3, t3, q3⟩ := tc 3 (by omega)
 obtain rfl : u3 = .bool l[k].rt := q3
 have HH : Hid (∀ W, Below w.heap.size w W → l[k].Has W A ca ua) := fun W h => Rd.hasT (q1.later h) (q2.later h)
 obtain ⟨rq, rf, rfl, -, rc0⟩ := Rd.things (d := cRowS) (n := 1) hR k hkx
 obtain ⟨v0, s0, p0⟩ := rc0 0 (by omega)
 replace p0 : Rd w X (dRowS x.tables[k]) v0 := p0
 obtain ⟨ra, rc, rfl⟩ := p0.lsSlice
 rw [Nat.mul_one, Nat.add_zero] at s0
 have TCE : Hid (∀ W, Below w.heap.size w W → W.cell? ⟨tq, tf + k * 4, none⟩ = some (.string ⟨l[k].nm.toArray⟩) ∧ W.cell? ⟨tq, tf + k * 4 + 1, none⟩ = some (.slice ca l[k].cols.length cc) ∧ W.cell? ⟨tq, tf + k * 4 + 2, none⟩ = some (.slice ua l[k].uq.length uc) ∧ W.cell? ⟨tq, tf + k * 4 + 3, none⟩ = some (.bool l[k].rt) ∧ W.cell? ⟨rq, rf + k, none⟩ = some (.slice ra x.tables[k].length rc)) := fun W h => ⟨(h.cell (p := ⟨tq, tf + k * 4, none⟩) (World.block_lt_of_cell? _ _ t0)).trans t0, (h.cell (p := ⟨tq, tf + k * 4 + 1, none⟩) (World.block_lt_of_cell? _ _ t1)).trans t1, (h.cell (p := ⟨tq, tf + k * 4 + 2, none⟩) (World.block_lt_of_cell? _ _ t2)).trans t2, (h.cell (p := ⟨tq, tf + k * 4 + 3, none⟩) (World.block_lt_of_cell? _ _ t3)).trans t3, (h.cell (p := ⟨rq, rf + k, none⟩) (World.block_lt_of_cell? _ _ s0)).trans s0⟩
 have HR : Hid (∀ W, Below w.heap.size w W → Rd W X (Ls 2 dRow x.tables[k]) (.slice ra x.tables[k].length rc)) := fun W h => Rd.later p0 h
 have hki : (k : Int) < (l.length : Int) := by omega
 have hkj : (k : Int) < (x.tables.length : Int) := by omega
 have HQ := Lib.hid hq
 have HX := Lib.hid hx
 have hrl : x.tables[k].length ≤ 1048576 := (Ls_le.1 hx).2.1
 have HM : Hid (m.cs.length ≤ 4096 ∧ (dCondS m.wh).le 1048576 ∧ ∀ W, Below w.heap.size w W → Rd W B (dStringS m.cs) (.slice a2 m.cs.length c2) ∧ Rd W B (dCondS m.wh) (.slice a7 m.wh.length c7)) := ⟨hn4, hw, fun W h => ⟨rcs.later h, rh.later h⟩⟩
 obtain ⟨iR, hiR⟩ := infoRwN
 have HIR := Lib.hid hiR
 clear tc t0 t1 t2 t3 q1 q2 rc0 s0 p0 hq hx hn4 hw rcs rh hT hR ht hlo hiR
 have HKK := Lib.hid (And.intro hk hkx)
 generalize x.tables[k] = rows at *
 generalize l[k] = t at *
 clear hk hkx
 have x0 := cell_at (o := 0) H0.out.f.a rfl
 have y0 := cell_at (o := 0) H0.out.f.b rfl
 have z0 := cell_at (o := 0) H0.out.f.c rfl
 have z1 := cell_at (o := 1) H0.out.f.c rfl
 have z2 := cell_at (o := 2) H0.out.f.c rfl
 have z3 := cell_at (o := 3) H0.out.f.c rfl
 have z4 := cell_at (o := 4) H0.out.f.c rfl
 have z5 := cell_at (o := 5) H0.out.f.c rfl
 have z6 := cell_at (o := 6) H0.out.f.c rfl
 have z7 := cell_at (o := 7) H0.out.f.c rfl
 go_enter Tryz.func29, Tryz.ntmps29
 go_wp2_with fail
 refine (FS.out _ H0.out.f.bel).mono ?_
 rintro e w1 ⟨rfl, hB⟩
 have HB1 := Lib.hid (H0.out.later hB)
 clear hB x0 y0 z0 z1 z2 z3 z4 z5 z6 z7
 go_wp2_with fail
 go_loopw [7, 9] (fun v i wr => ∃ k2 : Nat, k2 ≤ rows.length ∧ i = .int .i64 k2 ∧ ∃ (P : List RowV) (va : Option Addr) (vq : Nat), v = .slice va P.length vq ∧ Hid (P = snapV t m (rows.take k2) ∧ SnB w wr (.slice (some ⟨tq, tf, none⟩) l.length sc) (.slice (some ⟨rq, rf, none⟩) x.tables.length xc) x.next #[.string ⟨m.nm.toArray⟩, .string ⟨m.tb.toArray⟩, .slice a2 m.cs.length c2, .bool m.ini, .bool m.ins, .bool m.del, .bool m.mod, .slice a7 m.wh.length c7] P (.slice va P.length vq))) (fun _ i _ => rows.length - (intOf i).toNat)
 case atStart => exact ⟨0, Nat.zero_le _, rfl, [], _, _, rfl, by simp [snapV], HB1.out⟩
 case round =>
  obtain ⟨k2, hk2, rfl, P, va, vq, rfl, HW⟩ := hrel
  have y0 := cell_at (o := 0) HW.out.2.f.b rfl
  have s0 := (TCE.out _ HW.out.2.f.bel).2.2.2.2
  by_cases hlt : k2 < rows.length
  case neg =>
   have hki2 : decide ((k2 : Int) < (rows.length : Int)) = false := by simp; omega
   have HE : Hid (P = snapV t m rows) := by have h := HW.out.1; rw [List.take_of_length_le (by omega)] at h; exact h
   go_wp2_with fail
   go_ret
   rw [← HE.out]
   exact ⟨va, vq, rfl, (HW.out.2.gr.rd (by omega) (fun g hg => by have := (HW.out.2.gr.low hg).1; omega)), HW.out.2.f.bel⟩
  have hki2 : (k2 : Int) < (rows.length : Int) := by omega
  obtain ⟨b1, o1, rfl, -, hc⟩ := (HR.out _ HW.out.2.f.bel).things k2 hlt
  obtain ⟨u0, i0, j0⟩ := hc 0 (by omega)
  obtain rfl : u0 = .int .i64 rows[k2].id := j0
  rw [Nat.add_zero] at i0
  obtain ⟨u1, i1, j1⟩ := hc 1 (by omega)
  replace j1 : Rd wr X (dAtomSS rows[k2].cells) u1 := j1
  obtain ⟨ea, ec, rfl⟩ := j1.lsSlice
  have HTK := Lib.hid (snap_take (t := t) (m := m) hlt)
  have HQK := Lib.hid (And.intro (le_rowC HX.out hlt) (HQ.out k2 hlt))
  have HPL : Hid (P.length ≤ 1048576) := by
   have h1 := snap_len t m (rows.take k2)
   have h2 : (rows.take k2).length ≤ rows.length := List.length_take_le' _ _
   rw [← HW.out.1] at h1
   show P.length ≤ 1048576
   omega
  have HRC : Hid (∀ W, Below wr.heap.size wr W → W.cell? ⟨b1, o1 + k2 * 2, none⟩ = some (.int .i64 rows[k2].id) ∧ W.cell? ⟨b1, o1 + k2 * 2 + 1, none⟩ = some (.slice ea rows[k2].cells.length ec) ∧ Rd W X (dAtomSS rows[k2].cells) (.slice ea rows[k2].cells.length ec)) := fun W h => ⟨(h.cell (p := ⟨b1, o1 + k2 * 2, none⟩) (World.block_lt_of_cell? _ _ i0)).trans i0, (h.cell (p := ⟨b1, o1 + k2 * 2 + 1, none⟩) (World.block_lt_of_cell? _ _ i1)).trans i1, j1.later h⟩
  clear hc i0 i1 j1
  generalize rows[k2] = y at *
  have SN : Hid (∀ W, Below wr.heap.size wr W → Calls Tryz.prog 62 #[.agg #[.string ⟨t.nm.toArray⟩, .slice ca t.cols.length cc, .slice ua t.uq.length uc, .bool t.rt], .agg #[.string ⟨m.nm.toArray⟩, .string ⟨m.tb.toArray⟩, .slice a2 m.cs.length c2, .bool m.ini, .bool m.ins, .bool m.del, .bool m.mod, .slice a7 m.wh.length c7], .agg #[.int .i64 y.id, .slice ea y.cells.length ec]] W (RowNew W (seenR t m y))) := fun W h => seenS t ca cc ua uc A m a2 c2 a7 c7 B y ea ec X W HTO.out HM.out.1 HM.out.2.1 (D.le.mono (by unfold maxLen; omega) _ HQK.out.1.2) HQK.out.1.1 (fun _ => HQK.out.2) (HH.out W (HW.out.2.f.bel.trans (h.mono HW.out.2.f.bel.size))) ((HM.out.2.2 W (HW.out.2.f.bel.trans (h.mono HW.out.2.f.bel.size))).1) ((HM.out.2.2 W (HW.out.2.f.bel.trans (h.mono HW.out.2.f.bel.size))).2) ((HRC.out W h).2.2)
  have CE : Hid (∀ W, Below wr.heap.size wr W → W.cell? ⟨w.heap.size, 0, none⟩ = some (.slice (some ⟨tq, tf, none⟩) l.length sc) ∧ W.cell? ⟨w.heap.size + 1, 0, none⟩ = some (.slice (some ⟨rq, rf, none⟩) x.tables.length xc) ∧ W.cell? ⟨w.heap.size + 1 + 1, 0, none⟩ = some (.string ⟨m.nm.toArray⟩) ∧ W.cell? ⟨w.heap.size + 1 + 1, 1, none⟩ = some (.string ⟨m.tb.toArray⟩) ∧ W.cell? ⟨w.heap.size + 1 + 1, 2, none⟩ = some (.slice a2 m.cs.length c2) ∧ W.cell? ⟨w.heap.size + 1 + 1, 3, none⟩ = some (.bool m.ini) ∧ W.cell? ⟨w.heap.size + 1 + 1, 4, none⟩ = some (.bool m.ins) ∧ W.cell? ⟨w.heap.size + 1 + 1, 5, none⟩ = some (.bool m.del) ∧ W.cell? ⟨w.heap.size + 1 + 1, 6, none⟩ = some (.bool m.mod) ∧ W.cell? ⟨w.heap.size + 1 + 1, 7, none⟩ = some (.slice a7 m.wh.length c7) ∧ W.cell? ⟨tq, tf + k * 4, none⟩ = some (.string ⟨t.nm.toArray⟩) ∧ W.cell? ⟨tq, tf + k * 4 + 1, none⟩ = some (.slice ca t.cols.length cc) ∧ W.cell? ⟨tq, tf + k * 4 + 2, none⟩ = some (.slice ua t.uq.length uc) ∧ W.cell? ⟨tq, tf + k * 4 + 3, none⟩ = some (.bool t.rt) ∧ W.cell? ⟨rq, rf + k, none⟩ = some (.slice (some ⟨b1, o1, none⟩) rows.length rc) ∧ W.cell? ⟨b1, o1 + k2 * 2, none⟩ = some (.int .i64 y.id) ∧ W.cell? ⟨b1, o1 + k2 * 2 + 1, none⟩ = some (.slice ea y.cells.length ec)) := fun W h => by
   have hd := HW.out.2.f.later h
   obtain ⟨h0, h1, h2, h3, h4⟩ := TCE.out W hd.bel
   obtain ⟨g0, g1, -⟩ := HRC.out W h
   exact ⟨cell_at (o := 0) hd.a rfl, cell_at (o := 0) hd.b rfl, cell_at (o := 0) hd.c rfl, cell_at (o := 1) hd.c rfl, cell_at (o := 2) hd.c rfl, cell_at (o := 3) hd.c rfl, cell_at (o := 4) hd.c rfl, cell_at (o := 5) hd.c rfl, cell_at (o := 6) hd.c rfl, cell_at (o := 7) hd.c rfl, h0, h1, h2, h3, h4, g0, g1⟩
  have HCN : Hid (¬ 0 < (seenR t m y).id → P = snapV t m (rows.take (k2 + 1))) := fun h => by rw [HTK.out, seeL_no h, List.append_nil]; exact HW.out.1
  have HCY : Hid (0 < (seenR t m y).id → P ++ [seenR t m y] = snapV t m (rows.take (k2 + 1))) := fun h => by rw [HTK.out, seeL_yes h, ← HW.out.1]
  clear HQK
  generalize seenR t m y = o at *
  go_upto_region 6 with fail
  clear y0 s0
  go_cut [10] from 16 to 47 (fun s wx => ∃ (qc : Nat) (oa : Option Addr) (oc : Nat), s = .pointer (some ⟨qc, 0, none⟩) ∧ Hid (Below wr.heap.size wr wx ∧ wx.heap[qc]? = some (.cells #[.int .i64 o.id, .slice oa o.cells.length oc] 81) ∧ wr.heap.size ≤ qc ∧ Rd wx (fun d => wr.heap.size ≤ d) (dAtomSS o.cells) (.slice oa o.cells.length oc)))
  case first =>
   have B0 : Hid (Below wr.heap.size wr wr.drew) := (Below.refl _ _).drew
   refine wp_region_held_drew (S := (fun W => W.cell? ⟨w.heap.size, 0, none⟩ = some (.slice (some ⟨tq, tf, none⟩) l.length sc) ∧ W.cell? ⟨w.heap.size + 1, 0, none⟩ = some (.slice (some ⟨rq, rf, none⟩) x.tables.length xc) ∧ W.cell? ⟨w.heap.size + 1 + 1, 0, none⟩ = some (.string ⟨m.nm.toArray⟩) ∧ W.cell? ⟨w.heap.size + 1 + 1, 1, none⟩ = some (.string ⟨m.tb.toArray⟩) ∧ W.cell? ⟨w.heap.size + 1 + 1, 2, none⟩ = some (.slice a2 m.cs.length c2) ∧ W.cell? ⟨w.heap.size + 1 + 1, 3, none⟩ = some (.bool m.ini) ∧ W.cell? ⟨w.heap.size + 1 + 1, 4, none⟩ = some (.bool m.ins) ∧ W.cell? ⟨w.heap.size + 1 + 1, 5, none⟩ = some (.bool m.del) ∧ W.cell? ⟨w.heap.size + 1 + 1, 6, none⟩ = some (.bool m.mod) ∧ W.cell? ⟨w.heap.size + 1 + 1, 7, none⟩ = some (.slice a7 m.wh.length c7) ∧ W.cell? ⟨tq, tf + k * 4, none⟩ = some (.string ⟨t.nm.toArray⟩) ∧ W.cell? ⟨tq, tf + k * 4 + 1, none⟩ = some (.slice ca t.cols.length cc) ∧ W.cell? ⟨tq, tf + k * 4 + 2, none⟩ = some (.slice ua t.uq.length uc) ∧ W.cell? ⟨tq, tf + k * 4 + 3, none⟩ = some (.bool t.rt) ∧ W.cell? ⟨rq, rf + k, none⟩ = some (.slice (some ⟨b1, o1, none⟩) rows.length rc) ∧ W.cell? ⟨b1, o1 + k2 * 2, none⟩ = some (.int .i64 y.id) ∧ W.cell? ⟨b1, o1 + k2 * 2 + 1, none⟩ = some (.slice ea y.cells.length ec))) (by kernel_rfl) ?_ (fun hHeld => ?_)
   ·
    (exact CE.out _ (by first | exact B9.out | exact B2.out | exact B1.out | exact B0.out))
   refine tkB (i := 0) ?_
   refine tkB (i := 1) ?_
   refine tkB (i := 2) ?_
   refine tkB (i := 3) ?_
   refine tkB (i := 4) ?_
   refine tkB (i := 5) ?_
   refine tkB (i := 6) ?_
   refine tkB (i := 7) ?_
   refine tkB (i := 8) ?_
   refine tkB (i := 9) ?_
   refine tkB (i := 10) ?_
   refine tkB (i := 11) ?_
   refine tkB (i := 12) ?_
   refine tkB (i := 13) ?_
   refine wpAnyH_ready (rs := [14, 15]) (by kernel_rfl) (by simp) (AllReadyH.cons rfl (fun K hK => ?_) (AllReadyH.cons rfl (fun K hK => ?_) AllReadyH.nil))
   ·
    go_simp
    go_at_call 62
    refine (SN.out _ B0.out).mono ?_
    rintro e w4 ⟨oa, oc, rfl, hr4, hB4⟩
    have B1 : Hid (Below wr.heap.size wr w4) := B0.out.trans (hB4.mono B0.out.size)
    have HO1 : Hid (Rd w4 (fun d => wr.heap.size ≤ d) (dAtomSS o.cells) (.slice oa o.cells.length oc)) := hr4.mono (fun d hd => hd.1)
    clear hr4 hB4
    refine hK.out _ _ ?_ (fun hHeld => ?_)
    ·
     (exact CE.out _ (by first | exact B9.out | exact B2.out | exact B1.out | exact B0.out))
    clear hK K
    try simp only [Act.put, tkS]
    refine tkR (i := 15) (fun K hK => ?_)
    go_simp
    have B2 : Hid (Below wr.heap.size wr (w4.alloc (.cells #[.int .i64 0, .slice none 0 0] 81))) := B1.out.alloc B1.out.size _
    refine hK.out _ _ ?_ (fun hHeld => ?_)
    ·
     (exact CE.out _ (by first | exact B9.out | exact B2.out | exact B1.out | exact B0.out))
    clear hK K
    try simp only [Act.put, tkS]
    refine tkR (i := 16) (fun K hK => ?_)
    have HX9 : Hid (Below wr.heap.size wr (w4.alloc (.cells #[.int .i64 o.id, .slice oa o.cells.length oc] 81)) ∧ (w4.alloc (.cells #[.int .i64 o.id, .slice oa o.cells.length oc] 81)).heap[w4.heap.size]? = some (.cells #[.int .i64 o.id, .slice oa o.cells.length oc] 81) ∧ wr.heap.size ≤ w4.heap.size ∧ Rd (w4.alloc (.cells #[.int .i64 o.id, .slice oa o.cells.length oc] 81)) (fun d => wr.heap.size ≤ d) (dAtomSS o.cells) (.slice oa o.cells.length oc)) := ⟨B1.out.alloc B1.out.size _, heap_newD _ _, B1.out.size, HO1.out.later (below_allocD _ _)⟩
    have B9 := Lib.hid HX9.out.1
    go_simp
    refine hK.out _ _ ?_ (fun hHeld => ?_)
    ·
     (exact CE.out _ (by first | exact B9.out | exact B2.out | exact B1.out | exact B0.out))
    clear hK K
    try simp only [Act.put, tkS]
    refine wpAnyH_done (by kernel_rfl) ?_ _
    go_wp2_with fail
    go_meet
    exact ⟨_, _, _, rfl, HX9⟩
   ·
    go_simp
    have B1 : Hid (Below wr.heap.size wr (wr.alloc (.cells #[.int .i64 0, .slice none 0 0] 81)).drew) := ((Below.refl _ _).alloc (Nat.le_refl _) _).drew
    refine hK.out _ _ ?_ (fun hHeld => ?_)
    ·
     (exact CE.out _ (by first | exact B9.out | exact B2.out | exact B1.out | exact B0.out))
    clear hK K
    try simp only [Act.put, tkS]
    refine tkR (i := 14) (fun K hK => ?_)
    go_simp
    go_at_call 62
    refine (SN.out _ B1.out).mono ?_
    rintro e w4 ⟨oa, oc, rfl, hr4, hB4⟩
    have B2 : Hid (Below wr.heap.size wr w4) := B1.out.trans (hB4.mono B1.out.size)
    have HZ : Hid (w4.heap[wr.heap.size]? = some (.cells #[.int .i64 0, .slice none 0 0] 81)) := heap_keptD (show ((wr.alloc (.cells #[.int .i64 0, .slice none 0 0] 81)).drew).heap[wr.heap.size]? = some (.cells #[.int .i64 0, .slice none 0 0] 81) from heap_newD _ _) hB4
    have HO1 : Hid (Rd w4 (fun d => d ≠ wr.heap.size ∧ wr.heap.size ≤ d) (dAtomSS o.cells) (.slice oa o.cells.length oc)) := hr4.mono (fun d hd => by have h1 := hd.1; have h2 : (wr.alloc (.cells #[.int .i64 0, .slice none 0 0] 81)).drew.heap.size = wr.heap.size + 1 := size_allocD _ _; omega)
    clear hr4 hB4
    refine hK.out _ _ ?_ (fun hHeld => ?_)
    ·
     (exact CE.out _ (by first | exact B9.out | exact B2.out | exact B1.out | exact B0.out))
    clear hK K
    try simp only [Act.put, tkS]
    refine tkR (i := 16) (fun K hK => ?_)
    have zc0 := cell_at (o := 0) HZ.out rfl
    have zf0 := frozen_at 0 HZ.out
    have zc1 := cell_at (o := 1) HZ.out rfl
    have zf1 := frozen_at 1 HZ.out
    have HX9 : Hid (Below wr.heap.size wr ((w4.setCell ⟨wr.heap.size, 0, none⟩ (.int .i64 o.id)).setCell ⟨wr.heap.size, 1, none⟩ (.slice oa o.cells.length oc)) ∧ ((w4.setCell ⟨wr.heap.size, 0, none⟩ (.int .i64 o.id)).setCell ⟨wr.heap.size, 1, none⟩ (.slice oa o.cells.length oc)).heap[wr.heap.size]? = some (.cells #[.int .i64 o.id, .slice oa o.cells.length oc] 81) ∧ wr.heap.size ≤ wr.heap.size ∧ Rd ((w4.setCell ⟨wr.heap.size, 0, none⟩ (.int .i64 o.id)).setCell ⟨wr.heap.size, 1, none⟩ (.slice oa o.cells.length oc)) (fun d => wr.heap.size ≤ d) (dAtomSS o.cells) (.slice oa o.cells.length oc)) := ⟨((B2.out.setCell (show wr.heap.size ≤ wr.heap.size from Nat.le_refl _) _).setCell (show wr.heap.size ≤ wr.heap.size from Nat.le_refl _) _), by rw [(heap_set 1 _ (heap_set 0 _ HZ.out))]; rfl, Nat.le_refl _, (HO1.out.frm (F := (· = wr.heap.size)) ((frm_set _ _ _ _).trans (frm_set _ _ _ _)) (fun d hd e => hd.1 e)).mono (fun d hd => hd.2)⟩
    have B9 := Lib.hid HX9.out.1
    go_simp
    clear zc0 zf0 zc1 zf1
    refine hK.out _ _ ?_ (fun hHeld => ?_)
    ·
     (exact CE.out _ (by first | exact B9.out | exact B2.out | exact B1.out | exact B0.out))
    clear hK K
    try simp only [Act.put, tkS]
    refine wpAnyH_done (by kernel_rfl) ?_ _
    go_wp2_with fail
    go_meet
    exact ⟨_, _, _, rfl, HX9⟩
  obtain ⟨qc, oa, oc, rfl, HX9⟩ := hcut
  generalize wc = w6 at *
  clear CE SN
  have d0 := cell_at (o := 0) HX9.out.2.1 rfl
  have d1 := cell_at (o := 1) HX9.out.2.1 rfl
  by_cases ho : 0 < o.id
  case neg =>
   have HN9 := Lib.hid (HCN.out ho)
   have ho0 : decide (0 < o.id) = false := decide_eq_false ho
   clear ho HCN HCY
   go_wp2_with fail
   go_roundw
   case rel => exact ⟨k2 + 1, by omega, by go_num, P, va, vq, rfl, HN9.out, HW.out.2.later HX9.out.1⟩
   case measure => simp [intOf]; omega
  have HN9 := Lib.hid (HCY.out ho)
  have ho0 : decide (0 < o.id) = true := decide_eq_true ho
  clear ho HCN HCY
  have SG2 : Hid (SG (w6.alloc (.cells #[.int .i64 o.id, .slice oa o.cells.length oc] 81)) (w.heap.size + 1 + 1 + 1) (fun d => w.heap.size ≤ d) 81 2 (lsF dRow (P ++ [o])) P.length (.slice va P.length vq)) := SG.convI ((HW.out.2.later HX9.out.1).gr.later (below_allocD _ _)) (fun i j hi => lsR_app hi j) (fun _ _ h => h)
  have NEW : Hid (∀ j u, [.int .i64 o.id, .slice oa o.cells.length oc][j]? = some u → (w6.alloc (.cells #[.int .i64 o.id, .slice oa o.cells.length oc] 81)).cell? ((⟨w6.heap.size, 0, none⟩ : Addr).add j) = some u) := fun j u hj => by
   have hlt := (List.getElem?_eq_some_iff.1 hj).1
   rw [Addr.add_mid, Nat.zero_add]
   rcases (by simpa using hlt : j < 2) |> (fun h => (by omega : j = 0 ∨ j = 1)) with rfl | rfl
   ·
    rw [← hj]; exact cell_at (o := 0) (heap_newD _ _) rfl
   ·
    rw [← hj]; exact cell_at (o := 1) (heap_newD _ _) rfl
  have HRD : Hid (∀ j, j < 2 → ∃ u, [.int .i64 o.id, .slice oa o.cells.length oc][j]? = some u ∧ Rd (w6.alloc (.cells #[.int .i64 o.id, .slice oa o.cells.length oc] 81)) (fun c => (Value.ownBlock (.slice va P.length vq) ≠ some c ∧ c < (w6.alloc (.cells #[.int .i64 o.id, .slice oa o.cells.length oc] 81)).heap.size) ∧ w.heap.size ≤ c) (lsF dRow (P ++ [o]) P.length j) u) := fun j hj => by
   rw [lsR_last]
   have key : ∀ {d : D} {u : Value}, Rd w6 (fun d => wr.heap.size ≤ d) d u → Rd (w6.alloc (.cells #[.int .i64 o.id, .slice oa o.cells.length oc] 81)) (fun c => (Value.ownBlock (.slice va P.length vq) ≠ some c ∧ c < (w6.alloc (.cells #[.int .i64 o.id, .slice oa o.cells.length oc] 81)).heap.size) ∧ w.heap.size ≤ c) d u := fun h => (Rd.inside _ _ (h.later (below_allocD _ _))).mono (fun c hc => ⟨⟨fun e => by have := (HW.out.2.gr.low e).2; have := hc.1; omega, hc.2⟩, by have := hc.1; have := HW.out.2.f.bel.size; omega⟩)
   rcases (by omega : j = 0 ∨ j = 1) with rfl | rfl
   ·
    exact ⟨_, rfl, rfl⟩
   ·
    exact ⟨_, rfl, key HX9.out.2.2.2⟩
  go_wp2_with (at_builtin; go_must (refine wpList_grow rfl (.tmp 44) (.tmp 46) 35 rfl rfl SG2.out iR (.agg #[.int .i64 0, .slice none 0 0]) 32 Tryz.underlying35 HIR.out.1 HIR.out.2.1 HIR.out.2.2.1 HIR.out.2.2.2 rfl (by omega) ⟨w6.heap.size, 0, none⟩ 1 rfl [.int .i64 o.id, .slice oa o.cells.length oc] rfl NEW.out ?one ?h63 ?hby ?hba HRD.out ?go))
  case one => intro u hu; simp only [List.mem_cons, List.not_mem_nil, or_false] at hu; rcases hu with rfl | rfl <;> rfl
  case h63 => have := HPL.out; unfold maxLen; omega
  case hby => have := HPL.out; omega
  case hba => have := (Array.getElem?_eq_some_iff.1 HW.out.2.f.c).1; have := HX9.out.1.size; simp; omega
  case go =>
   intro a' c' w8 hsg hgr gg hg1 hg2
   have HL1 : Hid (P.length + 1 = (P ++ [o]).length) := by show _ = _; simp
   have HDF : Hid (SnB w w8 (.slice (some ⟨tq, tf, none⟩) l.length sc) (.slice (some ⟨rq, rf, none⟩) x.tables.length xc) x.next #[.string ⟨m.nm.toArray⟩, .string ⟨m.tb.toArray⟩, .slice a2 m.cs.length c2, .bool m.ini, .bool m.ins, .bool m.del, .bool m.mod, .slice a7 m.wh.length c7] (P ++ [o]) (.slice a' (P ++ [o]).length c')) := by rw [HL1.out] at hsg; exact SnB.push ((HW.out.2.later HX9.out.1).later (below_allocD _ _)) hsg hgr
   clear hsg hgr hg1 hg2
   rw [HL1.out]
   generalize P ++ [o] = P2 at *
   go_wp2_with fail
   go_roundw
   case rel => exact ⟨k2 + 1, by omega, by go_num, P2, a', c', rfl, HN9.out, HDF.out⟩
   case measure => simp [intOf]; omega
end Go.Proofs.YtlddhbamcndggaaGreatDoor
