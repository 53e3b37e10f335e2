import Derived.Test.YtlddhbamcndggaaGreatDoorZbc
import Derived.Test.YtlddhbamcndggaaGreatDoorZam
import Derived.Deep.RegionHeld3
import Derived.Test.YtlddhbamcndggaaGreatDoorZag
import Derived.Deep.QuietTactic
import Derived.Test.YtlddhbamcndggaaGreatDoorZbd
import Derived.Maps.OwnSet
import Derived.Maps.OwnOps
import Derived.Maps.Views
import Derived.Test.YtlddhbamcndggaaGreatDoorZaf
import Derived.Test.YtlddhbamcndggaaGreatDoorZbb
import Derived.Test.YtlddhbamcndggaaGreatDoorZbe
import Derived.Test.YtlddhbamcndggaaGreatDoorZap
import Derived.Test.YtlddhbamcndggaaGreatDoorZTk
namespace Go.Proofs.YtlddhbamcndggaaGreatDoor
open Go.RowKit
set_option linter.unusedSimpArgs false
def cmpR (x y : RowV) : Int := if x.id < y.id then -1 else if y.id < x.id then 1 else 0
set_option maxHeartbeats 1600000 in
theorem cmpRowsI (x y : RowV) (a : Option Addr) (c : Nat) (a' : Option Addr) (c' : Nat) (w : World) :
  Calls Tryz.prog 111 #[.agg #[.int .i64 x.id, .slice a x.cells.length c], .agg #[.int .i64 y.id, .slice a' y.cells.length c']] w fun e w' => e = .returned (.int .i64 (cmpR x y)) ∧ Below w.heap.size w w' := by
 have hb := box2D 81 w #[.int .i64 x.id, .slice a x.cells.length c] #[.int .i64 y.id, .slice a' y.cells.length c']
 have x0 := cell_at (o := 0) hb.a rfl
 have x1 := cell_at (o := 1) hb.a rfl
 have y0 := cell_at (o := 0) hb.b rfl
 have y1 := cell_at (o := 1) hb.b rfl
 have HC : Hid (cmpR x y = if x.id < y.id then -1 else if y.id < x.id then 1 else 0) := rfl
 generalize cmpR x y = r at *
 go_enter Tryz.func111, Tryz.ntmps111
 go_wp2_with (go_at_call 144; refine (cmpInt _ _ _).mono ?_; rintro e w' ⟨rfl, rfl⟩; rw [← HC.out])
 go_ret
 exact ⟨rfl, hb.bel⟩
noncomputable def riBR (l : List RowV) : Bool := @decide (riseIds l) (Classical.propDecidable _)
theorem riBR_yes {l : List RowV} (h : riseIds l) : riBR l = true := @decide_eq_true _ (Classical.propDecidable _) h
theorem riBR_no {l : List RowV} (h : ¬ riseIds l) : riBR l = false := @decide_eq_false _ (Classical.propDecidable _) h
theorem riBR_of {l : List RowV} (h : riBR l = true) : riseIds l := @of_decide_eq_true _ (Classical.propDecidable _) h
set_option maxRecDepth 100000 in
set_option maxHeartbeats 3200000 in
theorem risesR (l : List RowV) (a : Option Addr) (c : Nat) (B : Nat → Prop) (w : World) (hl : l.length ≤ maxLen) (hS : Rd w B (dRowS l) (.slice a l.length c)) :
  Calls Tryz.prog 110 #[.slice a l.length c, .func (.func 111) #[] #[]] w fun e w' => e = .returned (.bool (riBR l)) ∧ Below w.heap.size w w' := by
 unfold maxLen at hl
 have RA : Hid (∀ W, Below w.heap.size w W → Rd W B (Ls 2 dRow l) (.slice a l.length c)) := fun W h => Rd.later hS h
 clear hS
 go_enter Tryz.func110, Tryz.ntmps110
 go_wp2_with fail
 go_loopw [5] (fun i wr => ∃ k : Nat, 1 ≤ k ∧ k ≤ maxLen + 1 ∧ i = .int .i64 k ∧ Hid ((∀ m (h : m + 1 < l.length), m + 1 < k → l[m].id < l[m + 1].id) ∧ Below w.heap.size w wr)) (fun i _ => l.length - (intOf i).toNat)
 case atStart => exact ⟨1, by omega, by unfold maxLen; omega, rfl, fun m _ h => absurd h (by omega), Below.refl _ _⟩
 case round =>
  obtain ⟨k, hk1, hk, rfl, HW⟩ := hrel
  by_cases hkl : k < l.length
  case neg =>
   have HR : Hid (riBR l = true) := riBR_yes (fun m h => HW.out.1 m h (by omega))
   have hmi : decide ((k : Int) < (l.length : Int)) = false := by simp; omega
   go_wp2_with fail
   go_ret
   exact ⟨ret_b HR.out.symm, HW.out.2⟩
  obtain ⟨m, hm⟩ : ∃ m, k = m + 1 := ⟨k - 1, by omega⟩
  have hk2 : (k : Int) < (l.length : Int) := by omega
  have hml : m < l.length := by omega
  have hm1 : (m : Int) < (l.length : Int) := by omega
  have hkm : (k : Int) - 1 = (m : Int) := by omega
  have hwm : IntKind.i64.wrap (m : Int) = (m : Int) := by rw [IntKind.wrap_i64]; omega
  have hm2 : (0 : Int) ≤ (m : Int) := by omega
  obtain ⟨rb, roff, rfl, -, -⟩ := (RA.out _ HW.out.2).things k hkl
  have R0 := RA.out _ HW.out.2
  obtain ⟨u0, d0, r0⟩ := R0.spotT hml (j := 0) (by omega)
  obtain rfl : u0 = .int .i64 l[m].id := r0
  obtain ⟨u1, d1, r1⟩ := R0.spotT hml (j := 1) (by omega)
  replace r1 : Rd wr B (dAtomSS l[m].cells) u1 := r1
  obtain ⟨ya, yq, rfl⟩ := r1.lsSlice
  obtain ⟨v0, e0, s0⟩ := R0.spotT hkl (j := 0) (by omega)
  obtain rfl : v0 = .int .i64 l[k].id := s0
  obtain ⟨v1, e1, s1⟩ := R0.spotT hkl (j := 1) (by omega)
  replace s1 : Rd wr B (dAtomSS l[k].cells) v1 := s1
  obtain ⟨za, zq, rfl⟩ := s1.lsSlice
  replace d0 : wr.cell? ⟨rb, roff + m * 2, none⟩ = _ := d0
  replace e0 : wr.cell? ⟨rb, roff + k * 2, none⟩ = _ := e0
  have CE : Hid (∀ W, Below wr.heap.size wr W → W.cell? ⟨rb, roff + m * 2, none⟩ = some (.int .i64 l[m].id) ∧ W.cell? ⟨rb, roff + m * 2 + 1, none⟩ = some (.slice ya l[m].cells.length yq) ∧ W.cell? ⟨rb, roff + k * 2, none⟩ = some (.int .i64 l[k].id) ∧ W.cell? ⟨rb, roff + k * 2 + 1, none⟩ = some (.slice za l[k].cells.length zq)) := fun W h => ⟨(h.cell (p := ⟨rb, roff + m * 2, none⟩) (World.block_lt_of_cell? _ _ d0)).trans d0, (h.cell (p := ⟨rb, roff + m * 2 + 1, none⟩) (World.block_lt_of_cell? _ _ d1)).trans d1, (h.cell (p := ⟨rb, roff + k * 2, none⟩) (World.block_lt_of_cell? _ _ e0)).trans e0, (h.cell (p := ⟨rb, roff + k * 2 + 1, none⟩) (World.block_lt_of_cell? _ _ e1)).trans e1⟩
  have CC : Hid (∀ W, Below wr.heap.size wr W → Calls Tryz.prog 111 #[.agg #[.int .i64 l[m].id, .slice ya l[m].cells.length yq], .agg #[.int .i64 l[k].id, .slice za l[k].cells.length zq]] W fun e w' => e = .returned (.int .i64 (cmpR l[m] l[k])) ∧ Below wr.heap.size wr w') := fun W h => (cmpRowsI l[m] l[k] ya yq za zq W).mono (fun e w' ⟨he, hB⟩ => ⟨he, h.trans (hB.mono h.size)⟩)
  have hx := Below.refl wr.heap.size wr
  have HB1 := Lib.hid HW.out.2
  have hkk : Hid (k = m + 1) := hm
  by_cases hr : l[m].id < l[k].id
  case pos =>
   have HG : Hid (∀ m (h : m + 1 < l.length), m + 1 < k + 1 → l[m].id < l[m + 1].id) := fun q h hq => by
    by_cases e : q = m
    ·
     subst e; have := hkk.out; subst this; exact hr
    ·
     have := hkk.out; exact HW.out.1 q h (by omega)
   have hq : cmpR l[m] l[k] = -1 := by unfold cmpR; rw [if_pos hr]
   rw [hq] at CC
   clear hr hm HW hq R0 r1 s1
   generalize l[m] = y at *
   generalize l[k] = z at *
   go_wp2_with fail
   refine wp_region_held_drew (S := (fun W => W.cell? ⟨rb, roff + m * 2, none⟩ = some (.int .i64 y.id) ∧ W.cell? ⟨rb, roff + m * 2 + 1, none⟩ = some (.slice ya y.cells.length yq) ∧ W.cell? ⟨rb, roff + k * 2, none⟩ = some (.int .i64 z.id) ∧ W.cell? ⟨rb, roff + k * 2 + 1, none⟩ = some (.slice za z.cells.length zq))) (by kernel_rfl) ?_ (fun hHeld => ?_)
   ·
    (first | exact CE.out _ hx | exact CE.out _ hx.drew)
   refine tkB (i := 0) ?_
   refine tkB (i := 1) ?_
   refine tkB (i := 2) ?_
   refine tkB (i := 3) ?_
   refine tkB (i := 4) ?_
   refine tkB (i := 5) ?_
   refine tkB (i := 6) ?_
   refine tkB (i := 7) ?_
   refine tkB (i := 8) ?_
   refine tkB (i := 9) ?_
   refine tkR (i := 10) (fun K hK => ?_)
   go_simp
   (go_at_call 111; refine (CC.out _ (by first | exact hx | exact hx.drew)).mono ?_; rintro e w1 ⟨rfl, hx⟩)
   refine hK.out _ _ ?_ (fun hHeld => ?_)
   ·
    (first | exact CE.out _ hx | exact CE.out _ hx.drew)
   clear hK K
   try simp only [Act.put, tkS]
   refine tkB (i := 11) ?_
   refine wpAnyH_done (by kernel_rfl) ?_ _
   go_wp2_with fail
   go_roundw
   case rel => exact ⟨k + 1, by omega, by unfold maxLen; omega, by go_num, HG.out, HB1.out.trans (Below.mono (by first | exact hx | exact hx.drew) HB1.out.size)⟩
   case measure => simp [intOf]; omega
  have HR : Hid (riBR l = false) := riBR_no (fun h => hr (by have := hkk.out; subst this; exact h m hkl))
  have hge : 0 ≤ cmpR l[m] l[k] := by unfold cmpR; rw [if_neg hr]; split <;> omega
  have hd : decide (cmpR l[m] l[k] ≥ 0) = true := decide_eq_true hge
  have hd2 : decide (0 ≤ cmpR l[m] l[k]) = true := decide_eq_true hge
  clear hr hm HW R0 r1 s1 hge
  generalize cmpR l[m] l[k] = q at *
  generalize l[m] = y at *
  generalize l[k] = z at *
  go_wp2_with fail
  refine wp_region_held_drew (S := (fun W => W.cell? ⟨rb, roff + m * 2, none⟩ = some (.int .i64 y.id) ∧ W.cell? ⟨rb, roff + m * 2 + 1, none⟩ = some (.slice ya y.cells.length yq) ∧ W.cell? ⟨rb, roff + k * 2, none⟩ = some (.int .i64 z.id) ∧ W.cell? ⟨rb, roff + k * 2 + 1, none⟩ = some (.slice za z.cells.length zq))) (by kernel_rfl) ?_ (fun hHeld => ?_)
  ·
   (first | exact CE.out _ hx | exact CE.out _ hx.drew)
  refine tkB (i := 0) ?_
  refine tkB (i := 1) ?_
  refine tkB (i := 2) ?_
  refine tkB (i := 3) ?_
  refine tkB (i := 4) ?_
  refine tkB (i := 5) ?_
  refine tkB (i := 6) ?_
  refine tkB (i := 7) ?_
  refine tkB (i := 8) ?_
  refine tkB (i := 9) ?_
  refine tkR (i := 10) (fun K hK => ?_)
  go_simp
  (go_at_call 111; refine (CC.out _ (by first | exact hx | exact hx.drew)).mono ?_; rintro e w1 ⟨rfl, hx⟩)
  refine hK.out _ _ ?_ (fun hHeld => ?_)
  ·
   (first | exact CE.out _ hx | exact CE.out _ hx.drew)
  clear hK K
  try simp only [Act.put, tkS]
  refine tkB (i := 11) ?_
  refine wpAnyH_done (by kernel_rfl) ?_ _
  go_wp2_with fail
  go_ret
  exact ⟨ret_b HR.out.symm, HB1.out.trans (Below.mono (by first | exact hx | exact hx.drew) HB1.out.size)⟩
def hasT (x : StV) (t : Int) : Bool := decide (0 ≤ t ∧ t < x.tables.length)
theorem frm_setR (w : World) (b o : Nat) (v : Value) : Frm (· = b) w (w.setCell ⟨b, o, none⟩ v) := Frm.set (B := (· = b)) (Frm.refl _ _) rfl _
def RowNew (w : World) (r : RowV) (e : Ending) (w' : World) : Prop := ∃ a c, e = .returned (.agg #[.int .i64 r.id, .slice a r.cells.length c]) ∧ Rd w' (fun b => w.heap.size ≤ b ∧ b < w'.heap.size) (dAtomSS r.cells) (.slice a r.cells.length c) ∧ Below w.heap.size w w'
noncomputable def seenR (t : Tb) (m : MoV) (r : RowV) : RowV := if r.id = 0 then rowZ else if allM t r m.wh = true then ⟨r.id, m.cs.map (cellOf t r)⟩ else rowZ
theorem seen_0 {t : Tb} {m : MoV} {r : RowV} (h : r.id = 0) : seenR t m r = rowZ := by unfold seenR; rw [if_pos h]
theorem seen_no {t : Tb} {m : MoV} {r : RowV} (h : allM t r m.wh = false) : seenR t m r = rowZ := by unfold seenR; rw [h]; split <;> rfl
theorem seen_yes {t : Tb} {m : MoV} {r : RowV} (h0 : r.id ≠ 0) (h : allM t r m.wh = true) : seenR t m r = ⟨r.id, m.cs.map (cellOf t r)⟩ := by unfold seenR; rw [if_neg h0, if_pos h]
structure Bx4 (ty ty' ty'' : TypeId) (w W : World) (cs ds es : Array Value) : Prop where
 f : BoxF ty ty' ty'' w W cs ds es
 d : W.heap[w.heap.size + 1 + 1 + 1]? = some (.cells #[.int .i64 0, .slice none 0 0] 81)
theorem Bx4.later {ty ty' ty'' : TypeId} {w W W' : World} {cs ds es : Array Value} (h : Bx4 ty ty' ty'' w W cs ds es) (hB : Below W.heap.size W W') : Bx4 ty ty' ty'' w W' cs ds es := ⟨h.f.later hB, heap_keptD h.d hB⟩
theorem bx4 (ty ty' ty'' : TypeId) (w : World) (cs ds es : Array Value) : Bx4 ty ty' ty'' w ((((w.alloc (.cells cs ty)).alloc (.cells ds ty')).alloc (.cells es ty'')).alloc (.cells #[.int .i64 0, .slice none 0 0] 81)) cs ds es := by
 refine ⟨(boxF ty ty' ty'' w cs ds es).later (below_allocD _ _), ?_⟩
 have h := heap_newD (((w.alloc (.cells cs ty)).alloc (.cells ds ty')).alloc (.cells es ty'')) (.cells #[.int .i64 0, .slice none 0 0] 81)
 rw [size_allocD, size_allocD, size_allocD] at h
 exact h
set_option maxRecDepth 100000 in
set_option maxHeartbeats 12800000 in
theorem seenS (t : Tb) (ca : Option Addr) (cc : Nat) (ua : Option Addr) (uc : Nat) (A : Nat → Prop) (m : MoV) (a2 : Option Addr) (c2 : Nat) (a7 : Option Addr) (c7 : Nat) (B : Nat → Prop) (r : RowV) (ra : Option Addr) (rc : Nat) (R : Nat → Prop) (w : World) (hto : t.ok) (hn4 : m.cs.length ≤ 4096) (hw : (dCondS m.wh).le 1048576) (hr : (dAtomSS r.cells).le maxLen) (hid : iOK r.id) (hq : r.id ≠ 0 → (∀ k (h : k < m.wh.length), Asks t r m.wh[k]) ∧ r.cells.length = t.cols.length ∧ ∀ s, (cellOf t r s).length ≤ 1048576) (hT : t.Has w A ca ua) (rcs : Rd w B (dStringS m.cs) (.slice a2 m.cs.length c2)) (rh : Rd w B (dCondS m.wh) (.slice a7 m.wh.length c7)) (hR : Rd w R (dAtomSS r.cells) (.slice ra r.cells.length rc)) :
  Calls Tryz.prog 62 #[.agg #[.string ⟨t.nm.toArray⟩, .slice ca t.cols.length cc, .slice ua t.uq.length uc, .bool t.rt], .agg #[.string ⟨m.nm.toArray⟩, .string ⟨m.tb.toArray⟩, .slice a2 m.cs.length c2, .bool m.ini, .bool m.ins, .bool m.del, .bool m.mod, .slice a7 m.wh.length c7], .agg #[.int .i64 r.id, .slice ra r.cells.length rc]] w (RowNew w (seenR t m r)) := by
 have HB0 := Lib.hid (bx4 75 48 81 w #[.string ⟨t.nm.toArray⟩, .slice ca t.cols.length cc, .slice ua t.uq.length uc, .bool t.rt] #[.string ⟨m.nm.toArray⟩, .string ⟨m.tb.toArray⟩, .slice a2 m.cs.length c2, .bool m.ini, .bool m.ins, .bool m.del, .bool m.mod, .slice a7 m.wh.length c7] #[.int .i64 r.id, .slice ra r.cells.length rc])
 have AL : Hid (r.id ≠ 0 → ∀ W, Bx4 75 48 81 w W #[.string ⟨t.nm.toArray⟩, .slice ca t.cols.length cc, .slice ua t.uq.length uc, .bool t.rt] #[.string ⟨m.nm.toArray⟩, .string ⟨m.tb.toArray⟩, .slice a2 m.cs.length c2, .bool m.ini, .bool m.ins, .bool m.del, .bool m.mod, .slice a7 m.wh.length c7] #[.int .i64 r.id, .slice ra r.cells.length rc] → Calls Tryz.prog 100 #[.agg #[.string ⟨t.nm.toArray⟩, .slice ca t.cols.length cc, .slice ua t.uq.length uc, .bool t.rt], .agg #[.int .i64 r.id, .slice ra r.cells.length rc], .slice a7 m.wh.length c7] W fun e w' => e = .returned (.bool (allM t r m.wh)) ∧ Bx4 75 48 81 w w' #[.string ⟨t.nm.toArray⟩, .slice ca t.cols.length cc, .slice ua t.uq.length uc, .bool t.rt] #[.string ⟨m.nm.toArray⟩, .string ⟨m.tb.toArray⟩, .slice a2 m.cs.length c2, .bool m.ini, .bool m.ins, .bool m.del, .bool m.mod, .slice a7 m.wh.length c7] #[.int .i64 r.id, .slice ra r.cells.length rc]) := fun h0 W h => (allS t ca cc ua uc A r ra rc R m.wh a7 c7 B W hto hw hr hid (hq h0).1 (hT.later h.f.bel) (hR.later h.f.bel) (rh.later h.f.bel)).mono (fun e w' ⟨he, hB⟩ => ⟨he, h.later hB⟩)
 have PK : Hid (r.id ≠ 0 → ∀ W, Bx4 75 48 81 w W #[.string ⟨t.nm.toArray⟩, .slice ca t.cols.length cc, .slice ua t.uq.length uc, .bool t.rt] #[.string ⟨m.nm.toArray⟩, .string ⟨m.tb.toArray⟩, .slice a2 m.cs.length c2, .bool m.ini, .bool m.ins, .bool m.del, .bool m.mod, .slice a7 m.wh.length c7] #[.int .i64 r.id, .slice ra r.cells.length rc] → Calls Tryz.prog 101 #[.agg #[.string ⟨t.nm.toArray⟩, .slice ca t.cols.length cc, .slice ua t.uq.length uc, .bool t.rt], .agg #[.int .i64 r.id, .slice ra r.cells.length rc], .slice a2 m.cs.length c2] W fun e w' => ∃ pa pc, e = .returned (.agg #[.int .i64 r.id, .slice pa (m.cs.map (cellOf t r)).length pc]) ∧ Rd w' (fun b => W.heap.size ≤ b ∧ b < w'.heap.size) (dAtomSS (m.cs.map (cellOf t r))) (.slice pa (m.cs.map (cellOf t r)).length pc) ∧ Below W.heap.size W w') := fun h0 W h => pickS t ca cc ua uc A r ra rc R m.cs a2 c2 B W hto hn4 (hq h0).2.1 (hq h0).2.2 (hT.later h.f.bel) (hR.later h.f.bel) (rcs.later h.f.bel)
 clear hto hn4 hw hr hid hq hT rcs rh hR
 have x0 := cell_at (o := 0) HB0.out.f.a rfl
 have x1 := cell_at (o := 1) HB0.out.f.a rfl
 have x2 := cell_at (o := 2) HB0.out.f.a rfl
 have x3 := cell_at (o := 3) HB0.out.f.a rfl
 have y0 := cell_at (o := 0) HB0.out.f.b rfl
 have y1 := cell_at (o := 1) HB0.out.f.b rfl
 have y2 := cell_at (o := 2) HB0.out.f.b rfl
 have y3 := cell_at (o := 3) HB0.out.f.b rfl
 have y4 := cell_at (o := 4) HB0.out.f.b rfl
 have y5 := cell_at (o := 5) HB0.out.f.b rfl
 have y6 := cell_at (o := 6) HB0.out.f.b rfl
 have y7 := cell_at (o := 7) HB0.out.f.b rfl
 have z0 := cell_at (o := 0) HB0.out.f.c rfl
 have z1 := cell_at (o := 1) HB0.out.f.c rfl
 by_cases h0 : r.id = 0
 case pos =>
  have HE := Lib.hid (seen_0 (t := t) (m := m) h0)
  have e0 : (r.id == 0) = true := by simpa using h0
  clear h0 AL PK
  have hb2 := HB0.out.later (below_allocD ((((w.alloc (.cells #[.string ⟨t.nm.toArray⟩, .slice ca t.cols.length cc, .slice ua t.uq.length uc, .bool t.rt] 75)).alloc (.cells #[.string ⟨m.nm.toArray⟩, .string ⟨m.tb.toArray⟩, .slice a2 m.cs.length c2, .bool m.ini, .bool m.ins, .bool m.del, .bool m.mod, .slice a7 m.wh.length c7] 48)).alloc (.cells #[.int .i64 r.id, .slice ra r.cells.length rc] 81)).alloc (.cells #[.int .i64 0, .slice none 0 0] 81)) (.cells #[] 117))
  have d0 := cell_at (o := 0) hb2.d rfl
  have f0 := frozen_at 0 hb2.d
  have d1 := cell_at (o := 1) hb2.d rfl
  have f1 := frozen_at 1 hb2.d
  clear hb2
  go_enter Tryz.func62, Tryz.ntmps62
  go_wp2_with fail
  refine bodyPost_ret (v := .agg #[.int .i64 0, .slice (some ⟨w.heap.size + 1 + 1 + 1 + 1, 0, none⟩) 0 0]) (by simp [results, Tryz.results62, go_sem, *]) rfl ?_
  rw [HE.out]
  exact ⟨_, _, rfl, Rd.lsNil _ _, (((((Below.refl _ _).alloc (Nat.le_refl _) _).alloc (by simp) _).alloc (by simp <;> omega) _).alloc (by simp <;> omega) _).alloc (by simp <;> omega) _⟩
 have e0 : (r.id == 0) = false := by simpa using h0
 replace AL := Lib.hid (AL.out h0)
 replace PK := Lib.hid (PK.out h0)
 cases ha : allM t r m.wh
 case false =>
  have HE := Lib.hid (seen_no (m := m) ha)
  rw [ha] at AL
  clear h0 ha PK
  go_enter Tryz.func62, Tryz.ntmps62
  go_wp2_with fail
  refine (AL.out _ HB0.out).mono ?_
  rintro e w1 ⟨rfl, hb⟩
  have HB1 := Lib.hid hb
  clear hb x0 x1 x2 x3 y0 y1 y2 y3 y4 y5 y6 y7 z0 z1
  have x0 := cell_at (o := 0) HB1.out.f.a rfl
  have x1 := cell_at (o := 1) HB1.out.f.a rfl
  have x2 := cell_at (o := 2) HB1.out.f.a rfl
  have x3 := cell_at (o := 3) HB1.out.f.a rfl
  have y0 := cell_at (o := 0) HB1.out.f.b rfl
  have y1 := cell_at (o := 1) HB1.out.f.b rfl
  have y2 := cell_at (o := 2) HB1.out.f.b rfl
  have y3 := cell_at (o := 3) HB1.out.f.b rfl
  have y4 := cell_at (o := 4) HB1.out.f.b rfl
  have y5 := cell_at (o := 5) HB1.out.f.b rfl
  have y6 := cell_at (o := 6) HB1.out.f.b rfl
  have y7 := cell_at (o := 7) HB1.out.f.b rfl
  have z0 := cell_at (o := 0) HB1.out.f.c rfl
  have z1 := cell_at (o := 1) HB1.out.f.c rfl
  have hb2 := HB1.out.later (below_allocD w1 (.cells #[] 117))
  have d0 := cell_at (o := 0) hb2.d rfl
  have f0 := frozen_at 0 hb2.d
  have d1 := cell_at (o := 1) hb2.d rfl
  have f1 := frozen_at 1 hb2.d
  clear hb2
  go_wp2_with fail
  refine bodyPost_ret (v := .agg #[.int .i64 0, .slice (some ⟨w1.heap.size, 0, none⟩) 0 0]) (by simp [results, Tryz.results62, go_sem, *]) rfl ?_
  rw [HE.out]
  exact ⟨_, _, rfl, Rd.lsNil _ _, ((HB1.out.f.bel.alloc HB1.out.f.bel.size _).setCell (by simp <;> omega) _).setCell (by simp <;> omega) _⟩
 have HE := Lib.hid (seen_yes h0 ha)
 rw [ha] at AL
 clear h0 ha
 generalize m.cs.map (cellOf t r) = ys at *
 go_enter Tryz.func62, Tryz.ntmps62
 go_wp2_with fail
 refine (AL.out _ HB0.out).mono ?_
 rintro e w1 ⟨rfl, hb⟩
 have HB1 := Lib.hid hb
 clear hb x0 x1 x2 x3 y0 y1 y2 y3 y4 y5 y6 y7 z0 z1
 have x0 := cell_at (o := 0) HB1.out.f.a rfl
 have x1 := cell_at (o := 1) HB1.out.f.a rfl
 have x2 := cell_at (o := 2) HB1.out.f.a rfl
 have x3 := cell_at (o := 3) HB1.out.f.a rfl
 have y0 := cell_at (o := 0) HB1.out.f.b rfl
 have y1 := cell_at (o := 1) HB1.out.f.b rfl
 have y2 := cell_at (o := 2) HB1.out.f.b rfl
 have y3 := cell_at (o := 3) HB1.out.f.b rfl
 have y4 := cell_at (o := 4) HB1.out.f.b rfl
 have y5 := cell_at (o := 5) HB1.out.f.b rfl
 have y6 := cell_at (o := 6) HB1.out.f.b rfl
 have y7 := cell_at (o := 7) HB1.out.f.b rfl
 have z0 := cell_at (o := 0) HB1.out.f.c rfl
 have z1 := cell_at (o := 1) HB1.out.f.c rfl
 go_wp2_with fail
 refine (PK.out _ HB1.out).mono ?_
 rintro e w2 ⟨pa, pc, rfl, hrd, hB⟩
 have hb := HB1.out.later hB
 have HB2 := Lib.hid hb
 have HRD : Hid (Rd w2 (fun d => w.heap.size + 1 + 1 + 1 < d ∧ d < w2.heap.size) (dAtomSS ys) (.slice pa ys.length pc)) := hrd.mono (fun d hd => ⟨by have h1 := hd.1; have h2 := (Array.getElem?_eq_some_iff.1 HB1.out.d).1; omega, hd.2⟩)
 clear hrd hB x0 x1 x2 x3 y0 y1 y2 y3 y4 y5 y6 y7 z0 z1
 have d0 := cell_at (o := 0) hb.d rfl
 have f0 := frozen_at 0 hb.d
 have d1 := cell_at (o := 1) hb.d rfl
 have f1 := frozen_at 1 hb.d
 clear hb
 go_wp2_with fail
 refine bodyPost_ret (v := .agg #[.int .i64 r.id, .slice pa ys.length pc]) (by simp [results, Tryz.results62, go_sem, *]) rfl ?_
 rw [HE.out]
 refine ⟨pa, pc, rfl, ?_, (HB2.out.f.bel.setCell (by simp <;> omega) _).setCell (by simp <;> omega) _⟩
 exact (HRD.out.frm (F := (· = w.heap.size + 1 + 1 + 1)) ((frm_setR _ _ _ _).trans (frm_setR _ _ _ _)) (fun d hd e => by have h1 := hd.1; have e2 : d = w.heap.size + 1 + 1 + 1 := e; omega)).mono (fun d hd => ⟨by have := hd.1; omega, by simpa using hd.2⟩)
theorem SG.convI {w : World} {base : Nat} {G G' : Nat → Prop} {T : TypeId} {n : Nat} {f f' : Nat → Nat → D} {k : Nat} {v : Value} (h : SG w base G T n f k v) (hf : ∀ i j, i < k → f' i j = f i j) (hG : ∀ c, c < w.heap.size → G c → G' c) : SG w base G' T n f' k v := by
 obtain ⟨xs, h1, h2⟩ := h
 refine ⟨xs, h1, fun i j hi hj => ?_⟩
 obtain ⟨u, hu, hr⟩ := h2 i j hi hj
 exact ⟨u, hu, by rw [hf i j hi]; exact hr.mono (fun c hc => ⟨hc.1, hG c hc.1.2 hc.2⟩)⟩
end Go.Proofs.YtlddhbamcndggaaGreatDoor
