import Derived.Test.YtlddhbamcndggaaGreatDoorZbl
import Derived.Test.YtlddhbamcndggaaGreatDoorZbo
import Derived.Test.YtlddhbamcndggaaGreatDoorZbq
import Derived.Test.YtlddhbamcndggaaGreatDoorZbr
import Derived.Test.YtlddhbamcndggaaGreatDoorZTk
namespace Go.Proofs.YtlddhbamcndggaaGreatDoor
open Go.RowKit
set_option linter.unusedSimpArgs false
def SnOwn (w : World) (R : List RowV × Int) (e : Ending) (w' : World) : Prop := ∃ a c, e = .returned (.tuple #[.slice a R.1.length c, .int .i64 R.2]) ∧ Own w' (dRowS R.1) (fun d => w.heap.size ≤ d ∧ d < w'.heap.size) (.slice a R.1.length c) ∧ Below w.heap.size w w'
theorem SnOwn.nil {w w' : World} {R : List RowV × Int} {n : Int} (hR : R = ([], n)) (hB : Below w.heap.size w w') : SnOwn w R (.returned (.tuple #[.slice none 0 0, .int .i64 n])) w' := by
 subst hR; exact ⟨none, 0, rfl, ⟨none, 0, rfl, .inl rfl⟩, hB⟩
structure SnI (w W : World) (sv xv : Value) (xn : Int) (mc wc : Array Value) (qb : Nat) (es : List Rg1) (v : Value) : Prop where
 f : BoxF 40 44 48 w W #[sv] #[xv, .int .i64 xn] mc
 hq : w.heap.size + 1 + 1 < qb
 wb : W.heap[qb]? = some (.cells wc 77)
 gr : RG (qb + 1) W es v
theorem SnI.later {w W W' : World} {sv xv : Value} {xn : Int} {mc wc : Array Value} {qb : Nat} {es : List Rg1} {v : Value} (h : SnI w W sv xv xn mc wc qb es v) (hB : Below W.heap.size W W') : SnI w W' sv xv xn mc wc qb es v := ⟨h.f.later hB, h.hq, heap_keptD h.wb hB, h.gr.later hB⟩
theorem SnI.push {w W W' : World} {sv xv : Value} {xn : Int} {mc wc : Array Value} {qb : Nat} {es es' : List Rg1} {v v' : Value} (h : SnI w W sv xv xn mc wc qb es v) (hB : Below (qb + 1) W W') (hr : RG (qb + 1) W' es' v') : SnI w W' sv xv xn mc wc qb es' v' := by
 have hq := h.hq
 exact ⟨⟨(hB.block _ (by omega)).trans h.f.a, (hB.block _ (by omega)).trans h.f.b, (hB.block _ (by omega)).trans h.f.c, h.f.bel.trans (hB.mono (by omega))⟩, hq, (hB.block _ (by omega)).trans h.wb, hr⟩
theorem MonOK.pick {l : List Tb} {x : StV} {m : MoV} {k : Nat} (h : MonOK l x m k) (hs : SchP l) : pkN (l[k]'h.hk) m.cs = 0 ∧ ∀ i (hi : i < (x.tables[k]'h.hx).length), rokM (l[k]'h.hk) (x.tables[k]'h.hx)[i] = true := by
 refine ⟨pkN_yes (fun j hj => ?_), fun i hi => ?_⟩
 ·
  have := h.co j hj
  unfold askT
  rw [decide_eq_false (by omega)]; rfl
 ·
  unfold rokM
  rw [hs.tab k h.hk, (h.rw.2.2 i hi).2]; rfl
theorem row_id {t : Tb} {r : RowV} (h : rowB t r.id r.cells = true) : 0 < r.id := by
 have h1 := (row_of h).id
 unfold inB at h1
 simp only [Bool.and_eq_true, decide_eq_true_eq] at h1
 omega
set_option maxRecDepth 100000 in
set_option maxHeartbeats 25600000 in
theorem snapshotI (l : List Tb) (sa : Option Addr) (sc : Nat) (A : Nat → Prop) (x : StV) (xa : Option Addr) (xc : Nat) (X : Nat → Prop) (m : MoV) (a2 : Option Addr) (c2 : Nat) (a7 : Option Addr) (c7 : Nat) (B : Nat → Prop) (w : World) (hlo : (dTableS l).le maxLen) (ho : (dRowSS x.tables).le 1048576) (hn : m.nm.length ≤ maxLen) (ht : m.tb.length ≤ maxLen) (hc : (dStringS m.cs).le 1048576) (hw : (dCondS m.wh).le 1048576) (hTab : TabW w) (h0w : 0 < w.heap.size) (hT : Rd w A (dTableS l) (.slice sa l.length sc)) (hR : Rd w X (dRowSS x.tables) (.slice xa x.tables.length xc)) (rc : Rd w B (dStringS m.cs) (.slice a2 m.cs.length c2)) (rh : Rd w B (dCondS m.wh) (.slice a7 m.wh.length c7)) :
  Calls Tryz.prog 11 #[.agg #[.slice sa l.length sc], .agg #[.slice xa x.tables.length xc, .int .i64 x.next], .agg #[.string ⟨m.nm.toArray⟩, .string ⟨m.tb.toArray⟩, .slice a2 m.cs.length c2, .bool m.ini, .bool m.ins, .bool m.del, .bool m.mod, .slice a7 m.wh.length c7]] w (SnOwn w (snR l x m)) := by
 have hwm : (dCondS m.wh).le maxLen := D.le.mono (by unfold maxLen; omega) _ hw
 have hcm : (dStringS m.cs).le maxLen := D.le.mono (by unfold maxLen; omega) _ hc
 have hom : (dRowSS x.tables).le maxLen := D.le.mono (by unfold maxLen; omega) _ ho
 have K0 : Hid (∀ W, BoxF 40 44 48 w W #[.slice sa l.length sc] #[.slice xa x.tables.length xc, .int .i64 x.next] #[.string ⟨m.nm.toArray⟩, .string ⟨m.tb.toArray⟩, .slice a2 m.cs.length c2, .bool m.ini, .bool m.ins, .bool m.del, .bool m.mod, .slice a7 m.wh.length c7] → Calls Tryz.prog 34 #[.agg #[.slice sa l.length sc], .agg #[.slice xa x.tables.length xc, .int .i64 x.next]] W fun e w' => e = .returned (.bool (schB l && formB l x)) ∧ BoxF 40 44 48 w w' #[.slice sa l.length sc] #[.slice xa x.tables.length xc, .int .i64 x.next] #[.string ⟨m.nm.toArray⟩, .string ⟨m.tb.toArray⟩, .slice a2 m.cs.length c2, .bool m.ini, .bool m.ins, .bool m.del, .bool m.mod, .slice a7 m.wh.length c7]) := fun W h => (storeFitsI l sa sc A x xa xc X W hlo hom (hT.later h.bel) (hR.later h.bel)).mono (fun e w' ⟨he, hB⟩ => ⟨he, h.later hB⟩)
 have K1 : Hid (∀ W, BoxF 40 44 48 w W #[.slice sa l.length sc] #[.slice xa x.tables.length xc, .int .i64 x.next] #[.string ⟨m.nm.toArray⟩, .string ⟨m.tb.toArray⟩, .slice a2 m.cs.length c2, .bool m.ini, .bool m.ins, .bool m.del, .bool m.mod, .slice a7 m.wh.length c7] → Calls Tryz.prog 35 #[.agg #[.string ⟨m.nm.toArray⟩, .string ⟨m.tb.toArray⟩, .slice a2 m.cs.length c2, .bool m.ini, .bool m.ins, .bool m.del, .bool m.mod, .slice a7 m.wh.length c7]] W fun e w' => e = .returned (.bool (moB m)) ∧ BoxF 40 44 48 w w' #[.slice sa l.length sc] #[.slice xa x.tables.length xc, .int .i64 x.next] #[.string ⟨m.nm.toArray⟩, .string ⟨m.tb.toArray⟩, .slice a2 m.cs.length c2, .bool m.ini, .bool m.ins, .bool m.del, .bool m.mod, .slice a7 m.wh.length c7]) := fun W h => (monOKi m a2 c2 a7 c7 B W hn ht hcm hwm (rc.later h.bel) (rh.later h.bel)).mono (fun e w' ⟨he, hB⟩ => ⟨he, h.later hB⟩)
 have K2 : Hid (∀ W, BoxF 40 44 48 w W #[.slice sa l.length sc] #[.slice xa x.tables.length xc, .int .i64 x.next] #[.string ⟨m.nm.toArray⟩, .string ⟨m.tb.toArray⟩, .slice a2 m.cs.length c2, .bool m.ini, .bool m.ins, .bool m.del, .bool m.mod, .slice a7 m.wh.length c7] → Calls Tryz.prog 36 #[.agg #[.slice sa l.length sc], .agg #[.string ⟨m.nm.toArray⟩, .string ⟨m.tb.toArray⟩, .slice a2 m.cs.length c2, .bool m.ini, .bool m.ins, .bool m.del, .bool m.mod, .slice a7 m.wh.length c7]] W fun e w' => e = .returned (.int .i64 (moC l m)) ∧ BoxF 40 44 48 w w' #[.slice sa l.length sc] #[.slice xa x.tables.length xc, .int .i64 x.next] #[.string ⟨m.nm.toArray⟩, .string ⟨m.tb.toArray⟩, .slice a2 m.cs.length c2, .bool m.ini, .bool m.ins, .bool m.del, .bool m.mod, .slice a7 m.wh.length c7]) := fun W h => (mcodeI l sa sc A m a2 c2 a7 c7 B W hlo hcm hwm (hT.later h.bel) (rc.later h.bel) (rh.later h.bel)).mono (fun e w' ⟨he, hB⟩ => ⟨he, h.later hB⟩)
 have HB0 := Lib.hid (boxF 40 44 48 w #[.slice sa l.length sc] #[.slice xa x.tables.length xc, .int .i64 x.next] #[.string ⟨m.nm.toArray⟩, .string ⟨m.tb.toArray⟩, .slice a2 m.cs.length c2, .bool m.ini, .bool m.ins, .bool m.del, .bool m.mod, .slice a7 m.wh.length c7])
 have x0 := cell_at (o := 0) HB0.out.a rfl
 have y0 := cell_at (o := 0) HB0.out.b rfl
 have y1 := cell_at (o := 1) HB0.out.b rfl
 have z0 := cell_at (o := 0) HB0.out.c rfl
 have z1 := cell_at (o := 1) HB0.out.c rfl
 have z2 := cell_at (o := 2) HB0.out.c rfl
 have z3 := cell_at (o := 3) HB0.out.c rfl
 have z4 := cell_at (o := 4) HB0.out.c rfl
 have z5 := cell_at (o := 5) HB0.out.c rfl
 have z6 := cell_at (o := 6) HB0.out.c rfl
 have z7 := cell_at (o := 7) HB0.out.c rfl
 cases h0 : (schB l && formB l x)
 case false =>
  have HE : Hid (snR l x m = ([], 1)) := snR_bad (by rw [h0]; rfl)
  rw [h0] at K0
  clear h0 K1 K2 hlo ho hn ht hc hw hwm hcm hom hTab h0w hT hR rc rh
  go_enter Tryz.func11, Tryz.ntmps11
  go_wp2_with fail
  refine (K0.out _ (by first | exact HB0.out | exact HB0.out.drew)).mono ?_
  rintro e w1 ⟨rfl, hb⟩
  have HB1 := Lib.hid hb
  clear hb x0 y0 y1 z0 z1 z2 z3 z4 z5 z6 z7
  have x0 := cell_at (o := 0) HB1.out.a rfl
  have y0 := cell_at (o := 0) HB1.out.b rfl
  have y1 := cell_at (o := 1) HB1.out.b rfl
  have z0 := cell_at (o := 0) HB1.out.c rfl
  have z1 := cell_at (o := 1) HB1.out.c rfl
  have z2 := cell_at (o := 2) HB1.out.c rfl
  have z3 := cell_at (o := 3) HB1.out.c rfl
  have z4 := cell_at (o := 4) HB1.out.c rfl
  have z5 := cell_at (o := 5) HB1.out.c rfl
  have z6 := cell_at (o := 6) HB1.out.c rfl
  have z7 := cell_at (o := 7) HB1.out.c rfl
  go_wp2_with fail
  exact bodyPost_ret (v := .tuple #[.slice none 0 0, .int .i64 1]) (by simp [results, Tryz.results11, go_sem, *]) rfl (SnOwn.nil HE.out HB1.out.bel)
 rw [h0] at K0
 cases h1 : moB m
 case false =>
  have HE : Hid (snR l x m = ([], 1)) := snR_bad (by rw [h0, h1]; rfl)
  rw [h1] at K1
  clear h0 h1 K2 hlo ho hn ht hc hw hwm hcm hom hTab h0w hT hR rc rh
  go_enter Tryz.func11, Tryz.ntmps11
  go_wp2_with fail
  refine (K0.out _ (by first | exact HB0.out | exact HB0.out.drew)).mono ?_
  rintro e w1 ⟨rfl, hb⟩
  have HB1 := Lib.hid hb
  clear hb x0 y0 y1 z0 z1 z2 z3 z4 z5 z6 z7
  have x0 := cell_at (o := 0) HB1.out.a rfl
  have y0 := cell_at (o := 0) HB1.out.b rfl
  have y1 := cell_at (o := 1) HB1.out.b rfl
  have z0 := cell_at (o := 0) HB1.out.c rfl
  have z1 := cell_at (o := 1) HB1.out.c rfl
  have z2 := cell_at (o := 2) HB1.out.c rfl
  have z3 := cell_at (o := 3) HB1.out.c rfl
  have z4 := cell_at (o := 4) HB1.out.c rfl
  have z5 := cell_at (o := 5) HB1.out.c rfl
  have z6 := cell_at (o := 6) HB1.out.c rfl
  have z7 := cell_at (o := 7) HB1.out.c rfl
  go_wp2_with fail
  refine (K1.out _ (by first | exact HB1.out | exact HB1.out.drew)).mono ?_
  rintro e w2 ⟨rfl, hb⟩
  have HB2 := Lib.hid hb
  clear hb x0 y0 y1 z0 z1 z2 z3 z4 z5 z6 z7
  have x0 := cell_at (o := 0) HB2.out.a rfl
  have y0 := cell_at (o := 0) HB2.out.b rfl
  have y1 := cell_at (o := 1) HB2.out.b rfl
  have z0 := cell_at (o := 0) HB2.out.c rfl
  have z1 := cell_at (o := 1) HB2.out.c rfl
  have z2 := cell_at (o := 2) HB2.out.c rfl
  have z3 := cell_at (o := 3) HB2.out.c rfl
  have z4 := cell_at (o := 4) HB2.out.c rfl
  have z5 := cell_at (o := 5) HB2.out.c rfl
  have z6 := cell_at (o := 6) HB2.out.c rfl
  have z7 := cell_at (o := 7) HB2.out.c rfl
  go_wp2_with fail
  exact bodyPost_ret (v := .tuple #[.slice none 0 0, .int .i64 1]) (by simp [results, Tryz.results11, go_sem, *]) rfl (SnOwn.nil HE.out HB2.out.bel)
 rw [h1] at K1
 have HSF : Hid (((schB l && formB l x) && moB m) = true) := by show (_ && _) = true; rw [h0, h1]; rfl
 by_cases hc0 : moC l m = 0
 case neg =>
  have HE := Lib.hid (snR_code HSF.out hc0)
  have ne0 : (moC l m != 0) = true := by simpa using hc0
  clear hc0 h0 h1 hlo ho hn ht hc hw hwm hcm hom hTab h0w hT hR rc rh
  generalize moC l m = mc at *
  go_enter Tryz.func11, Tryz.ntmps11
  go_wp2_with fail
  refine (K0.out _ (by first | exact HB0.out | exact HB0.out.drew)).mono ?_
  rintro e w1 ⟨rfl, hb⟩
  have HB1 := Lib.hid hb
  clear hb x0 y0 y1 z0 z1 z2 z3 z4 z5 z6 z7
  have x0 := cell_at (o := 0) HB1.out.a rfl
  have y0 := cell_at (o := 0) HB1.out.b rfl
  have y1 := cell_at (o := 1) HB1.out.b rfl
  have z0 := cell_at (o := 0) HB1.out.c rfl
  have z1 := cell_at (o := 1) HB1.out.c rfl
  have z2 := cell_at (o := 2) HB1.out.c rfl
  have z3 := cell_at (o := 3) HB1.out.c rfl
  have z4 := cell_at (o := 4) HB1.out.c rfl
  have z5 := cell_at (o := 5) HB1.out.c rfl
  have z6 := cell_at (o := 6) HB1.out.c rfl
  have z7 := cell_at (o := 7) HB1.out.c rfl
  go_wp2_with fail
  refine (K1.out _ (by first | exact HB1.out | exact HB1.out.drew)).mono ?_
  rintro e w2 ⟨rfl, hb⟩
  have HB2 := Lib.hid hb
  clear hb x0 y0 y1 z0 z1 z2 z3 z4 z5 z6 z7
  have x0 := cell_at (o := 0) HB2.out.a rfl
  have y0 := cell_at (o := 0) HB2.out.b rfl
  have y1 := cell_at (o := 1) HB2.out.b rfl
  have z0 := cell_at (o := 0) HB2.out.c rfl
  have z1 := cell_at (o := 1) HB2.out.c rfl
  have z2 := cell_at (o := 2) HB2.out.c rfl
  have z3 := cell_at (o := 3) HB2.out.c rfl
  have z4 := cell_at (o := 4) HB2.out.c rfl
  have z5 := cell_at (o := 5) HB2.out.c rfl
  have z6 := cell_at (o := 6) HB2.out.c rfl
  have z7 := cell_at (o := 7) HB2.out.c rfl
  go_wp2_with fail
  refine (K2.out _ (by first | exact HB2.out | exact HB2.out.drew)).mono ?_
  rintro e w3 ⟨rfl, hb⟩
  have HB3 := Lib.hid hb
  clear hb x0 y0 y1 z0 z1 z2 z3 z4 z5 z6 z7
  have x0 := cell_at (o := 0) HB3.out.a rfl
  have y0 := cell_at (o := 0) HB3.out.b rfl
  have y1 := cell_at (o := 1) HB3.out.b rfl
  have z0 := cell_at (o := 0) HB3.out.c rfl
  have z1 := cell_at (o := 1) HB3.out.c rfl
  have z2 := cell_at (o := 2) HB3.out.c rfl
  have z3 := cell_at (o := 3) HB3.out.c rfl
  have z4 := cell_at (o := 4) HB3.out.c rfl
  have z5 := cell_at (o := 5) HB3.out.c rfl
  have z6 := cell_at (o := 6) HB3.out.c rfl
  have z7 := cell_at (o := 7) HB3.out.c rfl
  go_wp2_with fail
  exact bodyPost_ret (v := .tuple #[.slice none 0 0, .int .i64 mc]) (by simp [results, Tryz.results11, go_sem, *]) rfl (SnOwn.nil HE.out HB3.out.bel)
 obtain ⟨k, hM⟩ := mon_ok HSF.out hc0
 have hk := hM.hk
 have hkx := hM.hx
 have HE : Hid (snR l x m = (snapV l[k] m x.tables[k], 0)) := by show _ = _; rw [snR_ok HSF.out hc0, snT_at hM.tp hk hkx]
 have hs : SchP l := by rw [Bool.and_eq_true] at h0; exact sch_ofN h0.1
 have hxk : (dRowS x.tables[k]).le 1048576 := (Ls_le.1 ho).2.2 k hkx 0 (by omega)
 have HPK : Hid (pkN l[k] m.cs = 0 ∧ ∀ i (hi : i < x.tables[k].length), rokM l[k] x.tables[k][i] = true) := hM.pick hs
 have HAS : Hid (∀ i (hi : i < x.tables[k].length), (∀ j (h : j < m.wh.length), Asks l[k] x.tables[k][i] m.wh[j]) ∧ x.tables[k][i].cells.length = l[k].cols.length ∧ ∀ s, (cellOf l[k] x.tables[k][i] s).length ≤ 1048576) := hM.asks hxk
 have HRI : Hid (∀ i (hi : i < x.tables[k].length), 0 < x.tables[k][i].id) := fun i hi => row_id (hM.rw.2.2 i hi).2
 have HXK := Lib.hid hxk
 have hrl : x.tables[k].length ≤ 1048576 := (Ls_le.1 hxk).2.1
 have HTO : Hid (l[k].ok) := le_table ((Ls_le.1 hlo).2.2 k hk 0 (by omega)) ((Ls_le.1 hlo).2.2 k hk 1 (by omega)) ((Ls_le.1 hlo).2.2 k hk 2 (by omega))
 have HM : Hid (m.cs.length ≤ 4096 ∧ (dStringS m.cs).le 1048576 ∧ (dCondS m.wh).le maxLen ∧ ∀ W, Below w.heap.size w W → TabW W ∧ 0 < W.heap.size ∧ Rd W B (dStringS m.cs) (.slice a2 m.cs.length c2) ∧ Rd W B (dCondS m.wh) (.slice a7 m.wh.length c7)) := ⟨by have := hM.cs; omega, hc, hwm, fun W h => ⟨hTab.later h0w h, Nat.lt_of_lt_of_le h0w h.size, rc.later h, rh.later h⟩⟩
 have WO : Hid (∀ W, Below w.heap.size w W → Calls Tryz.prog 37 #[.agg #[.slice sa l.length sc], .agg #[.string ⟨m.nm.toArray⟩, .string ⟨m.tb.toArray⟩, .slice a2 m.cs.length c2, .bool m.ini, .bool m.ins, .bool m.del, .bool m.mod, .slice a7 m.wh.length c7]] W fun e w' => ∃ ca cc ua uc, e = .returned (.agg #[.string ⟨m.nm.toArray⟩, .string ⟨m.tb.toArray⟩, .slice a2 m.cs.length c2, .bool m.ini, .bool m.ins, .bool m.del, .bool m.mod, .slice a7 m.wh.length c7, .int .i64 k, .string ⟨l[k].nm.toArray⟩, .slice ca l[k].cols.length cc, .slice ua l[k].uq.length uc, .bool l[k].rt]) ∧ l[k].Has w' A ca ua ∧ Below W.heap.size W w') := fun W h => watchOfI l sa sc A m a2 c2 a7 c7 W k hk hM.tp hlo (hT.later h)
 obtain ⟨rq, rf, rfl, -, rc0⟩ := Rd.things (d := cRowS) (n := 1) hR k hkx
 obtain ⟨v0, s0, p0⟩ := rc0 0 (by omega)
 replace p0 : Rd w X (dRowS x.tables[k]) v0 := p0
 obtain ⟨ra, rc1, rfl⟩ := p0.lsSlice
 rw [Nat.mul_one, Nat.add_zero] at s0
 have TCE : Hid (∀ W, Below w.heap.size w W → W.cell? ⟨rq, rf + k, none⟩ = some (.slice ra x.tables[k].length rc1)) := fun W h => (h.cell (p := ⟨rq, rf + k, none⟩) (World.block_lt_of_cell? _ _ s0)).trans s0
 have HRR : Hid (∀ W, Below w.heap.size w W → Rd W X (Ls 2 dRow x.tables[k]) (.slice ra x.tables[k].length rc1)) := fun W h => Rd.later p0 h
 have ne0 : (moC l m != 0) = false := by simpa using hc0
 have hkj : (k : Int) < (x.tables.length : Int) := by omega
 clear hc0 h0 h1 hs hxk hM rc0 s0 p0 hlo ho hn ht hc hw hwm hcm hom hTab h0w hT hR rc rh
 have HKK := Lib.hid (And.intro hk hkx)
 generalize snR l x m = RR at *
 generalize moC l m = mc at *
 generalize x.tables[k] = rows at *
 generalize l[k] = t at *
 clear hk hkx
 go_enter Tryz.func11, Tryz.ntmps11
 go_wp2_with fail
 refine (K0.out _ (by first | exact HB0.out | exact HB0.out.drew)).mono ?_
 rintro e w1 ⟨rfl, hb⟩
 have HB1 := Lib.hid hb
 clear hb x0 y0 y1 z0 z1 z2 z3 z4 z5 z6 z7
 have x0 := cell_at (o := 0) HB1.out.a rfl
 have y0 := cell_at (o := 0) HB1.out.b rfl
 have y1 := cell_at (o := 1) HB1.out.b rfl
 have z0 := cell_at (o := 0) HB1.out.c rfl
 have z1 := cell_at (o := 1) HB1.out.c rfl
 have z2 := cell_at (o := 2) HB1.out.c rfl
 have z3 := cell_at (o := 3) HB1.out.c rfl
 have z4 := cell_at (o := 4) HB1.out.c rfl
 have z5 := cell_at (o := 5) HB1.out.c rfl
 have z6 := cell_at (o := 6) HB1.out.c rfl
 have z7 := cell_at (o := 7) HB1.out.c rfl
 go_wp2_with fail
 refine (K1.out _ (by first | exact HB1.out | exact HB1.out.drew)).mono ?_
 rintro e w2 ⟨rfl, hb⟩
 have HB2 := Lib.hid hb
 clear hb x0 y0 y1 z0 z1 z2 z3 z4 z5 z6 z7
 have x0 := cell_at (o := 0) HB2.out.a rfl
 have y0 := cell_at (o := 0) HB2.out.b rfl
 have y1 := cell_at (o := 1) HB2.out.b rfl
 have z0 := cell_at (o := 0) HB2.out.c rfl
 have z1 := cell_at (o := 1) HB2.out.c rfl
 have z2 := cell_at (o := 2) HB2.out.c rfl
 have z3 := cell_at (o := 3) HB2.out.c rfl
 have z4 := cell_at (o := 4) HB2.out.c rfl
 have z5 := cell_at (o := 5) HB2.out.c rfl
 have z6 := cell_at (o := 6) HB2.out.c rfl
 have z7 := cell_at (o := 7) HB2.out.c rfl
 go_wp2_with fail
 refine (K2.out _ (by first | exact HB2.out | exact HB2.out.drew)).mono ?_
 rintro e w3 ⟨rfl, hb⟩
 have HB3 := Lib.hid hb
 clear hb x0 y0 y1 z0 z1 z2 z3 z4 z5 z6 z7
 have x0 := cell_at (o := 0) HB3.out.a rfl
 have y0 := cell_at (o := 0) HB3.out.b rfl
 have y1 := cell_at (o := 1) HB3.out.b rfl
 have z0 := cell_at (o := 0) HB3.out.c rfl
 have z1 := cell_at (o := 1) HB3.out.c rfl
 have z2 := cell_at (o := 2) HB3.out.c rfl
 have z3 := cell_at (o := 3) HB3.out.c rfl
 have z4 := cell_at (o := 4) HB3.out.c rfl
 have z5 := cell_at (o := 5) HB3.out.c rfl
 have z6 := cell_at (o := 6) HB3.out.c rfl
 have z7 := cell_at (o := 7) HB3.out.c rfl
 go_wp2_with fail
 refine (WO.out _ (by first | exact HB3.out.bel | exact HB3.out.bel.drew)).mono ?_
 rintro e w4 ⟨ca, cc, ua, uc, rfl, hHas, hB⟩
 have HB4 := Lib.hid (HB3.out.later hB)
 have HH : Hid (∀ W, Below w4.heap.size w4 W → t.Has W A ca ua) := fun W h => hHas.later h
 clear hB hHas K0 K1 K2 WO x0 y0 y1 z0 z1 z2 z3 z4 z5 z6 z7
 have HS0 : Hid (SnI w (w4.alloc (.cells #[.string ⟨m.nm.toArray⟩, .string ⟨m.tb.toArray⟩, .slice a2 m.cs.length c2, .bool m.ini, .bool m.ins, .bool m.del, .bool m.mod, .slice a7 m.wh.length c7, .int .i64 k, .string ⟨t.nm.toArray⟩, .slice ca t.cols.length cc, .slice ua t.uq.length uc, .bool t.rt] 77)) (.slice sa l.length sc) (.slice (some ⟨rq, rf, none⟩) x.tables.length xc) x.next #[.string ⟨m.nm.toArray⟩, .string ⟨m.tb.toArray⟩, .slice a2 m.cs.length c2, .bool m.ini, .bool m.ins, .bool m.del, .bool m.mod, .slice a7 m.wh.length c7] #[.string ⟨m.nm.toArray⟩, .string ⟨m.tb.toArray⟩, .slice a2 m.cs.length c2, .bool m.ini, .bool m.ins, .bool m.del, .bool m.mod, .slice a7 m.wh.length c7, .int .i64 k, .string ⟨t.nm.toArray⟩, .slice ca t.cols.length cc, .slice ua t.uq.length uc, .bool t.rt] w4.heap.size [] (.slice none 0 0)) := ⟨HB4.out.later (below_allocD _ _), (Array.getElem?_eq_some_iff.1 HB4.out.c).1, heap_newD _ _, RG.nil _ _⟩
 have HSZ := Lib.hid (below_allocD w4 (.cells #[.string ⟨m.nm.toArray⟩, .string ⟨m.tb.toArray⟩, .slice a2 m.cs.length c2, .bool m.ini, .bool m.ins, .bool m.del, .bool m.mod, .slice a7 m.wh.length c7, .int .i64 k, .string ⟨t.nm.toArray⟩, .slice ca t.cols.length cc, .slice ua t.uq.length uc, .bool t.rt] 77))
 have y0 := cell_at (o := 0) HS0.out.f.b rfl
 have v8 := cell_at (o := 8) HS0.out.wb rfl
 have s0 := TCE.out _ HS0.out.f.bel
 go_wp2_with fail
 clear y0 v8 s0
 go_loopw [10, 38] (fun v i wr => ∃ k2 : Nat, k2 ≤ rows.length ∧ i = .int .i64 k2 ∧ ∃ (es : List Rg1) (va : Option Addr) (vq : Nat), v = .slice va es.length vq ∧ Hid (es.map Rg1.r = snapV t m (rows.take k2) ∧ SnI w wr (.slice sa l.length sc) (.slice (some ⟨rq, rf, none⟩) x.tables.length xc) x.next #[.string ⟨m.nm.toArray⟩, .string ⟨m.tb.toArray⟩, .slice a2 m.cs.length c2, .bool m.ini, .bool m.ins, .bool m.del, .bool m.mod, .slice a7 m.wh.length c7] #[.string ⟨m.nm.toArray⟩, .string ⟨m.tb.toArray⟩, .slice a2 m.cs.length c2, .bool m.ini, .bool m.ins, .bool m.del, .bool m.mod, .slice a7 m.wh.length c7, .int .i64 k, .string ⟨t.nm.toArray⟩, .slice ca t.cols.length cc, .slice ua t.uq.length uc, .bool t.rt] w4.heap.size es (.slice va es.length vq) ∧ Below w4.heap.size w4 wr)) (fun _ i _ => rows.length - (intOf i).toNat)
 case atStart => exact ⟨0, Nat.zero_le _, rfl, [], none, 0, rfl, by simp [snapV], HS0.out, HSZ.out⟩
 case round =>
  obtain ⟨k2, hk2, rfl, es, va, vq, rfl, HW⟩ := hrel
  by_cases hlt : k2 < rows.length
  case neg =>
   have hki2 : decide ((k2 : Int) < (rows.length : Int)) = false := by simp; omega
   have HF : Hid (es.map Rg1.r = snapV t m rows) := by have h := HW.out.1; rw [List.take_of_length_le (by omega)] at h; exact h
   go_wp2_with fail
   refine bodyPost_ret (v := .tuple #[.slice va es.length vq, .int .i64 0]) (by simp [results, Tryz.results11, go_sem, *]) rfl ?_
   rw [HE.out]
   have hL : es.length = (snapV t m rows).length := by rw [← HF.out, List.length_map]
   have hO := HW.out.2.1.gr.own
   rw [HF.out] at hO
   rw [hL] at hO ⊢
   exact ⟨va, vq, rfl, hO.mono (fun d hd => ⟨by have := hd.1; have := HW.out.2.1.hq; omega, hd.2⟩), HW.out.2.1.f.bel⟩
  have hki2 : (k2 : Int) < (rows.length : Int) := by omega
  obtain ⟨b1, o1, rfl, -, hc⟩ := (HRR.out _ HW.out.2.1.f.bel).things k2 hlt
  obtain ⟨u0, i0, j0⟩ := hc 0 (by omega)
  obtain rfl : u0 = .int .i64 rows[k2].id := j0
  rw [Nat.add_zero] at i0
  obtain ⟨u1, i1, j1⟩ := hc 1 (by omega)
  replace j1 : Rd wr X (dAtomSS rows[k2].cells) u1 := j1
  obtain ⟨ea, ec, rfl⟩ := j1.lsSlice
  have HTK := Lib.hid (snap_take (t := t) (m := m) hlt)
  have HQK := Lib.hid (And.intro (le_rowC HXK.out hlt) (And.intro (HAS.out k2 hlt) (And.intro (HPK.out.2 k2 hlt) (HRI.out k2 hlt))))
  have HPL : Hid (es.length ≤ 8000000) := by
   have h1 := snap_len t m (rows.take k2)
   have h2 : (rows.take k2).length ≤ rows.length := List.length_take_le' _ _
   rw [← HW.out.1, List.length_map] at h1
   show es.length ≤ 8000000
   omega
  have HRC : Hid (∀ W, Below wr.heap.size wr W → W.cell? ⟨b1, o1 + k2 * 2, none⟩ = some (.int .i64 rows[k2].id) ∧ W.cell? ⟨b1, o1 + k2 * 2 + 1, none⟩ = some (.slice ea rows[k2].cells.length ec) ∧ Rd W X (dAtomSS rows[k2].cells) (.slice ea rows[k2].cells.length ec)) := fun W h => ⟨(h.cell (p := ⟨b1, o1 + k2 * 2, none⟩) (World.block_lt_of_cell? _ _ i0)).trans i0, (h.cell (p := ⟨b1, o1 + k2 * 2 + 1, none⟩) (World.block_lt_of_cell? _ _ i1)).trans i1, j1.later h⟩
  have hx2 := HW.out.2.1
  clear hc i0 i1 j1
  generalize rows[k2] = y at *
  have SN : Hid (∀ W, Below wr.heap.size wr W → Calls Tryz.prog 38 #[.agg #[.string ⟨m.nm.toArray⟩, .string ⟨m.tb.toArray⟩, .slice a2 m.cs.length c2, .bool m.ini, .bool m.ins, .bool m.del, .bool m.mod, .slice a7 m.wh.length c7, .int .i64 k, .string ⟨t.nm.toArray⟩, .slice ca t.cols.length cc, .slice ua t.uq.length uc, .bool t.rt], .pointer (some ⟨b1, o1 + k2 * 2, none⟩)] W (RowOwn W (seenR t m y))) := fun W h => by
   have hw0 := HW.out.2.1.f.bel.trans (h.mono HW.out.2.1.f.bel.size)
   exact seenI t ca cc ua uc A m a2 c2 a7 c7 B k y b1 (o1 + k2 * 2) ea ec X W HTO.out HM.out.1 HM.out.2.1 HM.out.2.2.1 HQK.out.1.2 HQK.out.1.1 (fun e => by have := HQK.out.2.2.2; omega) (fun _ => ⟨HQK.out.2.1.1, HQK.out.2.2.1, HPK.out.1⟩) (HM.out.2.2.2 W hw0).1 (HM.out.2.2.2 W hw0).2.1 (HH.out W (HW.out.2.2.trans (h.mono HW.out.2.2.size))) (HM.out.2.2.2 W hw0).2.2.1 (HM.out.2.2.2 W hw0).2.2.2 ((HRC.out W h).2.2) (HRC.out W h).1 (HRC.out W h).2.1
  have HZ0 : Hid ((seenR t m y).id = 0 → (seenR t m y).cells.length = 0) := fun h => by
   unfold seenR at h ⊢
   split at h <;> split <;> first | rfl | contradiction | skip
   all_goals (split at h <;> split <;> first | rfl | contradiction | skip)
   all_goals (have := HQK.out.2.2.2; simp at h; omega)
  have HCN : Hid (¬ 0 < (seenR t m y).id → es.map Rg1.r = snapV t m (rows.take (k2 + 1))) := fun h => by rw [HTK.out, seeL_no h, List.append_nil]; exact HW.out.1
  have HCY : Hid (0 < (seenR t m y).id → es.map Rg1.r ++ [seenR t m y] = snapV t m (rows.take (k2 + 1))) := fun h => by rw [HTK.out, seeL_yes h, ← HW.out.1]
  have HNN : Hid (0 ≤ (seenR t m y).id) := by
   show 0 ≤ (seenR t m y).id
   unfold seenR; have h3 := HQK.out.2.2.2
   split
   ·
    exact Int.le_refl 0
   ·
    split
    ·
     show 0 ≤ y.id; omega
    ·
     exact Int.le_refl 0
  clear HQK hx2
  generalize seenR t m y = o at *
  have CE : Hid (∀ W, Below wr.heap.size wr W → W.cell? ⟨w4.heap.size, 0, none⟩ = some (.string ⟨m.nm.toArray⟩) ∧ W.cell? ⟨w4.heap.size, 1, none⟩ = some (.string ⟨m.tb.toArray⟩) ∧ W.cell? ⟨w4.heap.size, 2, none⟩ = some (.slice a2 m.cs.length c2) ∧ W.cell? ⟨w4.heap.size, 3, none⟩ = some (.bool m.ini) ∧ W.cell? ⟨w4.heap.size, 4, none⟩ = some (.bool m.ins) ∧ W.cell? ⟨w4.heap.size, 5, none⟩ = some (.bool m.del) ∧ W.cell? ⟨w4.heap.size, 6, none⟩ = some (.bool m.mod) ∧ W.cell? ⟨w4.heap.size, 7, none⟩ = some (.slice a7 m.wh.length c7) ∧ W.cell? ⟨w4.heap.size, 8, none⟩ = some (.int .i64 k) ∧ W.cell? ⟨w4.heap.size, 9, none⟩ = some (.string ⟨t.nm.toArray⟩) ∧ W.cell? ⟨w4.heap.size, 10, none⟩ = some (.slice ca t.cols.length cc) ∧ W.cell? ⟨w4.heap.size, 11, none⟩ = some (.slice ua t.uq.length uc) ∧ W.cell? ⟨w4.heap.size, 12, none⟩ = some (.bool t.rt) ∧ W.cell? ⟨w.heap.size + 1, 0, none⟩ = some (.slice (some ⟨rq, rf, none⟩) x.tables.length xc) ∧ W.cell? ⟨rq, rf + k, none⟩ = some (.slice (some ⟨b1, o1, none⟩) rows.length rc1)) := fun W h => by
   have hd := HW.out.2.1.later h
   exact ⟨cell_at (o := 0) hd.wb rfl, cell_at (o := 1) hd.wb rfl, cell_at (o := 2) hd.wb rfl, cell_at (o := 3) hd.wb rfl, cell_at (o := 4) hd.wb rfl, cell_at (o := 5) hd.wb rfl, cell_at (o := 6) hd.wb rfl, cell_at (o := 7) hd.wb rfl, cell_at (o := 8) hd.wb rfl, cell_at (o := 9) hd.wb rfl, cell_at (o := 10) hd.wb rfl, cell_at (o := 11) hd.wb rfl, cell_at (o := 12) hd.wb rfl, cell_at (o := 0) hd.f.b rfl, TCE.out W hd.f.bel⟩
  go_upto_region 11 with fail
  go_cut [12] from 41 to 56 (fun s wx => ∃ (qc s0 s1 : Nat) (pa : Option Addr) (pc : Nat), s = .pointer (some ⟨qc, 0, none⟩) ∧ Hid (Below wr.heap.size wr wx ∧ wx.heap[qc]? = some (.cells #[.int .i64 o.id, .slice pa o.cells.length pc] 81) ∧ wr.heap.size ≤ s0 ∧ s0 ≤ s1 ∧ s1 ≤ wx.heap.size ∧ Own wx (dAtomSS o.cells) (fun d => s0 ≤ d ∧ d < s1) (.slice pa o.cells.length pc)))
  case first =>
   have B0 : Hid (Below wr.heap.size wr wr.drew) := (Below.refl _ _).drew
   refine wp_region_held_drew (S := (fun W => W.cell? ⟨w4.heap.size, 0, none⟩ = some (.string ⟨m.nm.toArray⟩) ∧ W.cell? ⟨w4.heap.size, 1, none⟩ = some (.string ⟨m.tb.toArray⟩) ∧ W.cell? ⟨w4.heap.size, 2, none⟩ = some (.slice a2 m.cs.length c2) ∧ W.cell? ⟨w4.heap.size, 3, none⟩ = some (.bool m.ini) ∧ W.cell? ⟨w4.heap.size, 4, none⟩ = some (.bool m.ins) ∧ W.cell? ⟨w4.heap.size, 5, none⟩ = some (.bool m.del) ∧ W.cell? ⟨w4.heap.size, 6, none⟩ = some (.bool m.mod) ∧ W.cell? ⟨w4.heap.size, 7, none⟩ = some (.slice a7 m.wh.length c7) ∧ W.cell? ⟨w4.heap.size, 8, none⟩ = some (.int .i64 k) ∧ W.cell? ⟨w4.heap.size, 9, none⟩ = some (.string ⟨t.nm.toArray⟩) ∧ W.cell? ⟨w4.heap.size, 10, none⟩ = some (.slice ca t.cols.length cc) ∧ W.cell? ⟨w4.heap.size, 11, none⟩ = some (.slice ua t.uq.length uc) ∧ W.cell? ⟨w4.heap.size, 12, none⟩ = some (.bool t.rt) ∧ W.cell? ⟨w.heap.size + 1, 0, none⟩ = some (.slice (some ⟨rq, rf, none⟩) x.tables.length xc) ∧ W.cell? ⟨rq, rf + k, none⟩ = some (.slice (some ⟨b1, o1, none⟩) rows.length rc1))) (by kernel_rfl) ?_ (fun hHeld => ?_)
   ·
    (exact CE.out _ (by first | exact B9.out | exact B2.out | exact B1.out | exact B0.out))
   refine tkB (i := 0) ?_
   refine tkB (i := 1) ?_
   refine tkB (i := 2) ?_
   refine tkB (i := 3) ?_
   refine tkB (i := 4) ?_
   refine tkB (i := 5) ?_
   refine tkB (i := 6) ?_
   refine tkB (i := 7) ?_
   refine tkB (i := 8) ?_
   refine wpAnyH_ready (rs := [9, 10]) (by kernel_rfl) (by simp) (AllReadyH.cons rfl (fun K hK => ?_) (AllReadyH.cons rfl (fun K hK => ?_) AllReadyH.nil))
   ·
    go_simp
    go_at_call 38
    refine (SN.out _ B0.out).mono ?_
    rintro e w5 ⟨pa, pc, rfl, hr4, hB4⟩
    have B1 : Hid (Below wr.heap.size wr w5) := B0.out.trans (hB4.mono B0.out.size)
    have HO1 : Hid (Own w5 (dAtomSS o.cells) (fun d => wr.heap.size ≤ d ∧ d < w5.heap.size) (.slice pa o.cells.length pc)) := hr4.mono (fun d hd => hd)
    clear hr4 hB4
    refine hK.out _ _ ?_ (fun hHeld => ?_)
    ·
     (exact CE.out _ (by first | exact B9.out | exact B2.out | exact B1.out | exact B0.out))
    clear hK K
    try simp only [Act.put, tkS]
    refine tkR (i := 10) (fun K hK => ?_)
    go_simp
    have B2 : Hid (Below wr.heap.size wr (w5.alloc (.cells #[.int .i64 0, .slice none 0 0] 81))) := B1.out.alloc B1.out.size _
    refine hK.out _ _ ?_ (fun hHeld => ?_)
    ·
     (exact CE.out _ (by first | exact B9.out | exact B2.out | exact B1.out | exact B0.out))
    clear hK K
    try simp only [Act.put, tkS]
    refine tkR (i := 11) (fun K hK => ?_)
    have HX9 : Hid (Below wr.heap.size wr (w5.alloc (.cells #[.int .i64 o.id, .slice pa o.cells.length pc] 81)) ∧ (w5.alloc (.cells #[.int .i64 o.id, .slice pa o.cells.length pc] 81)).heap[w5.heap.size]? = some (.cells #[.int .i64 o.id, .slice pa o.cells.length pc] 81) ∧ wr.heap.size ≤ wr.heap.size ∧ wr.heap.size ≤ w5.heap.size ∧ w5.heap.size ≤ (w5.alloc (.cells #[.int .i64 o.id, .slice pa o.cells.length pc] 81)).heap.size ∧ Own (w5.alloc (.cells #[.int .i64 o.id, .slice pa o.cells.length pc] 81)) (dAtomSS o.cells) (fun d => wr.heap.size ≤ d ∧ d < w5.heap.size) (.slice pa o.cells.length pc)) := ⟨B1.out.alloc B1.out.size _, heap_newD _ _, Nat.le_refl _, B1.out.size, by rw [size_allocD]; omega, HO1.out.later (below_allocD _ _)⟩
    have B9 := Lib.hid HX9.out.1
    go_simp
    refine hK.out _ _ ?_ (fun hHeld => ?_)
    ·
     (exact CE.out _ (by first | exact B9.out | exact B2.out | exact B1.out | exact B0.out))
    clear hK K
    try simp only [Act.put, tkS]
    refine wpAnyH_done (by kernel_rfl) ?_ _
    go_wp2_with fail
    go_meet
    exact ⟨_, _, _, _, _, rfl, HX9⟩
   ·
    go_simp
    have B1 : Hid (Below wr.heap.size wr (wr.alloc (.cells #[.int .i64 0, .slice none 0 0] 81)).drew) := ((Below.refl _ _).alloc (Nat.le_refl _) _).drew
    refine hK.out _ _ ?_ (fun hHeld => ?_)
    ·
     (exact CE.out _ (by first | exact B9.out | exact B2.out | exact B1.out | exact B0.out))
    clear hK K
    try simp only [Act.put, tkS]
    refine tkR (i := 9) (fun K hK => ?_)
    go_simp
    go_at_call 38
    refine (SN.out _ B1.out).mono ?_
    rintro e w5 ⟨pa, pc, rfl, hr4, hB4⟩
    have B2 : Hid (Below wr.heap.size wr w5) := B1.out.trans (hB4.mono B1.out.size)
    have HZ : Hid (w5.heap[wr.heap.size]? = some (.cells #[.int .i64 0, .slice none 0 0] 81)) := heap_keptD (show ((wr.alloc (.cells #[.int .i64 0, .slice none 0 0] 81)).drew).heap[wr.heap.size]? = some (.cells #[.int .i64 0, .slice none 0 0] 81) from heap_newD _ _) hB4
    have HO1 : Hid (Own w5 (dAtomSS o.cells) (fun d => wr.heap.size + 1 ≤ d ∧ d < w5.heap.size) (.slice pa o.cells.length pc)) := hr4.mono (fun d hd => by have h1 := hd.1; have h2 : (wr.alloc (.cells #[.int .i64 0, .slice none 0 0] 81)).drew.heap.size = wr.heap.size + 1 := size_allocD _ _; exact ⟨by omega, hd.2⟩)
    have HSZ5 : Hid (wr.heap.size + 1 ≤ w5.heap.size) := by have h1 := hB4.size; have h2 : (wr.alloc (.cells #[.int .i64 0, .slice none 0 0] 81)).drew.heap.size = wr.heap.size + 1 := size_allocD _ _; show _ ≤ _; omega
    clear hr4 hB4
    refine hK.out _ _ ?_ (fun hHeld => ?_)
    ·
     (exact CE.out _ (by first | exact B9.out | exact B2.out | exact B1.out | exact B0.out))
    clear hK K
    try simp only [Act.put, tkS]
    refine tkR (i := 11) (fun K hK => ?_)
    have zc0 := cell_at (o := 0) HZ.out rfl
    have zf0 := frozen_at 0 HZ.out
    have zc1 := cell_at (o := 1) HZ.out rfl
    have zf1 := frozen_at 1 HZ.out
    have HX9 : Hid (Below wr.heap.size wr ((w5.setCell ⟨wr.heap.size, 0, none⟩ (.int .i64 o.id)).setCell ⟨wr.heap.size, 1, none⟩ (.slice pa o.cells.length pc)) ∧ ((w5.setCell ⟨wr.heap.size, 0, none⟩ (.int .i64 o.id)).setCell ⟨wr.heap.size, 1, none⟩ (.slice pa o.cells.length pc)).heap[wr.heap.size]? = some (.cells #[.int .i64 o.id, .slice pa o.cells.length pc] 81) ∧ wr.heap.size ≤ wr.heap.size + 1 ∧ wr.heap.size + 1 ≤ w5.heap.size ∧ w5.heap.size ≤ ((w5.setCell ⟨wr.heap.size, 0, none⟩ (.int .i64 o.id)).setCell ⟨wr.heap.size, 1, none⟩ (.slice pa o.cells.length pc)).heap.size ∧ Own ((w5.setCell ⟨wr.heap.size, 0, none⟩ (.int .i64 o.id)).setCell ⟨wr.heap.size, 1, none⟩ (.slice pa o.cells.length pc)) (dAtomSS o.cells) (fun d => wr.heap.size + 1 ≤ d ∧ d < w5.heap.size) (.slice pa o.cells.length pc)) := ⟨(B2.out.setCell (show wr.heap.size ≤ wr.heap.size from Nat.le_refl _) _).setCell (show wr.heap.size ≤ wr.heap.size from Nat.le_refl _) _, by rw [(heap_set 1 _ (heap_set 0 _ HZ.out))]; rfl, by omega, HSZ5.out, by simp, HO1.out.frm (F := (· = wr.heap.size)) ((frm_set _ _ _ _).trans (frm_set _ _ _ _)) (fun d hd e => by have h1 := hd.1; have h2 : d = wr.heap.size := e; omega)⟩
    have B9 := Lib.hid HX9.out.1
    go_simp
    clear zc0 zf0 zc1 zf1
    refine hK.out _ _ ?_ (fun hHeld => ?_)
    ·
     (exact CE.out _ (by first | exact B9.out | exact B2.out | exact B1.out | exact B0.out))
    clear hK K
    try simp only [Act.put, tkS]
    refine wpAnyH_done (by kernel_rfl) ?_ _
    go_wp2_with fail
    go_meet
    exact ⟨_, _, _, _, _, rfl, HX9⟩
  obtain ⟨qc, s0, s1, pa, pc, rfl, HX9⟩ := hcut
  generalize wc = w6 at *
  clear CE SN
  have IT : Hid (Calls Tryz.prog 39 #[.pointer (some ⟨qc, 0, none⟩)] w6 fun e w' => e = .returned (.bool (o.id != 0)) ∧ Below w6.heap.size w6 w') := isThereI o.id o.cells.length qc 0 pa pc w6 HZ0.out (cell_at (o := 0) HX9.out.2.1 rfl) (cell_at (o := 1) HX9.out.2.1 rfl)
  by_cases ho : 0 < o.id
  case neg =>
   have HN9 := Lib.hid (HCN.out ho)
   have ho0 : (o.id != 0) = false := by have h1 := HNN.out; have h2 : o.id = 0 := (by omega); rw [h2]; rfl
   rw [ho0] at IT
   clear ho ho0 HCN HCY
   go_wp2_with fail
   refine IT.out.mono ?_
   rintro e w7 ⟨rfl, hB7⟩
   have B7 : Hid (Below wr.heap.size wr w7) := HX9.out.1.trans (hB7.mono HX9.out.1.size)
   clear hB7 IT HX9
   go_wp2_with fail
   go_roundw
   case rel => exact ⟨k2 + 1, by omega, by go_num, es, va, vq, rfl, HN9.out, HW.out.2.1.later B7.out, HW.out.2.2.trans (B7.out.mono HW.out.2.2.size)⟩
   case measure => simp [intOf]; omega
  have HN9 := Lib.hid (HCY.out ho)
  have ho0 : (o.id != 0) = true := by simp; omega
  rw [ho0] at IT
  clear ho ho0 HCN HCY
  go_wp2_with fail
  refine IT.out.mono ?_
  rintro e w7 ⟨rfl, hB7⟩
  have HX7 : Hid (Below wr.heap.size wr w7 ∧ w7.heap[qc]? = some (.cells #[.int .i64 o.id, .slice pa o.cells.length pc] 81) ∧ wr.heap.size ≤ s0 ∧ s0 ≤ s1 ∧ s1 ≤ w7.heap.size ∧ Own w7 (dAtomSS o.cells) (fun d => s0 ≤ d ∧ d < s1) (.slice pa o.cells.length pc)) := ⟨HX9.out.1.trans (hB7.mono HX9.out.1.size), heap_keptD HX9.out.2.1 hB7, HX9.out.2.2.1, HX9.out.2.2.2.1, Nat.le_trans HX9.out.2.2.2.2.1 hB7.size, HX9.out.2.2.2.2.2.later hB7⟩
  clear hB7 IT HX9
  have e0 := cell_at (o := 0) HX7.out.2.1 rfl
  have e1 := cell_at (o := 1) HX7.out.2.1 rfl
  obtain ⟨a', c', w8, hrun, hrg, -, -, hbel, -, -⟩ := HW.out.2.1.gr.push (V := w7) HX7.out.1 ⟨o, .slice pa o.cells.length pc, s0, s1⟩ HX7.out.2.2.1 HX7.out.2.2.2.1 HX7.out.2.2.2.2.1 HX7.out.2.2.2.2.2 (by have := (Array.getElem?_eq_some_iff.1 HW.out.2.1.wb).1; omega) HPL.out 35
  have HR := Lib.hid hrun
  have HL1 : Hid (es.length + 1 = (es ++ [(⟨o, .slice pa o.cells.length pc, s0, s1⟩ : Rg1)]).length) := by show _ = _; simp
  have HDF : Hid (SnI w w8 (.slice sa l.length sc) (.slice (some ⟨rq, rf, none⟩) x.tables.length xc) x.next #[.string ⟨m.nm.toArray⟩, .string ⟨m.tb.toArray⟩, .slice a2 m.cs.length c2, .bool m.ini, .bool m.ins, .bool m.del, .bool m.mod, .slice a7 m.wh.length c7] #[.string ⟨m.nm.toArray⟩, .string ⟨m.tb.toArray⟩, .slice a2 m.cs.length c2, .bool m.ini, .bool m.ins, .bool m.del, .bool m.mod, .slice a7 m.wh.length c7, .int .i64 k, .string ⟨t.nm.toArray⟩, .slice ca t.cols.length cc, .slice ua t.uq.length uc, .bool t.rt] w4.heap.size (es ++ [(⟨o, .slice pa o.cells.length pc, s0, s1⟩ : Rg1)]) (.slice a' (es ++ [(⟨o, .slice pa o.cells.length pc, s0, s1⟩ : Rg1)]).length c') ∧ Below w4.heap.size w4 w8 ∧ (es ++ [(⟨o, .slice pa o.cells.length pc, s0, s1⟩ : Rg1)]).map Rg1.r = snapV t m (rows.take (k2 + 1))) := by
   rw [HL1.out] at hrg
   exact ⟨HW.out.2.1.push hbel hrg, HW.out.2.2.trans (hbel.mono (by omega)), by rw [List.map_append, ← HN9.out]; rfl⟩
  clear hrun hrg hbel
  rw [HL1.out] at HR
  generalize (es ++ [(⟨o, .slice pa o.cells.length pc, s0, s1⟩ : Rg1)]) = es2 at *
  go_wp2_with (at_builtin; go_must (refine wpList_append_is rfl (.tmp 52) (.tmp 54) 35 rfl _ _ rfl rfl _ _ HR.out ?_))
  go_wp2_with fail
  go_roundw
  case rel => exact ⟨k2 + 1, by omega, by go_num, es2, a', c', rfl, HDF.out.2.2, HDF.out.1, HDF.out.2.1⟩
  case measure => simp [intOf]; omega
end Go.Proofs.YtlddhbamcndggaaGreatDoor
