import Derived.Test.YtlddhbamcndggaaGreatDoorZbh
import Derived.Test.YtlddhbamcndggaaGreatDoorZbk
import Derived.Test.YtlddhbamcndggaaGreatDoorZay
import Derived.Test.YtlddhbamcndggaaGreatDoorZbg
import Derived.Test.YtlddhbamcndggaaGreatDoorZTk
namespace Go.Proofs.YtlddhbamcndggaaGreatDoor
open Go.RowKit
set_option linter.unusedSimpArgs false
noncomputable def snT (l : List Tb) (x : StV) (m : MoV) : List RowV := match l[(tplC l m.tb).toNat]?, x.tables[(tplC l m.tb).toNat]? with
 | some t, some rows => snapV t m rows
 | _, _ => []
noncomputable def snR (l : List Tb) (x : StV) (m : MoV) : List RowV × Int := if ((schB l && formB l x) && moB m) = true then (if moC l m = 0 then (snT l x m, 0) else ([], moC l m)) else ([], 1)
theorem snR_bad {l : List Tb} {x : StV} {m : MoV} (h : ((schB l && formB l x) && moB m) = false) : snR l x m = ([], 1) := by unfold snR; rw [h]; rfl
theorem snR_code {l : List Tb} {x : StV} {m : MoV} (h : ((schB l && formB l x) && moB m) = true) (h2 : moC l m ≠ 0) : snR l x m = ([], moC l m) := by unfold snR; rw [if_pos h, if_neg h2]
theorem snR_ok {l : List Tb} {x : StV} {m : MoV} (h : ((schB l && formB l x) && moB m) = true) (h2 : moC l m = 0) : snR l x m = (snT l x m, 0) := by unfold snR; rw [if_pos h, if_pos h2]
theorem snT_at {l : List Tb} {x : StV} {m : MoV} {k : Nat} (h : tplC l m.tb = k) (hk : k < l.length) (hx : k < x.tables.length) : snT l x m = snapV l[k] m x.tables[k] := by
 unfold snT
 rw [h, Int.toNat_natCast, List.getElem?_eq_getElem hk, List.getElem?_eq_getElem hx]
structure MonOK (l : List Tb) (x : StV) (m : MoV) (k : Nat) : Prop where
 tp : tplC l m.tb = k
 hk : k < l.length
 hx : k < x.tables.length
 cs : m.cs.length ≤ 6
 co : ∀ j (h : j < m.cs.length), 0 ≤ placeC l[k].cols m.cs[j]
 cw : condsC l[k] m.wh = 0
 cb : condsB m.wh = true
 rw : RowsP l[k] x.tables[k] x.next
theorem mon_ok {l : List Tb} {x : StV} {m : MoV} (h : ((schB l && formB l x) && moB m) = true) (h2 : moC l m = 0) : ∃ k, MonOK l x m k := by
 rw [Bool.and_eq_true, Bool.and_eq_true] at h
 have hf := form_of h.1.2
 have hm := h.2
 unfold moB at hm
 rw [Bool.and_eq_true, Bool.and_eq_true, Bool.and_eq_true, Bool.and_eq_true] at hm
 rcases tpl_rng m.tb l with ht | ⟨k, hk, ht, -⟩
 ·
  rw [mo_none ht] at h2; cases h2
 rw [mo_at hk ht] at h2
 have hx : k < x.tables.length := by have := hf.1; omega
 unfold moT at h2
 split at h2
 case isFalse => cases h2
 rename_i hall
 exact ⟨k, ht, hk, hx, of_decide_eq_true hm.2.2.1, fun j hj => of_decide_eq_true (List.all_eq_true.1 hall _ (List.getElem_mem hj)), h2, hm.2.2.2.1, hf.2.2 k hk hx⟩
theorem row_len {t : Tb} {r : RowV} (h : rowB t r.id r.cells = true) : r.cells.length = t.cols.length := by unfold rowB at h; exact (@of_decide_eq_true _ (Classical.propDecidable _) h).len
theorem sch_ofN {l : List Tb} (h : schB l = true) : SchP l := by unfold schB at h; exact @of_decide_eq_true _ (Classical.propDecidable _) h
def SnAns (w : World) (R : List RowV × Int) (e : Ending) (w' : World) : Prop := ∃ a c, e = .returned (.tuple #[.slice a R.1.length c, .int .i64 R.2]) ∧ Rd w' (fun d => w.heap.size ≤ d ∧ d < w'.heap.size) (dRowS R.1) (.slice a R.1.length c) ∧ Below w.heap.size w w'
theorem SnAns.nil {w w' : World} {R : List RowV × Int} {n : Int} {a : Option Addr} {c : Nat} (hR : R = ([], n)) (hB : Below w.heap.size w w') : SnAns w R (.returned (.tuple #[.slice a 0 c, .int .i64 n])) w' := by
 subst hR; exact ⟨a, c, rfl, Rd.lsNil _ _, hB⟩
theorem MonOK.asks {l : List Tb} {x : StV} {m : MoV} {k : Nat} (h : MonOK l x m k) (hx : (dRowS (x.tables[k]'h.hx)).le 1048576) : ∀ i (hi : i < (x.tables[k]'h.hx).length), (∀ j (h' : j < m.wh.length), Asks (l[k]'h.hk) (x.tables[k]'h.hx)[i] m.wh[j]) ∧ ((x.tables[k]'h.hx)[i]).cells.length = (l[k]'h.hk).cols.length ∧ ∀ s, (cellOf (l[k]'h.hk) (x.tables[k]'h.hx)[i] s).length ≤ 1048576 := fun i hi => by
 have hr := (h.rw.2.2 i hi).2
 have hl := row_len hr
 refine ⟨fun j hj => asks_of hr (conds_all h.cb _ (List.getElem_mem hj)) (condsC_all h.cw _ (List.getElem_mem hj)), hl, fun s => ?_⟩
 have hk := le_rowC hx hi
 exact (Ls_le.1 (cell_leK (s := s) (by omega) hk.2 hk.1 hl)).2.1
set_option maxRecDepth 100000 in
set_option maxHeartbeats 12800000 in
theorem snapshotS (l : List Tb) (sa : Option Addr) (sc : Nat) (A : Nat → Prop) (x : StV) (xa : Option Addr) (xc : Nat) (X : Nat → Prop) (m : MoV) (a2 : Option Addr) (c2 : Nat) (a7 : Option Addr) (c7 : Nat) (B : Nat → Prop) (w : World) (hlo : (dTableS l).le maxLen) (ho : (dRowSS x.tables).le 1048576) (hn : m.nm.length ≤ maxLen) (ht : m.tb.length ≤ maxLen) (hc : (dStringS m.cs).le maxLen) (hw : (dCondS m.wh).le 1048576) (hT : Rd w A (dTableS l) (.slice sa l.length sc)) (hR : Rd w X (dRowSS x.tables) (.slice xa x.tables.length xc)) (rc : Rd w B (dStringS m.cs) (.slice a2 m.cs.length c2)) (rh : Rd w B (dCondS m.wh) (.slice a7 m.wh.length c7)) :
  Calls Tryz.prog 7 #[.agg #[.slice sa l.length sc], .agg #[.slice xa x.tables.length xc, .int .i64 x.next], .agg #[.string ⟨m.nm.toArray⟩, .string ⟨m.tb.toArray⟩, .slice a2 m.cs.length c2, .bool m.ini, .bool m.ins, .bool m.del, .bool m.mod, .slice a7 m.wh.length c7]] w (SnAns w (snR l x m)) := by
 have hwm : (dCondS m.wh).le maxLen := D.le.mono (by unfold maxLen; omega) _ hw
 have hom : (dRowSS x.tables).le maxLen := D.le.mono (by unfold maxLen; omega) _ ho
 have K0 : Hid (∀ W, BoxF 40 44 48 w W #[.slice sa l.length sc] #[.slice xa x.tables.length xc, .int .i64 x.next] #[.string ⟨m.nm.toArray⟩, .string ⟨m.tb.toArray⟩, .slice a2 m.cs.length c2, .bool m.ini, .bool m.ins, .bool m.del, .bool m.mod, .slice a7 m.wh.length c7] → Calls Tryz.prog 25 #[.agg #[.slice sa l.length sc]] W fun e w' => e = .returned (.bool (schB l)) ∧ BoxF 40 44 48 w w' #[.slice sa l.length sc] #[.slice xa x.tables.length xc, .int .i64 x.next] #[.string ⟨m.nm.toArray⟩, .string ⟨m.tb.toArray⟩, .slice a2 m.cs.length c2, .bool m.ini, .bool m.ins, .bool m.del, .bool m.mod, .slice a7 m.wh.length c7]) := fun W h => by
  obtain ⟨Ad, hA⟩ := (hT.later h.bel).tabs
  exact (schemaS l sa sc Ad A W (le_tables hlo) hA).mono (fun e w' ⟨he, hB⟩ => ⟨he, h.later hB⟩)
 have K1 : Hid (∀ W, BoxF 40 44 48 w W #[.slice sa l.length sc] #[.slice xa x.tables.length xc, .int .i64 x.next] #[.string ⟨m.nm.toArray⟩, .string ⟨m.tb.toArray⟩, .slice a2 m.cs.length c2, .bool m.ini, .bool m.ins, .bool m.del, .bool m.mod, .slice a7 m.wh.length c7] → Calls Tryz.prog 26 #[.agg #[.slice sa l.length sc], .agg #[.slice xa x.tables.length xc, .int .i64 x.next]] W fun e w' => e = .returned (.bool (formB l x)) ∧ BoxF 40 44 48 w w' #[.slice sa l.length sc] #[.slice xa x.tables.length xc, .int .i64 x.next] #[.string ⟨m.nm.toArray⟩, .string ⟨m.tb.toArray⟩, .slice a2 m.cs.length c2, .bool m.ini, .bool m.ins, .bool m.del, .bool m.mod, .slice a7 m.wh.length c7]) := fun W h => (formS l sa sc A x xa xc X W hlo hom (hT.later h.bel) (hR.later h.bel)).mono (fun e w' ⟨he, hB⟩ => ⟨he, h.later hB⟩)
 have K2 : Hid (∀ W, BoxF 40 44 48 w W #[.slice sa l.length sc] #[.slice xa x.tables.length xc, .int .i64 x.next] #[.string ⟨m.nm.toArray⟩, .string ⟨m.tb.toArray⟩, .slice a2 m.cs.length c2, .bool m.ini, .bool m.ins, .bool m.del, .bool m.mod, .slice a7 m.wh.length c7] → Calls Tryz.prog 27 #[.agg #[.string ⟨m.nm.toArray⟩, .string ⟨m.tb.toArray⟩, .slice a2 m.cs.length c2, .bool m.ini, .bool m.ins, .bool m.del, .bool m.mod, .slice a7 m.wh.length c7]] W fun e w' => e = .returned (.bool (moB m)) ∧ BoxF 40 44 48 w w' #[.slice sa l.length sc] #[.slice xa x.tables.length xc, .int .i64 x.next] #[.string ⟨m.nm.toArray⟩, .string ⟨m.tb.toArray⟩, .slice a2 m.cs.length c2, .bool m.ini, .bool m.ins, .bool m.del, .bool m.mod, .slice a7 m.wh.length c7]) := fun W h => (moOKs m a2 c2 a7 c7 B W hn ht hc hwm (rc.later h.bel) (rh.later h.bel)).mono (fun e w' ⟨he, hB⟩ => ⟨he, h.later hB⟩)
 have K3 : Hid (∀ W, BoxF 40 44 48 w W #[.slice sa l.length sc] #[.slice xa x.tables.length xc, .int .i64 x.next] #[.string ⟨m.nm.toArray⟩, .string ⟨m.tb.toArray⟩, .slice a2 m.cs.length c2, .bool m.ini, .bool m.ins, .bool m.del, .bool m.mod, .slice a7 m.wh.length c7] → Calls Tryz.prog 28 #[.agg #[.slice sa l.length sc], .agg #[.string ⟨m.nm.toArray⟩, .string ⟨m.tb.toArray⟩, .slice a2 m.cs.length c2, .bool m.ini, .bool m.ins, .bool m.del, .bool m.mod, .slice a7 m.wh.length c7]] W fun e w' => e = .returned (.int .i64 (moC l m)) ∧ BoxF 40 44 48 w w' #[.slice sa l.length sc] #[.slice xa x.tables.length xc, .int .i64 x.next] #[.string ⟨m.nm.toArray⟩, .string ⟨m.tb.toArray⟩, .slice a2 m.cs.length c2, .bool m.ini, .bool m.ins, .bool m.del, .bool m.mod, .slice a7 m.wh.length c7]) := fun W h => (mcodeS l sa sc A m a2 c2 a7 c7 B W hlo hc hwm (hT.later h.bel) (rc.later h.bel) (rh.later h.bel)).mono (fun e w' ⟨he, hB⟩ => ⟨he, h.later hB⟩)
 have K4 : Hid (((schB l && formB l x) && moB m) = true → moC l m = 0 → ∀ W, BoxF 40 44 48 w W #[.slice sa l.length sc] #[.slice xa x.tables.length xc, .int .i64 x.next] #[.string ⟨m.nm.toArray⟩, .string ⟨m.tb.toArray⟩, .slice a2 m.cs.length c2, .bool m.ini, .bool m.ins, .bool m.del, .bool m.mod, .slice a7 m.wh.length c7] → Calls Tryz.prog 29 #[.agg #[.slice sa l.length sc], .agg #[.slice xa x.tables.length xc, .int .i64 x.next], .agg #[.string ⟨m.nm.toArray⟩, .string ⟨m.tb.toArray⟩, .slice a2 m.cs.length c2, .bool m.ini, .bool m.ins, .bool m.del, .bool m.mod, .slice a7 m.wh.length c7]] W fun e w' => ∃ a c, e = .returned (.slice a (snT l x m).length c) ∧ Rd w' (fun d => W.heap.size ≤ d ∧ d < w'.heap.size) (dRowS (snT l x m)) (.slice a (snT l x m).length c) ∧ Below W.heap.size W w') := fun h1 h2 W h => by
  obtain ⟨k, hM⟩ := mon_ok h1 h2
  have hx : (dRowS (x.tables[k]'hM.hx)).le 1048576 := (Ls_le.1 ho).2.2 k hM.hx 0 (by omega)
  rw [snT_at hM.tp hM.hk hM.hx]
  exact snapS l sa sc A x xa xc X m a2 c2 a7 c7 B W k hM.hk hM.hx hM.tp hlo (by have := hM.cs; omega) hw hx (hM.asks hx) (hT.later h.bel) (hR.later h.bel) (rc.later h.bel) (rh.later h.bel)
 have HB0 := Lib.hid (boxF 40 44 48 w #[.slice sa l.length sc] #[.slice xa x.tables.length xc, .int .i64 x.next] #[.string ⟨m.nm.toArray⟩, .string ⟨m.tb.toArray⟩, .slice a2 m.cs.length c2, .bool m.ini, .bool m.ins, .bool m.del, .bool m.mod, .slice a7 m.wh.length c7])
 clear hlo ho hn ht hc hw hwm hom hT hR rc rh
 have x0 := cell_at (o := 0) HB0.out.a rfl
 have y0 := cell_at (o := 0) HB0.out.b rfl
 have y1 := cell_at (o := 1) HB0.out.b rfl
 have z0 := cell_at (o := 0) HB0.out.c rfl
 have z1 := cell_at (o := 1) HB0.out.c rfl
 have z2 := cell_at (o := 2) HB0.out.c rfl
 have z3 := cell_at (o := 3) HB0.out.c rfl
 have z4 := cell_at (o := 4) HB0.out.c rfl
 have z5 := cell_at (o := 5) HB0.out.c rfl
 have z6 := cell_at (o := 6) HB0.out.c rfl
 have z7 := cell_at (o := 7) HB0.out.c rfl
 go_enter Tryz.func7, Tryz.ntmps7
 go_wp2_with fail
 refine (K0.out _ (by first | exact HB0.out | exact HB0.out.drew)).mono ?_
 rintro e w1 ⟨rfl, hb⟩
 have HB1 := Lib.hid hb
 clear hb x0 y0 y1 z0 z1 z2 z3 z4 z5 z6 z7
 have x0 := cell_at (o := 0) HB1.out.a rfl
 have y0 := cell_at (o := 0) HB1.out.b rfl
 have y1 := cell_at (o := 1) HB1.out.b rfl
 have z0 := cell_at (o := 0) HB1.out.c rfl
 have z1 := cell_at (o := 1) HB1.out.c rfl
 have z2 := cell_at (o := 2) HB1.out.c rfl
 have z3 := cell_at (o := 3) HB1.out.c rfl
 have z4 := cell_at (o := 4) HB1.out.c rfl
 have z5 := cell_at (o := 5) HB1.out.c rfl
 have z6 := cell_at (o := 6) HB1.out.c rfl
 have z7 := cell_at (o := 7) HB1.out.c rfl
 cases h0 : (schB l)
 case false =>
  have HE : Hid (snR l x m = ([], 1)) := snR_bad (by rw [h0]; rfl)
  clear K3 K4 h0
  go_wp2_with fail
  exact bodyPost_ret (v := .tuple #[.slice (some ⟨w1.heap.size, 0, none⟩) 0 0, .int .i64 1]) (by simp [results, Tryz.results7, go_sem, *]) rfl (SnAns.nil HE.out (HB1.out.bel.alloc HB1.out.bel.size _))
 go_wp2_with fail
 refine (K1.out _ (by first | exact HB1.out | exact HB1.out.drew)).mono ?_
 rintro e w2 ⟨rfl, hb⟩
 have HB2 := Lib.hid hb
 clear hb x0 y0 y1 z0 z1 z2 z3 z4 z5 z6 z7
 have x0 := cell_at (o := 0) HB2.out.a rfl
 have y0 := cell_at (o := 0) HB2.out.b rfl
 have y1 := cell_at (o := 1) HB2.out.b rfl
 have z0 := cell_at (o := 0) HB2.out.c rfl
 have z1 := cell_at (o := 1) HB2.out.c rfl
 have z2 := cell_at (o := 2) HB2.out.c rfl
 have z3 := cell_at (o := 3) HB2.out.c rfl
 have z4 := cell_at (o := 4) HB2.out.c rfl
 have z5 := cell_at (o := 5) HB2.out.c rfl
 have z6 := cell_at (o := 6) HB2.out.c rfl
 have z7 := cell_at (o := 7) HB2.out.c rfl
 cases h1 : (formB l x)
 case false =>
  have HE : Hid (snR l x m = ([], 1)) := snR_bad (by rw [h0, h1]; rfl)
  clear K3 K4 h0 h1
  go_wp2_with fail
  exact bodyPost_ret (v := .tuple #[.slice (some ⟨w2.heap.size, 0, none⟩) 0 0, .int .i64 1]) (by simp [results, Tryz.results7, go_sem, *]) rfl (SnAns.nil HE.out (HB2.out.bel.alloc HB2.out.bel.size _))
 go_wp2_with fail
 refine (K2.out _ (by first | exact HB2.out | exact HB2.out.drew)).mono ?_
 rintro e w3 ⟨rfl, hb⟩
 have HB3 := Lib.hid hb
 clear hb x0 y0 y1 z0 z1 z2 z3 z4 z5 z6 z7
 have x0 := cell_at (o := 0) HB3.out.a rfl
 have y0 := cell_at (o := 0) HB3.out.b rfl
 have y1 := cell_at (o := 1) HB3.out.b rfl
 have z0 := cell_at (o := 0) HB3.out.c rfl
 have z1 := cell_at (o := 1) HB3.out.c rfl
 have z2 := cell_at (o := 2) HB3.out.c rfl
 have z3 := cell_at (o := 3) HB3.out.c rfl
 have z4 := cell_at (o := 4) HB3.out.c rfl
 have z5 := cell_at (o := 5) HB3.out.c rfl
 have z6 := cell_at (o := 6) HB3.out.c rfl
 have z7 := cell_at (o := 7) HB3.out.c rfl
 cases h2 : (moB m)
 case false =>
  have HE : Hid (snR l x m = ([], 1)) := snR_bad (by rw [h0, h1, h2]; rfl)
  clear K3 K4 h0 h1 h2
  go_wp2_with fail
  exact bodyPost_ret (v := .tuple #[.slice (some ⟨w3.heap.size, 0, none⟩) 0 0, .int .i64 1]) (by simp [results, Tryz.results7, go_sem, *]) rfl (SnAns.nil HE.out (HB3.out.bel.alloc HB3.out.bel.size _))
 have HSF : Hid (((schB l && formB l x) && moB m) = true) := by show (_ && _) = true; rw [h0, h1, h2]; rfl
 clear h0 h1 h2
 go_wp2_with fail
 refine (K3.out _ (by first | exact HB3.out | exact HB3.out.drew)).mono ?_
 rintro e w4 ⟨rfl, hb⟩
 have HB4 := Lib.hid hb
 clear hb x0 y0 y1 z0 z1 z2 z3 z4 z5 z6 z7
 have x0 := cell_at (o := 0) HB4.out.a rfl
 have y0 := cell_at (o := 0) HB4.out.b rfl
 have y1 := cell_at (o := 1) HB4.out.b rfl
 have z0 := cell_at (o := 0) HB4.out.c rfl
 have z1 := cell_at (o := 1) HB4.out.c rfl
 have z2 := cell_at (o := 2) HB4.out.c rfl
 have z3 := cell_at (o := 3) HB4.out.c rfl
 have z4 := cell_at (o := 4) HB4.out.c rfl
 have z5 := cell_at (o := 5) HB4.out.c rfl
 have z6 := cell_at (o := 6) HB4.out.c rfl
 have z7 := cell_at (o := 7) HB4.out.c rfl
 by_cases hc0 : moC l m = 0
 case neg =>
  have HE := Lib.hid (snR_code HSF.out hc0)
  have ne0 : (moC l m != 0) = true := by simpa using hc0
  clear hc0 K3 K4
  generalize moC l m = mc at *
  go_wp2_with fail
  exact bodyPost_ret (v := .tuple #[.slice (some ⟨w4.heap.size, 0, none⟩) 0 0, .int .i64 mc]) (by simp [results, Tryz.results7, go_sem, *]) rfl (SnAns.nil HE.out (HB4.out.bel.alloc HB4.out.bel.size _))
 have HE := Lib.hid (snR_ok HSF.out hc0)
 have K5 := Lib.hid (K4.out HSF.out hc0)
 have ne0 : (moC l m != 0) = false := by simpa using hc0
 clear hc0 K3 K4
 generalize moC l m = mc at *
 generalize snT l x m = R at *
 go_wp2_with fail
 refine (K5.out _ (by first | exact HB4.out | exact HB4.out.drew)).mono ?_
 rintro e w5 ⟨ra, rc, rfl, hrd, hB⟩
 have HZ : Hid (SnAns w (snR l x m) (.returned (.tuple #[.slice ra R.length rc, .int .i64 0])) w5) := by
  rw [HE.out]
  exact ⟨ra, rc, rfl, hrd.mono (fun d hd => ⟨by have := HB4.out.bel.size; have := hd.1; omega, hd.2⟩), HB4.out.bel.trans (hB.mono HB4.out.bel.size)⟩
 clear hrd hB x0 y0 y1 z0 z1 z2 z3 z4 z5 z6 z7
 go_wp2_with fail
 exact bodyPost_ret (v := .tuple #[.slice ra R.length rc, .int .i64 0]) (by simp [results, Tryz.results7, go_sem, *]) rfl HZ.out
set_option maxRecDepth 100000 in
set_option maxHeartbeats 3200000 in
theorem fewI (list : List CondV) (a : Option Addr) (c : Nat) (B : Nat → Prop) (w : World) (ho : (dCondS list).le maxLen) (hL : Rd w B (dCondS list) (.slice a list.length c)) :
  Calls Tryz.prog 72 #[.slice a list.length c, .int .i64 8, .func (.func 73) #[] #[]] w fun e w' => e = .returned (.bool (condsB list)) ∧ Below w.heap.size w w' := by
 have HL : Hid (∀ W, Below w.heap.size w W → Rd W B (Ls 3 dCond list) (.slice a list.length c)) := fun W h => Rd.later hL h
 have HO := Lib.hid ho
 have hll : list.length ≤ maxLen := (Ls_le.1 ho).2.1
 unfold maxLen at hll
 clear ho hL
 by_cases h8 : 8 < list.length
 case pos =>
  have HR : Hid (condsB list = false) := by show condsB list = false; unfold condsB; rw [decide_eq_false (by omega), Bool.and_false]
  have hd : decide (8 < (list.length : Int)) = true := decide_eq_true (by omega)
  clear h8
  go_enter Tryz.func72, Tryz.ntmps72
  go_wp2_with fail
  go_ret
  exact ⟨ret_b HR.out.symm, Below.refl _ _⟩
 have hd : decide (8 < (list.length : Int)) = false := decide_eq_false (by omega)
 have H8 := Lib.hid h8
 clear h8
 go_enter Tryz.func72, Tryz.ntmps72
 go_wp2_with fail
 go_loopw [14] (fun i wr => ∃ k : Nat, k ≤ list.length ∧ i = .int .i64 k ∧ Hid ((∀ m (h : m < list.length), m < k → condB list[m] = true) ∧ Below w.heap.size w wr)) (fun i _ => list.length - (intOf i).toNat)
 case atStart => exact ⟨0, Nat.zero_le _, rfl, fun m _ h => absurd h (by omega), Below.refl _ _⟩
 case round =>
  obtain ⟨k, hk, rfl, HW⟩ := hrel
  by_cases hlt : k < list.length
  case neg =>
   have hki : decide ((k : Int) < (list.length : Int)) = false := by simp; omega
   have HR : Hid (condsB list = decide (list.length ≤ 8)) := conds_yes (fun m h => HW.out.1 m h (by omega))
   go_wp2_with fail
   go_ret
   exact ⟨ret_b (by rw [HR.out]; have := H8.out; simp; omega), HW.out.2⟩
  have hki : (k : Int) < (list.length : Int) := by omega
  obtain ⟨b, off, rfl, -, hc⟩ := (HL.out _ HW.out.2).things k hlt
  obtain ⟨u0, c0, r0⟩ := hc 0 (by omega)
  obtain rfl : u0 = .string ⟨list[k].col.toArray⟩ := r0
  rw [Nat.add_zero] at c0
  obtain ⟨u1, c1, r1⟩ := hc 1 (by omega)
  obtain rfl : u1 = .int .i64 list[k].fn := r1
  obtain ⟨u2, c2, r2⟩ := hc 2 (by omega)
  replace r2 : Rd wr B (dAtomS list[k].val) u2 := r2
  obtain ⟨va, vc, rfl⟩ := r2.lsSlice
  have HR2 := Lib.hid r2
  clear hc r2
  have CO := Lib.hid (condOKi list[k] va vc wr.heap.size wr (le_cond HO.out hlt).1 (le_atoms (le_cond HO.out hlt).2).1 (le_atoms (le_cond HO.out hlt).2).2 (Nat.le_refl _) HR2.out.lt.ats)
  have HNO : Hid (condB list[k] = false → condsB list = false) := fun h => conds_no hlt h
  have HNX : Hid (condB list[k] = true → ∀ m (h : m < list.length), m < k + 1 → condB list[m] = true) := fun he m h hm => by
   by_cases e : m = k
   ·
    subst e; exact he
   ·
    exact HW.out.1 m h (by omega)
  clear HR2
  generalize list[k] = x at *
  go_wp2_with fail
  refine CO.out.mono ?_
  rintro e w1 ⟨rfl, hB1⟩
  have HB1 := Lib.hid (HW.out.2.trans (hB1.mono HW.out.2.size))
  clear hB1 c0 c1 c2
  cases he : condB x
  case false =>
   have HR := Lib.hid (HNO.out he)
   clear HNO HNX he CO
   go_wp2_with fail
   go_ret
   exact ⟨ret_b HR.out.symm, HB1.out⟩
  have HN := Lib.hid (HNX.out he)
  clear HNO HNX he CO
  go_wp2_with fail
  go_roundw
  case rel => exact ⟨k + 1, by omega, by go_num, HN.out, HB1.out⟩
  case measure => simp [intOf]; omega
set_option maxRecDepth 100000 in
set_option maxHeartbeats 6400000 in
theorem firstI (t : Tb) (ca : Option Addr) (cc : Nat) (ua : Option Addr) (uc : Nat) (A : Nat → Prop) (list : List CondV) (a : Option Addr) (c : Nat) (B : Nat → Prop) (w : World) (hto : t.ok) (ho : (dCondS list).le maxLen) (hT : t.Has w A ca ua) (hL : Rd w B (dCondS list) (.slice a list.length c)) :
  Calls Tryz.prog 77 #[.agg #[.string ⟨t.nm.toArray⟩, .slice ca t.cols.length cc, .slice ua t.uq.length uc, .bool t.rt], .slice a list.length c, .func (.func 78) #[] #[]] w fun e w' => e = .returned (.int .i64 (condsC t list)) ∧ Below w.heap.size w w' := by
 have HL : Hid (∀ W, Below w.heap.size w W → Rd W B (Ls 3 dCond list) (.slice a list.length c)) := fun W h => Rd.later hL h
 have HT : Hid (t.ok ∧ ∀ W, Below w.heap.size w W → t.Has W A ca ua) := ⟨hto, fun W h => hT.later h⟩
 have HO := Lib.hid ho
 have hll : list.length ≤ maxLen := (Ls_le.1 ho).2.1
 unfold maxLen at hll
 have HX := Lib.hid (boxD 75 w #[.string ⟨t.nm.toArray⟩, .slice ca t.cols.length cc, .slice ua t.uq.length uc, .bool t.rt])
 clear ho hL hT hto
 go_enter Tryz.func77, Tryz.ntmps77
 go_wp2_with fail
 go_loopw [11] (fun i wr => ∃ k : Nat, k ≤ list.length ∧ i = .int .i64 k ∧ Hid ((∀ m (h : m < list.length), m < k → condC t list[m] = 0) ∧ BoxD 75 w wr #[.string ⟨t.nm.toArray⟩, .slice ca t.cols.length cc, .slice ua t.uq.length uc, .bool t.rt])) (fun i _ => list.length - (intOf i).toNat)
 case atStart => exact ⟨0, Nat.zero_le _, rfl, fun m _ h => absurd h (by omega), HX.out⟩
 case round =>
  obtain ⟨k, hk, rfl, HW⟩ := hrel
  by_cases hlt : k < list.length
  case neg =>
   have hki : decide ((k : Int) < (list.length : Int)) = false := by simp; omega
   have HR : Hid (condsC t list = 0) := condsC_zero (fun m h => HW.out.1 m h (by omega))
   go_wp2_with fail
   go_ret
   exact ⟨ret_i HR.out.symm, HW.out.2.2⟩
  have hki : (k : Int) < (list.length : Int) := by omega
  obtain ⟨b, off, rfl, -, hc⟩ := (HL.out _ HW.out.2.2).things k hlt
  obtain ⟨u0, c0, r0⟩ := hc 0 (by omega)
  obtain rfl : u0 = .string ⟨list[k].col.toArray⟩ := r0
  rw [Nat.add_zero] at c0
  obtain ⟨u1, c1, r1⟩ := hc 1 (by omega)
  obtain rfl : u1 = .int .i64 list[k].fn := r1
  obtain ⟨u2, c2, r2⟩ := hc 2 (by omega)
  replace r2 : Rd wr B (dAtomS list[k].val) u2 := r2
  obtain ⟨va, vc, rfl⟩ := r2.lsSlice
  have HR2 := Lib.hid r2
  clear hc r2
  have KL := Lib.hid (le_atoms (le_cond HO.out hlt).2)
  have HNO : Hid (condC t list[k] ≠ 0 → condsC t list = condC t list[k]) := fun h => condsC_at hlt (fun m h hm => HW.out.1 m h hm) h
  have HNX : Hid (condC t list[k] = 0 → ∀ m (h : m < list.length), m < k + 1 → condC t list[m] = 0) := fun he m h hm => by
   by_cases e : m = k
   ·
    subst e; exact he
   ·
    exact HW.out.1 m h (by omega)
  generalize list[k] = x at *
  have CC : Hid (∀ W, Below wr.heap.size wr W → Calls Tryz.prog 78 #[.agg #[.string ⟨t.nm.toArray⟩, .slice ca t.cols.length cc, .slice ua t.uq.length uc, .bool t.rt], .agg #[.string ⟨x.col.toArray⟩, .int .i64 x.fn, .slice va x.val.length vc]] W fun e w' => e = .returned (.int .i64 (condC t x)) ∧ Below W.heap.size W w') := fun W h => condCodeI t x ca cc ua uc va vc A W.heap.size W HT.out.1 KL.out.1 (HT.out.2 W (HW.out.2.2.trans (h.mono HW.out.2.2.size))) (Nat.le_refl _) (HR2.out.later h).lt.ats
  have CX : Hid (∀ W, Below wr.heap.size wr W → (W.cell? ⟨w.heap.size, 0, none⟩ = some (.string ⟨t.nm.toArray⟩) ∧ W.cell? ⟨w.heap.size, 1, none⟩ = some (.slice ca t.cols.length cc) ∧ W.cell? ⟨w.heap.size, 2, none⟩ = some (.slice ua t.uq.length uc) ∧ W.cell? ⟨w.heap.size, 3, none⟩ = some (.bool t.rt)) ∧ W.cell? ⟨b, off + k * 3, none⟩ = some (.string ⟨x.col.toArray⟩) ∧ W.cell? ⟨b, off + k * 3 + 1, none⟩ = some (.int .i64 x.fn) ∧ W.cell? ⟨b, off + k * 3 + 2, none⟩ = some (.slice va x.val.length vc)) := fun W h => ⟨⟨cell_at (o := 0) (HW.out.2.later h).1 rfl, cell_at (o := 1) (HW.out.2.later h).1 rfl, cell_at (o := 2) (HW.out.2.later h).1 rfl, cell_at (o := 3) (HW.out.2.later h).1 rfl⟩, (h.cell (p := ⟨b, off + k * 3, none⟩) (World.block_lt_of_cell? _ _ c0)).trans c0, (h.cell (p := ⟨b, off + k * 3 + 1, none⟩) (World.block_lt_of_cell? _ _ c1)).trans c1, (h.cell (p := ⟨b, off + k * 3 + 2, none⟩) (World.block_lt_of_cell? _ _ c2)).trans c2⟩
  clear c0 c1 c2
  go_wp2_with fail
  refine wp_region_held_drew (S := (fun W => (W.cell? ⟨w.heap.size, 0, none⟩ = some (.string ⟨t.nm.toArray⟩) ∧ W.cell? ⟨w.heap.size, 1, none⟩ = some (.slice ca t.cols.length cc) ∧ W.cell? ⟨w.heap.size, 2, none⟩ = some (.slice ua t.uq.length uc) ∧ W.cell? ⟨w.heap.size, 3, none⟩ = some (.bool t.rt)) ∧ W.cell? ⟨b, off + k * 3, none⟩ = some (.string ⟨x.col.toArray⟩) ∧ W.cell? ⟨b, off + k * 3 + 1, none⟩ = some (.int .i64 x.fn) ∧ W.cell? ⟨b, off + k * 3 + 2, none⟩ = some (.slice va x.val.length vc))) (by kernel_rfl) ?_ (fun hHeld => ?_)
  ·
   (first | exact CX.out _ (Below.refl _ _) | exact CX.out _ (Below.refl _ _).drew | exact CX.out _ BW.out)
  refine tkB (i := 0) ?_
  refine tkB (i := 1) ?_
  refine tkB (i := 2) ?_
  refine tkB (i := 3) ?_
  refine tkB (i := 4) ?_
  refine tkB (i := 5) ?_
  refine tkR (i := 6) (fun K hK => ?_)
  go_simp
  go_at_call 78
  refine (CC.out _ (Below.refl _ _).drew).mono ?_
  rintro e w1 ⟨rfl, hB1⟩
  have BW : Hid (Below wr.heap.size wr w1) := (Below.refl _ _).drew.trans hB1
  clear hB1
  refine hK.out _ _ ?_ (fun hHeld => ?_)
  ·
   (first | exact CX.out _ (Below.refl _ _) | exact CX.out _ (Below.refl _ _).drew | exact CX.out _ BW.out)
  clear hK K
  try simp only [Act.put, tkS]
  refine tkB (i := 7) ?_
  refine wpAnyH_done (by kernel_rfl) ?_ _
  have HB1 := Lib.hid (HW.out.2.later BW.out)
  by_cases he : condC t x = 0
  case neg =>
   have HR := Lib.hid (HNO.out he)
   have hne : (condC t x != 0) = true := by simpa using he
   clear HNO HNX he
   go_wp2_with fail
   go_ret
   exact ⟨ret_i HR.out.symm, HB1.out.2⟩
  have HN := Lib.hid (HNX.out he)
  have hne : (condC t x != 0) = false := by simpa using he
  clear HNO HNX he
  go_wp2_with fail
  go_roundw
  case rel => exact ⟨k + 1, by omega, by go_num, HN.out, HB1.out⟩
  case measure => simp [intOf]; omega
theorem rd_row1 {W : World} {R : Nat → Prop} {r : RowV} {ra : Option Addr} {rc : Nat} (ty : TypeId) (h : Rd W R (dAtomSS r.cells) (.slice ra r.cells.length rc)) : Rd (W.alloc (.cells #[.int .i64 r.id, .slice ra r.cells.length rc] ty)) (fun _ => True) (dRowS [r]) (.slice (some ⟨W.heap.size, 0, none⟩) [r].length 1) := by
 refine ⟨_, _, rfl, .inr ⟨W.heap.size, 0, rfl, trivial, by omega, fun i j hi hj => ?_⟩⟩
 have hi' : i = 0 := by simpa using hi
 subst hi'
 rw [Nat.zero_mul, Nat.add_zero, Nat.zero_add]
 rcases (by omega : j = 0 ∨ j = 1) with rfl | rfl
 ·
  exact ⟨_, cell_at (o := 0) (heap_newD _ _) rfl, rfl⟩
 ·
  exact ⟨_, cell_at (o := 1) (heap_newD _ _) rfl, (h.later (below_allocD _ _)).any⟩
theorem le_row1 {r : RowV} (h : (dAtomSS r.cells).le 1048576) (hid : iOK r.id) : (dRowS [r]).le 1048576 := by
 refine Ls_le.2 ⟨by omega, by simp, fun i hi j hj => ?_⟩
 have hi' : i = 0 := by simpa using hi
 subst hi'
 rcases (by omega : j = 0 ∨ j = 1) with rfl | rfl
 ·
  exact hid
 ·
  exact h
theorem asks1 {t : Tb} {r : RowV} {list : List CondV} (hq : ∀ k (h : k < list.length), Asks t r list[k]) : ∀ i (h : i < [r].length) k (h' : k < list.length), Asks t [r][i] list[k] := fun i hi k hk => by
 have hi' : i = 0 := by simpa using hi
 subst hi'
 exact hq k hk
theorem chosen1 (t : Tb) (ca : Option Addr) (cc : Nat) (ua : Option Addr) (uc : Nat) (A : Nat → Prop) (r : RowV) (ra : Option Addr) (rc : Nat) (R : Nat → Prop) (list : List CondV) (a : Option Addr) (c : Nat) (B : Nat → Prop) (W : World) (ho : t.ok) (hlm : (dCondS list).le maxLen) (hrs : (dAtomSS r.cells).le 1048576) (hid : iOK r.id) (hTab : TabW (W.alloc (.cells #[.int .i64 r.id, .slice ra r.cells.length rc] 81))) (h0w : 0 < (W.alloc (.cells #[.int .i64 r.id, .slice ra r.cells.length rc] 81)).heap.size) (hq : ∀ k (h : k < list.length), Asks t r list[k]) (hT : t.Has (W.alloc (.cells #[.int .i64 r.id, .slice ra r.cells.length rc] 81)) A ca ua) (hR : Rd W R (dAtomSS r.cells) (.slice ra r.cells.length rc)) (hL : Rd (W.alloc (.cells #[.int .i64 r.id, .slice ra r.cells.length rc] 81)) B (dCondS list) (.slice a list.length c)) :
  Calls Tryz.prog 80 #[.agg #[.string ⟨t.nm.toArray⟩, .slice ca t.cols.length cc, .slice ua t.uq.length uc, .bool t.rt], .slice (some ⟨W.heap.size, 0, none⟩) 1 1, .slice a list.length c] (W.alloc (.cells #[.int .i64 r.id, .slice ra r.cells.length rc] 81)) (ChAns (W.alloc (.cells #[.int .i64 r.id, .slice ra r.cells.length rc] 81)) (chosen t [r] list)) :=
 chosenI t ca cc ua uc A [r] (some ⟨W.heap.size, 0, none⟩) 1 (fun _ => True) list a c B (W.alloc (.cells #[.int .i64 r.id, .slice ra r.cells.length rc] 81)) ho hlm (le_row1 hrs hid) hTab h0w (asks1 hq) hT (rd_row1 _ hR) hL
end Go.Proofs.YtlddhbamcndggaaGreatDoor
