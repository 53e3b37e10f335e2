import Derived.Test.YtlddhbamcndggaaGreatDoorZaz
import Derived.Test.YtlddhbamcndggaaGreatDoorZbf
import Derived.Test.YtlddhbamcndggaaGreatDoorZbl
import Derived.Test.YtlddhbamcndggaaGreatDoorZbm
import Derived.Deep.CutRange
import Derived.Test.YtlddhbamcndggaaGreatDoorZTk
namespace Go.Proofs.YtlddhbamcndggaaGreatDoor
open Go.RowKit
set_option linter.unusedSimpArgs false
set_option maxRecDepth 100000 in
set_option maxHeartbeats 3200000 in
theorem findTI (l : List Tb) (s : List UInt8) (sa : Option Addr) (sc : Nat) (A : Nat → Prop) (w : World) (hlo : (dTableS l).le maxLen) (hT : Rd w A (dTableS l) (.slice sa l.length sc)) :
  Calls Tryz.prog 79 #[.agg #[.slice sa l.length sc], .string ⟨s.toArray⟩] w fun e w' => e = .returned (.int .i64 (tplC l s)) ∧ Below w.heap.size w w' := by
 have hll : l.length ≤ maxLen := (Ls_le.1 hlo).2.1
 unfold maxLen at hll
 have HT : Hid (∀ W, Below w.heap.size w W → Rd W A (Ls 4 dTable l) (.slice sa l.length sc)) := fun W h => Rd.later hT h
 have HX := Lib.hid (boxD 40 w #[.slice sa l.length sc])
 clear hlo hT
 go_enter Tryz.func79, Tryz.ntmps79
 have x0 := cell_at (o := 0) HX.out.1 rfl
 go_wp2_with fail
 clear x0
 go_loopw [9] (fun i wr => ∃ k : Nat, k ≤ l.length ∧ i = .int .i64 k ∧ Hid ((∀ m (h : m < l.length), m < k → l[m].nm ≠ s) ∧ BoxD 40 w wr #[.slice sa l.length sc])) (fun i _ => l.length - (intOf i).toNat)
 case atStart => exact ⟨0, Nat.zero_le _, rfl, fun m _ h => absurd h (by omega), HX.out⟩
 case round =>
  obtain ⟨k, hk, rfl, HW⟩ := hrel
  have x0 := cell_at (o := 0) HW.out.2.1 rfl
  by_cases hlt : k < l.length
  ·
   have hki : (k : Int) < (l.length : Int) := by omega
   obtain ⟨b, off, rfl, -, hc⟩ := (HT.out _ HW.out.2.2).things k hlt
   obtain ⟨u0, c0, r0⟩ := hc 0 (by omega)
   obtain rfl : u0 = .string ⟨l[k].nm.toArray⟩ := r0
   rw [Nat.add_zero] at c0
   clear hc
   by_cases he : l[k].nm = s
   ·
    have HP : Hid (tplC l s = k) := tpl_at hlt he (fun j h hj => HW.out.1 j h hj)
    rw [he] at c0
    clear he
    go_wp2_with fail
    go_ret
    exact ⟨ret_i HP.out.symm, HW.out.2.2⟩
   ·
    have HN : Hid (∀ m (h : m < l.length), m < k + 1 → l[m].nm ≠ s) := fun m h hm => by
     by_cases e : m = k
     ·
      subst e; exact he
     ·
      exact HW.out.1 m h (by omega)
    have hne : (l[k].nm == s) = false := by simpa using he
    clear he
    generalize l[k] = x at *
    go_wp2_with fail
    go_roundw
    case rel => exact ⟨k + 1, by omega, by go_num, HN.out, HW.out.2⟩
    case measure => simp [intOf]; omega
  ·
   have HP : Hid (tplC l s = -1) := tpl_none (fun m h => HW.out.1 m h (by omega))
   have hki : decide ((k : Int) < (l.length : Int)) = false := by simp; omega
   go_wp2_with fail
   go_ret
   exact ⟨ret_i HP.out.symm, HW.out.2.2⟩
def tabN (l : List Tb) (s : List UInt8) : Tb := if tplC l s < 0 then tbZ else l.getD (tplC l s).toNat tbZ
def tabK (l : List Tb) (s : List UInt8) : Int := if tplC l s < 0 then 10 else 0
theorem tabN_none {l : List Tb} {s : List UInt8} (h : tplC l s = -1) : tabN l s = tbZ ∧ tabK l s = 10 := ⟨by unfold tabN; rw [h, if_pos (by omega)], by unfold tabK; rw [h, if_pos (by omega)]⟩
theorem tabN_at {l : List Tb} {s : List UInt8} {k : Nat} (hk : k < l.length) (h : tplC l s = k) : tabN l s = l[k] ∧ tabK l s = 0 := ⟨by
 unfold tabN; rw [h, if_neg (by omega), Int.toNat_natCast, List.getD_eq_getElem?_getD, List.getElem?_eq_getElem hk]; rfl, by unfold tabK; rw [h, if_neg (by omega)]⟩
theorem tbZ_has {w : World} {A : Nat → Prop} : tbZ.Has w A none none := Rd.hasT (uc := 0) (cc := 0) (Rd.lsNil (α := Cl) (n := 8) (d := dColumn) none 0) (Rd.lsNil (α := Int) (n := 1) (d := cInt) none 0)
theorem tbZ_ok : tbZ.ok := le_table (Nat.zero_le _) (Ls_le.2 ⟨by omega, Nat.zero_le _, fun i hi => absurd hi (by simp [tbZ])⟩) (Ls_le.2 ⟨by omega, Nat.zero_le _, fun i hi => absurd hi (by simp [tbZ])⟩)
theorem tabN_ok {l : List Tb} {s : List UInt8} (h : (dTableS l).le maxLen) : (tabN l s).ok := by
  rcases tpl_rng s l with e | ⟨k, hk, e, -⟩
  · rw [(tabN_none e).1]; exact tbZ_ok
  · rw [(tabN_at hk e).1]; exact le_table ((Ls_le.1 h).2.2 k hk 0 (by omega)) ((Ls_le.1 h).2.2 k hk 1 (by omega)) ((Ls_le.1 h).2.2 k hk 2 (by omega))
theorem below4 {w W : World} (b : Nat) (h : Below w.heap.size w W) (hb : w.heap.size ≤ b) (v0 v1 v2 v3 : Value) : Below w.heap.size w ((((W.setCell ⟨b, 0, none⟩ v0).setCell ⟨b, 1, none⟩ v1).setCell ⟨b, 2, none⟩ v2).setCell ⟨b, 3, none⟩ v3) :=
 (((h.setCell hb _).setCell hb _).setCell hb _).setCell hb _
def TcAns (l : List Tb) (s : List UInt8) (A : Nat → Prop) (w0 w : World) (e : Ending) (w' : World) : Prop := ∃ ca cc ua uc, e = .returned (.tuple #[.agg #[.string ⟨(tabN l s).nm.toArray⟩, .slice ca (tabN l s).cols.length cc, .slice ua (tabN l s).uq.length uc, .bool (tabN l s).rt], .int .i64 (tabK l s)]) ∧ (tabN l s).Has w0 A ca ua ∧ Below w.heap.size w w'
set_option maxRecDepth 100000 in
set_option maxHeartbeats 3200000 in
theorem tabCalledI (l : List Tb) (s : List UInt8) (sa : Option Addr) (sc : Nat) (A : Nat → Prop) (w0 w : World) (hB0 : Below w0.heap.size w0 w) (hlo : (dTableS l).le maxLen) (hT : Rd w0 A (dTableS l) (.slice sa l.length sc)) :
  Calls Tryz.prog 74 #[.agg #[.slice sa l.length sc], .string ⟨s.toArray⟩] w (TcAns l s A w0 w) := by
 have PL : Hid (∀ W, BoxE 40 75 w W #[.slice sa l.length sc] #[.string ⟨#[]⟩, .slice none 0 0, .slice none 0 0, .bool false] → Calls Tryz.prog 79 #[.agg #[.slice sa l.length sc], .string ⟨s.toArray⟩] W fun e w' => e = .returned (.int .i64 (tplC l s)) ∧ BoxE 40 75 w w' #[.slice sa l.length sc] #[.string ⟨#[]⟩, .slice none 0 0, .slice none 0 0, .bool false]) := fun W h => (findTI l s sa sc A W hlo (hT.later (hB0.trans (h.bel.mono hB0.size)))).mono (fun e w' ⟨he, hB⟩ => ⟨he, h.later hB⟩)
 have HT : Hid (Rd w0 A (Ls 4 dTable l) (.slice sa l.length sc)) := hT
 have HB0 := Lib.hid hB0
 have hll : l.length ≤ maxLen := (Ls_le.1 hlo).2.1
 unfold maxLen at hll
 have hb := boxE 40 75 w #[.slice sa l.length sc] #[.string ⟨#[]⟩, .slice none 0 0, .slice none 0 0, .bool false]
 have x0 := cell_at (o := 0) hb.a rfl
 have HB := Lib.hid hb
 clear hlo hT hb hB0
 rcases tpl_rng s l with hp | ⟨k, hk, hp, -⟩
 ·
  have HE := Lib.hid (tabN_none hp)
  have HZ : Hid (tbZ.Has w0 A none none) := tbZ_has
  rw [hp] at PL
  clear hp
  go_enter Tryz.func74, Tryz.ntmps74
  go_wp2_with fail
  refine (PL.out _ HB.out).mono ?_
  rintro e w1 ⟨rfl, hb⟩
  clear x0
  have r0 := cell_at (o := 0) hb.b rfl
  have g0 := frozen_at 0 hb.b
  have r1 := cell_at (o := 1) hb.b rfl
  have g1 := frozen_at 1 hb.b
  have r2 := cell_at (o := 2) hb.b rfl
  have g2 := frozen_at 2 hb.b
  have r3 := cell_at (o := 3) hb.b rfl
  have g3 := frozen_at 3 hb.b
  have HB1 := Lib.hid hb.bel
  clear hb
  go_wp2_with fail
  refine bodyPost_ret (v := .tuple #[.agg #[.string ⟨#[]⟩, .slice none 0 0, .slice none 0 0, .bool false], .int .i64 10]) (by simp [results, Tryz.results74, go_sem, *]) rfl ?_
  exact ⟨none, 0, none, 0, by rw [HE.out.1, HE.out.2]; rfl, by rw [HE.out.1]; exact HZ.out, below4 _ HB1.out (by omega) _ _ _ _⟩
 have HE := Lib.hid (tabN_at hk hp)
 have hki : (k : Int) < (l.length : Int) := by omega
 rw [hp] at PL
 clear hp
 obtain ⟨tq, tf, rfl, -, tc⟩ := HT.out.things k hk
 obtain ⟨u0, t0, q0⟩ := tc 0 (by omega)
 obtain rfl : u0 = .string ⟨l[k].nm.toArray⟩ := q0
 rw [Nat.add_zero] at t0
 obtain ⟨u1, t1, q1⟩ := tc 1 (by omega)
 replace q1 : Rd w0 A (dColumnS l[k].cols) u1 := q1
 obtain ⟨ca, cc, rfl⟩ := q1.lsSlice
 obtain ⟨u2, t2, q2⟩ := tc 2 (by omega)
 replace q2 : Rd w0 A (dIntS l[k].uq) u2 := q2
 obtain ⟨ua, uc, rfl⟩ := q2.lsSlice
 obtain ⟨u3, t3, q3⟩ := tc 3 (by omega)
 obtain rfl : u3 = .bool l[k].rt := q3
 have HH : Hid (l[k].Has w0 A ca ua) := Rd.hasT q1 q2
 have TCE : Hid (∀ W, Below w0.heap.size w0 W → W.cell? ⟨tq, tf + k * 4, none⟩ = some (.string ⟨l[k].nm.toArray⟩) ∧ W.cell? ⟨tq, tf + k * 4 + 1, none⟩ = some (.slice ca l[k].cols.length cc) ∧ W.cell? ⟨tq, tf + k * 4 + 2, none⟩ = some (.slice ua l[k].uq.length uc) ∧ W.cell? ⟨tq, tf + k * 4 + 3, none⟩ = some (.bool l[k].rt)) := fun W h => ⟨(h.cell (p := ⟨tq, tf + k * 4, none⟩) (World.block_lt_of_cell? _ _ t0)).trans t0, (h.cell (p := ⟨tq, tf + k * 4 + 1, none⟩) (World.block_lt_of_cell? _ _ t1)).trans t1, (h.cell (p := ⟨tq, tf + k * 4 + 2, none⟩) (World.block_lt_of_cell? _ _ t2)).trans t2, (h.cell (p := ⟨tq, tf + k * 4 + 3, none⟩) (World.block_lt_of_cell? _ _ t3)).trans t3⟩
 clear tc t0 t1 t2 t3 q1 q2 HT
 generalize l[k] = t at *
 go_enter Tryz.func74, Tryz.ntmps74
 go_wp2_with fail
 refine (PL.out _ HB.out).mono ?_
 rintro e w1 ⟨rfl, hb⟩
 clear x0
 have x0 := cell_at (o := 0) hb.a rfl
 obtain ⟨t0, t1, t2, t3⟩ := TCE.out _ (HB0.out.trans (hb.bel.mono HB0.out.size))
 have r0 := cell_at (o := 0) hb.b rfl
 have g0 := frozen_at 0 hb.b
 have r1 := cell_at (o := 1) hb.b rfl
 have g1 := frozen_at 1 hb.b
 have r2 := cell_at (o := 2) hb.b rfl
 have g2 := frozen_at 2 hb.b
 have r3 := cell_at (o := 3) hb.b rfl
 have g3 := frozen_at 3 hb.b
 have HB1 := Lib.hid hb.bel
 clear hb
 go_wp2_with fail
 refine bodyPost_ret (v := .tuple #[.agg #[.string ⟨t.nm.toArray⟩, .slice ca t.cols.length cc, .slice ua t.uq.length uc, .bool t.rt], .int .i64 0]) (by simp [results, Tryz.results74, go_sem, *]) rfl ?_
 exact ⟨ca, cc, ua, uc, by rw [HE.out.1, HE.out.2], by rw [HE.out.1]; exact HH.out, below4 _ HB1.out (by omega) _ _ _ _⟩
set_option maxRecDepth 100000 in
theorem isThereI (id : Int) (n : Nat) (rb ro : Nat) (ra : Option Addr) (rc : Nat) (w : World) (hz : id = 0 → n = 0) (i0 : w.cell? ⟨rb, ro, none⟩ = some (.int .i64 id)) (i1 : w.cell? ⟨rb, ro + 1, none⟩ = some (.slice ra n rc)) :
  Calls Tryz.prog 39 #[.pointer (some ⟨rb, ro, none⟩)] w fun e w' => e = .returned (.bool (id != 0)) ∧ Below w.heap.size w w' := by
 have hb : Below w.heap.size w w := Below.refl _ _
 by_cases h : id = 0
 ·
  obtain rfl := hz h
  subst h
  go_enter Tryz.func39, Tryz.ntmps39
  go_wp2_with fail
  go_ret
  exact ⟨rfl, hb⟩
 ·
  have e0 : (id != 0) = true := by simpa using h
  rw [e0]
  clear h hz
  go_enter Tryz.func39, Tryz.ntmps39
  go_wp2_with fail
  go_ret
  exact ⟨rfl, hb⟩
def putsC (b : Nat) (l : List (Nat × Value)) (w : World) : World := l.foldl (fun w p => w.setCell ⟨b, p.1, none⟩ p.2) w
theorem frm_puts (b : Nat) : ∀ (l : List (Nat × Value)) (w : World), Frm (· = b) w (putsC b l w)
 | [], _ => Frm.refl _ _
 | p :: l, w => (frm_set w b p.1 p.2).trans (frm_puts b l _)
theorem heap_puts (b : Nat) (ty : TypeId) : ∀ (l : List (Nat × Value)) (w : World) (cs : Array Value), w.heap[b]? = some (.cells cs ty) → (putsC b l w).heap[b]? = some (.cells (l.foldl (fun cs p => cs.setIfInBounds p.1 p.2) cs) ty)
 | [], _, _, h => h
 | p :: l, _, _, h => heap_puts b ty l _ _ (heap_set p.1 p.2 h)
set_option maxRecDepth 100000 in
set_option maxHeartbeats 12800000 in
theorem watchOfI (l : List Tb) (sa : Option Addr) (sc : Nat) (A : Nat → Prop) (m : MoV) (a2 : Option Addr) (c2 : Nat) (a7 : Option Addr) (c7 : Nat) (w : World) (k : Nat) (hk : k < l.length) (ht : tplC l m.tb = k) (hlo : (dTableS l).le maxLen) (hT : Rd w A (dTableS l) (.slice sa l.length sc)) :
  Calls Tryz.prog 37 #[.agg #[.slice sa l.length sc], .agg #[.string ⟨m.nm.toArray⟩, .string ⟨m.tb.toArray⟩, .slice a2 m.cs.length c2, .bool m.ini, .bool m.ins, .bool m.del, .bool m.mod, .slice a7 m.wh.length c7]] w fun e w' => ∃ ca cc ua uc, e = .returned (.agg #[.string ⟨m.nm.toArray⟩, .string ⟨m.tb.toArray⟩, .slice a2 m.cs.length c2, .bool m.ini, .bool m.ins, .bool m.del, .bool m.mod, .slice a7 m.wh.length c7, .int .i64 k, .string ⟨l[k].nm.toArray⟩, .slice ca l[k].cols.length cc, .slice ua l[k].uq.length uc, .bool l[k].rt]) ∧ l[k].Has w' A ca ua ∧ Below w.heap.size w w' := by
 have WZ := boxF 40 48 77 w #[.slice sa l.length sc] #[.string ⟨m.nm.toArray⟩, .string ⟨m.tb.toArray⟩, .slice a2 m.cs.length c2, .bool m.ini, .bool m.ins, .bool m.del, .bool m.mod, .slice a7 m.wh.length c7] #[.string ⟨#[]⟩, .string ⟨#[]⟩, .slice none 0 0, .bool false, .bool false, .bool false, .bool false, .slice none 0 0, .int .i64 0, .string ⟨#[]⟩, .slice none 0 0, .slice none 0 0, .bool false]
 have HB0 := Lib.hid WZ
 have FI : Hid (∀ W, Below w.heap.size w W → Calls Tryz.prog 79 #[.agg #[.slice sa l.length sc], .string ⟨m.tb.toArray⟩] W fun e w' => e = .returned (.int .i64 k) ∧ Below W.heap.size W w') := fun W h => by
  have := findTI l m.tb sa sc A W hlo (hT.later h)
  rw [ht] at this
  exact this
 obtain ⟨tq, tf, rfl, -, tc⟩ := Rd.things (d := dTable) (n := 4) hT k hk
 obtain ⟨u0, t0, q0⟩ := tc 0 (by omega)
 obtain rfl : u0 = .string ⟨l[k].nm.toArray⟩ := q0
 rw [Nat.add_zero] at t0
 obtain ⟨u1, t1, q1⟩ := tc 1 (by omega)
 replace q1 : Rd w A (dColumnS l[k].cols) u1 := q1
 obtain ⟨ca, cc, rfl⟩ := q1.lsSlice
 obtain ⟨u2, t2, q2⟩ := tc 2 (by omega)
 replace q2 : Rd w A (dIntS l[k].uq) u2 := q2
 obtain ⟨ua, uc, rfl⟩ := q2.lsSlice
 obtain ⟨u3, t3, q3⟩ := tc 3 (by omega)
 obtain rfl : u3 = .bool l[k].rt := q3
 have HH : Hid (∀ W, Below w.heap.size w W → l[k].Has W A ca ua) := fun W h => Rd.hasT (q1.later h) (q2.later h)
 have TCE : Hid (∀ W, Below w.heap.size w W → W.cell? ⟨tq, tf + k * 4, none⟩ = some (.string ⟨l[k].nm.toArray⟩) ∧ W.cell? ⟨tq, tf + k * 4 + 1, none⟩ = some (.slice ca l[k].cols.length cc) ∧ W.cell? ⟨tq, tf + k * 4 + 2, none⟩ = some (.slice ua l[k].uq.length uc) ∧ W.cell? ⟨tq, tf + k * 4 + 3, none⟩ = some (.bool l[k].rt)) := fun W h => ⟨(h.cell (p := ⟨tq, tf + k * 4, none⟩) (World.block_lt_of_cell? _ _ t0)).trans t0, (h.cell (p := ⟨tq, tf + k * 4 + 1, none⟩) (World.block_lt_of_cell? _ _ t1)).trans t1, (h.cell (p := ⟨tq, tf + k * 4 + 2, none⟩) (World.block_lt_of_cell? _ _ t2)).trans t2, (h.cell (p := ⟨tq, tf + k * 4 + 3, none⟩) (World.block_lt_of_cell? _ _ t3)).trans t3⟩
 have hki : (k : Int) < (l.length : Int) := by omega
 have TLT : tq < w.heap.size := World.block_lt_of_cell? _ _ t0
 clear tc t0 t1 t2 t3 q1 q2 hT ht hlo WZ
 have HKK := Lib.hid hk
 generalize l[k] = t at *
 clear hk
 have x0 := cell_at (o := 0) HB0.out.a rfl
 have y0 := cell_at (o := 0) HB0.out.b rfl
 have y1 := cell_at (o := 1) HB0.out.b rfl
 have y2 := cell_at (o := 2) HB0.out.b rfl
 have y3 := cell_at (o := 3) HB0.out.b rfl
 have y4 := cell_at (o := 4) HB0.out.b rfl
 have y5 := cell_at (o := 5) HB0.out.b rfl
 have y6 := cell_at (o := 6) HB0.out.b rfl
 have y7 := cell_at (o := 7) HB0.out.b rfl
 go_enter Tryz.func37, Tryz.ntmps37
 go_wp2_with fail
 refine (FI.out _ HB0.out.bel).mono ?_
 rintro e w1 ⟨rfl, hB⟩
 have HB1 := Lib.hid (HB0.out.later hB)
 clear hB x0 y0 y1 y2 y3 y4 y5 y6 y7
 have x0 := cell_at (o := 0) HB1.out.a rfl
 have y0 := cell_at (o := 0) HB1.out.b rfl
 have y1 := cell_at (o := 1) HB1.out.b rfl
 have y2 := cell_at (o := 2) HB1.out.b rfl
 have y3 := cell_at (o := 3) HB1.out.b rfl
 have y4 := cell_at (o := 4) HB1.out.b rfl
 have y5 := cell_at (o := 5) HB1.out.b rfl
 have y6 := cell_at (o := 6) HB1.out.b rfl
 have y7 := cell_at (o := 7) HB1.out.b rfl
 have d0 := cell_at (o := 0) HB1.out.c rfl
 have f0 := frozen_at 0 HB1.out.c
 have d1 := cell_at (o := 1) HB1.out.c rfl
 have f1 := frozen_at 1 HB1.out.c
 have d2 := cell_at (o := 2) HB1.out.c rfl
 have f2 := frozen_at 2 HB1.out.c
 have d3 := cell_at (o := 3) HB1.out.c rfl
 have f3 := frozen_at 3 HB1.out.c
 have d4 := cell_at (o := 4) HB1.out.c rfl
 have f4 := frozen_at 4 HB1.out.c
 have d5 := cell_at (o := 5) HB1.out.c rfl
 have f5 := frozen_at 5 HB1.out.c
 have d6 := cell_at (o := 6) HB1.out.c rfl
 have f6 := frozen_at 6 HB1.out.c
 have d7 := cell_at (o := 7) HB1.out.c rfl
 have f7 := frozen_at 7 HB1.out.c
 have d8 := cell_at (o := 8) HB1.out.c rfl
 have f8 := frozen_at 8 HB1.out.c
 have d9 := cell_at (o := 9) HB1.out.c rfl
 have f9 := frozen_at 9 HB1.out.c
 have d10 := cell_at (o := 10) HB1.out.c rfl
 have f10 := frozen_at 10 HB1.out.c
 have d11 := cell_at (o := 11) HB1.out.c rfl
 have f11 := frozen_at 11 HB1.out.c
 have d12 := cell_at (o := 12) HB1.out.c rfl
 have f12 := frozen_at 12 HB1.out.c
 obtain ⟨t0, t1, t2, t3⟩ := TCE.out _ HB1.out.bel
 go_wp2_with fail
 have HTQ : Hid (tq < w.heap.size) := TLT
 have SE : Hid (∀ W, Frm (· = w.heap.size + 1 + 1) w1 W → W.cell? ⟨w.heap.size, 0, none⟩ = some (.slice (some ⟨tq, tf, none⟩) l.length sc) ∧ W.cell? ⟨w.heap.size + 1, 0, none⟩ = some (.string ⟨m.nm.toArray⟩) ∧ W.cell? ⟨w.heap.size + 1, 1, none⟩ = some (.string ⟨m.tb.toArray⟩) ∧ W.cell? ⟨w.heap.size + 1, 2, none⟩ = some (.slice a2 m.cs.length c2) ∧ W.cell? ⟨w.heap.size + 1, 3, none⟩ = some (.bool m.ini) ∧ W.cell? ⟨w.heap.size + 1, 4, none⟩ = some (.bool m.ins) ∧ W.cell? ⟨w.heap.size + 1, 5, none⟩ = some (.bool m.del) ∧ W.cell? ⟨w.heap.size + 1, 6, none⟩ = some (.bool m.mod) ∧ W.cell? ⟨w.heap.size + 1, 7, none⟩ = some (.slice a7 m.wh.length c7) ∧ W.cell? ⟨tq, tf + k * 4, none⟩ = some (.string ⟨t.nm.toArray⟩) ∧ W.cell? ⟨tq, tf + k * 4 + 1, none⟩ = some (.slice ca t.cols.length cc) ∧ W.cell? ⟨tq, tf + k * 4 + 2, none⟩ = some (.slice ua t.uq.length uc) ∧ W.cell? ⟨tq, tf + k * 4 + 3, none⟩ = some (.bool t.rt)) := fun W h => by
  have hs := HTQ.out
  have ha := (h.block _ (Array.getElem?_eq_some_iff.1 HB1.out.a).1 (fun e => by have e2 : w.heap.size = w.heap.size + 1 + 1 := e; omega)).trans HB1.out.a
  have hb := (h.block _ (Array.getElem?_eq_some_iff.1 HB1.out.b).1 (fun e => by have e2 : w.heap.size + 1 = w.heap.size + 1 + 1 := e; omega)).trans HB1.out.b
  have ht : W.heap[tq]? = w1.heap[tq]? := h.block _ (by have := HB1.out.bel.size; omega) (fun e => by have e2 : tq = w.heap.size + 1 + 1 := e; omega)
  have hc : ∀ o, W.cell? ⟨tq, o, none⟩ = w1.cell? ⟨tq, o, none⟩ := fun o => by simp only [World.cell?, ht]
  obtain ⟨h0, h1, h2, h3⟩ := TCE.out _ HB1.out.bel
  exact ⟨cell_at (o := 0) ha rfl, cell_at (o := 0) hb rfl, cell_at (o := 1) hb rfl, cell_at (o := 2) hb rfl, cell_at (o := 3) hb rfl, cell_at (o := 4) hb rfl, cell_at (o := 5) hb rfl, cell_at (o := 6) hb rfl, cell_at (o := 7) hb rfl, (hc _).trans h0, (hc _).trans h1, (hc _).trans h2, (hc _).trans h3⟩
 obtain ⟨V, hV⟩ : ∃ V : World, V = (((((((((((((w1.setCell ⟨w.heap.size + 1 + 1, 0, none⟩ (.string ⟨m.nm.toArray⟩)).setCell ⟨w.heap.size + 1 + 1, 1, none⟩ (.string ⟨m.tb.toArray⟩)).setCell ⟨w.heap.size + 1 + 1, 2, none⟩ (.slice a2 m.cs.length c2)).setCell ⟨w.heap.size + 1 + 1, 3, none⟩ (.bool m.ini)).setCell ⟨w.heap.size + 1 + 1, 4, none⟩ (.bool m.ins)).setCell ⟨w.heap.size + 1 + 1, 5, none⟩ (.bool m.del)).setCell ⟨w.heap.size + 1 + 1, 6, none⟩ (.bool m.mod)).setCell ⟨w.heap.size + 1 + 1, 7, none⟩ (.slice a7 m.wh.length c7)).setCell ⟨w.heap.size + 1 + 1, 8, none⟩ (.int .i64 k)).setCell ⟨w.heap.size + 1 + 1, 9, none⟩ (.string ⟨t.nm.toArray⟩)).setCell ⟨w.heap.size + 1 + 1, 10, none⟩ (.slice ca t.cols.length cc)).setCell ⟨w.heap.size + 1 + 1, 11, none⟩ (.slice ua t.uq.length uc)).setCell ⟨w.heap.size + 1 + 1, 12, none⟩ (.bool t.rt)) := ⟨_, rfl⟩
 have hP : V = putsC (w.heap.size + 1 + 1) [(0, .string ⟨m.nm.toArray⟩), (1, .string ⟨m.tb.toArray⟩), (2, .slice a2 m.cs.length c2), (3, .bool m.ini), (4, .bool m.ins), (5, .bool m.del), (6, .bool m.mod), (7, .slice a7 m.wh.length c7), (8, .int .i64 k), (9, .string ⟨t.nm.toArray⟩), (10, .slice ca t.cols.length cc), (11, .slice ua t.uq.length uc), (12, .bool t.rt)] w1 := hV
 have FR : Hid (Frm (· = w.heap.size + 1 + 1) w1 V.drew) := by rw [hP]; exact (frm_puts _ _ _).trans (Frm.of_below (Below.refl _ _).drew)
 have HXV : Hid (V.heap[w.heap.size + 1 + 1]? = some (.cells #[.string ⟨m.nm.toArray⟩, .string ⟨m.tb.toArray⟩, .slice a2 m.cs.length c2, .bool m.ini, .bool m.ins, .bool m.del, .bool m.mod, .slice a7 m.wh.length c7, .int .i64 k, .string ⟨t.nm.toArray⟩, .slice ca t.cols.length cc, .slice ua t.uq.length uc, .bool t.rt] 77)) := by rw [hP]; refine (heap_puts _ _ _ w1 _ HB1.out.c).trans ?_; simp only [List.foldl, List.setIfInBounds_toArray, List.set_cons_zero, List.set_cons_succ]
 have BV : Hid (Below w.heap.size w V.drew) := HB1.out.bel.trans (FR.out.below HB1.out.bel.size (fun b hb e => by have e2 : b = w.heap.size + 1 + 1 := e; omega))
 clear hP
 have HV := Lib.hid hV
 clear hV
 clear t0 t1 t2 t3 x0 y0 y1 y2 y3 y4 y5 y6 y7
 refine wp_region_held_drew (S := (fun W => W.cell? ⟨w.heap.size, 0, none⟩ = some (.slice (some ⟨tq, tf, none⟩) l.length sc) ∧ W.cell? ⟨w.heap.size + 1, 0, none⟩ = some (.string ⟨m.nm.toArray⟩) ∧ W.cell? ⟨w.heap.size + 1, 1, none⟩ = some (.string ⟨m.tb.toArray⟩) ∧ W.cell? ⟨w.heap.size + 1, 2, none⟩ = some (.slice a2 m.cs.length c2) ∧ W.cell? ⟨w.heap.size + 1, 3, none⟩ = some (.bool m.ini) ∧ W.cell? ⟨w.heap.size + 1, 4, none⟩ = some (.bool m.ins) ∧ W.cell? ⟨w.heap.size + 1, 5, none⟩ = some (.bool m.del) ∧ W.cell? ⟨w.heap.size + 1, 6, none⟩ = some (.bool m.mod) ∧ W.cell? ⟨w.heap.size + 1, 7, none⟩ = some (.slice a7 m.wh.length c7) ∧ W.cell? ⟨tq, tf + k * 4, none⟩ = some (.string ⟨t.nm.toArray⟩) ∧ W.cell? ⟨tq, tf + k * 4 + 1, none⟩ = some (.slice ca t.cols.length cc) ∧ W.cell? ⟨tq, tf + k * 4 + 2, none⟩ = some (.slice ua t.uq.length uc) ∧ W.cell? ⟨tq, tf + k * 4 + 3, none⟩ = some (.bool t.rt))) (by kernel_rfl) ?_ (fun hHeld => ?_)
 ·
  (exact SE.out _ (Frm.of_below (Below.refl _ _).drew))
 refine tkB (i := 0) ?_
 refine tkB (i := 1) ?_
 refine tkB (i := 2) ?_
 refine tkB (i := 3) ?_
 refine tkB (i := 4) ?_
 refine tkB (i := 5) ?_
 refine tkB (i := 6) ?_
 refine tkB (i := 7) ?_
 refine tkR (i := 8) (fun K hK => ?_)
 go_simp
 refine hK.out _ _ ?_ (fun hHeld => ?_)
 ·
  (rw [← HV.out]; exact SE.out _ FR.out)
 clear hK K
 try simp only [Act.put, tkS]
 refine wpAnyH_done (by kernel_rfl) ?_ _
 rw [← HV.out]
 clear d0 f0 d1 f1 d2 f2 d3 f3 d4 f4 d5 f5 d6 f6 d7 f7 d8 f8 d9 f9 d10 f10 d11 f11 d12 f12
 have e0 := cell_at (o := 0) HXV.out rfl
 have e1 := cell_at (o := 1) HXV.out rfl
 have e2 := cell_at (o := 2) HXV.out rfl
 have e3 := cell_at (o := 3) HXV.out rfl
 have e4 := cell_at (o := 4) HXV.out rfl
 have e5 := cell_at (o := 5) HXV.out rfl
 have e6 := cell_at (o := 6) HXV.out rfl
 have e7 := cell_at (o := 7) HXV.out rfl
 have e8 := cell_at (o := 8) HXV.out rfl
 have e9 := cell_at (o := 9) HXV.out rfl
 have e10 := cell_at (o := 10) HXV.out rfl
 have e11 := cell_at (o := 11) HXV.out rfl
 have e12 := cell_at (o := 12) HXV.out rfl
 go_wp2_with fail
 refine bodyPost_ret (v := .agg #[.string ⟨m.nm.toArray⟩, .string ⟨m.tb.toArray⟩, .slice a2 m.cs.length c2, .bool m.ini, .bool m.ins, .bool m.del, .bool m.mod, .slice a7 m.wh.length c7, .int .i64 k, .string ⟨t.nm.toArray⟩, .slice ca t.cols.length cc, .slice ua t.uq.length uc, .bool t.rt]) (by simp [results, Tryz.results37, go_sem, *]) rfl ?_
 exact ⟨ca, cc, ua, uc, rfl, HH.out _ BV.out, BV.out⟩
end Go.Proofs.YtlddhbamcndggaaGreatDoor
