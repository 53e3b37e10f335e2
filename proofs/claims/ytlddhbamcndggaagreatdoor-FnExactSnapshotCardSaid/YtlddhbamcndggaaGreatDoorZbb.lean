import Derived.Test.YtlddhbamcndggaaGreatDoorZaz
import Derived.Test.YtlddhbamcndggaaGreatDoorZba
import Derived.Test.YtlddhbamcndggaaGreatDoorZTk
namespace Go.Proofs.YtlddhbamcndggaaGreatDoor
open Go.RowKit
set_option linter.unusedSimpArgs false
noncomputable def moT (t : Tb) (m : MoV) : Int := if m.cs.all (fun s => decide (0 ≤ placeC t.cols s)) = true then condsC t m.wh else 11
noncomputable def moC (l : List Tb) (m : MoV) : Int := if tplC l m.tb < 0 then 10 else match l[(tplC l m.tb).toNat]? with
 | none => 10
 | some t => moT t m
theorem mo_none {l : List Tb} {m : MoV} (h : tplC l m.tb = -1) : moC l m = 10 := by unfold moC; rw [h, if_pos (by omega)]
theorem mo_at {l : List Tb} {m : MoV} {k : Nat} (hk : k < l.length) (h : tplC l m.tb = k) : moC l m = moT l[k] m := by
 unfold moC; rw [h, if_neg (by omega), Int.toNat_natCast, List.getElem?_eq_getElem hk]
theorem moT_no {t : Tb} {m : MoV} {k : Nat} (hk : k < m.cs.length) (h : placeC t.cols m.cs[k] = -1) : moT t m = 11 := by
 unfold moT; rw [if_neg]; intro hn
 have := of_decide_eq_true (List.all_eq_true.1 hn _ (List.getElem_mem hk))
 omega
theorem moT_yes {t : Tb} {m : MoV} (h : ∀ k (hk : k < m.cs.length), 0 ≤ placeC t.cols m.cs[k]) : moT t m = condsC t m.wh := by
 unfold moT; rw [if_pos]
 exact List.all_eq_true.2 (fun x hx => by obtain ⟨k, hk, rfl⟩ := List.mem_iff_getElem.1 hx; exact decide_eq_true (h k hk))
set_option maxRecDepth 100000 in
set_option maxHeartbeats 12800000 in
theorem mcodeS (l : List Tb) (sa : Option Addr) (sc : Nat) (A : Nat → Prop) (m : MoV) (a2 : Option Addr) (c2 : Nat) (a7 : Option Addr) (c7 : Nat) (B : Nat → Prop) (w : World) (hlo : (dTableS l).le maxLen) (hc : (dStringS m.cs).le maxLen) (hw : (dCondS m.wh).le maxLen) (hT : Rd w A (dTableS l) (.slice sa l.length sc)) (rc : Rd w B (dStringS m.cs) (.slice a2 m.cs.length c2)) (rh : Rd w B (dCondS m.wh) (.slice a7 m.wh.length c7)) :
  Calls Tryz.prog 28 #[.agg #[.slice sa l.length sc], .agg #[.string ⟨m.nm.toArray⟩, .string ⟨m.tb.toArray⟩, .slice a2 m.cs.length c2, .bool m.ini, .bool m.ins, .bool m.del, .bool m.mod, .slice a7 m.wh.length c7]] w fun e w' => e = .returned (.int .i64 (moC l m)) ∧ Below w.heap.size w w' := by
 have FS : Hid (∀ W, BoxE 40 48 w W #[.slice sa l.length sc] #[.string ⟨m.nm.toArray⟩, .string ⟨m.tb.toArray⟩, .slice a2 m.cs.length c2, .bool m.ini, .bool m.ins, .bool m.del, .bool m.mod, .slice a7 m.wh.length c7] → Calls Tryz.prog 56 #[.agg #[.slice sa l.length sc], .string ⟨m.tb.toArray⟩] W fun e w' => e = .returned (.int .i64 (tplC l m.tb)) ∧ BoxE 40 48 w w' #[.slice sa l.length sc] #[.string ⟨m.nm.toArray⟩, .string ⟨m.tb.toArray⟩, .slice a2 m.cs.length c2, .bool m.ini, .bool m.ins, .bool m.del, .bool m.mod, .slice a7 m.wh.length c7]) := fun W h => (findTS l m.tb sa sc A W hlo (hT.later h.bel)).mono (fun e w' ⟨he, hB⟩ => ⟨he, h.later hB⟩)
 have hb := boxE 40 48 w #[.slice sa l.length sc] #[.string ⟨m.nm.toArray⟩, .string ⟨m.tb.toArray⟩, .slice a2 m.cs.length c2, .bool m.ini, .bool m.ins, .bool m.del, .bool m.mod, .slice a7 m.wh.length c7]
 have HB := Lib.hid hb
 have hll : l.length ≤ maxLen := (Ls_le.1 hlo).2.1
 have hcl : m.cs.length ≤ maxLen := (Ls_le.1 hc).2.1
 unfold maxLen at hll hcl
 have x0 := cell_at (o := 0) hb.a rfl
 have y0 := cell_at (o := 0) hb.b rfl
 have y1 := cell_at (o := 1) hb.b rfl
 have y2 := cell_at (o := 2) hb.b rfl
 have y3 := cell_at (o := 3) hb.b rfl
 have y4 := cell_at (o := 4) hb.b rfl
 have y5 := cell_at (o := 5) hb.b rfl
 have y6 := cell_at (o := 6) hb.b rfl
 have y7 := cell_at (o := 7) hb.b rfl
 clear hb
 rcases tpl_rng m.tb l with ht | ⟨k, hk, ht, -⟩
 ·
  have HR := Lib.hid (mo_none ht)
  rw [ht] at FS
  clear ht hlo hT rc rh hc hw
  go_enter Tryz.func28, Tryz.ntmps28
  go_wp2_with fail
  refine (FS.out _ HB.out).mono ?_
  rintro e w1 ⟨rfl, hb⟩
  have HB1 := Lib.hid hb
  clear x0 y0 y1 y2 y3 y4 y5 y6 y7
  have x0 := cell_at (o := 0) hb.a rfl
  have y0 := cell_at (o := 0) hb.b rfl
  have y1 := cell_at (o := 1) hb.b rfl
  have y2 := cell_at (o := 2) hb.b rfl
  have y3 := cell_at (o := 3) hb.b rfl
  have y4 := cell_at (o := 4) hb.b rfl
  have y5 := cell_at (o := 5) hb.b rfl
  have y6 := cell_at (o := 6) hb.b rfl
  have y7 := cell_at (o := 7) hb.b rfl
  clear hb
  go_wp2_with fail
  go_ret
  exact ⟨ret_i HR.out.symm, HB1.out.bel⟩
 have hki : (k : Int) < (l.length : Int) := by omega
 have dk0 : decide ((k : Int) < 0) = false := decide_eq_false (by omega)
 have HM := Lib.hid (mo_at hk ht)
 rw [ht] at FS
 have HTO : Hid (l[k].ok) := le_table ((Ls_le.1 hlo).2.2 k hk 0 (by omega)) ((Ls_le.1 hlo).2.2 k hk 1 (by omega)) ((Ls_le.1 hlo).2.2 k hk 2 (by omega))
 obtain ⟨tq, tf, rfl, -, tc⟩ := Rd.things (d := dTable) (n := 4) hT k hk
 obtain ⟨u0, t0, q0⟩ := tc 0 (by omega)
 obtain rfl : u0 = .string ⟨l[k].nm.toArray⟩ := q0
 rw [Nat.add_zero] at t0
 obtain ⟨u1, t1, q1⟩ := tc 1 (by omega)
 replace q1 : Rd w A (dColumnS l[k].cols) u1 := q1
 obtain ⟨ca, cc, rfl⟩ := q1.lsSlice
 obtain ⟨u2, t2, q2⟩ := tc 2 (by omega)
 replace q2 : Rd w A (dIntS l[k].uq) u2 := q2
 obtain ⟨ua, uc, rfl⟩ := q2.lsSlice
 obtain ⟨u3, t3, q3⟩ := tc 3 (by omega)
 obtain rfl : u3 = .bool l[k].rt := q3
 have HH : Hid (∀ W, Below w.heap.size w W → l[k].Has W A ca ua) := fun W h => Rd.hasT (q1.later h) (q2.later h)
 have TCE : Hid (∀ W, Below w.heap.size w W → W.cell? ⟨tq, tf + k * 4, none⟩ = some (.string ⟨l[k].nm.toArray⟩) ∧ W.cell? ⟨tq, tf + k * 4 + 1, none⟩ = some (.slice ca l[k].cols.length cc) ∧ W.cell? ⟨tq, tf + k * 4 + 2, none⟩ = some (.slice ua l[k].uq.length uc) ∧ W.cell? ⟨tq, tf + k * 4 + 3, none⟩ = some (.bool l[k].rt)) := fun W h => ⟨(h.cell (p := ⟨tq, tf + k * 4, none⟩) (World.block_lt_of_cell? _ _ t0)).trans t0, (h.cell (p := ⟨tq, tf + k * 4 + 1, none⟩) (World.block_lt_of_cell? _ _ t1)).trans t1, (h.cell (p := ⟨tq, tf + k * 4 + 2, none⟩) (World.block_lt_of_cell? _ _ t2)).trans t2, (h.cell (p := ⟨tq, tf + k * 4 + 3, none⟩) (World.block_lt_of_cell? _ _ t3)).trans t3⟩
 clear tc t0 t1 t2 t3 q1 q2
 generalize l[k] = t at *
 have HL : Hid (∀ W, Below w.heap.size w W → Rd W B (Ls 1 cString m.cs) (.slice a2 m.cs.length c2)) := fun W h => Rd.later rc h
 have PL : Hid (∀ s W, BoxE 40 48 w W #[.slice (some ⟨tq, tf, none⟩) l.length sc] #[.string ⟨m.nm.toArray⟩, .string ⟨m.tb.toArray⟩, .slice a2 m.cs.length c2, .bool m.ini, .bool m.ins, .bool m.del, .bool m.mod, .slice a7 m.wh.length c7] → Calls Tryz.prog 60 #[.agg #[.string ⟨t.nm.toArray⟩, .slice ca t.cols.length cc, .slice ua t.uq.length uc, .bool t.rt], .string ⟨s.toArray⟩] W fun e w' => e = .returned (.int .i64 (placeC t.cols s)) ∧ BoxE 40 48 w w' #[.slice (some ⟨tq, tf, none⟩) l.length sc] #[.string ⟨m.nm.toArray⟩, .string ⟨m.tb.toArray⟩, .slice a2 m.cs.length c2, .bool m.ini, .bool m.ins, .bool m.del, .bool m.mod, .slice a7 m.wh.length c7]) := fun s W h => (placeS t s ca cc ua uc A W HTO.out.2.1 (HH.out W h.bel)).mono (fun e w' ⟨he, hB⟩ => ⟨he, h.later hB⟩)
 have CO : Hid (∀ W, BoxE 40 48 w W #[.slice (some ⟨tq, tf, none⟩) l.length sc] #[.string ⟨m.nm.toArray⟩, .string ⟨m.tb.toArray⟩, .slice a2 m.cs.length c2, .bool m.ini, .bool m.ins, .bool m.del, .bool m.mod, .slice a7 m.wh.length c7] → Calls Tryz.prog 61 #[.agg #[.string ⟨t.nm.toArray⟩, .slice ca t.cols.length cc, .slice ua t.uq.length uc, .bool t.rt], .slice a7 m.wh.length c7] W fun e w' => e = .returned (.int .i64 (condsC t m.wh)) ∧ BoxE 40 48 w w' #[.slice (some ⟨tq, tf, none⟩) l.length sc] #[.string ⟨m.nm.toArray⟩, .string ⟨m.tb.toArray⟩, .slice a2 m.cs.length c2, .bool m.ini, .bool m.ins, .bool m.del, .bool m.mod, .slice a7 m.wh.length c7]) := fun W h => (condsS t ca cc ua uc A m.wh a7 c7 B W HTO.out hw (HH.out W h.bel) (rh.later h.bel)).mono (fun e w' ⟨he, hB⟩ => ⟨he, h.later hB⟩)
 clear hlo hT rc rh hc hw ht hk HH HTO
 go_enter Tryz.func28, Tryz.ntmps28
 go_wp2_with fail
 refine (FS.out _ HB.out).mono ?_
 rintro e w1 ⟨rfl, hb⟩
 have HB1 := Lib.hid hb
 clear x0 y0 y1 y2 y3 y4 y5 y6 y7
 have x0 := cell_at (o := 0) hb.a rfl
 have y0 := cell_at (o := 0) hb.b rfl
 have y1 := cell_at (o := 1) hb.b rfl
 have y2 := cell_at (o := 2) hb.b rfl
 have y3 := cell_at (o := 3) hb.b rfl
 have y4 := cell_at (o := 4) hb.b rfl
 have y5 := cell_at (o := 5) hb.b rfl
 have y6 := cell_at (o := 6) hb.b rfl
 have y7 := cell_at (o := 7) hb.b rfl
 clear hb
 go_wp2_with fail
 clear x0 y0 y1 y2 y3 y4 y5 y6 y7 dk0
 have CE9 : Hid (∀ W, BoxE 40 48 w W #[.slice (some ⟨tq, tf, none⟩) l.length sc] #[.string ⟨m.nm.toArray⟩, .string ⟨m.tb.toArray⟩, .slice a2 m.cs.length c2, .bool m.ini, .bool m.ins, .bool m.del, .bool m.mod, .slice a7 m.wh.length c7] → W.cell? ⟨w.heap.size, 0, none⟩ = some (.slice (some ⟨tq, tf, none⟩) l.length sc) ∧ W.cell? ⟨tq, tf + k * 4, none⟩ = some (.string ⟨t.nm.toArray⟩) ∧ W.cell? ⟨tq, tf + k * 4 + 1, none⟩ = some (.slice ca t.cols.length cc) ∧ W.cell? ⟨tq, tf + k * 4 + 2, none⟩ = some (.slice ua t.uq.length uc) ∧ W.cell? ⟨tq, tf + k * 4 + 3, none⟩ = some (.bool t.rt) ∧ W.cell? ⟨w.heap.size + 1, 7, none⟩ = some (.slice a7 m.wh.length c7)) := fun W h => by obtain ⟨z0, z1, z2, z3⟩ := TCE.out W h.bel; exact ⟨cell_at (o := 0) h.a rfl, z0, z1, z2, z3, cell_at (o := 7) h.b rfl⟩
 go_loopw [6] (fun i wr => ∃ k : Nat, k ≤ m.cs.length ∧ i = .int .i64 k ∧ Hid ((∀ j (h : j < m.cs.length), j < k → 0 ≤ placeC t.cols m.cs[j]) ∧ BoxE 40 48 w wr #[.slice (some ⟨tq, tf, none⟩) l.length sc] #[.string ⟨m.nm.toArray⟩, .string ⟨m.tb.toArray⟩, .slice a2 m.cs.length c2, .bool m.ini, .bool m.ins, .bool m.del, .bool m.mod, .slice a7 m.wh.length c7])) (fun i _ => m.cs.length - (intOf i).toNat)
 case atStart => exact ⟨0, Nat.zero_le _, rfl, fun m _ h => absurd h (by omega), HB1.out⟩
 case round =>
  obtain ⟨k1, hk1, rfl, HW⟩ := hrel
  by_cases hlt : k1 < m.cs.length
  case neg =>
   have hki1 : decide ((k1 : Int) < (m.cs.length : Int)) = false := by simp; omega
   have HE : Hid (moC l m = condsC t m.wh) := HM.out.trans (moT_yes (fun j h => HW.out.1 j h (by omega)))
   generalize condsC t m.wh = vc at *
   have BW0 := Lib.hid (HW.out.2.drew)
   have y2 := (cell_at (o := 2) HW.out.2.b rfl)
   clear HW PL HL
   go_wp2_with fail
   refine wp_region_held_drew (S := (fun W => W.cell? ⟨w.heap.size, 0, none⟩ = some (.slice (some ⟨tq, tf, none⟩) l.length sc) ∧ W.cell? ⟨tq, tf + k * 4, none⟩ = some (.string ⟨t.nm.toArray⟩) ∧ W.cell? ⟨tq, tf + k * 4 + 1, none⟩ = some (.slice ca t.cols.length cc) ∧ W.cell? ⟨tq, tf + k * 4 + 2, none⟩ = some (.slice ua t.uq.length uc) ∧ W.cell? ⟨tq, tf + k * 4 + 3, none⟩ = some (.bool t.rt) ∧ W.cell? ⟨w.heap.size + 1, 7, none⟩ = some (.slice a7 m.wh.length c7))) (by kernel_rfl) ?_ (fun hHeld => ?_)
   ·
    (exact CE9.out _ (by first | exact BW0.out | exact BW1.out))
   refine tkB (i := 0) ?_
   refine tkB (i := 1) ?_
   refine tkB (i := 2) ?_
   refine tkB (i := 3) ?_
   refine tkB (i := 4) ?_
   refine tkB (i := 5) ?_
   refine tkB (i := 6) ?_
   refine tkR (i := 7) (fun K hK => ?_)
   go_simp
   (go_at_call 61; refine (CO.out _ BW0.out).mono ?_; rintro e w5 ⟨rfl, hb⟩; have BW1 := Lib.hid hb; clear hb)
   refine hK.out _ _ ?_ (fun hHeld => ?_)
   ·
    (exact CE9.out _ (by first | exact BW0.out | exact BW1.out))
   clear hK K
   try simp only [Act.put, tkS]
   refine tkB (i := 8) ?_
   refine wpAnyH_done (by kernel_rfl) ?_ _
   go_wp2_with fail
   go_ret
   exact ⟨ret_i HE.out.symm, BW1.out.bel⟩
  have hki1 : (k1 : Int) < (m.cs.length : Int) := by omega
  obtain ⟨b, off, rfl, -, hc⟩ := (HL.out _ HW.out.2.bel).things k1 hlt
  clear hc
  have CE : Hid (∀ W, BoxE 40 48 w W #[.slice (some ⟨tq, tf, none⟩) l.length sc] #[.string ⟨m.nm.toArray⟩, .string ⟨m.tb.toArray⟩, .slice (some ⟨b, off, none⟩) m.cs.length c2, .bool m.ini, .bool m.ins, .bool m.del, .bool m.mod, .slice a7 m.wh.length c7] → W.cell? ⟨w.heap.size, 0, none⟩ = some (.slice (some ⟨tq, tf, none⟩) l.length sc) ∧ W.cell? ⟨tq, tf + k * 4, none⟩ = some (.string ⟨t.nm.toArray⟩) ∧ W.cell? ⟨tq, tf + k * 4 + 1, none⟩ = some (.slice ca t.cols.length cc) ∧ W.cell? ⟨tq, tf + k * 4 + 2, none⟩ = some (.slice ua t.uq.length uc) ∧ W.cell? ⟨tq, tf + k * 4 + 3, none⟩ = some (.bool t.rt) ∧ W.cell? ⟨w.heap.size + 1, 2, none⟩ = some (.slice (some ⟨b, off, none⟩) m.cs.length c2) ∧ W.cell? ⟨b, off + k1, none⟩ = some (.string ⟨m.cs[k1].toArray⟩)) := fun W h => by
   obtain ⟨z0, z1, z2, z3⟩ := TCE.out W h.bel
   refine ⟨cell_at (o := 0) h.a rfl, z0, z1, z2, z3, cell_at (o := 2) h.b rfl, ?_⟩
   obtain ⟨u, e, hr⟩ := (HL.out W h.bel).spotT hlt (j := 0) (by omega)
   obtain rfl : u = .string ⟨m.cs[k1].toArray⟩ := hr
   rw [Nat.mul_one, Nat.add_zero] at e
   exact e
  have HNO : Hid (placeC t.cols m.cs[k1] = -1 → moC l m = 11) := fun h => HM.out.trans (moT_no hlt h)
  have HNX : Hid (0 ≤ placeC t.cols m.cs[k1] → ∀ j (h : j < m.cs.length), j < k1 + 1 → 0 ≤ placeC t.cols m.cs[j]) := fun he j h hm => by
   by_cases e : j = k1
   ·
    subst e; exact he
   ·
    exact HW.out.1 j h (by omega)
  have BW0 := Lib.hid (HW.out.2.drew)
  have PLK := Lib.hid (PL.out m.cs[k1])
  have y2 := (cell_at (o := 2) HW.out.2.b rfl)
  generalize m.cs[k1] = y at *
  clear HW PL CO CE9
  rcases place_cases t.cols y with hp | ⟨j, hj, hp⟩
  ·
   have HE := Lib.hid (HNO.out hp)
   rw [hp] at PLK
   clear HNX HNO hp
   go_wp2_with fail
   refine wp_region_held_drew (S := (fun W => W.cell? ⟨w.heap.size, 0, none⟩ = some (.slice (some ⟨tq, tf, none⟩) l.length sc) ∧ W.cell? ⟨tq, tf + k * 4, none⟩ = some (.string ⟨t.nm.toArray⟩) ∧ W.cell? ⟨tq, tf + k * 4 + 1, none⟩ = some (.slice ca t.cols.length cc) ∧ W.cell? ⟨tq, tf + k * 4 + 2, none⟩ = some (.slice ua t.uq.length uc) ∧ W.cell? ⟨tq, tf + k * 4 + 3, none⟩ = some (.bool t.rt) ∧ W.cell? ⟨w.heap.size + 1, 2, none⟩ = some (.slice (some ⟨b, off, none⟩) m.cs.length c2) ∧ W.cell? ⟨b, off + k1, none⟩ = some (.string ⟨y.toArray⟩))) (by kernel_rfl) ?_ (fun hHeld => ?_)
   ·
    (exact CE.out _ (by first | exact BW0.out | exact BW1.out))
   refine tkB (i := 0) ?_
   refine tkB (i := 1) ?_
   refine tkB (i := 2) ?_
   refine tkB (i := 3) ?_
   refine tkB (i := 4) ?_
   refine tkB (i := 5) ?_
   refine tkB (i := 6) ?_
   refine tkB (i := 7) ?_
   refine tkB (i := 8) ?_
   refine tkB (i := 9) ?_
   refine tkR (i := 10) (fun K hK => ?_)
   go_simp
   (go_at_call 60; refine (PLK.out _ BW0.out).mono ?_; rintro e w5 ⟨rfl, hb⟩; have BW1 := Lib.hid hb; clear hb)
   refine hK.out _ _ ?_ (fun hHeld => ?_)
   ·
    (exact CE.out _ (by first | exact BW0.out | exact BW1.out))
   clear hK K
   try simp only [Act.put, tkS]
   refine tkB (i := 11) ?_
   refine wpAnyH_done (by kernel_rfl) ?_ _
   go_wp2_with fail
   go_ret
   exact ⟨ret_i HE.out.symm, BW1.out.bel⟩
  ·
   have HN := Lib.hid (HNX.out (by omega))
   have hd0 : decide ((j : Int) < 0) = false := decide_eq_false (by omega)
   rw [hp] at PLK
   clear hj
   clear HNX HNO hp
   go_wp2_with fail
   refine wp_region_held_drew (S := (fun W => W.cell? ⟨w.heap.size, 0, none⟩ = some (.slice (some ⟨tq, tf, none⟩) l.length sc) ∧ W.cell? ⟨tq, tf + k * 4, none⟩ = some (.string ⟨t.nm.toArray⟩) ∧ W.cell? ⟨tq, tf + k * 4 + 1, none⟩ = some (.slice ca t.cols.length cc) ∧ W.cell? ⟨tq, tf + k * 4 + 2, none⟩ = some (.slice ua t.uq.length uc) ∧ W.cell? ⟨tq, tf + k * 4 + 3, none⟩ = some (.bool t.rt) ∧ W.cell? ⟨w.heap.size + 1, 2, none⟩ = some (.slice (some ⟨b, off, none⟩) m.cs.length c2) ∧ W.cell? ⟨b, off + k1, none⟩ = some (.string ⟨y.toArray⟩))) (by kernel_rfl) ?_ (fun hHeld => ?_)
   ·
    (exact CE.out _ (by first | exact BW0.out | exact BW1.out))
   refine tkB (i := 0) ?_
   refine tkB (i := 1) ?_
   refine tkB (i := 2) ?_
   refine tkB (i := 3) ?_
   refine tkB (i := 4) ?_
   refine tkB (i := 5) ?_
   refine tkB (i := 6) ?_
   refine tkB (i := 7) ?_
   refine tkB (i := 8) ?_
   refine tkB (i := 9) ?_
   refine tkR (i := 10) (fun K hK => ?_)
   go_simp
   (go_at_call 60; refine (PLK.out _ BW0.out).mono ?_; rintro e w5 ⟨rfl, hb⟩; have BW1 := Lib.hid hb; clear hb)
   refine hK.out _ _ ?_ (fun hHeld => ?_)
   ·
    (exact CE.out _ (by first | exact BW0.out | exact BW1.out))
   clear hK K
   try simp only [Act.put, tkS]
   refine tkB (i := 11) ?_
   refine wpAnyH_done (by kernel_rfl) ?_ _
   go_wp2_with fail
   go_roundw
   case rel => exact ⟨k1 + 1, by omega, by go_num, HN.out, BW1.out⟩
   case measure => simp [intOf]; omega
end Go.Proofs.YtlddhbamcndggaaGreatDoor
