import Derived.Test.YtlbcaaodkggohaaGreatDoorZbn
import Derived.Test.YtlbcaaodkggohaaGreatDoorZTk
namespace Go.Proofs.YtlbcaaodkggohaaGreatDoor
open Go.RowKit
set_option linter.unusedSimpArgs false
set_option maxRecDepth 100000 in
set_option maxHeartbeats 12800000 in
theorem codeS (l : List Tb) (sa : Option Addr) (sc : Nat) (A : Nat → Prop) (o : OpV) (a3 : Option Addr) (c3 : Nat) (a4 : Option Addr) (c4 : Nat) (a5 : Option Addr) (c5 : Nat) (a6 : Option Addr) (c6 : Nat) (B : Nat → Prop) (w : World) (hlo : (dTableS l).le maxLen) (_h1 : o.tb.length ≤ maxLen) (h2 : o.nm.length ≤ maxLen) (h3 : (dCondS o.wh).le maxLen) (h4 : (dSetS o.row).le maxLen) (h5 : (dMutS o.mu).le maxLen) (h6 : (dStringS o.cs).le maxLen) (hT : Rd w A (dTableS l) (.slice sa l.length sc)) (r3 : Rd w B (dCondS o.wh) (.slice a3 o.wh.length c3)) (r4 : Rd w B (dSetS o.row) (.slice a4 o.row.length c4)) (r5 : Rd w B (dMutS o.mu) (.slice a5 o.mu.length c5)) (r6 : Rd w B (dStringS o.cs) (.slice a6 o.cs.length c6)) :
  Calls Tryz.prog 17 #[.agg #[.slice sa l.length sc], .agg #[.int .i64 o.kd, .string ⟨o.tb.toArray⟩, .string ⟨o.nm.toArray⟩, .slice a3 o.wh.length c3, .slice a4 o.row.length c4, .slice a5 o.mu.length c5, .slice a6 o.cs.length c6, .bool o.un]] w fun e w' => e = .returned (.int .i64 (ocC l o)) ∧ Below w.heap.size w w' := by
 have FS : Hid (∀ W, BoxE 25 36 w W #[.slice sa l.length sc] #[.int .i64 o.kd, .string ⟨o.tb.toArray⟩, .string ⟨o.nm.toArray⟩, .slice a3 o.wh.length c3, .slice a4 o.row.length c4, .slice a5 o.mu.length c5, .slice a6 o.cs.length c6, .bool o.un] → Calls Tryz.prog 47 #[.agg #[.slice sa l.length sc], .string ⟨o.tb.toArray⟩] W fun e w' => e = .returned (.int .i64 (tplC l o.tb)) ∧ BoxE 25 36 w w' #[.slice sa l.length sc] #[.int .i64 o.kd, .string ⟨o.tb.toArray⟩, .string ⟨o.nm.toArray⟩, .slice a3 o.wh.length c3, .slice a4 o.row.length c4, .slice a5 o.mu.length c5, .slice a6 o.cs.length c6, .bool o.un]) := fun W h => (findTS l o.tb sa sc A W hlo (hT.later h.bel)).mono (fun e w' ⟨he, hB⟩ => ⟨he, h.later hB⟩)
 have NS : Hid (∀ W, Calls Tryz.prog 51 #[.string ⟨o.nm.toArray⟩] W fun e w' => e = .returned (.bool (nameB o.nm)) ∧ w' = W) := fun W => nameS o.nm W h2
 have hb := boxE 25 36 w #[.slice sa l.length sc] #[.int .i64 o.kd, .string ⟨o.tb.toArray⟩, .string ⟨o.nm.toArray⟩, .slice a3 o.wh.length c3, .slice a4 o.row.length c4, .slice a5 o.mu.length c5, .slice a6 o.cs.length c6, .bool o.un]; have HB := Lib.hid hb; have hll : l.length ≤ maxLen := (Ls_le.1 hlo).2.1; have hcl : o.cs.length ≤ maxLen := (Ls_le.1 h6).2.1; unfold maxLen at hll hcl; have x0 := cell_at (o := 0) hb.a rfl; obtain ⟨y0, y1, y2, y3, y4, y5, y6, y7⟩ := ck8 0 1 2 3 4 5 6 7 hb.b; clear hb
 by_cases hg : 6 < o.kd
 case pos =>
  have d6 : decide (6 < o.kd) = true := decide_eq_true hg; clear FS hlo hT r3 r4 r5 r6 h3 h4 h5 h6 h2
  by_cases hk : o.kd = 10
  case neg =>
   have HR := Lib.hid (oc_free (l := l) hg hk); have e10 : (o.kd == 10) = false := by simpa using hk
   clear hg hk; (go_enter Tryz.func17, Tryz.ntmps17); (go_wp2_with fail); go_ret; exact ⟨ret_i HR.out.symm, HB.out.bel⟩
  have HR := Lib.hid (oc_lock (l := l) hg hk); have e10 : (o.kd == 10) = true := by simpa using hk
  clear hg hk
  cases hn : nameB o.nm
  case false =>
   have HL : Hid (lkK o.nm = 3) := by show lkK o.nm = _; unfold lkK; rw [hn]; rfl
   rw [hn] at NS; clear hn; (go_enter Tryz.func17, Tryz.ntmps17); (go_wp2_with fail); refine (NS.out _).mono ?_; rintro e w1 ⟨rfl, rfl⟩; (go_wp2_with fail); go_ret; exact ⟨ret_i (HL.out.symm.trans HR.out.symm), HB.out.bel⟩
  have HL : Hid (lkK o.nm = 0) := by show lkK o.nm = _; unfold lkK; rw [hn]; rfl
  rw [hn] at NS; clear hn; (go_enter Tryz.func17, Tryz.ntmps17); (go_wp2_with fail); refine (NS.out _).mono ?_; rintro e w1 ⟨rfl, rfl⟩; (go_wp2_with fail); go_ret; exact ⟨ret_i (HL.out.symm.trans HR.out.symm), HB.out.bel⟩
 have HG := Lib.hid hg; have d6 : decide (6 < o.kd) = false := decide_eq_false hg; clear hg; rcases tpl_rng o.tb l with ht | ⟨k, hk, ht, -⟩
 ·
  have HR := Lib.hid (oc_none HG.out ht); rw [ht] at FS; clear ht hlo hT r3 r4 r5 r6 h3 h4 h5 h6 h2; (go_enter Tryz.func17, Tryz.ntmps17); (go_wp2_with fail); refine (FS.out _ HB.out).mono ?_; rintro e w1 ⟨rfl, hb⟩; have HB1 := Lib.hid hb; clear x0 y0 y1 y2 y3 y4 y5 y6 y7; have x0 := cell_at (o := 0) hb.a rfl; obtain ⟨y0, y1, y2, y3, y4, y5, y6, y7⟩ := ck8 0 1 2 3 4 5 6 7 hb.b; clear hb; (go_wp2_with fail); go_ret; exact ⟨ret_i HR.out.symm, HB1.out.bel⟩
 have hki : (k : Int) < (l.length : Int) := by omega
 have dk0 : decide ((k : Int) < 0) = false := decide_eq_false (by omega); have HNM : Hid (o.kd = 1 → o.nm ≠ [] → nameB o.nm = false → ocC l o = 3) := fun e1 e2 e3 => oc_nm HG.out ht e1 e2 e3
 have HOR : Hid (¬ (o.kd = 1 ∧ o.nm ≠ [] ∧ nameB o.nm = false) → ocC l o = orL [pkN l[k] o.cs, condsC l[k] o.wh, setsC l[k] o.row, mutsC l[k] o.mu]) := fun h => oc_or HG.out hk ht h
 rw [ht] at FS; have HTO : Hid (l[k].ok) := le_table ((Ls_le.1 hlo).2.2 k hk 0 (by omega)) ((Ls_le.1 hlo).2.2 k hk 1 (by omega)) ((Ls_le.1 hlo).2.2 k hk 2 (by omega)); obtain ⟨tq, tf, rfl, -, tc⟩ := Rd.things (d := dTable) (n := 4) hT k hk; obtain ⟨u0, t0, q0⟩ := tc 0 (by omega); obtain rfl : u0 = .string ⟨l[k].nm.toArray⟩ := q0; rw [Nat.add_zero] at t0; obtain ⟨u1, t1, q1⟩ := tc 1 (by omega); replace q1 : Rd w A (dColumnS l[k].cols) u1 := q1; obtain ⟨ca, cc, rfl⟩ := q1.lsSlice; obtain ⟨u2, t2, q2⟩ := tc 2 (by omega); replace q2 : Rd w A (dIntS l[k].uq) u2 := q2; obtain ⟨ua, uc, rfl⟩ := q2.lsSlice; obtain ⟨u3, t3, q3⟩ := tc 3 (by omega); obtain rfl : u3 = .bool l[k].rt := q3; have HH : Hid (∀ W, Below w.heap.size w W → l[k].Has W A ca ua) := fun W h => Rd.hasT (q1.later h) (q2.later h)
 have TCE : Hid (∀ W, Below w.heap.size w W → W.cell? ⟨tq, tf + k * 4, none⟩ = some (.string ⟨l[k].nm.toArray⟩) ∧ W.cell? ⟨tq, tf + k * 4 + 1, none⟩ = some (.slice ca l[k].cols.length cc) ∧ W.cell? ⟨tq, tf + k * 4 + 2, none⟩ = some (.slice ua l[k].uq.length uc) ∧ W.cell? ⟨tq, tf + k * 4 + 3, none⟩ = some (.bool l[k].rt)) := fun W h => ⟨(h.cell (p := ⟨tq, tf + k * 4, none⟩) (World.block_lt_of_cell? _ _ t0)).trans t0, (h.cell (p := ⟨tq, tf + k * 4 + 1, none⟩) (World.block_lt_of_cell? _ _ t1)).trans t1, (h.cell (p := ⟨tq, tf + k * 4 + 2, none⟩) (World.block_lt_of_cell? _ _ t2)).trans t2, (h.cell (p := ⟨tq, tf + k * 4 + 3, none⟩) (World.block_lt_of_cell? _ _ t3)).trans t3⟩
 clear tc t0 t1 t2 t3 q1 q2; generalize l[k] = t at *; have HL : Hid (∀ W, Below w.heap.size w W → Rd W B (Ls 1 cString o.cs) (.slice a6 o.cs.length c6)) := fun W h => Rd.later r6 h
 have PL : Hid (∀ s pb W, OCB w W #[.slice (some ⟨tq, tf, none⟩) l.length sc] #[.int .i64 o.kd, .string ⟨o.tb.toArray⟩, .string ⟨o.nm.toArray⟩, .slice a3 o.wh.length c3, .slice a4 o.row.length c4, .slice a5 o.mu.length c5, .slice a6 o.cs.length c6, .bool o.un] 36 pb #[.string ⟨t.nm.toArray⟩, .slice ca t.cols.length cc, .slice ua t.uq.length uc, .bool t.rt] → Calls Tryz.prog 52 #[.agg #[.string ⟨t.nm.toArray⟩, .slice ca t.cols.length cc, .slice ua t.uq.length uc, .bool t.rt], .string ⟨s.toArray⟩] W fun e w' => e = .returned (.int .i64 (placeC t.cols s)) ∧ OCB w w' #[.slice (some ⟨tq, tf, none⟩) l.length sc] #[.int .i64 o.kd, .string ⟨o.tb.toArray⟩, .string ⟨o.nm.toArray⟩, .slice a3 o.wh.length c3, .slice a4 o.row.length c4, .slice a5 o.mu.length c5, .slice a6 o.cs.length c6, .bool o.un] 36 pb #[.string ⟨t.nm.toArray⟩, .slice ca t.cols.length cc, .slice ua t.uq.length uc, .bool t.rt]) := fun s pb W h => (placeS t s ca cc ua uc A W HTO.out.2.1 (HH.out W h.bel)).mono (fun e w' ⟨he, hB⟩ => ⟨he, h.later hB⟩)
 have CO : Hid (∀ pb W, OCB w W #[.slice (some ⟨tq, tf, none⟩) l.length sc] #[.int .i64 o.kd, .string ⟨o.tb.toArray⟩, .string ⟨o.nm.toArray⟩, .slice a3 o.wh.length c3, .slice a4 o.row.length c4, .slice a5 o.mu.length c5, .slice a6 o.cs.length c6, .bool o.un] 36 pb #[.string ⟨t.nm.toArray⟩, .slice ca t.cols.length cc, .slice ua t.uq.length uc, .bool t.rt] → Calls Tryz.prog 53 #[.agg #[.string ⟨t.nm.toArray⟩, .slice ca t.cols.length cc, .slice ua t.uq.length uc, .bool t.rt], .slice a3 o.wh.length c3] W fun e w' => e = .returned (.int .i64 (condsC t o.wh)) ∧ OCB w w' #[.slice (some ⟨tq, tf, none⟩) l.length sc] #[.int .i64 o.kd, .string ⟨o.tb.toArray⟩, .string ⟨o.nm.toArray⟩, .slice a3 o.wh.length c3, .slice a4 o.row.length c4, .slice a5 o.mu.length c5, .slice a6 o.cs.length c6, .bool o.un] 36 pb #[.string ⟨t.nm.toArray⟩, .slice ca t.cols.length cc, .slice ua t.uq.length uc, .bool t.rt]) := fun pb W h => (condsS t ca cc ua uc A o.wh a3 c3 B W HTO.out h3 (HH.out W h.bel) (r3.later h.bel)).mono (fun e w' ⟨he, hB⟩ => ⟨he, h.later hB⟩)
 have SE : Hid (∀ pb W, OCB w W #[.slice (some ⟨tq, tf, none⟩) l.length sc] #[.int .i64 o.kd, .string ⟨o.tb.toArray⟩, .string ⟨o.nm.toArray⟩, .slice a3 o.wh.length c3, .slice a4 o.row.length c4, .slice a5 o.mu.length c5, .slice a6 o.cs.length c6, .bool o.un] 36 pb #[.string ⟨t.nm.toArray⟩, .slice ca t.cols.length cc, .slice ua t.uq.length uc, .bool t.rt] → Calls Tryz.prog 54 #[.agg #[.string ⟨t.nm.toArray⟩, .slice ca t.cols.length cc, .slice ua t.uq.length uc, .bool t.rt], .slice a4 o.row.length c4] W fun e w' => e = .returned (.int .i64 (setsC t o.row)) ∧ OCB w w' #[.slice (some ⟨tq, tf, none⟩) l.length sc] #[.int .i64 o.kd, .string ⟨o.tb.toArray⟩, .string ⟨o.nm.toArray⟩, .slice a3 o.wh.length c3, .slice a4 o.row.length c4, .slice a5 o.mu.length c5, .slice a6 o.cs.length c6, .bool o.un] 36 pb #[.string ⟨t.nm.toArray⟩, .slice ca t.cols.length cc, .slice ua t.uq.length uc, .bool t.rt]) := fun pb W h => (setsS t ca cc ua uc A o.row a4 c4 B W HTO.out h4 (HH.out W h.bel) (r4.later h.bel)).mono (fun e w' ⟨he, hB⟩ => ⟨he, h.later hB⟩)
 have MU : Hid (∀ pb W, OCB w W #[.slice (some ⟨tq, tf, none⟩) l.length sc] #[.int .i64 o.kd, .string ⟨o.tb.toArray⟩, .string ⟨o.nm.toArray⟩, .slice a3 o.wh.length c3, .slice a4 o.row.length c4, .slice a5 o.mu.length c5, .slice a6 o.cs.length c6, .bool o.un] 36 pb #[.string ⟨t.nm.toArray⟩, .slice ca t.cols.length cc, .slice ua t.uq.length uc, .bool t.rt] → Calls Tryz.prog 55 #[.agg #[.string ⟨t.nm.toArray⟩, .slice ca t.cols.length cc, .slice ua t.uq.length uc, .bool t.rt], .slice a5 o.mu.length c5] W fun e w' => e = .returned (.int .i64 (mutsC t o.mu)) ∧ OCB w w' #[.slice (some ⟨tq, tf, none⟩) l.length sc] #[.int .i64 o.kd, .string ⟨o.tb.toArray⟩, .string ⟨o.nm.toArray⟩, .slice a3 o.wh.length c3, .slice a4 o.row.length c4, .slice a5 o.mu.length c5, .slice a6 o.cs.length c6, .bool o.un] 36 pb #[.string ⟨t.nm.toArray⟩, .slice ca t.cols.length cc, .slice ua t.uq.length uc, .bool t.rt]) := fun pb W h => (mutsS t ca cc ua uc A o.mu a5 c5 B W HTO.out h5 (HH.out W h.bel) (r5.later h.bel)).mono (fun e w' ⟨he, hB⟩ => ⟨he, h.later hB⟩)
 clear hlo hT r3 r4 r5 r6 h3 h4 h5 h6 h2 ht hk; generalize hpk : pkN t o.cs = vp at HOR; generalize condsC t o.wh = vc at *; generalize setsC t o.row = vs at *; generalize mutsC t o.mu = vm at *; have HPK := Lib.hid hpk; clear hpk
 by_cases h3 : o.kd = 1 ∧ o.nm ≠ [] ∧ nameB o.nm = false
 case pos =>
  have e1 : (o.kd == 1) = true := by simpa using h3.1
  have z1 : (o.nm == []) = false := by simpa using h3.2.1
  have z2 : (o.nm != []) = true := by simpa using h3.2.1
  have HE := Lib.hid (HNM.out h3.1 h3.2.1 h3.2.2); rw [h3.2.2] at NS; clear HOR HNM h3; (go_enter Tryz.func17, Tryz.ntmps17); (go_wp2_with fail); refine (FS.out _ HB.out).mono ?_; rintro e w1 ⟨rfl, hb⟩; have HB1 := Lib.hid hb; clear x0 y0 y1 y2 y3 y4 y5 y6 y7; have x0 := cell_at (o := 0) hb.a rfl; obtain ⟨y0, y1, y2, y3, y4, y5, y6, y7⟩ := ck8 0 1 2 3 4 5 6 7 hb.b; clear hb; (go_wp2_with fail); refine (NS.out _).mono ?_; rintro e w2 ⟨rfl, rfl⟩; (go_wp2_with fail); go_ret; exact ⟨ret_i HE.out.symm, HB1.out.bel⟩
 have HORR := Lib.hid (HOR.out h3)
 have h4 : (o.kd == 1) = false ∨ ((o.kd == 1) = true ∧ (o.nm == []) = true ∧ (o.nm != []) = false) ∨ ((o.kd == 1) = true ∧ (o.nm == []) = false ∧ (o.nm != []) = true ∧ nameB o.nm = true) := by
  by_cases e1 : o.kd = 1
  ·
   by_cases z1 : o.nm = []
   ·
    exact .inr (.inl ⟨by simpa using e1, by simpa using z1, by rw [z1]; rfl⟩)
   ·
    refine .inr (.inr ⟨by simpa using e1, by simpa using z1, by simpa using z1, ?_⟩)
    cases hn : nameB o.nm
    ·
     exact absurd ⟨e1, z1, hn⟩ h3
    ·
     rfl
  ·
   exact .inl (by simpa using e1)
 clear HOR HNM h3; rcases h4 with e1 | ⟨e1, z1, z2⟩ | ⟨e1, z1, z2, hn⟩
 all_goals
  (try (rw [hn] at NS; clear hn)); (go_enter Tryz.func17, Tryz.ntmps17); (go_wp2_with fail); refine (FS.out _ HB.out).mono ?_; rintro e w1 ⟨rfl, hb⟩; have HB1 := Lib.hid hb; clear x0 y0 y1 y2 y3 y4 y5 y6 y7; have x0 := cell_at (o := 0) hb.a rfl; obtain ⟨y0, y1, y2, y3, y4, y5, y6, y7⟩ := ck8 0 1 2 3 4 5 6 7 hb.b; clear hb; obtain ⟨t0, t1, t2, t3⟩ := TCE.out _ HB1.out.bel; have HT0 := Lib.hid (HB1.out.ocb #[.string ⟨t.nm.toArray⟩, .slice ca t.cols.length cc, .slice ua t.uq.length uc, .bool t.rt]); (go_wp2_with fail); (try (refine (NS.out _).mono ?_; rintro e w2 ⟨rfl, hw2⟩; rw [hw2]; clear hw2 w2; go_wp2_with fail)); clear x0 y0 y1 y2 y3 y4 y5 y6 y7 t0 t1 t2 t3 d6 dk0 e1; (try clear z1 z2); go_loopw [7] (fun i wr => ∃ k : Nat, k ≤ o.cs.length ∧ i = .int .i64 k ∧ Hid ((∀ m (h : m < o.cs.length), m < k → askT t o.cs[m] = true) ∧ OCB w wr #[.slice (some ⟨tq, tf, none⟩) l.length sc] #[.int .i64 o.kd, .string ⟨o.tb.toArray⟩, .string ⟨o.nm.toArray⟩, .slice a3 o.wh.length c3, .slice a4 o.row.length c4, .slice a5 o.mu.length c5, .slice a6 o.cs.length c6, .bool o.un] 36 w1.heap.size #[.string ⟨t.nm.toArray⟩, .slice ca t.cols.length cc, .slice ua t.uq.length uc, .bool t.rt])) (fun i _ => o.cs.length - (intOf i).toNat)
  case atStart => exact ⟨0, Nat.zero_le _, rfl, fun m _ h => absurd h (by omega), HT0.out⟩
  case round =>
   obtain ⟨k1, hk1, rfl, HW⟩ := hrel
   by_cases hlt : k1 < o.cs.length
   case neg =>
    have hki1 : decide ((k1 : Int) < (o.cs.length : Int)) = false := by simp; omega
    have HP0 : Hid (vp = 0) := HPK.out.symm.trans (pkN_yes (fun m h => HW.out.1 m h (by omega))); have hb := HW.out.2; obtain ⟨y0, y1, y2, y3, y4, y5, y6, y7⟩ := ck8 0 1 2 3 4 5 6 7 hb.b; obtain ⟨z0, z1, z2, z3⟩ := ck4 0 1 2 3 hb.c; clear hb; (go_wp2_with fail); refine (CO.out _ _ HW.out.2).mono ?_; rintro e w4 ⟨rfl, hb⟩; have HB4 := Lib.hid hb; clear y0 y1 y2 y3 y4 y5 y6 y7 z0 z1 z2 z3; obtain ⟨y0, y1, y2, y3, y4, y5, y6, y7⟩ := ck8 0 1 2 3 4 5 6 7 hb.b; obtain ⟨z0, z1, z2, z3⟩ := ck4 0 1 2 3 hb.c; clear hb
    by_cases hv : vc = 0
    case neg =>
     have HE : Hid (ocC l o = vc) := HORR.out.trans (or4_1 HP0.out hv); have hne : (vc != 0) = true := by simpa using hv
     clear hv; (go_wp2_with fail); go_ret; exact ⟨ret_i HE.out.symm, HB4.out.bel⟩
    have HV0 := Lib.hid hv; have hne : (vc != 0) = false := by simpa using hv
    clear hv; (go_wp2_with fail); refine (SE.out _ _ HB4.out).mono ?_; rintro e w5 ⟨rfl, hb⟩; have HB5 := Lib.hid hb; clear y0 y1 y2 y3 y4 y5 y6 y7 z0 z1 z2 z3; obtain ⟨y0, y1, y2, y3, y4, y5, y6, y7⟩ := ck8 0 1 2 3 4 5 6 7 hb.b; obtain ⟨z0, z1, z2, z3⟩ := ck4 0 1 2 3 hb.c; clear hb
    by_cases hv : vs = 0
    case neg =>
     have HE : Hid (ocC l o = vs) := HORR.out.trans (or4_2 HP0.out HV0.out hv); have hne2 : (vs != 0) = true := by simpa using hv
     clear hv; (go_wp2_with fail); go_ret; exact ⟨ret_i HE.out.symm, HB5.out.bel⟩
    have HE : Hid (ocC l o = vm) := HORR.out.trans (or4_3 HP0.out HV0.out hv); have hne2 : (vs != 0) = false := by simpa using hv
    clear hv; (go_wp2_with fail); refine (MU.out _ _ HB5.out).mono ?_; rintro e w6 ⟨rfl, hb⟩; have HB6 := Lib.hid hb; clear y0 y1 y2 y3 y4 y5 y6 y7 z0 z1 z2 z3; clear hb; (go_wp2_with fail); go_ret; exact ⟨ret_i HE.out.symm, HB6.out.bel⟩
   have hki1 : (k1 : Int) < (o.cs.length : Int) := by omega
   obtain ⟨b, off, rfl, -, hc⟩ := (HL.out _ HW.out.2.bel).things k1 hlt; clear hc
   have CE : Hid (∀ W, OCB w W #[.slice (some ⟨tq, tf, none⟩) l.length sc] #[.int .i64 o.kd, .string ⟨o.tb.toArray⟩, .string ⟨o.nm.toArray⟩, .slice a3 o.wh.length c3, .slice a4 o.row.length c4, .slice a5 o.mu.length c5, .slice (some ⟨b, off, none⟩) o.cs.length c6, .bool o.un] 36 w1.heap.size #[.string ⟨t.nm.toArray⟩, .slice ca t.cols.length cc, .slice ua t.uq.length uc, .bool t.rt] → W.cell? ⟨w.heap.size + 1, 6, none⟩ = some (.slice (some ⟨b, off, none⟩) o.cs.length c6) ∧ W.cell? ⟨w1.heap.size, 0, none⟩ = some (.string ⟨t.nm.toArray⟩) ∧ W.cell? ⟨w1.heap.size, 1, none⟩ = some (.slice ca t.cols.length cc) ∧ W.cell? ⟨w1.heap.size, 2, none⟩ = some (.slice ua t.uq.length uc) ∧ W.cell? ⟨w1.heap.size, 3, none⟩ = some (.bool t.rt) ∧ W.cell? ⟨b, off + k1, none⟩ = some (.string ⟨o.cs[k1].toArray⟩)) := fun W h => ⟨cell_at (o := 6) h.b rfl, cell_at (o := 0) h.c rfl, cell_at (o := 1) h.c rfl, cell_at (o := 2) h.c rfl, cell_at (o := 3) h.c rfl, by
    obtain ⟨u, e, hr⟩ := (HL.out W h.bel).spotT hlt (j := 0) (by omega); obtain rfl : u = .string ⟨o.cs[k1].toArray⟩ := hr; rw [Nat.mul_one, Nat.add_zero] at e; exact e⟩
   have HNO : Hid (askT t o.cs[k1] = false → vp = 11) := fun h => HPK.out.symm.trans (pkN_no hlt h)
   have HNX : Hid (askT t o.cs[k1] = true → ∀ m (h : m < o.cs.length), m < k1 + 1 → askT t o.cs[m] = true) := fun he m h hm => by
    by_cases e : m = k1
    ·
     subst e; exact he
    ·
     exact HW.out.1 m h (by omega)
   have BW0 := Lib.hid (HW.out.2.drew); have PLK := Lib.hid (PL.out o.cs[k1] w1.heap.size); have x0 := (cell_at (o := 6) HW.out.2.b rfl); generalize o.cs[k1] = y at *
   by_cases hn : y = idN
   case pos =>
    have e1 : (y == [95, 117, 117, 105, 100]) = true := by rw [hn]; rfl
    have e2 : (y != [95, 117, 117, 105, 100]) = false := by rw [hn]; rfl
    have HN : Hid (∀ m (h : m < o.cs.length), m < k1 + 1 → askT t o.cs[m] = true) := HNX.out (by
     rcases place_cases t.cols y with hp | ⟨j, hj, hp⟩
     ·
      exact (ask_id hp hn).2
     ·
      exact (ask_at hj hp).2)
    clear hn HNX HNO PLK; (go_wp2_with fail); refine wp_region_held_drew (S := (fun W => W.cell? ⟨w.heap.size + 1, 6, none⟩ = some (.slice (some ⟨b, off, none⟩) o.cs.length c6) ∧ W.cell? ⟨w1.heap.size, 0, none⟩ = some (.string ⟨t.nm.toArray⟩) ∧ W.cell? ⟨w1.heap.size, 1, none⟩ = some (.slice ca t.cols.length cc) ∧ W.cell? ⟨w1.heap.size, 2, none⟩ = some (.slice ua t.uq.length uc) ∧ W.cell? ⟨w1.heap.size, 3, none⟩ = some (.bool t.rt) ∧ W.cell? ⟨b, off + k1, none⟩ = some (.string ⟨y.toArray⟩))) (by kernel_rfl) ?_ (fun hHeld => ?_)
    ·
     (exact CE.out _ (by first | exact BW0.out | exact BW1.out))
    refine tkB (i := 0) ?_; refine tkB (i := 1) ?_; refine tkB (i := 2) ?_; refine tkB (i := 3) ?_; refine tkB (i := 4) ?_; refine tkB (i := 5) ?_; refine tkB (i := 6) ?_; refine tkV (i := 7) ?_; refine tkV (i := 8) ?_; refine tkV (i := 9) ?_; refine tkV (i := 10) ?_; refine tkV (i := 11) ?_; refine tkV (i := 12) ?_; refine tkV (i := 13) ?_; refine tkV (i := 14) ?_; refine tkB (i := 15) ?_; refine wpAnyH_done (by kernel_rfl) ?_ _; (go_wp2_with fail); go_roundw
    case rel => exact ⟨k1 + 1, by omega, by go_num, HN.out, BW0.out⟩
    case measure => simp [intOf]; omega
   have e1 : (y == [95, 117, 117, 105, 100]) = false := by rw [beq_eq_false_iff_ne]; exact hn
   have e2 : (y != [95, 117, 117, 105, 100]) = true := by rw [bne_iff_ne]; exact hn
   rcases place_cases t.cols y with hp | ⟨j, hj, hp⟩
   ·
    have HE : Hid (ocC l o = 11) := by
     have e := HNO.out (ask_none hp hn).2; show ocC l o = 11
     rw [HORR.out, or4_0 (by omega), e]
    rw [hp] at PLK; clear hn HNX HNO hp; (go_wp2_with fail); refine wp_region_held_drew (S := (fun W => W.cell? ⟨w.heap.size + 1, 6, none⟩ = some (.slice (some ⟨b, off, none⟩) o.cs.length c6) ∧ W.cell? ⟨w1.heap.size, 0, none⟩ = some (.string ⟨t.nm.toArray⟩) ∧ W.cell? ⟨w1.heap.size, 1, none⟩ = some (.slice ca t.cols.length cc) ∧ W.cell? ⟨w1.heap.size, 2, none⟩ = some (.slice ua t.uq.length uc) ∧ W.cell? ⟨w1.heap.size, 3, none⟩ = some (.bool t.rt) ∧ W.cell? ⟨b, off + k1, none⟩ = some (.string ⟨y.toArray⟩))) (by kernel_rfl) ?_ (fun hHeld => ?_)
    ·
     (exact CE.out _ (by first | exact BW0.out | exact BW1.out))
    refine tkB (i := 0) ?_; refine tkB (i := 1) ?_; refine tkB (i := 2) ?_; refine tkB (i := 3) ?_; refine tkB (i := 4) ?_; refine tkB (i := 5) ?_; refine tkB (i := 6) ?_; refine tkB (i := 7) ?_; refine tkB (i := 8) ?_; refine tkB (i := 9) ?_; refine tkB (i := 10) ?_; refine tkB (i := 11) ?_; refine tkB (i := 12) ?_; refine tkR (i := 13) (fun K hK => ?_); go_simp
    (go_at_call 52; refine (PLK.out _ BW0.out).mono ?_; rintro e w5 ⟨rfl, hb⟩; have BW1 := Lib.hid hb; clear hb)
    refine hK.out _ _ ?_ (fun hHeld => ?_)
    ·
     (exact CE.out _ (by first | exact BW0.out | exact BW1.out))
    clear hK K; (try simp only [Act.put, tkS]); refine tkB (i := 14) ?_; refine tkB (i := 15) ?_; refine wpAnyH_done (by kernel_rfl) ?_ _; (go_wp2_with fail); go_ret; exact ⟨ret_i HE.out.symm, BW1.out.bel⟩
   ·
    have HN := Lib.hid (HNX.out (ask_at hj hp).2); have hd0 : decide ((j : Int) < 0) = false := decide_eq_false (by omega); rw [hp] at PLK; clear hj; clear hn HNX HNO hp; (go_wp2_with fail); refine wp_region_held_drew (S := (fun W => W.cell? ⟨w.heap.size + 1, 6, none⟩ = some (.slice (some ⟨b, off, none⟩) o.cs.length c6) ∧ W.cell? ⟨w1.heap.size, 0, none⟩ = some (.string ⟨t.nm.toArray⟩) ∧ W.cell? ⟨w1.heap.size, 1, none⟩ = some (.slice ca t.cols.length cc) ∧ W.cell? ⟨w1.heap.size, 2, none⟩ = some (.slice ua t.uq.length uc) ∧ W.cell? ⟨w1.heap.size, 3, none⟩ = some (.bool t.rt) ∧ W.cell? ⟨b, off + k1, none⟩ = some (.string ⟨y.toArray⟩))) (by kernel_rfl) ?_ (fun hHeld => ?_)
    ·
     (exact CE.out _ (by first | exact BW0.out | exact BW1.out))
    refine tkB (i := 0) ?_; refine tkB (i := 1) ?_; refine tkB (i := 2) ?_; refine tkB (i := 3) ?_; refine tkB (i := 4) ?_; refine tkB (i := 5) ?_; refine tkB (i := 6) ?_; refine tkB (i := 7) ?_; refine tkB (i := 8) ?_; refine tkB (i := 9) ?_; refine tkB (i := 10) ?_; refine tkB (i := 11) ?_; refine tkB (i := 12) ?_; refine tkR (i := 13) (fun K hK => ?_); go_simp
    (go_at_call 52; refine (PLK.out _ BW0.out).mono ?_; rintro e w5 ⟨rfl, hb⟩; have BW1 := Lib.hid hb; clear hb)
    refine hK.out _ _ ?_ (fun hHeld => ?_)
    ·
     (exact CE.out _ (by first | exact BW0.out | exact BW1.out))
    clear hK K; (try simp only [Act.put, tkS]); refine tkB (i := 14) ?_; refine tkB (i := 15) ?_; refine wpAnyH_done (by kernel_rfl) ?_ _; (go_wp2_with fail); go_roundw
    case rel => exact ⟨k1 + 1, by omega, by go_num, HN.out, BW1.out⟩
    case measure => simp [intOf]; omega
end Go.Proofs.YtlbcaaodkggohaaGreatDoor
