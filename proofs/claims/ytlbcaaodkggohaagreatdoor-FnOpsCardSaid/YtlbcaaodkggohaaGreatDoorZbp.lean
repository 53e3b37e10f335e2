import Derived.Test.YtlbcaaodkggohaaGreatDoorZbc
namespace Go.Proofs.YtlbcaaodkggohaaGreatDoor
open Go.RowKit
set_option linter.unusedSimpArgs false
theorem op_right {o : OpV} (h : opB o = true) : headB o = true ∧ (∀ k (h : k < o.row.length), setB o.row[k] = true) ∧ (∀ k (h : k < o.cs.length), o.cs[k].length ≤ 40) ∧ useB o = true := by
 have h0 : headB o = true := by
  cases e : headB o
  ·
   rw [op_head e] at h; cases h
  ·
   rfl
 have h1 : ∀ k (h : k < o.row.length), setB o.row[k] = true := fun k hk => by
  cases e : setB o.row[k]
  ·
   rw [op_row hk e] at h; cases h
  ·
   rfl
 have h2 : ∀ k (h : k < o.cs.length), o.cs[k].length ≤ 40 := fun k hk => by
  by_cases e : o.cs[k].length ≤ 40
  ·
   exact e
  ·
   rw [op_col hk e] at h; cases h
 exact ⟨h0, h1, h2, by rw [← op_all h0 h1 h2]; exact h⟩
set_option maxRecDepth 100000 in
set_option maxHeartbeats 25600000 in
theorem opOKsR (kd : Int) (tb nm : List UInt8) (wh : List CondV) (row : List SetV) (mu : List MutV) (cs : List (List UInt8)) (un : Bool) (a3 : Option Addr) (c3 : Nat) (a4 : Option Addr) (c4 : Nat) (a5 : Option Addr) (c5 : Nat) (a6 : Option Addr) (c6 : Nat) (B : Nat → Prop) (w : World)
  (ho : opB ⟨kd, tb, nm, wh, row, mu, cs, un⟩ = true) (h1 : tb.length ≤ maxLen) (h2 : nm.length ≤ maxLen) (h3 : (dCondS wh).le maxLen) (h4 : (dSetS row).le maxLen) (h5 : (dMutS mu).le maxLen) (h6 : (dStringS cs).le maxLen)
  (r3 : Rd w B (dCondS wh) (.slice a3 wh.length c3)) (r4 : Rd w B (dSetS row) (.slice a4 row.length c4)) (r5 : Rd w B (dMutS mu) (.slice a5 mu.length c5)) (r6 : Rd w B (dStringS cs) (.slice a6 cs.length c6)) :
  Calls Tryz.prog 16 #[.agg #[.int .i64 kd, .string ⟨tb.toArray⟩, .string ⟨nm.toArray⟩, .slice a3 wh.length c3, .slice a4 row.length c4, .slice a5 mu.length c5, .slice a6 cs.length c6, .bool un]] w fun e w' => e = .returned (.bool true) ∧ Below w.heap.size w w' := by
 obtain ⟨hh, hrw, hcl, hu⟩ := op_right ho; rw [show headB ⟨kd, tb, nm, wh, row, mu, cs, un⟩ = (inB 1 kd 10 && (decide (tb.length ≤ 40) && (decide (nm.length ≤ 40) && (condsB wh && (mutsB mu && (decide (row.length ≤ 6) && decide (cs.length ≤ 6))))))) from rfl] at hh; simp only [Bool.and_eq_true, decide_eq_true_eq] at hh; obtain ⟨hk, htb, hnm, hw, hm, hrow, hcs⟩ := hh
 have LW : Hid (∀ W, BoxD 36 w W #[.int .i64 kd, .string ⟨tb.toArray⟩, .string ⟨nm.toArray⟩, .slice a3 wh.length c3, .slice a4 row.length c4, .slice a5 mu.length c5, .slice a6 cs.length c6, .bool un] → Calls Tryz.prog 48 #[.slice a3 wh.length c3] W fun e w' => e = .returned (.bool true) ∧ BoxD 36 w w' #[.int .i64 kd, .string ⟨tb.toArray⟩, .string ⟨nm.toArray⟩, .slice a3 wh.length c3, .slice a4 row.length c4, .slice a5 mu.length c5, .slice a6 cs.length c6, .bool un]) := fun W h => by
  have h9 := (listS wh a3 c3 B W h3 (r3.later h.2)).mono (fun _ _ ⟨he, hB⟩ => (⟨he, h.later hB⟩ : _ ∧ BoxD 36 w _ #[.int .i64 kd, .string ⟨tb.toArray⟩, .string ⟨nm.toArray⟩, .slice a3 wh.length c3, .slice a4 row.length c4, .slice a5 mu.length c5, .slice a6 cs.length c6, .bool un])); rw [hw] at h9; exact h9
 have LM : Hid (∀ W, BoxD 36 w W #[.int .i64 kd, .string ⟨tb.toArray⟩, .string ⟨nm.toArray⟩, .slice a3 wh.length c3, .slice a4 row.length c4, .slice a5 mu.length c5, .slice a6 cs.length c6, .bool un] → Calls Tryz.prog 49 #[.slice a5 mu.length c5] W fun e w' => e = .returned (.bool true) ∧ BoxD 36 w w' #[.int .i64 kd, .string ⟨tb.toArray⟩, .string ⟨nm.toArray⟩, .slice a3 wh.length c3, .slice a4 row.length c4, .slice a5 mu.length c5, .slice a6 cs.length c6, .bool un]) := fun W h => by
  have h9 := (mlistS mu a5 c5 B W h5 (r5.later h.2)).mono (fun _ _ ⟨he, hB⟩ => (⟨he, h.later hB⟩ : _ ∧ BoxD 36 w _ #[.int .i64 kd, .string ⟨tb.toArray⟩, .string ⟨nm.toArray⟩, .slice a3 wh.length c3, .slice a4 row.length c4, .slice a5 mu.length c5, .slice a6 cs.length c6, .bool un])); rw [hm] at h9; exact h9
 have HR4 : Hid (∀ W, Below w.heap.size w W → Rd W B (Ls 3 dSet row) (.slice a4 row.length c4)) := fun W h => Rd.later r4 h
 have HR6 : Hid (∀ W, Below w.heap.size w W → Rd W B (Ls 1 cString cs) (.slice a6 cs.length c6)) := fun W h => Rd.later r6 h
 have HO4 := Lib.hid h4; have HO6 := Lib.hid h6; have HRW := Lib.hid hrw; have HCL := Lib.hid hcl; have HU := Lib.hid hu; have hkd0 : 1 ≤ kd ∧ kd ≤ 10 := by simpa [inB] using hk
 have HKD := Lib.hid hkd0; clear hkd0; have l3 : wh.length ≤ maxLen := (Ls_le.1 h3).2.1; have l4 : row.length ≤ maxLen := (Ls_le.1 h4).2.1; have l5 : mu.length ≤ maxLen := (Ls_le.1 h5).2.1; have l6 : cs.length ≤ maxLen := (Ls_le.1 h6).2.1; unfold maxLen at h1 h2 l3 l4 l5 l6; have hb := boxD 36 w #[.int .i64 kd, .string ⟨tb.toArray⟩, .string ⟨nm.toArray⟩, .slice a3 wh.length c3, .slice a4 row.length c4, .slice a5 mu.length c5, .slice a6 cs.length c6, .bool un]; have HB := Lib.hid hb; obtain ⟨y0, y1, y2, y3, y4, y5, y6, y7⟩ := ck8 0 1 2 3 4 5 6 7 hb.1; have dtb : decide (40 < (tb.length : Int)) = false := decide_eq_false (by omega); have dnm : decide (40 < (nm.length : Int)) = false := decide_eq_false (by omega); have drow : decide (6 < (row.length : Int)) = false := decide_eq_false (by omega); have dcs : decide (6 < (cs.length : Int)) = false := decide_eq_false (by omega); clear hb h3 h4 h5 h6 r3 r4 r5 r6 ho hrw hcl hu hw hm; (go_enter Tryz.func16, Tryz.ntmps16); (go_wp2_with fail); refine (inS _ _ _ _).mono ?_; rintro e w1 ⟨rfl, rfl⟩; rw [hk]; clear hk; (go_wp2_with fail); refine (LW.out _ HB.out).mono ?_; rintro e w2 ⟨rfl, hb⟩; have HB2 := Lib.hid hb; clear y0 y1 y2 y3 y4 y5 y6 y7; obtain ⟨y0, y1, y2, y3, y4, y5, y6, y7⟩ := ck8 0 1 2 3 4 5 6 7 hb.1
 clear hb; (go_wp2_with fail); refine (LM.out _ HB2.out).mono ?_; rintro e w3 ⟨rfl, hb⟩; have HB3 := Lib.hid hb; clear y0 y1 y2 y3 y4 y5 y6 y7; obtain ⟨y0, y1, y2, y3, y4, y5, y6, y7⟩ := ck8 0 1 2 3 4 5 6 7 hb.1; clear hb; clear LW LM HB HB2; (go_wp2_with fail); go_loopw [3] (fun iv wr => ∃ k : Nat, k ≤ row.length ∧ iv = .int .i64 k ∧ Hid (BoxD 36 w wr #[.int .i64 kd, .string ⟨tb.toArray⟩, .string ⟨nm.toArray⟩, .slice a3 wh.length c3, .slice a4 row.length c4, .slice a5 mu.length c5, .slice a6 cs.length c6, .bool un])) (fun iv _ => row.length - (intOf iv).toNat)
 case atStart => exact ⟨0, Nat.zero_le _, rfl, HB3.out⟩
 case round =>
  obtain ⟨k, hk, rfl, HS⟩ := hrel; clear y0 y1 y2 y3 y4 y5 y6 y7; obtain ⟨y0, y1, y2, y3, y4, y5, y6, y7⟩ := ck8 0 1 2 3 4 5 6 7 HS.out.1
  by_cases hlt : k < row.length
  case pos =>
   have hki : (k : Int) < (row.length : Int) := by omega
   obtain ⟨b, off, rfl, -, hc⟩ := (HR4.out _ HS.out.2).things k hlt; obtain ⟨u0, z0, s0⟩ := hc 0 (by omega); obtain rfl : u0 = .string ⟨row[k].col.toArray⟩ := s0; rw [Nat.add_zero] at z0; obtain ⟨u1, z1, s1⟩ := hc 1 (by omega); replace s1 : Rd wr B (dAtomS row[k].val) u1 := s1; obtain ⟨va, vc, rfl⟩ := s1.lsSlice; obtain ⟨u2, z2, s2⟩ := hc 2 (by omega); replace s2 : Rd wr B (dStringS row[k].nms) u2 := s2; obtain ⟨na, nc, rfl⟩ := s2.lsSlice; have hle := le_set HO4.out hlt; have SC := Lib.hid (setS row[k] va vc na nc B B wr hle.1 hle.2.1 hle.2.2 s1 s2); rw [show setB row[k] = true from HRW.out k hlt] at SC; clear hc s1 s2 hle; generalize row[k] = x at *; (go_wp2_with fail); refine SC.out.mono ?_; rintro e w4 ⟨rfl, hB⟩; have HB4 := Lib.hid (HS.out.later hB); clear hB z0 z1 z2 SC HS y0 y1 y2 y3 y4 y5 y6 y7; obtain ⟨y0, y1, y2, y3, y4, y5, y6, y7⟩ := ck8 0 1 2 3 4 5 6 7 HB4.out.1; (go_wp2_with fail); go_roundw
   case rel => exact ⟨k + 1, by omega, by go_num, HB4.out⟩
   case measure => simp [intOf]; omega
  have hki : decide ((k : Int) < (row.length : Int)) = false := by simp; omega
  have HB5 := Lib.hid HS.out; clear HS HRW HB3; (go_wp2_with fail); clear hlt hk hki; generalize wr = wq at *; go_loopw [4] (fun iv wr => ∃ k : Nat, k ≤ cs.length ∧ iv = .int .i64 k ∧ Hid (BoxD 36 w wr #[.int .i64 kd, .string ⟨tb.toArray⟩, .string ⟨nm.toArray⟩, .slice a3 wh.length c3, .slice a4 row.length c4, .slice a5 mu.length c5, .slice a6 cs.length c6, .bool un])) (fun iv _ => cs.length - (intOf iv).toNat)
  case atStart => exact ⟨0, Nat.zero_le _, rfl, HB5.out⟩
  case round =>
   obtain ⟨k2, hk2, rfl, HS⟩ := hrel; clear y0 y1 y2 y3 y4 y5 y6 y7; obtain ⟨y0, y1, y2, y3, y4, y5, y6, y7⟩ := ck8 0 1 2 3 4 5 6 7 HS.out.1; have HB6 := Lib.hid HS.out
   by_cases hlt : k2 < cs.length
   case pos =>
    have hk3 : (k2 : Int) < (cs.length : Int) := by omega
    obtain ⟨b, off, rfl, -, hc⟩ := (HR6.out _ HS.out.2).things k2 hlt; obtain ⟨u0, z0, s0⟩ := hc 0 (by omega); obtain rfl : u0 = .string ⟨cs[k2].toArray⟩ := s0; rw [Nat.mul_one, Nat.add_zero] at z0; have hxl : cs[k2].length ≤ maxLen := le_text HO6.out hlt; unfold maxLen at hxl; have dx : decide (40 < (cs[k2].length : Int)) = false := decide_eq_false (by have := HCL.out k2 hlt; omega); clear hc; generalize cs[k2] = x at *; clear HS; (go_wp2_with fail); go_roundw
    case rel => exact ⟨k2 + 1, by omega, by go_num, HB6.out⟩
    case measure => simp [intOf]; omega
   have hk3 : decide ((k2 : Int) < (cs.length : Int)) = false := by simp; omega
   clear HS HCL HR4 HR6 HO4 HO6 HB5 dtb dnm drow dcs h1 h2 l3 l4 l5 l6 htb hnm hrow hcs; (go_wp2_with fail); refine (inS _ _ _ _).mono ?_; rintro e w7 ⟨rfl, rfl⟩; have hkd := HKD.out; clear HKD; rcases (by omega : kd = 1 ∨ kd = 2 ∨ kd = 3 ∨ kd = 4 ∨ kd = 5 ∨ kd = 6 ∨ kd = 7 ∨ kd = 8 ∨ kd = 9 ∨ kd = 10) with rfl | rfl | rfl | rfl | rfl | rfl | rfl | rfl | rfl | rfl
   ·
    rw [show inB 1 1 6 = true from rfl]; (go_wp2_with fail); refine (inS _ _ _ _).mono ?_; rintro e w7 ⟨rfl, rfl⟩; rw [show inB 2 1 6 = false from rfl]; clear hlt hk2 hk3 hkd; go_upto_region 17 with fail
    have hwh : wh.length = 0 := by
     by_cases h : wh.length = 0
     ·
      exact h
     ·
      exact absurd HU.out (by unfold useB; rw [show decide (wh.length = 0) = false from decide_eq_false h]; simp [inB])
    have ewh : ((wh.length : Int) == 0) = true := by simp [hwh]
    have ewh2 : (wh.length == 0) = true := by simp [hwh]
    clear hwh
    have hmu : mu.length = 0 := by
     by_cases h : mu.length = 0
     ·
      exact h
     ·
      exact absurd HU.out (by unfold useB; rw [show decide (mu.length = 0) = false from decide_eq_false h]; simp [inB])
    have emu : ((mu.length : Int) == 0) = true := by simp [hmu]
    have emu2 : (mu.length == 0) = true := by simp [hmu]
    clear hmu
    have hcs : cs.length = 0 := by
     by_cases h : cs.length = 0
     ·
      exact h
     ·
      exact absurd HU.out (by unfold useB; rw [show decide (cs.length = 0) = false from decide_eq_false h]; simp [inB])
    have ecs : ((cs.length : Int) == 0) = true := by simp [hcs]
    have ecs2 : (cs.length == 0) = true := by simp [hcs]
    clear hcs
    have hun : un = false := by
     cases h : un
     ·
      rfl
     ·
      exact absurd HU.out (by unfold useB; simp [h, inB])
    rw [hun] at y7; clear hun; clear HU; refine wp_region_lit ?_; dsimp only [List.append]; (iterate 2 (refine wpList_step (fun K hK => ?_); rw [if_pos (by kernel_rfl)]; go_simp; refine hK _ _ ?_; clear hK K)); go_skip; (iterate 13 (refine wpList_step (fun K hK => ?_); rw [if_pos (by kernel_rfl)]; go_simp; refine hK _ _ ?_; clear hK K)); go_skip; (iterate 5 (refine wpList_step (fun K hK => ?_); rw [if_pos (by kernel_rfl)]; go_simp; refine hK _ _ ?_; clear hK K)); go_skip; (iterate 35 (refine wpList_step (fun K hK => ?_); rw [if_pos (by kernel_rfl)]; go_simp; refine hK _ _ ?_; clear hK K)); refine wpList_nil ?_; (go_wp2_with fail); go_ret; exact ⟨rfl, HB6.out.2⟩
   ·
    rw [show inB 1 2 6 = true from rfl]; (go_wp2_with fail); refine (inS _ _ _ _).mono ?_; rintro e w7 ⟨rfl, rfl⟩; rw [show inB 2 2 6 = true from rfl]; clear hlt hk2 hk3 hkd; go_upto_region 17 with fail
    have enm : (nm == []) = true := by
     by_cases h : nm = []
     ·
      simpa using h
     ·
      exact absurd HU.out (by unfold useB; simp [h, inB])
    have hrow : row.length = 0 := by
     by_cases h : row.length = 0
     ·
      exact h
     ·
      exact absurd HU.out (by unfold useB; rw [show decide (row.length = 0) = false from decide_eq_false h]; simp [inB])
    have erow : ((row.length : Int) == 0) = true := by simp [hrow]
    have erow2 : (row.length == 0) = true := by simp [hrow]
    clear hrow
    have hmu : mu.length = 0 := by
     by_cases h : mu.length = 0
     ·
      exact h
     ·
      exact absurd HU.out (by unfold useB; rw [show decide (mu.length = 0) = false from decide_eq_false h]; simp [inB])
    have emu : ((mu.length : Int) == 0) = true := by simp [hmu]
    have emu2 : (mu.length == 0) = true := by simp [hmu]
    clear hmu
    have hun : un = false := by
     cases h : un
     ·
      rfl
     ·
      exact absurd HU.out (by unfold useB; simp [h, inB])
    rw [hun] at y7; clear hun; clear HU; refine wp_region_lit ?_; dsimp only [List.append]; (iterate 2 (refine wpList_step (fun K hK => ?_); rw [if_pos (by kernel_rfl)]; go_simp; refine hK _ _ ?_; clear hK K)); go_skip; (iterate 4 (refine wpList_step (fun K hK => ?_); rw [if_pos (by kernel_rfl)]; go_simp; refine hK _ _ ?_; clear hK K)); go_skip; (iterate 35 (refine wpList_step (fun K hK => ?_); rw [if_pos (by kernel_rfl)]; go_simp; refine hK _ _ ?_; clear hK K)); go_skip; (iterate 13 (refine wpList_step (fun K hK => ?_); rw [if_pos (by kernel_rfl)]; go_simp; refine hK _ _ ?_; clear hK K)); refine wpList_nil ?_; (go_wp2_with fail); go_ret; exact ⟨rfl, HB6.out.2⟩
   ·
    rw [show inB 1 3 6 = true from rfl]; (go_wp2_with fail); refine (inS _ _ _ _).mono ?_; rintro e w7 ⟨rfl, rfl⟩; rw [show inB 2 3 6 = true from rfl]; clear hlt hk2 hk3 hkd; go_upto_region 17 with fail
    have enm : (nm == []) = true := by
     by_cases h : nm = []
     ·
      simpa using h
     ·
      exact absurd HU.out (by unfold useB; simp [h, inB])
    have hmu : mu.length = 0 := by
     by_cases h : mu.length = 0
     ·
      exact h
     ·
      exact absurd HU.out (by unfold useB; rw [show decide (mu.length = 0) = false from decide_eq_false h]; simp [inB])
    have emu : ((mu.length : Int) == 0) = true := by simp [hmu]
    have emu2 : (mu.length == 0) = true := by simp [hmu]
    clear hmu
    have hcs : cs.length = 0 := by
     by_cases h : cs.length = 0
     ·
      exact h
     ·
      exact absurd HU.out (by unfold useB; rw [show decide (cs.length = 0) = false from decide_eq_false h]; simp [inB])
    have ecs : ((cs.length : Int) == 0) = true := by simp [hcs]
    have ecs2 : (cs.length == 0) = true := by simp [hcs]
    clear hcs
    have hun : un = false := by
     cases h : un
     ·
      rfl
     ·
      exact absurd HU.out (by unfold useB; simp [h, inB])
    rw [hun] at y7; clear hun; clear HU; refine wp_region_lit ?_; dsimp only [List.append]; (iterate 2 (refine wpList_step (fun K hK => ?_); rw [if_pos (by kernel_rfl)]; go_simp; refine hK _ _ ?_; clear hK K)); go_skip; (iterate 4 (refine wpList_step (fun K hK => ?_); rw [if_pos (by kernel_rfl)]; go_simp; refine hK _ _ ?_; clear hK K)); go_skip; (iterate 13 (refine wpList_step (fun K hK => ?_); rw [if_pos (by kernel_rfl)]; go_simp; refine hK _ _ ?_; clear hK K)); go_skip; (iterate 35 (refine wpList_step (fun K hK => ?_); rw [if_pos (by kernel_rfl)]; go_simp; refine hK _ _ ?_; clear hK K)); refine wpList_nil ?_; (go_wp2_with fail); go_ret; exact ⟨rfl, HB6.out.2⟩
   ·
    rw [show inB 1 4 6 = true from rfl]; (go_wp2_with fail); refine (inS _ _ _ _).mono ?_; rintro e w7 ⟨rfl, rfl⟩; rw [show inB 2 4 6 = true from rfl]; clear hlt hk2 hk3 hkd; go_upto_region 17 with fail
    have enm : (nm == []) = true := by
     by_cases h : nm = []
     ·
      simpa using h
     ·
      exact absurd HU.out (by unfold useB; simp [h, inB])
    have hrow : row.length = 0 := by
     by_cases h : row.length = 0
     ·
      exact h
     ·
      exact absurd HU.out (by unfold useB; rw [show decide (row.length = 0) = false from decide_eq_false h]; simp [inB])
    have erow : ((row.length : Int) == 0) = true := by simp [hrow]
    have erow2 : (row.length == 0) = true := by simp [hrow]
    clear hrow
    have hcs : cs.length = 0 := by
     by_cases h : cs.length = 0
     ·
      exact h
     ·
      exact absurd HU.out (by unfold useB; rw [show decide (cs.length = 0) = false from decide_eq_false h]; simp [inB])
    have ecs : ((cs.length : Int) == 0) = true := by simp [hcs]
    have ecs2 : (cs.length == 0) = true := by simp [hcs]
    clear hcs
    have hun : un = false := by
     cases h : un
     ·
      rfl
     ·
      exact absurd HU.out (by unfold useB; simp [h, inB])
    rw [hun] at y7; clear hun; clear HU; refine wp_region_lit ?_; dsimp only [List.append]; (iterate 2 (refine wpList_step (fun K hK => ?_); rw [if_pos (by kernel_rfl)]; go_simp; refine hK _ _ ?_; clear hK K)); go_skip; (iterate 4 (refine wpList_step (fun K hK => ?_); rw [if_pos (by kernel_rfl)]; go_simp; refine hK _ _ ?_; clear hK K)); go_skip; (iterate 24 (refine wpList_step (fun K hK => ?_); rw [if_pos (by kernel_rfl)]; go_simp; refine hK _ _ ?_; clear hK K)); go_skip; (iterate 24 (refine wpList_step (fun K hK => ?_); rw [if_pos (by kernel_rfl)]; go_simp; refine hK _ _ ?_; clear hK K)); refine wpList_nil ?_; (go_wp2_with fail); go_ret; exact ⟨rfl, HB6.out.2⟩
   ·
    rw [show inB 1 5 6 = true from rfl]; (go_wp2_with fail); refine (inS _ _ _ _).mono ?_; rintro e w7 ⟨rfl, rfl⟩; rw [show inB 2 5 6 = true from rfl]; clear hlt hk2 hk3 hkd; go_upto_region 17 with fail
    have enm : (nm == []) = true := by
     by_cases h : nm = []
     ·
      simpa using h
     ·
      exact absurd HU.out (by unfold useB; simp [h, inB])
    have hrow : row.length = 0 := by
     by_cases h : row.length = 0
     ·
      exact h
     ·
      exact absurd HU.out (by unfold useB; rw [show decide (row.length = 0) = false from decide_eq_false h]; simp [inB])
    have erow : ((row.length : Int) == 0) = true := by simp [hrow]
    have erow2 : (row.length == 0) = true := by simp [hrow]
    clear hrow
    have hmu : mu.length = 0 := by
     by_cases h : mu.length = 0
     ·
      exact h
     ·
      exact absurd HU.out (by unfold useB; rw [show decide (mu.length = 0) = false from decide_eq_false h]; simp [inB])
    have emu : ((mu.length : Int) == 0) = true := by simp [hmu]
    have emu2 : (mu.length == 0) = true := by simp [hmu]
    clear hmu
    have hcs : cs.length = 0 := by
     by_cases h : cs.length = 0
     ·
      exact h
     ·
      exact absurd HU.out (by unfold useB; rw [show decide (cs.length = 0) = false from decide_eq_false h]; simp [inB])
    have ecs : ((cs.length : Int) == 0) = true := by simp [hcs]
    have ecs2 : (cs.length == 0) = true := by simp [hcs]
    clear hcs
    have hun : un = false := by
     cases h : un
     ·
      rfl
     ·
      exact absurd HU.out (by unfold useB; simp [h, inB])
    rw [hun] at y7; clear hun; clear HU; refine wp_region_lit ?_; dsimp only [List.append]; (iterate 2 (refine wpList_step (fun K hK => ?_); rw [if_pos (by kernel_rfl)]; go_simp; refine hK _ _ ?_; clear hK K)); go_skip; (iterate 4 (refine wpList_step (fun K hK => ?_); rw [if_pos (by kernel_rfl)]; go_simp; refine hK _ _ ?_; clear hK K)); go_skip; (iterate 52 (refine wpList_step (fun K hK => ?_); rw [if_pos (by kernel_rfl)]; go_simp; refine hK _ _ ?_; clear hK K)); refine wpList_nil ?_; (go_wp2_with fail); go_ret; exact ⟨rfl, HB6.out.2⟩
   ·
    rw [show inB 1 6 6 = true from rfl]; (go_wp2_with fail); refine (inS _ _ _ _).mono ?_; rintro e w7 ⟨rfl, rfl⟩; rw [show inB 2 6 6 = true from rfl]; clear hlt hk2 hk3 hkd; go_upto_region 17 with fail
    have enm : (nm == []) = true := by
     by_cases h : nm = []
     ·
      simpa using h
     ·
      exact absurd HU.out (by unfold useB; simp [h, inB])
    have hmu : mu.length = 0 := by
     by_cases h : mu.length = 0
     ·
      exact h
     ·
      exact absurd HU.out (by unfold useB; rw [show decide (mu.length = 0) = false from decide_eq_false h]; simp [inB])
    have emu : ((mu.length : Int) == 0) = true := by simp [hmu]
    have emu2 : (mu.length == 0) = true := by simp [hmu]
    clear hmu
    have hcs : cs.length = 0 := by
     by_cases h : cs.length = 0
     ·
      exact h
     ·
      exact absurd HU.out (by unfold useB; rw [show decide (cs.length = 0) = false from decide_eq_false h]; simp [inB])
    have ecs : ((cs.length : Int) == 0) = true := by simp [hcs]
    have ecs2 : (cs.length == 0) = true := by simp [hcs]
    clear hcs; clear HU; refine wp_region_lit ?_; dsimp only [List.append]; (iterate 2 (refine wpList_step (fun K hK => ?_); rw [if_pos (by kernel_rfl)]; go_simp; refine hK _ _ ?_; clear hK K)); go_skip; (iterate 4 (refine wpList_step (fun K hK => ?_); rw [if_pos (by kernel_rfl)]; go_simp; refine hK _ _ ?_; clear hK K)); go_skip; (iterate 13 (refine wpList_step (fun K hK => ?_); rw [if_pos (by kernel_rfl)]; go_simp; refine hK _ _ ?_; clear hK K)); go_skip; (iterate 29 (refine wpList_step (fun K hK => ?_); rw [if_pos (by kernel_rfl)]; go_simp; refine hK _ _ ?_; clear hK K)); go_skip; (iterate 3 (refine wpList_step (fun K hK => ?_); rw [if_pos (by kernel_rfl)]; go_simp; refine hK _ _ ?_; clear hK K)); refine wpList_nil ?_; (go_wp2_with fail); go_ret; exact ⟨rfl, HB6.out.2⟩
   ·
    rw [show inB 1 7 6 = false from rfl]; (go_wp2_with fail); refine (inS _ _ _ _).mono ?_; rintro e w7 ⟨rfl, rfl⟩; rw [show inB 2 7 6 = false from rfl]; clear hlt hk2 hk3 hkd; go_upto_region 17 with fail
    have etb : (tb == []) = true := by
     by_cases h : tb = []
     ·
      simpa using h
     ·
      exact absurd HU.out (by unfold useB; simp [h, inB])
    have hwh : wh.length = 0 := by
     by_cases h : wh.length = 0
     ·
      exact h
     ·
      exact absurd HU.out (by unfold useB; rw [show decide (wh.length = 0) = false from decide_eq_false h]; simp [inB])
    have ewh : ((wh.length : Int) == 0) = true := by simp [hwh]
    have ewh2 : (wh.length == 0) = true := by simp [hwh]
    clear hwh
    have enm : (nm == []) = true := by
     by_cases h : nm = []
     ·
      simpa using h
     ·
      exact absurd HU.out (by unfold useB; simp [h, inB])
    have hrow : row.length = 0 := by
     by_cases h : row.length = 0
     ·
      exact h
     ·
      exact absurd HU.out (by unfold useB; rw [show decide (row.length = 0) = false from decide_eq_false h]; simp [inB])
    have erow : ((row.length : Int) == 0) = true := by simp [hrow]
    have erow2 : (row.length == 0) = true := by simp [hrow]
    clear hrow
    have hmu : mu.length = 0 := by
     by_cases h : mu.length = 0
     ·
      exact h
     ·
      exact absurd HU.out (by unfold useB; rw [show decide (mu.length = 0) = false from decide_eq_false h]; simp [inB])
    have emu : ((mu.length : Int) == 0) = true := by simp [hmu]
    have emu2 : (mu.length == 0) = true := by simp [hmu]
    clear hmu
    have hcs : cs.length = 0 := by
     by_cases h : cs.length = 0
     ·
      exact h
     ·
      exact absurd HU.out (by unfold useB; rw [show decide (cs.length = 0) = false from decide_eq_false h]; simp [inB])
    have ecs : ((cs.length : Int) == 0) = true := by simp [hcs]
    have ecs2 : (cs.length == 0) = true := by simp [hcs]
    clear hcs
    have hun : un = false := by
     cases h : un
     ·
      rfl
     ·
      exact absurd HU.out (by unfold useB; simp [h, inB])
    rw [hun] at y7; clear hun; clear HU; refine wp_region_lit ?_; dsimp only [List.append]; (iterate 65 (refine wpList_step (fun K hK => ?_); rw [if_pos (by kernel_rfl)]; go_simp; refine hK _ _ ?_; clear hK K)); refine wpList_nil ?_; (go_wp2_with fail); go_ret; exact ⟨rfl, HB6.out.2⟩
   ·
    rw [show inB 1 8 6 = false from rfl]; (go_wp2_with fail); refine (inS _ _ _ _).mono ?_; rintro e w7 ⟨rfl, rfl⟩; rw [show inB 2 8 6 = false from rfl]; clear hlt hk2 hk3 hkd; go_upto_region 17 with fail
    have etb : (tb == []) = true := by
     by_cases h : tb = []
     ·
      simpa using h
     ·
      exact absurd HU.out (by unfold useB; simp [h, inB])
    have hwh : wh.length = 0 := by
     by_cases h : wh.length = 0
     ·
      exact h
     ·
      exact absurd HU.out (by unfold useB; rw [show decide (wh.length = 0) = false from decide_eq_false h]; simp [inB])
    have ewh : ((wh.length : Int) == 0) = true := by simp [hwh]
    have ewh2 : (wh.length == 0) = true := by simp [hwh]
    clear hwh
    have enm : (nm == []) = true := by
     by_cases h : nm = []
     ·
      simpa using h
     ·
      exact absurd HU.out (by unfold useB; simp [h, inB])
    have hrow : row.length = 0 := by
     by_cases h : row.length = 0
     ·
      exact h
     ·
      exact absurd HU.out (by unfold useB; rw [show decide (row.length = 0) = false from decide_eq_false h]; simp [inB])
    have erow : ((row.length : Int) == 0) = true := by simp [hrow]
    have erow2 : (row.length == 0) = true := by simp [hrow]
    clear hrow
    have hmu : mu.length = 0 := by
     by_cases h : mu.length = 0
     ·
      exact h
     ·
      exact absurd HU.out (by unfold useB; rw [show decide (mu.length = 0) = false from decide_eq_false h]; simp [inB])
    have emu : ((mu.length : Int) == 0) = true := by simp [hmu]
    have emu2 : (mu.length == 0) = true := by simp [hmu]
    clear hmu
    have hcs : cs.length = 0 := by
     by_cases h : cs.length = 0
     ·
      exact h
     ·
      exact absurd HU.out (by unfold useB; rw [show decide (cs.length = 0) = false from decide_eq_false h]; simp [inB])
    have ecs : ((cs.length : Int) == 0) = true := by simp [hcs]
    have ecs2 : (cs.length == 0) = true := by simp [hcs]
    clear hcs
    have hun : un = false := by
     cases h : un
     ·
      rfl
     ·
      exact absurd HU.out (by unfold useB; simp [h, inB])
    rw [hun] at y7; clear hun; clear HU; refine wp_region_lit ?_; dsimp only [List.append]; (iterate 65 (refine wpList_step (fun K hK => ?_); rw [if_pos (by kernel_rfl)]; go_simp; refine hK _ _ ?_; clear hK K)); refine wpList_nil ?_; (go_wp2_with fail); go_ret; exact ⟨rfl, HB6.out.2⟩
   ·
    rw [show inB 1 9 6 = false from rfl]; (go_wp2_with fail); refine (inS _ _ _ _).mono ?_; rintro e w7 ⟨rfl, rfl⟩; rw [show inB 2 9 6 = false from rfl]; clear hlt hk2 hk3 hkd; go_upto_region 17 with fail
    have etb : (tb == []) = true := by
     by_cases h : tb = []
     ·
      simpa using h
     ·
      exact absurd HU.out (by unfold useB; simp [h, inB])
    have hwh : wh.length = 0 := by
     by_cases h : wh.length = 0
     ·
      exact h
     ·
      exact absurd HU.out (by unfold useB; rw [show decide (wh.length = 0) = false from decide_eq_false h]; simp [inB])
    have ewh : ((wh.length : Int) == 0) = true := by simp [hwh]
    have ewh2 : (wh.length == 0) = true := by simp [hwh]
    clear hwh
    have hrow : row.length = 0 := by
     by_cases h : row.length = 0
     ·
      exact h
     ·
      exact absurd HU.out (by unfold useB; rw [show decide (row.length = 0) = false from decide_eq_false h]; simp [inB])
    have erow : ((row.length : Int) == 0) = true := by simp [hrow]
    have erow2 : (row.length == 0) = true := by simp [hrow]
    clear hrow
    have hmu : mu.length = 0 := by
     by_cases h : mu.length = 0
     ·
      exact h
     ·
      exact absurd HU.out (by unfold useB; rw [show decide (mu.length = 0) = false from decide_eq_false h]; simp [inB])
    have emu : ((mu.length : Int) == 0) = true := by simp [hmu]
    have emu2 : (mu.length == 0) = true := by simp [hmu]
    clear hmu
    have hcs : cs.length = 0 := by
     by_cases h : cs.length = 0
     ·
      exact h
     ·
      exact absurd HU.out (by unfold useB; rw [show decide (cs.length = 0) = false from decide_eq_false h]; simp [inB])
    have ecs : ((cs.length : Int) == 0) = true := by simp [hcs]
    have ecs2 : (cs.length == 0) = true := by simp [hcs]
    clear hcs
    have hun : un = false := by
     cases h : un
     ·
      rfl
     ·
      exact absurd HU.out (by unfold useB; simp [h, inB])
    rw [hun] at y7; clear hun; clear HU; refine wp_region_lit ?_; dsimp only [List.append]; (iterate 18 (refine wpList_step (fun K hK => ?_); rw [if_pos (by kernel_rfl)]; go_simp; refine hK _ _ ?_; clear hK K)); go_skip; (iterate 44 (refine wpList_step (fun K hK => ?_); rw [if_pos (by kernel_rfl)]; go_simp; refine hK _ _ ?_; clear hK K)); refine wpList_nil ?_; (go_wp2_with fail); go_ret; exact ⟨rfl, HB6.out.2⟩
   ·
    rw [show inB 1 10 6 = false from rfl]; (go_wp2_with fail); refine (inS _ _ _ _).mono ?_; rintro e w7 ⟨rfl, rfl⟩; rw [show inB 2 10 6 = false from rfl]; clear hlt hk2 hk3 hkd; go_upto_region 17 with fail
    have etb : (tb == []) = true := by
     by_cases h : tb = []
     ·
      simpa using h
     ·
      exact absurd HU.out (by unfold useB; simp [h, inB])
    have hwh : wh.length = 0 := by
     by_cases h : wh.length = 0
     ·
      exact h
     ·
      exact absurd HU.out (by unfold useB; rw [show decide (wh.length = 0) = false from decide_eq_false h]; simp [inB])
    have ewh : ((wh.length : Int) == 0) = true := by simp [hwh]
    have ewh2 : (wh.length == 0) = true := by simp [hwh]
    clear hwh
    have hrow : row.length = 0 := by
     by_cases h : row.length = 0
     ·
      exact h
     ·
      exact absurd HU.out (by unfold useB; rw [show decide (row.length = 0) = false from decide_eq_false h]; simp [inB])
    have erow : ((row.length : Int) == 0) = true := by simp [hrow]
    have erow2 : (row.length == 0) = true := by simp [hrow]
    clear hrow
    have hmu : mu.length = 0 := by
     by_cases h : mu.length = 0
     ·
      exact h
     ·
      exact absurd HU.out (by unfold useB; rw [show decide (mu.length = 0) = false from decide_eq_false h]; simp [inB])
    have emu : ((mu.length : Int) == 0) = true := by simp [hmu]
    have emu2 : (mu.length == 0) = true := by simp [hmu]
    clear hmu
    have hcs : cs.length = 0 := by
     by_cases h : cs.length = 0
     ·
      exact h
     ·
      exact absurd HU.out (by unfold useB; rw [show decide (cs.length = 0) = false from decide_eq_false h]; simp [inB])
    have ecs : ((cs.length : Int) == 0) = true := by simp [hcs]
    have ecs2 : (cs.length == 0) = true := by simp [hcs]
    clear hcs
    have hun : un = false := by
     cases h : un
     ·
      rfl
     ·
      exact absurd HU.out (by unfold useB; simp [h, inB])
    rw [hun] at y7; clear hun; clear HU; refine wp_region_lit ?_; dsimp only [List.append]; (iterate 18 (refine wpList_step (fun K hK => ?_); rw [if_pos (by kernel_rfl)]; go_simp; refine hK _ _ ?_; clear hK K)); go_skip; (iterate 44 (refine wpList_step (fun K hK => ?_); rw [if_pos (by kernel_rfl)]; go_simp; refine hK _ _ ?_; clear hK K)); refine wpList_nil ?_; (go_wp2_with fail); go_ret; exact ⟨rfl, HB6.out.2⟩
end Go.Proofs.YtlbcaaodkggohaaGreatDoor
