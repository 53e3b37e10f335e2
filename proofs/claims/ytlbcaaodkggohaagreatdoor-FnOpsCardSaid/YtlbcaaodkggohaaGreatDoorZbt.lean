import Derived.Test.YtlbcaaodkggohaaGreatDoorZbc
import Derived.Test.YtlbcaaodkggohaaGreatDoorZbl
import Derived.Test.YtlbcaaodkggohaaGreatDoorZbb
namespace Go.Proofs.YtlbcaaodkggohaaGreatDoor
open Go.RowKit
set_option linter.unusedSimpArgs false
def sameB (tb nm : List UInt8) (un : Bool) (m3 m4 m5 m6 : Nat) (tb' nm' : List UInt8) (un' : Bool) (n3 n4 n5 n6 : Nat) : Bool := (tb == tb') && ((nm == nm') && ((un == un') && ((m3 == n3) && ((m4 == n4) && ((m5 == n5) && (m6 == n6))))))
def partsB (tb nm : List UInt8) (wh : List CondV) (row : List SetV) (mu : List MutV) (cs : List (List UInt8)) : Bool := shortB tb && (shortB nm && (condsB wh && ((row.all setB && decide (row.length ≤ 6)) && (mutsB mu && (cs.all shortB && decide (cs.length ≤ 6))))))
theorem eq_int (m n : Nat) (b : Bool) (h : (m == n) = b) : ((m : Int) == (n : Int)) = b := by
  cases b
  · rw [beq_eq_false_iff_ne] at h ⊢; omega
  · rw [beq_iff_eq] at h ⊢; omega
set_option maxRecDepth 100000 in
set_option maxHeartbeats 12800000 in
theorem sameI (kd : Int) (tb nm : List UInt8) (un : Bool) (m3 m4 m5 m6 : Nat) (a3 : Option Addr) (c3 : Nat) (a4 : Option Addr) (c4 : Nat) (a5 : Option Addr) (c5 : Nat) (a6 : Option Addr) (c6 : Nat) (kd' : Int) (tb' nm' : List UInt8) (un' : Bool) (n3 n4 n5 n6 : Nat) (b3 : Option Addr) (d3 : Nat) (b4 : Option Addr) (d4 : Nat) (b5 : Option Addr) (d5 : Nat) (b6 : Option Addr) (d6 : Nat) (w : World) :
  Calls Tryz.prog 18 #[.agg #[.int .i64 kd, .string ⟨tb.toArray⟩, .string ⟨nm.toArray⟩, .slice a3 m3 c3, .slice a4 m4 c4, .slice a5 m5 c5, .slice a6 m6 c6, .bool un], .agg #[.int .i64 kd', .string ⟨tb'.toArray⟩, .string ⟨nm'.toArray⟩, .slice b3 n3 d3, .slice b4 n4 d4, .slice b5 n5 d5, .slice b6 n6 d6, .bool un']] w fun e w' => e = .returned (.bool (sameB tb nm un m3 m4 m5 m6 tb' nm' un' n3 n4 n5 n6)) ∧ Below w.heap.size w w' := by
 have hb := box2D 36 w #[.int .i64 kd, .string ⟨tb.toArray⟩, .string ⟨nm.toArray⟩, .slice a3 m3 c3, .slice a4 m4 c4, .slice a5 m5 c5, .slice a6 m6 c6, .bool un] #[.int .i64 kd', .string ⟨tb'.toArray⟩, .string ⟨nm'.toArray⟩, .slice b3 n3 d3, .slice b4 n4 d4, .slice b5 n5 d5, .slice b6 n6 d6, .bool un']; have HB := Lib.hid hb.bel; have x1 := cell_at (o := 1) hb.a rfl; have y1 := cell_at (o := 1) hb.b rfl; have x2 := cell_at (o := 2) hb.a rfl; have y2 := cell_at (o := 2) hb.b rfl; have x3 := cell_at (o := 3) hb.a rfl; have y3 := cell_at (o := 3) hb.b rfl; have x4 := cell_at (o := 4) hb.a rfl; have y4 := cell_at (o := 4) hb.b rfl; have x5 := cell_at (o := 5) hb.a rfl; have y5 := cell_at (o := 5) hb.b rfl; have x6 := cell_at (o := 6) hb.a rfl; have y6 := cell_at (o := 6) hb.b rfl; have x7 := cell_at (o := 7) hb.a rfl; have y7 := cell_at (o := 7) hb.b rfl; clear hb
 cases e0 : (tb == tb')
 case false =>
  have HR : Hid (sameB tb nm un m3 m4 m5 m6 tb' nm' un' n3 n4 n5 n6 = false) := by show sameB tb nm un m3 m4 m5 m6 tb' nm' un' n3 n4 n5 n6 = false; unfold sameB; rw [e0]; rfl
  (go_enter Tryz.func18, Tryz.ntmps18); (go_wp2_with fail); go_ret; exact ⟨ret_b HR.out.symm, HB.out⟩
 cases e1 : (nm == nm')
 case false =>
  have HR : Hid (sameB tb nm un m3 m4 m5 m6 tb' nm' un' n3 n4 n5 n6 = false) := by show sameB tb nm un m3 m4 m5 m6 tb' nm' un' n3 n4 n5 n6 = false; unfold sameB; rw [e0, e1]; rfl
  (go_enter Tryz.func18, Tryz.ntmps18); (go_wp2_with fail); go_ret; exact ⟨ret_b HR.out.symm, HB.out⟩
 cases e2 : (un == un')
 case false =>
  have HR : Hid (sameB tb nm un m3 m4 m5 m6 tb' nm' un' n3 n4 n5 n6 = false) := by show sameB tb nm un m3 m4 m5 m6 tb' nm' un' n3 n4 n5 n6 = false; unfold sameB; rw [e0, e1, e2]; rfl
  (go_enter Tryz.func18, Tryz.ntmps18); (go_wp2_with fail); go_ret; exact ⟨ret_b HR.out.symm, HB.out⟩
 cases e3 : (m3 == n3)
 case false =>
  have HR : Hid (sameB tb nm un m3 m4 m5 m6 tb' nm' un' n3 n4 n5 n6 = false) := by show sameB tb nm un m3 m4 m5 m6 tb' nm' un' n3 n4 n5 n6 = false; unfold sameB; rw [e0, e1, e2, e3]; rfl
  have g3 := eq_int _ _ _ e3; (go_enter Tryz.func18, Tryz.ntmps18); (go_wp2_with fail); go_ret; exact ⟨ret_b HR.out.symm, HB.out⟩
 cases e4 : (m4 == n4)
 case false =>
  have HR : Hid (sameB tb nm un m3 m4 m5 m6 tb' nm' un' n3 n4 n5 n6 = false) := by show sameB tb nm un m3 m4 m5 m6 tb' nm' un' n3 n4 n5 n6 = false; unfold sameB; rw [e0, e1, e2, e3, e4]; rfl
  have g3 := eq_int _ _ _ e3; have g4 := eq_int _ _ _ e4; (go_enter Tryz.func18, Tryz.ntmps18); (go_wp2_with fail); go_ret; exact ⟨ret_b HR.out.symm, HB.out⟩
 cases e5 : (m5 == n5)
 case false =>
  have HR : Hid (sameB tb nm un m3 m4 m5 m6 tb' nm' un' n3 n4 n5 n6 = false) := by show sameB tb nm un m3 m4 m5 m6 tb' nm' un' n3 n4 n5 n6 = false; unfold sameB; rw [e0, e1, e2, e3, e4, e5]; rfl
  have g3 := eq_int _ _ _ e3; have g4 := eq_int _ _ _ e4; have g5 := eq_int _ _ _ e5; (go_enter Tryz.func18, Tryz.ntmps18); (go_wp2_with fail); go_ret; exact ⟨ret_b HR.out.symm, HB.out⟩
 cases e6 : (m6 == n6)
 case false =>
  have HR : Hid (sameB tb nm un m3 m4 m5 m6 tb' nm' un' n3 n4 n5 n6 = false) := by show sameB tb nm un m3 m4 m5 m6 tb' nm' un' n3 n4 n5 n6 = false; unfold sameB; rw [e0, e1, e2, e3, e4, e5, e6]; rfl
  have g3 := eq_int _ _ _ e3; have g4 := eq_int _ _ _ e4; have g5 := eq_int _ _ _ e5; have g6 := eq_int _ _ _ e6; (go_enter Tryz.func18, Tryz.ntmps18); (go_wp2_with fail); go_ret; exact ⟨ret_b HR.out.symm, HB.out⟩
 have HR : Hid (sameB tb nm un m3 m4 m5 m6 tb' nm' un' n3 n4 n5 n6 = true) := by show sameB tb nm un m3 m4 m5 m6 tb' nm' un' n3 n4 n5 n6 = true; unfold sameB; rw [e0, e1, e2, e3, e4, e5, e6]; rfl
 have g3 := eq_int _ _ _ e3; have g4 := eq_int _ _ _ e4; have g5 := eq_int _ _ _ e5; have g6 := eq_int _ _ _ e6; (go_enter Tryz.func18, Tryz.ntmps18); (go_wp2_with fail); go_ret; exact ⟨ret_b HR.out.symm, HB.out⟩
set_option maxRecDepth 100000 in
set_option maxHeartbeats 12800000 in
theorem partsI (kd : Int) (tb nm : List UInt8) (wh : List CondV) (row : List SetV) (mu : List MutV) (cs : List (List UInt8)) (un : Bool) (a3 : Option Addr) (c3 : Nat) (a4 : Option Addr) (c4 : Nat) (a5 : Option Addr) (c5 : Nat) (a6 : Option Addr) (c6 : Nat) (B : Nat → Prop) (w : World) (h1 : tb.length ≤ maxLen) (h2 : nm.length ≤ maxLen) (h3 : (dCondS wh).le maxLen) (h4 : (dSetS row).le maxLen) (h5 : (dMutS mu).le maxLen) (h6 : (dStringS cs).le maxLen)
  (r3 : Rd w B (dCondS wh) (.slice a3 wh.length c3)) (r4 : Rd w B (dSetS row) (.slice a4 row.length c4)) (r5 : Rd w B (dMutS mu) (.slice a5 mu.length c5)) (r6 : Rd w B (dStringS cs) (.slice a6 cs.length c6)) :
  Calls Tryz.prog 19 #[.agg #[.int .i64 kd, .string ⟨tb.toArray⟩, .string ⟨nm.toArray⟩, .slice a3 wh.length c3, .slice a4 row.length c4, .slice a5 mu.length c5, .slice a6 cs.length c6, .bool un]] w fun e w' => e = .returned (.bool (partsB tb nm wh row mu cs)) ∧ Below w.heap.size w w' := by
 have C1 : Hid (∀ W, BoxD 36 w W #[.int .i64 kd, .string ⟨tb.toArray⟩, .string ⟨nm.toArray⟩, .slice a3 wh.length c3, .slice a4 row.length c4, .slice a5 mu.length c5, .slice a6 cs.length c6, .bool un] → Calls Tryz.prog 56 #[.string ⟨tb.toArray⟩] W fun e w' => e = .returned (.bool (shortB tb)) ∧ BoxD 36 w w' #[.int .i64 kd, .string ⟨tb.toArray⟩, .string ⟨nm.toArray⟩, .slice a3 wh.length c3, .slice a4 row.length c4, .slice a5 mu.length c5, .slice a6 cs.length c6, .bool un]) := fun W h => (shortI tb W h1).mono (fun _ _ ⟨he, e⟩ => ⟨he, by rw [e]; exact h⟩)
 have C2 : Hid (∀ W, BoxD 36 w W #[.int .i64 kd, .string ⟨tb.toArray⟩, .string ⟨nm.toArray⟩, .slice a3 wh.length c3, .slice a4 row.length c4, .slice a5 mu.length c5, .slice a6 cs.length c6, .bool un] → Calls Tryz.prog 56 #[.string ⟨nm.toArray⟩] W fun e w' => e = .returned (.bool (shortB nm)) ∧ BoxD 36 w w' #[.int .i64 kd, .string ⟨tb.toArray⟩, .string ⟨nm.toArray⟩, .slice a3 wh.length c3, .slice a4 row.length c4, .slice a5 mu.length c5, .slice a6 cs.length c6, .bool un]) := fun W h => (shortI nm W h2).mono (fun _ _ ⟨he, e⟩ => ⟨he, by rw [e]; exact h⟩)
 have C3 : Hid (∀ W, BoxD 36 w W #[.int .i64 kd, .string ⟨tb.toArray⟩, .string ⟨nm.toArray⟩, .slice a3 wh.length c3, .slice a4 row.length c4, .slice a5 mu.length c5, .slice a6 cs.length c6, .bool un] → Calls Tryz.prog 57 #[.slice a3 wh.length c3, .int .i64 8, .func (.func 58) #[] #[]] W fun e w' => e = .returned (.bool (condsB wh)) ∧ BoxD 36 w w' #[.int .i64 kd, .string ⟨tb.toArray⟩, .string ⟨nm.toArray⟩, .slice a3 wh.length c3, .slice a4 row.length c4, .slice a5 mu.length c5, .slice a6 cs.length c6, .bool un]) := fun W h => (fewI wh a3 c3 B W h3 (r3.later h.2)).mono (fun _ _ ⟨he, hB⟩ => ⟨he, h.later hB⟩)
 have C4 : Hid (∀ W, BoxD 36 w W #[.int .i64 kd, .string ⟨tb.toArray⟩, .string ⟨nm.toArray⟩, .slice a3 wh.length c3, .slice a4 row.length c4, .slice a5 mu.length c5, .slice a6 cs.length c6, .bool un] → Calls Tryz.prog 59 #[.slice a4 row.length c4, .int .i64 6, .func (.func 60) #[] #[]] W fun e w' => e = .returned (.bool (row.all setB && decide (row.length ≤ 6))) ∧ BoxD 36 w w' #[.int .i64 kd, .string ⟨tb.toArray⟩, .string ⟨nm.toArray⟩, .slice a3 wh.length c3, .slice a4 row.length c4, .slice a5 mu.length c5, .slice a6 cs.length c6, .bool un]) := fun W h => (fewSetI row a4 c4 B W h4 (r4.later h.2)).mono (fun _ _ ⟨he, hB⟩ => ⟨he, h.later hB⟩)
 have C5 : Hid (∀ W, BoxD 36 w W #[.int .i64 kd, .string ⟨tb.toArray⟩, .string ⟨nm.toArray⟩, .slice a3 wh.length c3, .slice a4 row.length c4, .slice a5 mu.length c5, .slice a6 cs.length c6, .bool un] → Calls Tryz.prog 61 #[.slice a5 mu.length c5, .int .i64 8, .func (.func 62) #[] #[]] W fun e w' => e = .returned (.bool (mutsB mu)) ∧ BoxD 36 w w' #[.int .i64 kd, .string ⟨tb.toArray⟩, .string ⟨nm.toArray⟩, .slice a3 wh.length c3, .slice a4 row.length c4, .slice a5 mu.length c5, .slice a6 cs.length c6, .bool un]) := fun W h => (mfewI mu a5 c5 B W h5 (r5.later h.2)).mono (fun _ _ ⟨he, hB⟩ => ⟨he, h.later hB⟩)
 have C6 : Hid (∀ W, BoxD 36 w W #[.int .i64 kd, .string ⟨tb.toArray⟩, .string ⟨nm.toArray⟩, .slice a3 wh.length c3, .slice a4 row.length c4, .slice a5 mu.length c5, .slice a6 cs.length c6, .bool un] → Calls Tryz.prog 21 #[.slice a6 cs.length c6, .int .i64 6, .func (.func 56) #[] #[]] W fun e w' => e = .returned (.bool (cs.all shortB && decide (cs.length ≤ 6))) ∧ BoxD 36 w w' #[.int .i64 kd, .string ⟨tb.toArray⟩, .string ⟨nm.toArray⟩, .slice a3 wh.length c3, .slice a4 row.length c4, .slice a5 mu.length c5, .slice a6 cs.length c6, .bool un]) := fun W h => (fewShortI cs a6 c6 B W h6 (r6.later h.2)).mono (fun _ _ ⟨he, hB⟩ => ⟨he, h.later hB⟩)
 have HE : Hid (partsB tb nm wh row mu cs = (shortB tb && (shortB nm && (condsB wh && ((row.all setB && decide (row.length ≤ 6)) && (mutsB mu && (cs.all shortB && decide (cs.length ≤ 6)))))))) := rfl; have hb := boxD 36 w #[.int .i64 kd, .string ⟨tb.toArray⟩, .string ⟨nm.toArray⟩, .slice a3 wh.length c3, .slice a4 row.length c4, .slice a5 mu.length c5, .slice a6 cs.length c6, .bool un]; have HB0 := Lib.hid hb; generalize partsB tb nm wh row mu cs = pb at *; generalize (row.all setB && decide (row.length ≤ 6)) = t4 at *; generalize (cs.all shortB && decide (cs.length ≤ 6)) = t6 at *; generalize condsB wh = t3 at *; generalize mutsB mu = t5 at *; generalize shortB tb = t1 at *; generalize shortB nm = t2 at *; obtain ⟨y1, y2, y3, y4, y5, y6⟩ := ck6 1 2 3 4 5 6 hb.1; clear hb h1 h2 h3 h4 h5 h6 r3 r4 r5 r6
 cases t1
 case false =>
  have HR : Hid (pb = false) := by show pb = false; rw [HE.out]; first | rfl | simp
  clear HE; (go_enter Tryz.func19, Tryz.ntmps19); (go_wp2_with fail); refine (C1.out _ HB0.out).mono ?_; rintro e w1 ⟨rfl, hb⟩; have HB1 := Lib.hid hb; clear y1 y2 y3 y4 y5 y6; obtain ⟨y1, y2, y3, y4, y5, y6⟩ := ck6 1 2 3 4 5 6 hb.1; clear hb; (go_wp2_with fail); go_ret; exact ⟨ret_b HR.out.symm, HB1.out.2⟩
 cases t2
 case false =>
  have HR : Hid (pb = false) := by show pb = false; rw [HE.out]; first | rfl | simp
  clear HE; (go_enter Tryz.func19, Tryz.ntmps19); (go_wp2_with fail); refine (C1.out _ HB0.out).mono ?_; rintro e w1 ⟨rfl, hb⟩; have HB1 := Lib.hid hb; clear y1 y2 y3 y4 y5 y6; obtain ⟨y1, y2, y3, y4, y5, y6⟩ := ck6 1 2 3 4 5 6 hb.1; clear hb; (go_wp2_with fail); refine (C2.out _ HB1.out).mono ?_; rintro e w2 ⟨rfl, hb⟩; have HB2 := Lib.hid hb; clear y1 y2 y3 y4 y5 y6; obtain ⟨y1, y2, y3, y4, y5, y6⟩ := ck6 1 2 3 4 5 6 hb.1; clear hb; (go_wp2_with fail); go_ret; exact ⟨ret_b HR.out.symm, HB2.out.2⟩
 cases t3
 case false =>
  have HR : Hid (pb = false) := by show pb = false; rw [HE.out]; first | rfl | simp
  clear HE; (go_enter Tryz.func19, Tryz.ntmps19); (go_wp2_with fail); refine (C1.out _ HB0.out).mono ?_; rintro e w1 ⟨rfl, hb⟩; have HB1 := Lib.hid hb; clear y1 y2 y3 y4 y5 y6; obtain ⟨y1, y2, y3, y4, y5, y6⟩ := ck6 1 2 3 4 5 6 hb.1; clear hb; (go_wp2_with fail); refine (C2.out _ HB1.out).mono ?_; rintro e w2 ⟨rfl, hb⟩; have HB2 := Lib.hid hb; clear y1 y2 y3 y4 y5 y6; obtain ⟨y1, y2, y3, y4, y5, y6⟩ := ck6 1 2 3 4 5 6 hb.1; clear hb; (go_wp2_with fail); refine (C3.out _ HB2.out).mono ?_; rintro e w3 ⟨rfl, hb⟩; have HB3 := Lib.hid hb; clear y1 y2 y3 y4 y5 y6; obtain ⟨y1, y2, y3, y4, y5, y6⟩ := ck6 1 2 3 4 5 6 hb.1; clear hb; (go_wp2_with fail); go_ret; exact ⟨ret_b HR.out.symm, HB3.out.2⟩
 cases t4
 case false =>
  have HR : Hid (pb = false) := by show pb = false; rw [HE.out]; first | rfl | simp
  clear HE; (go_enter Tryz.func19, Tryz.ntmps19); (go_wp2_with fail); refine (C1.out _ HB0.out).mono ?_; rintro e w1 ⟨rfl, hb⟩; have HB1 := Lib.hid hb; clear y1 y2 y3 y4 y5 y6; obtain ⟨y1, y2, y3, y4, y5, y6⟩ := ck6 1 2 3 4 5 6 hb.1; clear hb; (go_wp2_with fail); refine (C2.out _ HB1.out).mono ?_; rintro e w2 ⟨rfl, hb⟩; have HB2 := Lib.hid hb; clear y1 y2 y3 y4 y5 y6; obtain ⟨y1, y2, y3, y4, y5, y6⟩ := ck6 1 2 3 4 5 6 hb.1; clear hb; (go_wp2_with fail); refine (C3.out _ HB2.out).mono ?_; rintro e w3 ⟨rfl, hb⟩; have HB3 := Lib.hid hb; clear y1 y2 y3 y4 y5 y6; obtain ⟨y1, y2, y3, y4, y5, y6⟩ := ck6 1 2 3 4 5 6 hb.1; clear hb; (go_wp2_with fail); refine (C4.out _ HB3.out).mono ?_; rintro e w4 ⟨rfl, hb⟩; have HB4 := Lib.hid hb; clear y1 y2 y3 y4 y5 y6; obtain ⟨y1, y2, y3, y4, y5, y6⟩ := ck6 1 2 3 4 5 6 hb.1; clear hb; (go_wp2_with fail); go_ret; exact ⟨ret_b HR.out.symm, HB4.out.2⟩
 cases t5
 case false =>
  have HR : Hid (pb = false) := by show pb = false; rw [HE.out]; first | rfl | simp
  clear HE; (go_enter Tryz.func19, Tryz.ntmps19); (go_wp2_with fail); refine (C1.out _ HB0.out).mono ?_; rintro e w1 ⟨rfl, hb⟩; have HB1 := Lib.hid hb; clear y1 y2 y3 y4 y5 y6; obtain ⟨y1, y2, y3, y4, y5, y6⟩ := ck6 1 2 3 4 5 6 hb.1; clear hb; (go_wp2_with fail); refine (C2.out _ HB1.out).mono ?_; rintro e w2 ⟨rfl, hb⟩; have HB2 := Lib.hid hb; clear y1 y2 y3 y4 y5 y6; obtain ⟨y1, y2, y3, y4, y5, y6⟩ := ck6 1 2 3 4 5 6 hb.1; clear hb; (go_wp2_with fail); refine (C3.out _ HB2.out).mono ?_; rintro e w3 ⟨rfl, hb⟩; have HB3 := Lib.hid hb; clear y1 y2 y3 y4 y5 y6; obtain ⟨y1, y2, y3, y4, y5, y6⟩ := ck6 1 2 3 4 5 6 hb.1; clear hb; (go_wp2_with fail); refine (C4.out _ HB3.out).mono ?_; rintro e w4 ⟨rfl, hb⟩; have HB4 := Lib.hid hb; clear y1 y2 y3 y4 y5 y6; obtain ⟨y1, y2, y3, y4, y5, y6⟩ := ck6 1 2 3 4 5 6 hb.1; clear hb; (go_wp2_with fail); refine (C5.out _ HB4.out).mono ?_; rintro e w5 ⟨rfl, hb⟩; have HB5 := Lib.hid hb; clear y1 y2 y3 y4 y5 y6; obtain ⟨y1, y2, y3, y4, y5, y6⟩ := ck6 1 2 3 4 5 6 hb.1; clear hb; (go_wp2_with fail); go_ret; exact ⟨ret_b HR.out.symm, HB5.out.2⟩
 have HR : Hid (pb = t6) := by show pb = t6; rw [HE.out]; simp
 clear HE; (go_enter Tryz.func19, Tryz.ntmps19); (go_wp2_with fail); refine (C1.out _ HB0.out).mono ?_; rintro e w1 ⟨rfl, hb⟩; have HB1 := Lib.hid hb; clear y1 y2 y3 y4 y5 y6; obtain ⟨y1, y2, y3, y4, y5, y6⟩ := ck6 1 2 3 4 5 6 hb.1; clear hb; (go_wp2_with fail); refine (C2.out _ HB1.out).mono ?_; rintro e w2 ⟨rfl, hb⟩; have HB2 := Lib.hid hb; clear y1 y2 y3 y4 y5 y6; obtain ⟨y1, y2, y3, y4, y5, y6⟩ := ck6 1 2 3 4 5 6 hb.1; clear hb; (go_wp2_with fail); refine (C3.out _ HB2.out).mono ?_; rintro e w3 ⟨rfl, hb⟩; have HB3 := Lib.hid hb; clear y1 y2 y3 y4 y5 y6; obtain ⟨y1, y2, y3, y4, y5, y6⟩ := ck6 1 2 3 4 5 6 hb.1; clear hb; (go_wp2_with fail); refine (C4.out _ HB3.out).mono ?_; rintro e w4 ⟨rfl, hb⟩; have HB4 := Lib.hid hb; clear y1 y2 y3 y4 y5 y6; obtain ⟨y1, y2, y3, y4, y5, y6⟩ := ck6 1 2 3 4 5 6 hb.1; clear hb; (go_wp2_with fail); refine (C5.out _ HB4.out).mono ?_; rintro e w5 ⟨rfl, hb⟩; have HB5 := Lib.hid hb; clear y1 y2 y3 y4 y5 y6; obtain ⟨y1, y2, y3, y4, y5, y6⟩ := ck6 1 2 3 4 5 6 hb.1; clear hb; (go_wp2_with fail); refine (C6.out _ HB5.out).mono ?_; rintro e w6 ⟨rfl, hb⟩; have HB6 := Lib.hid hb; clear y1 y2 y3 y4 y5 y6; obtain ⟨y1, y2, y3, y4, y5, y6⟩ := ck6 1 2 3 4 5 6 hb.1; clear hb; (go_wp2_with fail); go_ret; exact ⟨ret_b HR.out.symm, HB6.out.2⟩
theorem op_kind1 (tb nm : List UInt8) (wh : List CondV) (row : List SetV) (mu : List MutV) (cs : List (List UInt8)) (un : Bool) : opB ⟨1, tb, nm, wh, row, mu, cs, un⟩ = (sameB tb nm un wh.length row.length mu.length cs.length tb nm false 0 row.length 0 0 && partsB tb nm wh row mu cs) := by
 have i0 : inB 1 1 10 = true := by decide
 have i1 : inB 1 1 6 = true := by decide
 have i2 : inB 2 1 6 = false := by decide
 have j1 : condsB [] = true := rfl; have j2 : mutsB [] = true := rfl; rw [Bool.eq_iff_iff]; unfold opB headB useB sameB partsB rowsB colsB shortB; simp only [i0, i1, i2]; simp; constructor
 ·
  intro h
  simp_all
 ·
  intro h
  simp_all
theorem op_kind2 (tb nm : List UInt8) (wh : List CondV) (row : List SetV) (mu : List MutV) (cs : List (List UInt8)) (un : Bool) : opB ⟨2, tb, nm, wh, row, mu, cs, un⟩ = (sameB tb nm un wh.length row.length mu.length cs.length tb [] false wh.length 0 0 cs.length && partsB tb nm wh row mu cs) := by
 have i0 : inB 1 2 10 = true := by decide
 have i1 : inB 1 2 6 = true := by decide
 have i2 : inB 2 2 6 = true := by decide
 have j1 : condsB [] = true := rfl; have j2 : mutsB [] = true := rfl; rw [Bool.eq_iff_iff]; unfold opB headB useB sameB partsB rowsB colsB shortB; simp only [i0, i1, i2]; simp; constructor
 ·
  intro h
  simp_all
 ·
  intro h
  simp_all
theorem op_kind3 (tb nm : List UInt8) (wh : List CondV) (row : List SetV) (mu : List MutV) (cs : List (List UInt8)) (un : Bool) : opB ⟨3, tb, nm, wh, row, mu, cs, un⟩ = (sameB tb nm un wh.length row.length mu.length cs.length tb [] false wh.length row.length 0 0 && partsB tb nm wh row mu cs) := by
 have i0 : inB 1 3 10 = true := by decide
 have i1 : inB 1 3 6 = true := by decide
 have i2 : inB 2 3 6 = true := by decide
 have j1 : condsB [] = true := rfl; have j2 : mutsB [] = true := rfl; rw [Bool.eq_iff_iff]; unfold opB headB useB sameB partsB rowsB colsB shortB; simp only [i0, i1, i2]; simp; constructor
 ·
  intro h
  simp_all
 ·
  intro h
  simp_all
theorem op_kind4 (tb nm : List UInt8) (wh : List CondV) (row : List SetV) (mu : List MutV) (cs : List (List UInt8)) (un : Bool) : opB ⟨4, tb, nm, wh, row, mu, cs, un⟩ = (sameB tb nm un wh.length row.length mu.length cs.length tb [] false wh.length 0 mu.length 0 && partsB tb nm wh row mu cs) := by
 have i0 : inB 1 4 10 = true := by decide
 have i1 : inB 1 4 6 = true := by decide
 have i2 : inB 2 4 6 = true := by decide
 have j1 : condsB [] = true := rfl; have j2 : mutsB [] = true := rfl; rw [Bool.eq_iff_iff]; unfold opB headB useB sameB partsB rowsB colsB shortB; simp only [i0, i1, i2]; simp; constructor
 ·
  intro h
  simp_all
 ·
  intro h
  simp_all
theorem op_kind5 (tb nm : List UInt8) (wh : List CondV) (row : List SetV) (mu : List MutV) (cs : List (List UInt8)) (un : Bool) : opB ⟨5, tb, nm, wh, row, mu, cs, un⟩ = (sameB tb nm un wh.length row.length mu.length cs.length tb [] false wh.length 0 0 0 && partsB tb nm wh row mu cs) := by
 have i0 : inB 1 5 10 = true := by decide
 have i1 : inB 1 5 6 = true := by decide
 have i2 : inB 2 5 6 = true := by decide
 have j1 : condsB [] = true := rfl; have j2 : mutsB [] = true := rfl; rw [Bool.eq_iff_iff]; unfold opB headB useB sameB partsB rowsB colsB shortB; simp only [i0, i1, i2]; simp; constructor
 ·
  intro h
  simp_all
 ·
  intro h
  simp_all
theorem op_kind6 (tb nm : List UInt8) (wh : List CondV) (row : List SetV) (mu : List MutV) (cs : List (List UInt8)) (un : Bool) : opB ⟨6, tb, nm, wh, row, mu, cs, un⟩ = (sameB tb nm un wh.length row.length mu.length cs.length tb [] un wh.length row.length 0 0 && partsB tb nm wh row mu cs) := by
 have i0 : inB 1 6 10 = true := by decide
 have i1 : inB 1 6 6 = true := by decide
 have i2 : inB 2 6 6 = true := by decide
 have j1 : condsB [] = true := rfl; have j2 : mutsB [] = true := rfl; rw [Bool.eq_iff_iff]; unfold opB headB useB sameB partsB rowsB colsB shortB; simp only [i0, i1, i2]; simp; constructor
 ·
  intro h
  simp_all
 ·
  intro h
  simp_all
theorem op_kind7 (tb nm : List UInt8) (wh : List CondV) (row : List SetV) (mu : List MutV) (cs : List (List UInt8)) (un : Bool) : opB ⟨7, tb, nm, wh, row, mu, cs, un⟩ = (sameB tb nm un wh.length row.length mu.length cs.length [] [] false 0 0 0 0 && partsB tb nm wh row mu cs) := by
 have i0 : inB 1 7 10 = true := by decide
 have i1 : inB 1 7 6 = false := by decide
 have i2 : inB 2 7 6 = false := by decide
 have j1 : condsB [] = true := rfl; have j2 : mutsB [] = true := rfl; rw [Bool.eq_iff_iff]; unfold opB headB useB sameB partsB rowsB colsB shortB; simp only [i0, i1, i2]; simp; constructor
 ·
  intro h
  simp_all
 ·
  intro h
  simp_all
theorem op_kind8 (tb nm : List UInt8) (wh : List CondV) (row : List SetV) (mu : List MutV) (cs : List (List UInt8)) (un : Bool) : opB ⟨8, tb, nm, wh, row, mu, cs, un⟩ = (sameB tb nm un wh.length row.length mu.length cs.length [] [] false 0 0 0 0 && partsB tb nm wh row mu cs) := by
 have i0 : inB 1 8 10 = true := by decide
 have i1 : inB 1 8 6 = false := by decide
 have i2 : inB 2 8 6 = false := by decide
 have j1 : condsB [] = true := rfl; have j2 : mutsB [] = true := rfl; rw [Bool.eq_iff_iff]; unfold opB headB useB sameB partsB rowsB colsB shortB; simp only [i0, i1, i2]; simp; constructor
 ·
  intro h
  simp_all
 ·
  intro h
  simp_all
theorem op_kind9 (tb nm : List UInt8) (wh : List CondV) (row : List SetV) (mu : List MutV) (cs : List (List UInt8)) (un : Bool) : opB ⟨9, tb, nm, wh, row, mu, cs, un⟩ = (sameB tb nm un wh.length row.length mu.length cs.length [] nm false 0 0 0 0 && partsB tb nm wh row mu cs) := by
 have i0 : inB 1 9 10 = true := by decide
 have i1 : inB 1 9 6 = false := by decide
 have i2 : inB 2 9 6 = false := by decide
 have j1 : condsB [] = true := rfl; have j2 : mutsB [] = true := rfl; rw [Bool.eq_iff_iff]; unfold opB headB useB sameB partsB rowsB colsB shortB; simp only [i0, i1, i2]; simp; constructor
 ·
  intro h
  simp_all
 ·
  intro h
  simp_all
theorem op_kind10 (tb nm : List UInt8) (wh : List CondV) (row : List SetV) (mu : List MutV) (cs : List (List UInt8)) (un : Bool) : opB ⟨10, tb, nm, wh, row, mu, cs, un⟩ = (sameB tb nm un wh.length row.length mu.length cs.length [] nm false 0 0 0 0 && partsB tb nm wh row mu cs) := by
 have i0 : inB 1 10 10 = true := by decide
 have i1 : inB 1 10 6 = false := by decide
 have i2 : inB 2 10 6 = false := by decide
 have j1 : condsB [] = true := rfl; have j2 : mutsB [] = true := rfl; rw [Bool.eq_iff_iff]; unfold opB headB useB sameB partsB rowsB colsB shortB; simp only [i0, i1, i2]; simp; constructor
 ·
  intro h
  simp_all
 ·
  intro h
  simp_all
theorem op_none {kd : Int} {tb nm : List UInt8} {wh : List CondV} {row : List SetV} {mu : List MutV} {cs : List (List UInt8)} {un : Bool} (h : inB 1 kd 10 = false) : opB ⟨kd, tb, nm, wh, row, mu, cs, un⟩ = false := by
 unfold opB headB; simp [h]
end Go.Proofs.YtlbcaaodkggohaaGreatDoor
