import Derived.Test.YtlbcaaodkggohaaGreatDoorZbo
import Derived.Test.YtlbcaaodkggohaaGreatDoorZbp
import Derived.Test.YtlbcaaodkggohaaGreatDoorZbq
import Derived.Test.YtlbcaaodkggohaaGreatDoorZbu
import Derived.Test.YtlbcaaodkggohaaGreatDoorZbv
import Derived.Test.YtlbcaaodkggohaaGreatDoorZah
import Derived.Test.YtlbcaaodkggohaaGreatDoorZak
import Derived.Test.YtlbcaaodkggohaaGreatDoorZao
namespace Go.Proofs.YtlbcaaodkggohaaGreatDoor
open Go.RowKit
set_option linter.unusedSimpArgs false
theorem tab_or {l : List Tb} {s : List UInt8} {x : Int} : (if tplC l s < 0 then 10 else x) = if tabK l s = 0 then x else 10 := by
 unfold tabK
 by_cases h : tplC l s < 0 <;> simp [h]
theorem tabK_or (l : List Tb) (s : List UInt8) : tabK l s = 0 ∨ tabK l s = 10 := by
 unfold tabK
 by_cases h : tplC l s < 0 <;> simp [h]
theorem pkN_nil (t : Tb) : pkN t [] = 0 := by simp [pkN]
theorem setsC_nil (t : Tb) : setsC t [] = 0 := rfl
theorem condsC_nil (t : Tb) : condsC t [] = 0 := rfl
theorem mutsC_nil (t : Tb) : mutsC t [] = 0 := rfl
theorem oc_tab {l : List Tb} {o : OpV} (h : ¬ 6 < o.kd) : ocC l o = orL [tabK l o.tb, if o.kd = 1 then nmK o.nm else 0, pkN (tabN l o.tb) o.cs, condsC (tabN l o.tb) o.wh, setsC (tabN l o.tb) o.row, mutsC (tabN l o.tb) o.mu] := by
 unfold ocC; rw [if_neg h, tab_or]; rcases tabK_or l o.tb with e | e
 ·
  rw [e, if_pos rfl]
  by_cases h1 : o.kd = 1
  ·
   rw [if_pos h1]; unfold nmK
   by_cases h2 : o.nm ≠ [] ∧ nameB o.nm = false
   ·
    rw [if_pos ⟨h1, h2⟩, if_pos h2]; simp [orL]
   ·
    rw [if_neg (fun h => h2 h.2), if_neg h2]; simp [orL]
  ·
   rw [if_neg (fun h => h1 h.1), if_neg h1]; simp [orL]
 ·
  rw [e, if_neg (by omega)]; simp [orL]
theorem orL_skip (a : Int) (l m : List Int) (h : orL l = orL m) : orL (a :: l) = orL (a :: m) := by simp [orL, h]
theorem oc_k1 (l : List Tb) (tb nm : List UInt8) (row : List SetV) (un : Bool) : ocC l ⟨1, tb, nm, [], row, [], [], un⟩ = orL [tabK l tb, nmK nm, setsC (tabN l tb) row] := by
 rw [oc_tab (by show ¬ 6 < (1 : Int); omega)]; simp only [pkN_nil, setsC_nil, condsC_nil, mutsC_nil]; refine orL_skip _ _ _ ?_; simp [orL]
theorem oc_k2 (l : List Tb) (tb nm : List UInt8) (wh : List CondV) (cs : List (List UInt8)) (un : Bool) : ocC l ⟨2, tb, nm, wh, [], [], cs, un⟩ = orL [tabK l tb, pkN (tabN l tb) cs, condsC (tabN l tb) wh] := by
 rw [oc_tab (by show ¬ 6 < (2 : Int); omega)]; simp only [pkN_nil, setsC_nil, condsC_nil, mutsC_nil]; refine orL_skip _ _ _ ?_; simp [orL]
theorem oc_k3 (l : List Tb) (tb nm : List UInt8) (wh : List CondV) (row : List SetV) (un : Bool) : ocC l ⟨3, tb, nm, wh, row, [], [], un⟩ = orL [tabK l tb, condsC (tabN l tb) wh, setsC (tabN l tb) row] := by
 rw [oc_tab (by show ¬ 6 < (3 : Int); omega)]; simp only [pkN_nil, setsC_nil, condsC_nil, mutsC_nil]; refine orL_skip _ _ _ ?_; simp [orL]
theorem oc_k4 (l : List Tb) (tb nm : List UInt8) (wh : List CondV) (mu : List MutV) (un : Bool) : ocC l ⟨4, tb, nm, wh, [], mu, [], un⟩ = orL [tabK l tb, condsC (tabN l tb) wh, mutsC (tabN l tb) mu] := by
 rw [oc_tab (by show ¬ 6 < (4 : Int); omega)]; simp only [pkN_nil, setsC_nil, condsC_nil, mutsC_nil]; refine orL_skip _ _ _ ?_; simp [orL]
theorem oc_k5 (l : List Tb) (tb nm : List UInt8) (wh : List CondV) (un : Bool) : ocC l ⟨5, tb, nm, wh, [], [], [], un⟩ = orL [tabK l tb, condsC (tabN l tb) wh] := by
 rw [oc_tab (by show ¬ 6 < (5 : Int); omega)]; simp only [pkN_nil, setsC_nil, condsC_nil, mutsC_nil]; refine orL_skip _ _ _ ?_; simp [orL]
theorem oc_k6 (l : List Tb) (tb nm : List UInt8) (wh : List CondV) (row : List SetV) (un : Bool) : ocC l ⟨6, tb, nm, wh, row, [], [], un⟩ = orL [tabK l tb, condsC (tabN l tb) wh, setsC (tabN l tb) row] := by
 rw [oc_tab (by show ¬ 6 < (6 : Int); omega)]; simp only [pkN_nil, setsC_nil, condsC_nil, mutsC_nil]; refine orL_skip _ _ _ ?_; simp [orL]
theorem nil_of {α : Type} {l : List α} (h : l.length = 0) : l = [] := List.eq_nil_of_length_eq_zero h
set_option maxRecDepth 100000 in
set_option maxHeartbeats 12800000 in
theorem op_val (l : List Tb) (sa : Option Addr) (sc : Nat) (A : Nat → Prop) (o : OpV) (a3 : Option Addr) (c3 : Nat) (a4 : Option Addr) (c4 : Nat) (a5 : Option Addr) (c5 : Nat) (a6 : Option Addr) (c6 : Nat) (B : Nat → Prop) (w : World) (hlo : (dTableS l).le maxLen) (_h1 : o.tb.length ≤ maxLen) (h2 : o.nm.length ≤ maxLen) (h3 : (dCondS o.wh).le maxLen) (h4 : (dSetS o.row).le maxLen) (h5 : (dMutS o.mu).le maxLen) (h6 : (dStringS o.cs).le maxLen) (hcap : o.row.length ≤ c4) (hT : Rd w A (dTableS l) (.slice sa l.length sc)) (r3 : Rd w B (dCondS o.wh) (.slice a3 o.wh.length c3)) (r4 : Rd w B (dSetS o.row) (.slice a4 o.row.length c4)) (r5 : Rd w B (dMutS o.mu) (.slice a5 o.mu.length c5)) (r6 : Rd w B (dStringS o.cs) (.slice a6 o.cs.length c6)) (ho : opB o = true) :
  ∃ v : Value, (∀ W, Below w.heap.size w W → Calls Tryz.prog 13 #[.agg #[.int .i64 o.kd, .string ⟨o.tb.toArray⟩, .string ⟨o.nm.toArray⟩, .slice a3 o.wh.length c3, .slice a4 o.row.length c4, .slice a5 o.mu.length c5, .slice a6 o.cs.length c6, .bool o.un]] W fun e w' => e = .returned (.tuple #[v, .bool true]) ∧ Below W.heap.size W w') ∧ (∀ W, Below w.heap.size w W → Calls Tryz.prog 14 #[.agg #[.slice sa l.length sc], v] W fun e w' => e = .returned (.int .i64 (ocC l o)) ∧ Below W.heap.size W w') := by
 obtain ⟨kd, tb, nm, wh, row, mu, cs, un⟩ := o; dsimp only at *
 have hk : inB 1 kd 10 = true := by
  cases hk : inB 1 kd 10
  ·
   rw [op_none hk] at ho; cases ho
  ·
   rfl
 have hb : 1 ≤ kd ∧ kd ≤ 10 := by simpa [inB] using hk
 clear hk; rcases (by omega : kd = 1 ∨ kd = 2 ∨ kd = 3 ∨ kd = 4 ∨ kd = 5 ∨ kd = 6 ∨ kd = 7 ∨ kd = 8 ∨ kd = 9 ∨ kd = 10) with rfl | rfl | rfl | rfl | rfl | rfl | rfl | rfl | rfl | rfl
 ·
  rw [op_kind1] at ho; simp only [sameB, partsB, Bool.and_eq_true, beq_iff_eq] at ho; obtain ⟨⟨-, -, -, e3, e4, e5, e6⟩, -, -, -, ⟨hs, -⟩, hm, -⟩ := ho; obtain rfl := nil_of e3; obtain rfl := nil_of e5; obtain rfl := nil_of e6; exact ⟨_, fun W _ => opOf1 tb nm _ _ _ _ un a3 c3 a4 c4 a5 c5 a6 c6 W, fun W h => by rw [oc_k1]; exact opc1 l sa sc A tb nm row a4 c4 B W hlo (hT.later h) h2 h4 (fun k hk => List.all_eq_true.1 hs _ (List.getElem_mem hk)) hcap (r4.later h)⟩
 ·
  rw [op_kind2] at ho; simp only [sameB, partsB, Bool.and_eq_true, beq_iff_eq] at ho; obtain ⟨⟨-, -, -, e3, e4, e5, e6⟩, -, -, -, ⟨hs, -⟩, hm, -⟩ := ho; obtain rfl := nil_of e4; obtain rfl := nil_of e5; exact ⟨_, fun W _ => opOf2 tb nm _ _ _ _ un a3 c3 a4 c4 a5 c5 a6 c6 W, fun W h => by rw [oc_k2]; exact opc2 l sa sc A tb wh a3 c3 cs a6 c6 B W hlo (hT.later h) h3 (r3.later h) h6 (r6.later h)⟩
 ·
  rw [op_kind3] at ho; simp only [sameB, partsB, Bool.and_eq_true, beq_iff_eq] at ho; obtain ⟨⟨-, -, -, e3, e4, e5, e6⟩, -, -, -, ⟨hs, -⟩, hm, -⟩ := ho; obtain rfl := nil_of e5; obtain rfl := nil_of e6; exact ⟨_, fun W _ => opOf3 tb nm _ _ _ _ un a3 c3 a4 c4 a5 c5 a6 c6 W, fun W h => by rw [oc_k3]; exact opc3 l sa sc A tb wh a3 c3 row a4 c4 B W hlo (hT.later h) h3 (r3.later h) h4 (fun k hk => List.all_eq_true.1 hs _ (List.getElem_mem hk)) hcap (r4.later h)⟩
 ·
  rw [op_kind4] at ho; simp only [sameB, partsB, Bool.and_eq_true, beq_iff_eq] at ho; obtain ⟨⟨-, -, -, e3, e4, e5, e6⟩, -, -, -, ⟨hs, -⟩, hm, -⟩ := ho; obtain rfl := nil_of e4; obtain rfl := nil_of e6; exact ⟨_, fun W _ => opOf4 tb nm _ _ _ _ un a3 c3 a4 c4 a5 c5 a6 c6 W, fun W h => by rw [oc_k4]; exact opc4 l sa sc A tb wh a3 c3 mu a5 c5 B W hlo (hT.later h) h3 (r3.later h) h5 (fun k hk => muts_all hm _ (List.getElem_mem hk)) (r5.later h)⟩
 ·
  rw [op_kind5] at ho; simp only [sameB, partsB, Bool.and_eq_true, beq_iff_eq] at ho; obtain ⟨⟨-, -, -, e3, e4, e5, e6⟩, -, -, -, ⟨hs, -⟩, hm, -⟩ := ho; obtain rfl := nil_of e4; obtain rfl := nil_of e5; obtain rfl := nil_of e6; exact ⟨_, fun W _ => opOf5 tb nm _ _ _ _ un a3 c3 a4 c4 a5 c5 a6 c6 W, fun W h => by rw [oc_k5]; exact opc5 l sa sc A tb wh a3 c3 B W hlo (hT.later h) h3 (r3.later h)⟩
 ·
  rw [op_kind6] at ho; simp only [sameB, partsB, Bool.and_eq_true, beq_iff_eq] at ho; obtain ⟨⟨-, -, -, e3, e4, e5, e6⟩, -, -, -, ⟨hs, -⟩, hm, -⟩ := ho; obtain rfl := nil_of e5; obtain rfl := nil_of e6; exact ⟨_, fun W _ => opOf6 tb nm _ _ _ _ un a3 c3 a4 c4 a5 c5 a6 c6 W, fun W h => by rw [oc_k6]; exact opc6 l sa sc A tb wh a3 c3 row a4 c4 un B W hlo (hT.later h) h3 (r3.later h) h4 (fun k hk => List.all_eq_true.1 hs _ (List.getElem_mem hk)) hcap (r4.later h)⟩
 ·
  rw [op_kind7] at ho; simp only [sameB, partsB, Bool.and_eq_true, beq_iff_eq] at ho; exact ⟨_, fun W _ => opOf7 tb nm _ _ _ _ un a3 c3 a4 c4 a5 c5 a6 c6 W, fun W h => by rw [oc_free (by show 6 < (7 : Int); omega) (by show (7 : Int) ≠ 10; omega)]; exact opc7 l sa sc W⟩
 ·
  rw [op_kind8] at ho; simp only [sameB, partsB, Bool.and_eq_true, beq_iff_eq] at ho; exact ⟨_, fun W _ => opOf8 tb nm _ _ _ _ un a3 c3 a4 c4 a5 c5 a6 c6 W, fun W h => by rw [oc_free (by show 6 < (8 : Int); omega) (by show (8 : Int) ≠ 10; omega)]; exact opc8 l sa sc W⟩
 ·
  rw [op_kind9] at ho; simp only [sameB, partsB, Bool.and_eq_true, beq_iff_eq] at ho; exact ⟨_, fun W _ => opOf9 tb nm _ _ _ _ un a3 c3 a4 c4 a5 c5 a6 c6 W, fun W h => by rw [oc_free (by show 6 < (9 : Int); omega) (by show (9 : Int) ≠ 10; omega)]; exact opc9 l sa sc nm W⟩
 ·
  rw [op_kind10] at ho; simp only [sameB, partsB, Bool.and_eq_true, beq_iff_eq] at ho; exact ⟨_, fun W _ => opOf10 tb nm _ _ _ _ un a3 c3 a4 c4 a5 c5 a6 c6 W, fun W h => by rw [oc_lock (by show 6 < (10 : Int); omega) rfl]; exact opc10 l sa sc nm W h2⟩
set_option maxRecDepth 100000 in
set_option maxHeartbeats 12800000 in
theorem opCodeSR (l : List Tb) (sa : Option Addr) (sc : Nat) (A : Nat → Prop) (o : OpV) (a3 : Option Addr) (c3 : Nat) (a4 : Option Addr) (c4 : Nat) (a5 : Option Addr) (c5 : Nat) (a6 : Option Addr) (c6 : Nat) (B : Nat → Prop) (w : World) (ho : opB o = true) (hlo : (dTableS l).le maxLen) (h1 : o.tb.length ≤ maxLen) (h2 : o.nm.length ≤ maxLen) (h3 : (dCondS o.wh).le maxLen) (h4 : (dSetS o.row).le maxLen) (h5 : (dMutS o.mu).le maxLen) (h6 : (dStringS o.cs).le maxLen) (hT : Rd w A (dTableS l) (.slice sa l.length sc)) (r3 : Rd w B (dCondS o.wh) (.slice a3 o.wh.length c3)) (r4 : Rd w B (dSetS o.row) (.slice a4 o.row.length c4)) (r5 : Rd w B (dMutS o.mu) (.slice a5 o.mu.length c5)) (r6 : Rd w B (dStringS o.cs) (.slice a6 o.cs.length c6)) :
  Calls Tryz.prog 7 #[.agg #[.slice sa l.length sc], .agg #[.int .i64 o.kd, .string ⟨o.tb.toArray⟩, .string ⟨o.nm.toArray⟩, .slice a3 o.wh.length c3, .slice a4 o.row.length c4, .slice a5 o.mu.length c5, .slice a6 o.cs.length c6, .bool o.un]] w fun e w' => e = .returned (.tuple #[.int .i64 (ocR l o).1, .int .i64 (ocR l o).2]) ∧ Below w.heap.size w w' := by
 have K0 : Hid (∀ W, BoxE 25 36 w W #[.slice sa l.length sc] #[.int .i64 o.kd, .string ⟨o.tb.toArray⟩, .string ⟨o.nm.toArray⟩, .slice a3 o.wh.length c3, .slice a4 o.row.length c4, .slice a5 o.mu.length c5, .slice a6 o.cs.length c6, .bool o.un] → Calls Tryz.prog 15 #[.agg #[.slice sa l.length sc]] W fun e w' => e = .returned (.bool (schB l)) ∧ BoxE 25 36 w w' #[.slice sa l.length sc] #[.int .i64 o.kd, .string ⟨o.tb.toArray⟩, .string ⟨o.nm.toArray⟩, .slice a3 o.wh.length c3, .slice a4 o.row.length c4, .slice a5 o.mu.length c5, .slice a6 o.cs.length c6, .bool o.un]) := fun W h => by
  obtain ⟨Ad, hA⟩ := (hT.later h.bel).tabs; exact (schemaS l sa sc Ad A W (le_tables hlo) hA).mono (fun e w' ⟨he, hB⟩ => ⟨he, h.later hB⟩)
 have K1 : Hid (∀ W, BoxE 25 36 w W #[.slice sa l.length sc] #[.int .i64 o.kd, .string ⟨o.tb.toArray⟩, .string ⟨o.nm.toArray⟩, .slice a3 o.wh.length c3, .slice a4 o.row.length c4, .slice a5 o.mu.length c5, .slice a6 o.cs.length c6, .bool o.un] → Calls Tryz.prog 16 #[.agg #[.int .i64 o.kd, .string ⟨o.tb.toArray⟩, .string ⟨o.nm.toArray⟩, .slice a3 o.wh.length c3, .slice a4 o.row.length c4, .slice a5 o.mu.length c5, .slice a6 o.cs.length c6, .bool o.un]] W fun e w' => e = .returned (.bool (opB o)) ∧ BoxE 25 36 w w' #[.slice sa l.length sc] #[.int .i64 o.kd, .string ⟨o.tb.toArray⟩, .string ⟨o.nm.toArray⟩, .slice a3 o.wh.length c3, .slice a4 o.row.length c4, .slice a5 o.mu.length c5, .slice a6 o.cs.length c6, .bool o.un]) := fun W h => by rw [ho]; exact (opOKsR o.kd o.tb o.nm o.wh o.row o.mu o.cs o.un a3 c3 a4 c4 a5 c5 a6 c6 B W ho h1 h2 h3 h4 h5 h6 (r3.later h.bel) (r4.later h.bel) (r5.later h.bel) (r6.later h.bel)).mono (fun e w' ⟨he, hB⟩ => ⟨he, h.later hB⟩)
 have KC : Hid (∀ W, BoxE 25 36 w W #[.slice sa l.length sc] #[.int .i64 o.kd, .string ⟨o.tb.toArray⟩, .string ⟨o.nm.toArray⟩, .slice a3 o.wh.length c3, .slice a4 o.row.length c4, .slice a5 o.mu.length c5, .slice a6 o.cs.length c6, .bool o.un] → Calls Tryz.prog 17 #[.agg #[.slice sa l.length sc], .agg #[.int .i64 o.kd, .string ⟨o.tb.toArray⟩, .string ⟨o.nm.toArray⟩, .slice a3 o.wh.length c3, .slice a4 o.row.length c4, .slice a5 o.mu.length c5, .slice a6 o.cs.length c6, .bool o.un]] W fun e w' => e = .returned (.int .i64 (ocC l o)) ∧ BoxE 25 36 w w' #[.slice sa l.length sc] #[.int .i64 o.kd, .string ⟨o.tb.toArray⟩, .string ⟨o.nm.toArray⟩, .slice a3 o.wh.length c3, .slice a4 o.row.length c4, .slice a5 o.mu.length c5, .slice a6 o.cs.length c6, .bool o.un]) := fun W h => (codeS l sa sc A o a3 c3 a4 c4 a5 c5 a6 c6 B W hlo h1 h2 h3 h4 h5 h6 (hT.later h.bel) (r3.later h.bel) (r4.later h.bel) (r5.later h.bel) (r6.later h.bel)).mono (fun e w' ⟨he, hB⟩ => ⟨he, h.later hB⟩)
 have HB0 := Lib.hid (boxE 25 36 w #[.slice sa l.length sc] #[.int .i64 o.kd, .string ⟨o.tb.toArray⟩, .string ⟨o.nm.toArray⟩, .slice a3 o.wh.length c3, .slice a4 o.row.length c4, .slice a5 o.mu.length c5, .slice a6 o.cs.length c6, .bool o.un]); clear hlo h1 h2 h3 h4 h5 h6 hT r3 r4 r5 r6; have x0 := cell_at (o := 0) HB0.out.a rfl; obtain ⟨y0, y1, y2, y3, y4, y5, y6, y7⟩ := ck8 0 1 2 3 4 5 6 7 HB0.out.b
 cases hs : schB l
 case false =>
  have HE : Hid (ocR l o = (0, 1)) := ocR_bad (by rw [hs]; rfl); rw [hs] at K0; clear hs; (go_enter Tryz.func7, Tryz.ntmps7); (go_wp2_with fail); refine (K0.out _ HB0.out).mono ?_; rintro e w1 ⟨rfl, hb⟩; have HB1 := Lib.hid hb; clear hb x0 y0 y1 y2 y3 y4 y5 y6 y7; have x0 := cell_at (o := 0) HB1.out.a rfl; obtain ⟨y0, y1, y2, y3, y4, y5, y6, y7⟩ := ck8 0 1 2 3 4 5 6 7 HB1.out.b; (go_wp2_with fail); go_ret2; exact ⟨by rw [HE.out]; rfl, HB1.out.bel⟩
 cases ho : opB o
 case false =>
  have HE : Hid (ocR l o = (0, 1)) := ocR_bad (by rw [hs, ho]; rfl); rw [hs] at K0; rw [ho] at K1; clear hs ho; (go_enter Tryz.func7, Tryz.ntmps7); (go_wp2_with fail); refine (K0.out _ HB0.out).mono ?_; rintro e w1 ⟨rfl, hb⟩; have HB1 := Lib.hid hb; clear hb x0 y0 y1 y2 y3 y4 y5 y6 y7; have x0 := cell_at (o := 0) HB1.out.a rfl; obtain ⟨y0, y1, y2, y3, y4, y5, y6, y7⟩ := ck8 0 1 2 3 4 5 6 7 HB1.out.b; (go_wp2_with fail); refine (K1.out _ HB1.out).mono ?_; rintro e w2 ⟨rfl, hb⟩; have HB2 := Lib.hid hb; clear hb x0 y0 y1 y2 y3 y4 y5 y6 y7; have x0 := cell_at (o := 0) HB2.out.a rfl; obtain ⟨y0, y1, y2, y3, y4, y5, y6, y7⟩ := ck8 0 1 2 3 4 5 6 7 HB2.out.b; (go_wp2_with fail); go_ret2; exact ⟨by rw [HE.out]; rfl, HB2.out.bel⟩
 have HE : Hid (ocR l o = (ocC l o, 0)) := ocR_ok (by rw [hs, ho]; rfl); rw [hs] at K0; rw [ho] at K1; clear hs ho; generalize ocC l o = oc at *; (go_enter Tryz.func7, Tryz.ntmps7); (go_wp2_with fail); refine (K0.out _ HB0.out).mono ?_; rintro e w1 ⟨rfl, hb⟩; have HB1 := Lib.hid hb; clear hb x0 y0 y1 y2 y3 y4 y5 y6 y7; have x0 := cell_at (o := 0) HB1.out.a rfl; obtain ⟨y0, y1, y2, y3, y4, y5, y6, y7⟩ := ck8 0 1 2 3 4 5 6 7 HB1.out.b; (go_wp2_with fail); refine (K1.out _ HB1.out).mono ?_; rintro e w2 ⟨rfl, hb⟩; have HB2 := Lib.hid hb; clear hb x0 y0 y1 y2 y3 y4 y5 y6 y7; have x0 := cell_at (o := 0) HB2.out.a rfl; obtain ⟨y0, y1, y2, y3, y4, y5, y6, y7⟩ := ck8 0 1 2 3 4 5 6 7 HB2.out.b; (go_wp2_with fail); refine (KC.out _ HB2.out).mono ?_; rintro e w3 ⟨rfl, hb⟩; have HB3 := Lib.hid hb; clear hb x0 y0 y1 y2 y3 y4 y5 y6 y7; (go_wp2_with fail); go_ret2; exact ⟨by rw [HE.out]; rfl, HB3.out.bel⟩
set_option maxRecDepth 100000 in
set_option maxHeartbeats 12800000 in
theorem opCodeI (l : List Tb) (sa : Option Addr) (sc : Nat) (A : Nat → Prop) (o : OpV) (a3 : Option Addr) (c3 : Nat) (a4 : Option Addr) (c4 : Nat) (a5 : Option Addr) (c5 : Nat) (a6 : Option Addr) (c6 : Nat) (B : Nat → Prop) (w : World) (hlo : (dTableS l).le maxLen) (h1 : o.tb.length ≤ maxLen) (h2 : o.nm.length ≤ maxLen) (h3 : (dCondS o.wh).le maxLen) (h4 : (dSetS o.row).le maxLen) (h5 : (dMutS o.mu).le maxLen) (h6 : (dStringS o.cs).le maxLen) (hcap : o.row.length ≤ c4) (hT : Rd w A (dTableS l) (.slice sa l.length sc)) (r3 : Rd w B (dCondS o.wh) (.slice a3 o.wh.length c3)) (r4 : Rd w B (dSetS o.row) (.slice a4 o.row.length c4)) (r5 : Rd w B (dMutS o.mu) (.slice a5 o.mu.length c5)) (r6 : Rd w B (dStringS o.cs) (.slice a6 o.cs.length c6)) :
  Calls Tryz.prog 6 #[.agg #[.slice sa l.length sc], .agg #[.int .i64 o.kd, .string ⟨o.tb.toArray⟩, .string ⟨o.nm.toArray⟩, .slice a3 o.wh.length c3, .slice a4 o.row.length c4, .slice a5 o.mu.length c5, .slice a6 o.cs.length c6, .bool o.un]] w fun e w' => e = .returned (.tuple #[.int .i64 (ocR l o).1, .int .i64 (ocR l o).2]) ∧ Below w.heap.size w w' := by
 have K0 : Hid (∀ W, BoxE 25 36 w W #[.slice sa l.length sc] #[.int .i64 o.kd, .string ⟨o.tb.toArray⟩, .string ⟨o.nm.toArray⟩, .slice a3 o.wh.length c3, .slice a4 o.row.length c4, .slice a5 o.mu.length c5, .slice a6 o.cs.length c6, .bool o.un] → Calls Tryz.prog 12 #[.agg #[.slice sa l.length sc]] W fun e w' => e = .returned (.bool (schB l)) ∧ BoxE 25 36 w w' #[.slice sa l.length sc] #[.int .i64 o.kd, .string ⟨o.tb.toArray⟩, .string ⟨o.nm.toArray⟩, .slice a3 o.wh.length c3, .slice a4 o.row.length c4, .slice a5 o.mu.length c5, .slice a6 o.cs.length c6, .bool o.un]) := fun W h => by
  obtain ⟨Ad, hA⟩ := (hT.later h.bel).tabs; exact (schemaI l sa sc Ad A W (le_tables hlo) hA).mono (fun e w' ⟨he, hB⟩ => ⟨he, h.later hB⟩)
 have K1 : Hid (∀ W, BoxE 25 36 w W #[.slice sa l.length sc] #[.int .i64 o.kd, .string ⟨o.tb.toArray⟩, .string ⟨o.nm.toArray⟩, .slice a3 o.wh.length c3, .slice a4 o.row.length c4, .slice a5 o.mu.length c5, .slice a6 o.cs.length c6, .bool o.un] → Calls Tryz.prog 8 #[.agg #[.int .i64 o.kd, .string ⟨o.tb.toArray⟩, .string ⟨o.nm.toArray⟩, .slice a3 o.wh.length c3, .slice a4 o.row.length c4, .slice a5 o.mu.length c5, .slice a6 o.cs.length c6, .bool o.un]] W fun e w' => e = .returned (.bool (opB o)) ∧ BoxE 25 36 w w' #[.slice sa l.length sc] #[.int .i64 o.kd, .string ⟨o.tb.toArray⟩, .string ⟨o.nm.toArray⟩, .slice a3 o.wh.length c3, .slice a4 o.row.length c4, .slice a5 o.mu.length c5, .slice a6 o.cs.length c6, .bool o.un]) := fun W h => (opOKi o.kd o.tb o.nm o.wh o.row o.mu o.cs o.un a3 c3 a4 c4 a5 c5 a6 c6 B W h1 h2 h3 h4 h5 h6 (r3.later h.bel) (r4.later h.bel) (r5.later h.bel) (r6.later h.bel)).mono (fun e w' ⟨he, hB⟩ => ⟨he, h.later hB⟩)
 have KV : Hid (opB o = true → ∃ v : Value, (∀ W, BoxE 25 36 w W #[.slice sa l.length sc] #[.int .i64 o.kd, .string ⟨o.tb.toArray⟩, .string ⟨o.nm.toArray⟩, .slice a3 o.wh.length c3, .slice a4 o.row.length c4, .slice a5 o.mu.length c5, .slice a6 o.cs.length c6, .bool o.un] → Calls Tryz.prog 13 #[.agg #[.int .i64 o.kd, .string ⟨o.tb.toArray⟩, .string ⟨o.nm.toArray⟩, .slice a3 o.wh.length c3, .slice a4 o.row.length c4, .slice a5 o.mu.length c5, .slice a6 o.cs.length c6, .bool o.un]] W fun e w' => e = .returned (.tuple #[v, .bool true]) ∧ BoxE 25 36 w w' #[.slice sa l.length sc] #[.int .i64 o.kd, .string ⟨o.tb.toArray⟩, .string ⟨o.nm.toArray⟩, .slice a3 o.wh.length c3, .slice a4 o.row.length c4, .slice a5 o.mu.length c5, .slice a6 o.cs.length c6, .bool o.un]) ∧ (∀ W, BoxE 25 36 w W #[.slice sa l.length sc] #[.int .i64 o.kd, .string ⟨o.tb.toArray⟩, .string ⟨o.nm.toArray⟩, .slice a3 o.wh.length c3, .slice a4 o.row.length c4, .slice a5 o.mu.length c5, .slice a6 o.cs.length c6, .bool o.un] → Calls Tryz.prog 14 #[.agg #[.slice sa l.length sc], v] W fun e w' => e = .returned (.int .i64 (ocC l o)) ∧ BoxE 25 36 w w' #[.slice sa l.length sc] #[.int .i64 o.kd, .string ⟨o.tb.toArray⟩, .string ⟨o.nm.toArray⟩, .slice a3 o.wh.length c3, .slice a4 o.row.length c4, .slice a5 o.mu.length c5, .slice a6 o.cs.length c6, .bool o.un])) := fun ho => by
  obtain ⟨v, k1, k2⟩ := op_val l sa sc A o a3 c3 a4 c4 a5 c5 a6 c6 B w hlo h1 h2 h3 h4 h5 h6 hcap hT r3 r4 r5 r6 ho; exact ⟨v, fun W h => (k1 W h.bel).mono (fun e w' ⟨he, hB⟩ => ⟨he, h.later hB⟩), fun W h => (k2 W h.bel).mono (fun e w' ⟨he, hB⟩ => ⟨he, h.later hB⟩)⟩
 have HB0 := Lib.hid (boxE 25 36 w #[.slice sa l.length sc] #[.int .i64 o.kd, .string ⟨o.tb.toArray⟩, .string ⟨o.nm.toArray⟩, .slice a3 o.wh.length c3, .slice a4 o.row.length c4, .slice a5 o.mu.length c5, .slice a6 o.cs.length c6, .bool o.un]); clear hlo h1 h2 h3 h4 h5 h6 hT r3 r4 r5 r6 hcap; have x0 := cell_at (o := 0) HB0.out.a rfl; obtain ⟨y0, y1, y2, y3, y4, y5, y6, y7⟩ := ck8 0 1 2 3 4 5 6 7 HB0.out.b
 cases hs : schB l
 case false =>
  have HE : Hid (ocR l o = (0, 1)) := ocR_bad (by rw [hs]; rfl); rw [hs] at K0; clear hs; (go_enter Tryz.func6, Tryz.ntmps6); (go_wp2_with fail); refine (K0.out _ HB0.out).mono ?_; rintro e w1 ⟨rfl, hb⟩; have HB1 := Lib.hid hb; clear hb x0 y0 y1 y2 y3 y4 y5 y6 y7; have x0 := cell_at (o := 0) HB1.out.a rfl; obtain ⟨y0, y1, y2, y3, y4, y5, y6, y7⟩ := ck8 0 1 2 3 4 5 6 7 HB1.out.b; (go_wp2_with fail); go_ret2; exact ⟨by rw [HE.out]; rfl, HB1.out.bel⟩
 cases ho : opB o
 case false =>
  have HE : Hid (ocR l o = (0, 1)) := ocR_bad (by rw [hs, ho]; rfl); rw [hs] at K0; rw [ho] at K1; clear hs ho; (go_enter Tryz.func6, Tryz.ntmps6); (go_wp2_with fail); refine (K0.out _ HB0.out).mono ?_; rintro e w1 ⟨rfl, hb⟩; have HB1 := Lib.hid hb; clear hb x0 y0 y1 y2 y3 y4 y5 y6 y7; have x0 := cell_at (o := 0) HB1.out.a rfl; obtain ⟨y0, y1, y2, y3, y4, y5, y6, y7⟩ := ck8 0 1 2 3 4 5 6 7 HB1.out.b; (go_wp2_with fail); refine (K1.out _ HB1.out).mono ?_; rintro e w2 ⟨rfl, hb⟩; have HB2 := Lib.hid hb; clear hb x0 y0 y1 y2 y3 y4 y5 y6 y7; have x0 := cell_at (o := 0) HB2.out.a rfl; obtain ⟨y0, y1, y2, y3, y4, y5, y6, y7⟩ := ck8 0 1 2 3 4 5 6 7 HB2.out.b; (go_wp2_with fail); go_ret2; exact ⟨by rw [HE.out]; rfl, HB2.out.bel⟩
 have HE : Hid (ocR l o = (ocC l o, 0)) := ocR_ok (by rw [hs, ho]; rfl); obtain ⟨v, kv, kc⟩ := KV.out ho; have KO := Lib.hid kv; have KC := Lib.hid kc; clear kv kc KV; rw [hs] at K0; rw [ho] at K1; clear hs ho; generalize ocC l o = oc at *; (go_enter Tryz.func6, Tryz.ntmps6); (go_wp2_with fail); refine (K0.out _ HB0.out).mono ?_; rintro e w1 ⟨rfl, hb⟩; have HB1 := Lib.hid hb; clear hb x0 y0 y1 y2 y3 y4 y5 y6 y7; have x0 := cell_at (o := 0) HB1.out.a rfl; obtain ⟨y0, y1, y2, y3, y4, y5, y6, y7⟩ := ck8 0 1 2 3 4 5 6 7 HB1.out.b; (go_wp2_with fail); refine (K1.out _ HB1.out).mono ?_; rintro e w2 ⟨rfl, hb⟩; have HB2 := Lib.hid hb; clear hb x0 y0 y1 y2 y3 y4 y5 y6 y7; have x0 := cell_at (o := 0) HB2.out.a rfl; obtain ⟨y0, y1, y2, y3, y4, y5, y6, y7⟩ := ck8 0 1 2 3 4 5 6 7 HB2.out.b; (go_wp2_with fail); refine (KO.out _ HB2.out).mono ?_; rintro e w3 ⟨rfl, hb⟩; have HB3 := Lib.hid hb; clear hb x0 y0 y1 y2 y3 y4 y5 y6 y7; have x0 := cell_at (o := 0) HB3.out.a rfl; obtain ⟨y0, y1, y2, y3, y4, y5, y6, y7⟩ := ck8 0 1 2 3 4 5 6 7 HB3.out.b; (go_wp2_with fail); refine (KC.out _ HB3.out).mono ?_; rintro e w4 ⟨rfl, hb⟩; have HB4 := Lib.hid hb; clear hb x0 y0 y1 y2 y3 y4 y5 y6 y7; (go_wp2_with fail); go_ret2; exact ⟨by rw [HE.out]; rfl, HB4.out.bel⟩
structure ResV where
 code : Int
 cnt : Int
 id : Int
 cols : List (List UInt8)
 rows : List RowV
end Go.Proofs.YtlbcaaodkggohaaGreatDoor
