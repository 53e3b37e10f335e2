import Derived.Test.YthakmdkaciopnaaTIm
import Derived.Test.YthakmdkaciopnaaTEq
namespace Go.Proofs.Ythakmdkaciopnaa
open Go.RowKit
set_option linter.unusedSimpArgs false
theorem ret_iiT {a b a' b' : Int} (h : a = a') (h' : b = b') : Ending.returned (.tuple #[.int .i64 a, .int .i64 b]) = .returned (.tuple #[.int .i64 a', .int .i64 b']) := by rw [h, h']
theorem tcells {ty : TypeId} {w W : World} {t : Tb} {ca : Option Addr} {cc : Nat} {ua : Option Addr} {uc : Nat} (h : BoxT ty w W t ca cc ua uc) : W.cell? ⟨w.heap.size, 0, none⟩ = some (.string ⟨t.nm.toArray⟩) ∧ W.cell? ⟨w.heap.size, 1, none⟩ = some (.slice ca t.cols.length cc) ∧ W.cell? ⟨w.heap.size, 2, none⟩ = some (.slice ua t.uq.length uc) ∧ W.cell? ⟨w.heap.size, 3, none⟩ = some (.bool t.rt) := ⟨cell_at (o := 0) h.1 rfl, cell_at (o := 1) h.1 rfl, cell_at (o := 2) h.1 rfl, cell_at (o := 3) h.1 rfl⟩
set_option maxRecDepth 100000 in
set_option maxHeartbeats 1600000 in
theorem columnOfS (t : Tb) (s : List UInt8) (ca : Option Addr) (cc : Nat) (ua : Option Addr) (uc : Nat) (B : Nat → Prop) (w : World) (ho : t.ok) (hs : s.length ≤ maxLen) (hS : t.Has w B ca ua) :
    Calls Try.prog 11 #[.agg #[.string ⟨t.nm.toArray⟩, .slice ca t.cols.length cc, .slice ua t.uq.length uc, .bool t.rt], .string ⟨s.toArray⟩] w fun e w' => e = .returned (.tuple #[.int .i64 (coR t s), .int .i64 (coC t s)]) ∧ Below w.heap.size w w' := by
  have hx := boxT 42 w t ca cc ua uc
  have TB : Hid (∀ W, BoxT 42 w W t ca cc ua uc → Calls Try.prog 17 #[.agg #[.string ⟨t.nm.toArray⟩, .slice ca t.cols.length cc, .slice ua t.uq.length uc, .bool t.rt]] W fun e w' => e = .returned (.bool (tabB t)) ∧ BoxT 42 w w' t ca cc ua uc) := fun W h => (tableS t ca cc ua uc B W ho (hS.later h.2)).mono (fun e w' ⟨he, hB⟩ => ⟨he, h.later hB⟩)
  have PL : Hid (∀ W, BoxT 42 w W t ca cc ua uc → Calls Try.prog 27 #[.agg #[.string ⟨t.nm.toArray⟩, .slice ca t.cols.length cc, .slice ua t.uq.length uc, .bool t.rt], .string ⟨s.toArray⟩] W fun e w' => e = .returned (.int .i64 (placeC t.cols s)) ∧ BoxT 42 w w' t ca cc ua uc) := fun W h => (placeS t s ca cc ua uc B W ho.2.1 (hS.later h.2)).mono (fun e w' ⟨he, hB⟩ => ⟨he, h.later hB⟩)
  unfold maxLen at hs
  have y0 := (tcells hx).1
  have y1 := (tcells hx).2.1
  have y2 := (tcells hx).2.2.1
  have y3 := (tcells hx).2.2.2
  clear hS ho
  by_cases h1 : 65536 < s.length
  case pos =>
    have HC : Hid ((0 : Int) = coR t s ∧ (2 : Int) = coC t s) := by constructor <;> simp [coR, coC, h1]
    have d1 : decide (65536 < (s.length : Int)) = true := decide_eq_true (by omega)
    clear h1
    go_enter Try.func11, Try.ntmps11
    go_wp2_with fail
    go_ret2
    exact ⟨ret_iiT HC.out.1 HC.out.2, hx.2⟩
  have d1 : decide (65536 < (s.length : Int)) = false := decide_eq_false (by omega)
  cases ht : tabB t
  case false =>
    have HC : Hid ((0 : Int) = coR t s ∧ (1 : Int) = coC t s) := by constructor <;> simp [coR, coC, h1, ht]
    rw [ht] at TB
    clear h1 ht
    go_enter Try.func11, Try.ntmps11
    go_wp2_with ((go_at_call 17; refine (TB.out _ hx).mono ?_; rintro e w1 ⟨rfl, hx⟩; have y0 := (tcells hx).1; have y1 := (tcells hx).2.1; have y2 := (tcells hx).2.2.1; have y3 := (tcells hx).2.2.2))
    go_ret2
    exact ⟨ret_iiT HC.out.1 HC.out.2, hx.2⟩
  rw [ht] at TB
  by_cases hp : placeC t.cols s < 0
  case pos =>
    have HC : Hid ((0 : Int) = coR t s ∧ (11 : Int) = coC t s) := by constructor <;> simp [coR, coC, h1, ht, hp]
    have d2 : decide (placeC t.cols s < 0) = true := decide_eq_true hp
    clear h1 ht hp
    generalize placeC t.cols s = q at *
    go_enter Try.func11, Try.ntmps11
    go_wp2_with (first | (go_at_call 17; refine (TB.out _ hx).mono ?_; rintro e w1 ⟨rfl, hx⟩; have y0 := (tcells hx).1; have y1 := (tcells hx).2.1; have y2 := (tcells hx).2.2.1; have y3 := (tcells hx).2.2.2) | (go_at_call 27; refine (PL.out _ hx).mono ?_; rintro e w2 ⟨rfl, hx⟩))
    go_ret2
    exact ⟨ret_iiT HC.out.1 HC.out.2, hx.2⟩
  have HC : Hid (placeC t.cols s = coR t s ∧ (0 : Int) = coC t s) := by constructor <;> simp [coR, coC, h1, ht, hp]
  have d2 : decide (placeC t.cols s < 0) = false := decide_eq_false hp
  clear h1 ht hp
  generalize placeC t.cols s = q at *
  go_enter Try.func11, Try.ntmps11
  go_wp2_with (first | (go_at_call 17; refine (TB.out _ hx).mono ?_; rintro e w1 ⟨rfl, hx⟩; have y0 := (tcells hx).1; have y1 := (tcells hx).2.1; have y2 := (tcells hx).2.2.1; have y3 := (tcells hx).2.2.2) | (go_at_call 27; refine (PL.out _ hx).mono ?_; rintro e w2 ⟨rfl, hx⟩))
  go_ret2
  exact ⟨ret_iiT HC.out.1 HC.out.2, hx.2⟩
set_option maxRecDepth 100000 in
set_option maxHeartbeats 1600000 in
theorem columnOfI (t : Tb) (s : List UInt8) (ca : Option Addr) (cc : Nat) (ua : Option Addr) (uc : Nat) (B : Nat → Prop) (w : World) (ho : t.ok) (hs : s.length ≤ maxLen) (hS : t.Has w B ca ua) :
    Calls Try.prog 13 #[.agg #[.string ⟨t.nm.toArray⟩, .slice ca t.cols.length cc, .slice ua t.uq.length uc, .bool t.rt], .string ⟨s.toArray⟩] w fun e w' => e = .returned (.tuple #[.int .i64 (coR t s), .int .i64 (coC t s)]) ∧ Below w.heap.size w w' := by
  have hx := boxT 42 w t ca cc ua uc
  have TB : Hid (∀ W, BoxT 42 w W t ca cc ua uc → Calls Try.prog 20 #[.agg #[.string ⟨t.nm.toArray⟩, .slice ca t.cols.length cc, .slice ua t.uq.length uc, .bool t.rt]] W fun e w' => e = .returned (.bool (tabB t)) ∧ BoxT 42 w w' t ca cc ua uc) := fun W h => (tableI t ca cc ua uc B W ho (hS.later h.2)).mono (fun e w' ⟨he, hB⟩ => ⟨he, h.later hB⟩)
  have PL : Hid (∀ W, BoxT 42 w W t ca cc ua uc → Calls Try.prog 30 #[.agg #[.string ⟨t.nm.toArray⟩, .slice ca t.cols.length cc, .slice ua t.uq.length uc, .bool t.rt], .string ⟨s.toArray⟩] W fun e w' => e = .returned (.int .i64 (placeC t.cols s)) ∧ BoxT 42 w w' t ca cc ua uc) := fun W h => (placeI t s ca cc ua uc B W ho.2.1 (hS.later h.2)).mono (fun e w' ⟨he, hB⟩ => ⟨he, h.later hB⟩)
  unfold maxLen at hs
  have y0 := (tcells hx).1
  have y1 := (tcells hx).2.1
  have y2 := (tcells hx).2.2.1
  have y3 := (tcells hx).2.2.2
  clear hS ho
  by_cases h1 : 65536 < s.length
  case pos =>
    have HC : Hid ((0 : Int) = coR t s ∧ (2 : Int) = coC t s) := by constructor <;> simp [coR, coC, h1]
    have d1 : decide (65536 < (s.length : Int)) = true := decide_eq_true (by omega)
    clear h1
    go_enter Try.func13, Try.ntmps13
    go_wp2_with fail
    go_ret2
    exact ⟨ret_iiT HC.out.1 HC.out.2, hx.2⟩
  have d1 : decide (65536 < (s.length : Int)) = false := decide_eq_false (by omega)
  cases ht : tabB t
  case false =>
    have HC : Hid ((0 : Int) = coR t s ∧ (1 : Int) = coC t s) := by constructor <;> simp [coR, coC, h1, ht]
    rw [ht] at TB
    clear h1 ht
    go_enter Try.func13, Try.ntmps13
    go_wp2_with ((go_at_call 20; refine (TB.out _ hx).mono ?_; rintro e w1 ⟨rfl, hx⟩; have y0 := (tcells hx).1; have y1 := (tcells hx).2.1; have y2 := (tcells hx).2.2.1; have y3 := (tcells hx).2.2.2))
    go_ret2
    exact ⟨ret_iiT HC.out.1 HC.out.2, hx.2⟩
  rw [ht] at TB
  by_cases hp : placeC t.cols s < 0
  case pos =>
    have HC : Hid ((0 : Int) = coR t s ∧ (11 : Int) = coC t s) := by constructor <;> simp [coR, coC, h1, ht, hp]
    have d2 : decide (placeC t.cols s < 0) = true := decide_eq_true hp
    clear h1 ht hp
    generalize placeC t.cols s = q at *
    go_enter Try.func13, Try.ntmps13
    go_wp2_with (first | (go_at_call 20; refine (TB.out _ hx).mono ?_; rintro e w1 ⟨rfl, hx⟩; have y0 := (tcells hx).1; have y1 := (tcells hx).2.1; have y2 := (tcells hx).2.2.1; have y3 := (tcells hx).2.2.2) | (go_at_call 30; refine (PL.out _ hx).mono ?_; rintro e w2 ⟨rfl, hx⟩))
    go_ret2
    exact ⟨ret_iiT HC.out.1 HC.out.2, hx.2⟩
  have HC : Hid (placeC t.cols s = coR t s ∧ (0 : Int) = coC t s) := by constructor <;> simp [coR, coC, h1, ht, hp]
  have d2 : decide (placeC t.cols s < 0) = false := decide_eq_false hp
  clear h1 ht hp
  generalize placeC t.cols s = q at *
  go_enter Try.func13, Try.ntmps13
  go_wp2_with (first | (go_at_call 20; refine (TB.out _ hx).mono ?_; rintro e w1 ⟨rfl, hx⟩; have y0 := (tcells hx).1; have y1 := (tcells hx).2.1; have y2 := (tcells hx).2.2.1; have y3 := (tcells hx).2.2.2) | (go_at_call 30; refine (PL.out _ hx).mono ?_; rintro e w2 ⟨rfl, hx⟩))
  go_ret2
  exact ⟨ret_iiT HC.out.1 HC.out.2, hx.2⟩
theorem neq_selfT (c : Int) : (c != c) = false := by simp
theorem TbAns.has {w : World} {t : Tb} {e : Ending} {w' : World} (h : TbAns w t e w') : ∃ q1 q2 : Nat, e = .returned (.agg #[.string ⟨t.nm.toArray⟩, .slice (some ⟨q1, 0, none⟩) t.cols.length t.cols.length, .slice (some ⟨q2, 0, none⟩) t.uq.length t.uq.length, .bool t.rt]) ∧ t.Has w' (fun _ => True) (some ⟨q1, 0, none⟩) (some ⟨q2, 0, none⟩) ∧ Below w.heap.size w w' := by
  obtain ⟨q1, q2, he, -, -, -, hc, hu, hB⟩ := h
  exact ⟨q1, q2, he, ⟨Rw.same (OwnRw.rw hc) (fun _ _ => rfl) (fun _ _ => trivial), Rw.same (OwnRw.rw hu) (fun _ _ => rfl) (fun _ _ => trivial)⟩, hB⟩
set_option maxRecDepth 100000 in
set_option maxHeartbeats 3200000 in
theorem lawColumnOf (t : Tb) (s : List UInt8) (ca : Option Addr) (cc : Nat) (ua : Option Addr) (uc : Nat) (w : World) (ho : t.ok) (hs : s.length ≤ maxLen) (hS : t.Has w (· < w.heap.size) ca ua) :
    Calls Try.prog 4 #[.agg #[.string ⟨t.nm.toArray⟩, .slice ca t.cols.length cc, .slice ua t.uq.length uc, .bool t.rt], .string ⟨s.toArray⟩] w fun e w' => e = .returned (.bool true) ∧ Below w.heap.size w w' := by
  have HX := Lib.hid (boxT 36 w t ca cc ua uc)
  have HO : Hid t.ok := ho
  have HS : Hid (∀ W, Below w.heap.size w W → t.Has W (· < w.heap.size) ca ua) := fun W h => hS.below h
  have HL : Hid (s.length ≤ maxLen) := hs
  unfold maxLen at hs
  clear ho hS
  by_cases hlong : 1048576 < s.length
  · have d1 : decide (1048576 < (s.length : Int)) = true := decide_eq_true (by omega)
    go_enter Try.func4, Try.ntmps4
    go_wp2_with fail
    go_ret
    exact ⟨rfl, HX.out.2⟩
  have d1 : decide (1048576 < (s.length : Int)) = false := decide_eq_false (by omega)
  clear hlong
  go_enter Try.func4, Try.ntmps4
  go_wp2_with fail
  refine (szTable t ca cc ua uc 1048576 _ _ (by omega) (by omega) HO.out (HS.out _ HX.out.2)).mono ?_
  rintro e w1 ⟨rfl, hB1⟩
  have HX1 := Lib.hid (HX.out.later hB1)
  clear hB1 HX
  by_cases hz : (1048576 : Int) - (t.sz : Int) < 0
  · rw [less_no hz]
    go_wp2_with fail
    go_ret
    exact ⟨rfl, HX1.out.2⟩
  rw [less_yes (by omega)]
  have HCL : Hid (t.cols.length ≤ 1048576 ∧ t.uq.length ≤ 1048576) := by unfold Tb.sz szCs at hz; show _ ∧ _; omega
  obtain ⟨L, hL⟩ : ∃ L : Int, L = 1048576 - (t.sz : Int) := ⟨_, rfl⟩
  rw [← hL]
  have hl0 : decide (L < 0) = false := by simp; omega
  clear hL hz
  have n1 := neq_selfT (coR t s)
  have n2 := neq_selfT (coC t s)
  have TT : Hid (∀ W, Below w.heap.size w W → Calls Try.prog 12 #[.agg #[.string ⟨t.nm.toArray⟩, .slice ca t.cols.length cc, .slice ua t.uq.length uc, .bool t.rt]] W fun e w' => ∃ q1 q2 : Nat, e = .returned (.agg #[.string ⟨t.nm.toArray⟩, .slice (some ⟨q1, 0, none⟩) t.cols.length t.cols.length, .slice (some ⟨q2, 0, none⟩) t.uq.length t.uq.length, .bool t.rt]) ∧ t.Has w' (fun _ => True) (some ⟨q1, 0, none⟩) (some ⟨q2, 0, none⟩) ∧ Below W.heap.size W w') := fun W h => (toTable t ca cc ua uc _ W HCL.out.1 HCL.out.2 (HS.out W h)).mono (fun e w' h => h.has)
  have CS : Hid (∀ W a1 c1 a2 c2, t.Has W (fun _ => True) a1 a2 → Calls Try.prog 11 #[.agg #[.string ⟨t.nm.toArray⟩, .slice a1 t.cols.length c1, .slice a2 t.uq.length c2, .bool t.rt], .string ⟨s.toArray⟩] W fun e w' => e = .returned (.tuple #[.int .i64 (coR t s), .int .i64 (coC t s)]) ∧ Below W.heap.size W w') := fun W a1 c1 a2 c2 h => columnOfS t s a1 c1 a2 c2 _ W HO.out HL.out h
  have CI : Hid (∀ W a1 c1 a2 c2, t.Has W (fun _ => True) a1 a2 → Calls Try.prog 13 #[.agg #[.string ⟨t.nm.toArray⟩, .slice a1 t.cols.length c1, .slice a2 t.uq.length c2, .bool t.rt], .string ⟨s.toArray⟩] W fun e w' => e = .returned (.tuple #[.int .i64 (coR t s), .int .i64 (coC t s)]) ∧ Below W.heap.size W w') := fun W a1 c1 a2 c2 h => columnOfI t s a1 c1 a2 c2 _ W HO.out HL.out h
  have EQ : Hid (∀ W a1 c1 a2 c2 b1 d1 b2 d2, t.Has W (fun _ => True) a1 a2 → t.Has W (fun _ => True) b1 b2 → Calls Try.prog 14 #[.agg #[.string ⟨t.nm.toArray⟩, .slice a1 t.cols.length c1, .slice a2 t.uq.length c2, .bool t.rt], .agg #[.string ⟨t.nm.toArray⟩, .slice b1 t.cols.length d1, .slice b2 t.uq.length d2, .bool t.rt]] W fun e w' => e = .returned (.bool true) ∧ Below W.heap.size W w') := fun W a1 c1 a2 c2 b1 d1 b2 d2 h h' => eqTable t a1 b1 c1 d1 a2 b2 c2 d2 _ _ W HO.out h h'
  generalize coR t s = r1 at *
  generalize coC t s = r2 at *
  have y0 := (tcells HX1.out).1
  have y1 := (tcells HX1.out).2.1
  have y2 := (tcells HX1.out).2.2.1
  have y3 := (tcells HX1.out).2.2.2
  go_wp2_with fail
  refine (TT.out _ HX1.out.2).mono ?_
  rintro e w2 ⟨q1, q2, rfl, hh2, hB2⟩
  have M2 : Hid (BoxT 36 w w2 t ca cc ua uc ∧ t.Has w2 (fun _ => True) (some ⟨q1, 0, none⟩) (some ⟨q2, 0, none⟩)) := ⟨HX1.out.later hB2, hh2⟩
  clear hh2 hB2 HX1 y0 y1 y2 y3
  go_wp2_with fail
  refine (CS.out _ _ _ _ _ M2.out.2).mono ?_
  rintro e w3 ⟨rfl, hB3⟩
  have M3 := Lib.hid (M2.out.1.later hB3)
  clear hB3 M2
  have y0 := (tcells M3.out).1
  have y1 := (tcells M3.out).2.1
  have y2 := (tcells M3.out).2.2.1
  have y3 := (tcells M3.out).2.2.2
  go_wp2_with fail
  refine (TT.out _ M3.out.2).mono ?_
  rintro e w4 ⟨q3, q4, rfl, hh4, hB4⟩
  have M4 : Hid (BoxT 36 w w4 t ca cc ua uc ∧ t.Has w4 (fun _ => True) (some ⟨q3, 0, none⟩) (some ⟨q4, 0, none⟩) ∧ BoxT 42 w4 (w4.alloc (.cells #[.string ⟨t.nm.toArray⟩, .slice (some ⟨q3, 0, none⟩) t.cols.length t.cols.length, .slice (some ⟨q4, 0, none⟩) t.uq.length t.uq.length, .bool t.rt] 42)) t (some ⟨q3, 0, none⟩) t.cols.length (some ⟨q4, 0, none⟩) t.uq.length) := ⟨M3.out.later hB4, hh4, boxT _ _ _ _ _ _ _⟩
  have hb4 : w.heap.size < w4.heap.size := (Array.getElem?_eq_some_iff.1 M4.out.1.1).1
  have HLT := Lib.hid hb4
  clear hh4 hB4 M3 y0 y1 y2 y3 hb4
  have y0 := (tcells M4.out.2.2).1
  have y1 := (tcells M4.out.2.2).2.1
  have y2 := (tcells M4.out.2.2).2.2.1
  have y3 := (tcells M4.out.2.2).2.2.2
  go_wp2_with fail
  refine (CI.out _ _ _ _ _ (M4.out.2.1.later M4.out.2.2.2)).mono ?_
  rintro e w5 ⟨rfl, hB5⟩
  have M5 : Hid (BoxT 36 w w5 t ca cc ua uc ∧ t.Has w5 (fun _ => True) (some ⟨q3, 0, none⟩) (some ⟨q4, 0, none⟩) ∧ BoxT 42 w4 w5 t (some ⟨q3, 0, none⟩) t.cols.length (some ⟨q4, 0, none⟩) t.uq.length) := ⟨(M4.out.1.later M4.out.2.2.2).later hB5, (M4.out.2.1.later M4.out.2.2.2).later hB5, M4.out.2.2.later hB5⟩
  clear hB5 M4 y0 y1 y2 y3
  have y0 := (tcells M5.out.2.2).1
  have y1 := (tcells M5.out.2.2).2.1
  have y2 := (tcells M5.out.2.2).2.2.1
  have y3 := (tcells M5.out.2.2).2.2.2
  have z0 := (tcells M5.out.1).1
  have z1 := (tcells M5.out.1).2.1
  have z2 := (tcells M5.out.1).2.2.1
  have z3 := (tcells M5.out.1).2.2.2
  go_wp2_with fail
  go_region_with (first | (go_at_call 12; refine (TT.out _ (by first | exact M5.out.1.2 | exact M5.out.1.2.drew)).mono ?_; rintro e w6 ⟨q5, q6, rfl, hh6, hB6⟩; have M6 : Hid (Below w.heap.size w w6 ∧ t.Has w6 (fun _ => True) (some ⟨q3, 0, none⟩) (some ⟨q4, 0, none⟩) ∧ t.Has w6 (fun _ => True) (some ⟨q5, 0, none⟩) (some ⟨q6, 0, none⟩) ∧ BoxT 42 w4 w6 t (some ⟨q3, 0, none⟩) t.cols.length (some ⟨q4, 0, none⟩) t.uq.length) := ⟨M5.out.1.2.drew.trans (hB6.mono (by have := M5.out.1.2.size; simpa using this)), (M5.out.2.1.later (Below.refl _ _).drew).later hB6, hh6, M5.out.2.2.drew.later hB6⟩; clear hh6 hB6; have y0 := (tcells M6.out.2.2.2).1; have y1 := (tcells M6.out.2.2.2).2.1; have y2 := (tcells M6.out.2.2.2).2.2.1; have y3 := (tcells M6.out.2.2.2).2.2.2) | (go_at_call 14; refine (EQ.out _ _ _ _ _ _ _ _ _ M6.out.2.1 M6.out.2.2.1).mono ?_; rintro e w7 ⟨rfl, hB7⟩))
  all_goals
    go_wp2_with fail
    go_ret
    exact ⟨rfl, M6.out.1.trans (hB7.mono M6.out.1.size)⟩
end Go.Proofs.Ythakmdkaciopnaa
