import Derived.Test.YtndlhcdgpkeifaaDoorDStA
import Derived.Test.YtndlhcdgpkeifaaDoorDRwA
namespace Go.Proofs.YtndlhcdgpkeifaaDoor
open Go.RowKit
set_option linter.unusedSimpArgs false
structure ResV where
  code : Int
  cnt : Int
  id : Int
  cols : List (List UInt8)
  rows : List RowV
def dResult (x : ResV) : Nat → D
  | 0 => .i x.code
  | 1 => .i x.cnt
  | 2 => .i x.id
  | 3 => dStringS x.cols
  | _ => dRowS x.rows
theorem szT_Result (x : ResV) : szT 5 (dResult x) = (dStringS x.cols).sz + (dRowS x.rows).sz := by simp [szT, sumN, dResult, D.sz]
set_option maxHeartbeats 1600000 in
theorem szDResult (x : ResV) (a3 : Option Addr) (c3 : Nat) (a4 : Option Addr) (c4 : Nat) (L : Int) (B : Nat → Prop) (w : World) (h0 : 0 ≤ L) (h1 : L ≤ 1048576) (ho : ∀ j, j < 5 → (dResult x j).le maxLen) (r3 : Rd w B (dStringS x.cols) (.slice a3 x.cols.length c3)) (r4 : Rd w B (dRowS x.rows) (.slice a4 x.rows.length c4)) :
    Calls Tryd.prog 9 #[.agg #[.int .i64 x.code, .int .i64 x.cnt, .int .i64 x.id, .slice a3 x.cols.length c3, .slice a4 x.rows.length c4], .int .i64 L] w fun e w' => e = .returned (.int .i64 (lessI L (szT 5 (dResult x)))) ∧ Below w.heap.size w w' := by
  rw [szT_Result]
  have HO := Lib.hid ho
  have R3 := Lib.hid r3
  have R4 := Lib.hid r4
  have hx := boxD 34 w #[.int .i64 x.code, .int .i64 x.cnt, .int .i64 x.id, .slice a3 x.cols.length c3, .slice a4 x.rows.length c4]
  clear ho r3 r4
  have x0 := cell_at (o := 0) hx.1 rfl
  have x1 := cell_at (o := 1) hx.1 rfl
  have x2 := cell_at (o := 2) hx.1 rfl
  have x3 := cell_at (o := 3) hx.1 rfl
  have x4 := cell_at (o := 4) hx.1 rfl
  have bl : Hid (0 ≤ L ∧ L ≤ 1048576) := by show _ ∧ _; omega
  clear h0 h1
  go_enter Tryd.func9, Tryd.ntmps9
  go_wp2_with fail
  refine (szDStringS x.cols a3 c3 L B _ bl.out.1 bl.out.2 (HO.out 3 (by omega)) (R3.out.later hx.2)).mono ?_
  rintro e w4 ⟨rfl, hB4⟩
  have hx := hx.later hB4
  clear hB4 x0 x1 x2 x3 x4
  have x0 := cell_at (o := 0) hx.1 rfl
  have x1 := cell_at (o := 1) hx.1 rfl
  have x2 := cell_at (o := 2) hx.1 rfl
  have x3 := cell_at (o := 3) hx.1 rfl
  have x4 := cell_at (o := 4) hx.1 rfl
  by_cases hn3 : L - ((dStringS x.cols).sz : Int) < 0
  case pos =>
    have HR : Hid (lessI L ((dStringS x.cols).sz + (dRowS x.rows).sz) = -1) := by have := bl.out; show lessI L ((dStringS x.cols).sz + (dRowS x.rows).sz) = -1; unfold lessI; rw [if_neg (by omega)]
    rw [less_no hn3]
    go_wp2_with fail
    go_ret
    exact ⟨ret_i HR.out.symm, hx.2⟩
  rw [less_yes (by omega)]
  obtain ⟨L3, hL3⟩ : ∃ L3 : Int, L3 = L - ((dStringS x.cols).sz : Int) := ⟨_, rfl⟩
  rw [← hL3]
  have d3 : decide (L3 < 0) = false := decide_eq_false (by omega)
  have bL3 : Hid (0 ≤ L3 ∧ L3 ≤ 1048576) := by have := bl.out; show _ ∧ _; omega
  have HL3 := Lib.hid hL3
  clear hn3 hL3 bl
  have bl := bL3
  clear bL3
  go_wp2_with fail
  refine (szDRowS x.rows a4 c4 L3 B _ bl.out.1 bl.out.2 (HO.out 4 (by omega)) (R4.out.later hx.2)).mono ?_
  rintro e w5 ⟨rfl, hB5⟩
  have hx := hx.later hB5
  clear hB5 x0 x1 x2 x3 x4
  have x0 := cell_at (o := 0) hx.1 rfl
  have x1 := cell_at (o := 1) hx.1 rfl
  have x2 := cell_at (o := 2) hx.1 rfl
  have x3 := cell_at (o := 3) hx.1 rfl
  have x4 := cell_at (o := 4) hx.1 rfl
  by_cases hn4 : L3 - ((dRowS x.rows).sz : Int) < 0
  case pos =>
    have HR : Hid (lessI L ((dStringS x.cols).sz + (dRowS x.rows).sz) = -1) := by have := HL3.out; have := bl.out; show lessI L ((dStringS x.cols).sz + (dRowS x.rows).sz) = -1; unfold lessI; rw [if_neg (by omega)]
    rw [less_no hn4]
    go_wp2_with fail
    go_ret
    exact ⟨ret_i HR.out.symm, hx.2⟩
  rw [less_yes (by omega)]
  obtain ⟨L4, hL4⟩ : ∃ L4 : Int, L4 = L3 - ((dRowS x.rows).sz : Int) := ⟨_, rfl⟩
  rw [← hL4]
  have d4 : decide (L4 < 0) = false := decide_eq_false (by omega)
  have bL4 : Hid (0 ≤ L4 ∧ L4 ≤ 1048576) := by have := bl.out; show _ ∧ _; omega
  have HL4 := Lib.hid hL4
  have HR : Hid (lessI L ((dStringS x.cols).sz + (dRowS x.rows).sz) = L4) := by have := HL3.out; have := HL4.out; have := bL4.out; show lessI L ((dStringS x.cols).sz + (dRowS x.rows).sz) = L4; unfold lessI; rw [if_pos (by omega)]; omega
  clear hn4 hL4 bl
  have bl := bL4
  clear bL4
  go_wp2_with fail
  go_ret
  exact ⟨ret_i HR.out.symm, hx.2⟩
set_option maxRecDepth 100000 in
set_option maxHeartbeats 3200000 in
theorem toDResult (x : ResV) (a3 : Option Addr) (c3 : Nat) (a4 : Option Addr) (c4 : Nat) (B : Nat → Prop) (w : World) (ho : ∀ j, j < 5 → (dResult x j).le 1048576) (r3 : Rd w B (dStringS x.cols) (.slice a3 x.cols.length c3)) (r4 : Rd w B (dRowS x.rows) (.slice a4 x.rows.length c4)) :
    Calls Tryd.prog 11 #[.agg #[.int .i64 x.code, .int .i64 x.cnt, .int .i64 x.id, .slice a3 x.cols.length c3, .slice a4 x.rows.length c4]] w fun e w' => ∃ p3 : Nat, ∃ p4 : Nat, e = .returned (.agg #[.int .i64 x.code, .int .i64 x.cnt, .int .i64 x.id, .slice (some ⟨p3, 0, none⟩) x.cols.length x.cols.length, .slice (some ⟨p4, 0, none⟩) x.rows.length x.rows.length]) ∧ Owns w' 5 (dResult x) (vat [.int .i64 x.code, .int .i64 x.cnt, .int .i64 x.id, .slice (some ⟨p3, 0, none⟩) x.cols.length x.cols.length, .slice (some ⟨p4, 0, none⟩) x.rows.length x.rows.length]) (fun c => w.heap.size ≤ c ∧ c < w'.heap.size) ∧ Below w.heap.size w w' := by
  have HO := Lib.hid ho
  have R3 := Lib.hid r3
  have R4 := Lib.hid r4
  have T0 := Lib.hid (st3First w 34 38 #[.int .i64 x.code, .int .i64 x.cnt, .int .i64 x.id, .slice a3 x.cols.length c3, .slice a4 x.rows.length c4] #[.int .i64 0, .int .i64 0, .int .i64 0, .slice none 0 0, .slice none 0 0] #[.int .i64 x.code, .int .i64 x.cnt, .int .i64 x.id, .slice none 0 0, .slice none 0 0])
  clear ho r3 r4
  go_enter Tryd.func11, Tryd.ntmps11
  go_wp2_with fail
  have HE : Hid (w.heap.size + 1 + 1 < (((w.alloc (.cells #[.int .i64 x.code, .int .i64 x.cnt, .int .i64 x.id, .slice a3 x.cols.length c3, .slice a4 x.rows.length c4] 34)).alloc (.cells #[.int .i64 0, .int .i64 0, .int .i64 0, .slice none 0 0, .slice none 0 0] 38)).alloc (.cells #[.int .i64 x.code, .int .i64 x.cnt, .int .i64 x.id, .slice none 0 0, .slice none 0 0] 38)).heap.size) := by show _ < _; simp
  refine (toDStringS x.cols a3 c3 B _ (HO.out 3 (by omega)) (R3.out.later T0.out.bel)).mono ?_
  rintro e w4 ⟨rfl, o3, hB3⟩
  have S3 := Lib.hid (T0.out.later hB3)
  obtain ⟨p3, hp3⟩ : ∃ p, p = (((w.alloc (.cells #[.int .i64 x.code, .int .i64 x.cnt, .int .i64 x.id, .slice a3 x.cols.length c3, .slice a4 x.rows.length c4] 34)).alloc (.cells #[.int .i64 0, .int .i64 0, .int .i64 0, .slice none 0 0, .slice none 0 0] 38)).alloc (.cells #[.int .i64 x.code, .int .i64 x.cnt, .int .i64 x.id, .slice none 0 0, .slice none 0 0] 38)).heap.size := ⟨_, rfl⟩
  have HP3 : Hid (w.heap.size + 1 + 1 < p3 ∧ p3 ≤ w4.heap.size) := by
    have h1 := hB3.size; have h2 := HE.out
    rw [← hp3] at h1 h2
    exact ⟨h2, h1⟩
  rw [← hp3] at o3 ⊢
  have O3 := Lib.hid o3
  clear o3 hB3 hp3 T0 HE
  have x3 := cell_at (o := 3) S3.out.ot rfl
  have z3 := frozen_at 3 S3.out.ot
  have hne : (w.heap.size = w.heap.size + 1 + 1) = False := by simp; omega
  have y4 := cell_at (o := 4) S3.out.bx rfl
  have U3 := Lib.hid (S3.out.set 3 (.slice (some ⟨p3, 0, none⟩) x.cols.length x.cols.length))
  have F3 : Hid (Frm (fun c => c = w.heap.size + 1 + 1) w4 (w4.setCell ⟨w.heap.size + 1 + 1, 3, none⟩ (.slice (some ⟨p3, 0, none⟩) x.cols.length x.cols.length))) := by
    show Frm _ _ _
    refine Frm.set (B := fun c => c = w.heap.size + 1 + 1) ?_ rfl _
    exact Frm.refl _ _
  have P3 := Lib.hid (O3.out.frm F3.out (fun c hc hF => by have h1 := HP3.out.1; have h2 := hc.1; have h3 : c = _ := hF; omega))
  clear O3
  have O3 := P3
  clear P3
  have HE : Hid (w.heap.size + 1 + 1 < (w4.setCell ⟨w.heap.size + 1 + 1, 3, none⟩ (.slice (some ⟨p3, 0, none⟩) x.cols.length x.cols.length)).heap.size) := by have := HP3.out; show _ < _; simp; omega
  clear F3 S3
  go_wp2_with fail
  refine (toDRowS x.rows a4 c4 B _ (HO.out 4 (by omega)) (R4.out.later U3.out.bel)).mono ?_
  rintro e w5 ⟨rfl, o4, hB4⟩
  have S4 := Lib.hid (U3.out.later hB4)
  obtain ⟨p4, hp4⟩ : ∃ p, p = (w4.setCell ⟨w.heap.size + 1 + 1, 3, none⟩ (.slice (some ⟨p3, 0, none⟩) x.cols.length x.cols.length)).heap.size := ⟨_, rfl⟩
  have HP4 : Hid (w.heap.size + 1 + 1 < p4 ∧ p4 ≤ w5.heap.size ∧ w4.heap.size ≤ p4) := by
    have h1 := hB4.size; have h2 := HE.out
    rw [← hp4] at h1 h2
    exact ⟨h2, h1, by rw [hp4]; simp⟩
  rw [← hp4] at o4 ⊢
  have Q3_4 := Lib.hid (O3.out.later hB4)
  clear O3
  have O3 := Q3_4
  clear Q3_4
  have O4 := Lib.hid o4
  clear o4 hB4 hp4 U3 HE
  have x4 := cell_at (o := 4) S4.out.ot rfl
  have z4 := frozen_at 4 S4.out.ot
  have hne : (w.heap.size = w.heap.size + 1 + 1) = False := by simp; omega
  have x0 := cell_at (o := 0) S4.out.ot rfl
  have x1 := cell_at (o := 1) S4.out.ot rfl
  have x2 := cell_at (o := 2) S4.out.ot rfl
  have x3 := cell_at (o := 3) S4.out.ot rfl
  have g0 := cell_at (o := 0) S4.out.rv rfl
  have k0 := frozen_at 0 S4.out.rv
  have g1 := cell_at (o := 1) S4.out.rv rfl
  have k1 := frozen_at 1 S4.out.rv
  have g2 := cell_at (o := 2) S4.out.rv rfl
  have k2 := frozen_at 2 S4.out.rv
  have g3 := cell_at (o := 3) S4.out.rv rfl
  have k3 := frozen_at 3 S4.out.rv
  have g4 := cell_at (o := 4) S4.out.rv rfl
  have k4 := frozen_at 4 S4.out.rv
  go_wp2_with fail
  refine bodyPost_ret (v := .agg #[.int .i64 x.code, .int .i64 x.cnt, .int .i64 x.id, .slice (some ⟨p3, 0, none⟩) x.cols.length x.cols.length, .slice (some ⟨p4, 0, none⟩) x.rows.length x.rows.length]) (by simp [results, Tryd.results11, go_sem, *]) rfl ?_
  have FF : Frm (fun c => c = w.heap.size + 1 ∨ c = w.heap.size + 1 + 1) w5 ((((((w5.setCell ⟨w.heap.size + 1 + 1, 4, none⟩ (.slice (some ⟨p4, 0, none⟩) x.rows.length x.rows.length)).setCell ⟨w.heap.size + 1, 0, none⟩ (.int .i64 x.code)).setCell ⟨w.heap.size + 1, 1, none⟩ (.int .i64 x.cnt)).setCell ⟨w.heap.size + 1, 2, none⟩ (.int .i64 x.id)).setCell ⟨w.heap.size + 1, 3, none⟩ (.slice (some ⟨p3, 0, none⟩) x.cols.length x.cols.length)).setCell ⟨w.heap.size + 1, 4, none⟩ (.slice (some ⟨p4, 0, none⟩) x.rows.length x.rows.length)) := by
    refine Frm.set ?_ (.inl rfl) _
    refine Frm.set ?_ (.inl rfl) _
    refine Frm.set ?_ (.inl rfl) _
    refine Frm.set ?_ (.inl rfl) _
    refine Frm.set ?_ (.inl rfl) _
    refine Frm.set ?_ (.inr rfl) _
    exact Frm.refl _ _
  have hsz : ((((((w5.setCell ⟨w.heap.size + 1 + 1, 4, none⟩ (.slice (some ⟨p4, 0, none⟩) x.rows.length x.rows.length)).setCell ⟨w.heap.size + 1, 0, none⟩ (.int .i64 x.code)).setCell ⟨w.heap.size + 1, 1, none⟩ (.int .i64 x.cnt)).setCell ⟨w.heap.size + 1, 2, none⟩ (.int .i64 x.id)).setCell ⟨w.heap.size + 1, 3, none⟩ (.slice (some ⟨p3, 0, none⟩) x.cols.length x.cols.length)).setCell ⟨w.heap.size + 1, 4, none⟩ (.slice (some ⟨p4, 0, none⟩) x.rows.length x.rows.length)).heap.size = w5.heap.size := by simp
  refine ⟨p3, p4, rfl, ⟨fun j c => (j = 3 ∧ p3 ≤ c ∧ c < w4.heap.size) ∨ (j = 4 ∧ p4 ≤ c ∧ c < w5.heap.size), fun j c hc => ?_, fun j j' c h h' => ?_, fun j hj => ?_⟩, ?_⟩
  · have h3 := HP3.out; have h4 := HP4.out; rw [hsz]; omega
  · have h3 := HP3.out; have h4 := HP4.out; omega
  · rcases (by omega : j = 0 ∨ j = 1 ∨ j = 2 ∨ j = 3 ∨ j = 4) with rfl | rfl | rfl | rfl | rfl
    · rfl
    · rfl
    · rfl
    · exact (O3.out.frm FF (fun c hc hF => by have h1 := HP3.out; have h2 := hc.1; rcases hF with rfl | rfl <;> omega)).mono (fun c hc => .inl ⟨rfl, hc⟩)
    · exact (O4.out.frm FF (fun c hc hF => by have h1 := HP4.out; have h2 := hc.1; rcases hF with rfl | rfl <;> omega)).mono (fun c hc => .inr ⟨rfl, hc⟩)
  · exact ((((((S4.out.bel.setCell (by simp <;> omega) _).setCell (by simp <;> omega) _).setCell (by simp <;> omega) _).setCell (by simp <;> omega) _).setCell (by simp <;> omega) _).setCell (by simp <;> omega) _)
set_option maxRecDepth 100000 in
set_option maxHeartbeats 1600000 in
theorem eqDResult (x : ResV) (a3 : Option Addr) (c3 : Nat) (a4 : Option Addr) (c4 : Nat) (a3' : Option Addr) (c3' : Nat) (a4' : Option Addr) (c4' : Nat) (A B : Nat → Prop) (w : World) (ho : ∀ j, j < 5 → (dResult x j).le maxLen) (r3 : Rd w A (dStringS x.cols) (.slice a3 x.cols.length c3)) (r4 : Rd w A (dRowS x.rows) (.slice a4 x.rows.length c4)) (r3' : Rd w B (dStringS x.cols) (.slice a3' x.cols.length c3')) (r4' : Rd w B (dRowS x.rows) (.slice a4' x.rows.length c4')) :
    Calls Tryd.prog 15 #[.agg #[.int .i64 x.code, .int .i64 x.cnt, .int .i64 x.id, .slice a3 x.cols.length c3, .slice a4 x.rows.length c4], .agg #[.int .i64 x.code, .int .i64 x.cnt, .int .i64 x.id, .slice a3' x.cols.length c3', .slice a4' x.rows.length c4']] w fun e w' => e = .returned (.bool true) ∧ Below w.heap.size w w' := by
  have hb : Box2D 38 w ((w.alloc (.cells #[.int .i64 x.code, .int .i64 x.cnt, .int .i64 x.id, .slice a3 x.cols.length c3, .slice a4 x.rows.length c4] 38)).alloc (.cells #[.int .i64 x.code, .int .i64 x.cnt, .int .i64 x.id, .slice a3' x.cols.length c3', .slice a4' x.rows.length c4'] 38)) #[.int .i64 x.code, .int .i64 x.cnt, .int .i64 x.id, .slice a3 x.cols.length c3, .slice a4 x.rows.length c4] #[.int .i64 x.code, .int .i64 x.cnt, .int .i64 x.id, .slice a3' x.cols.length c3', .slice a4' x.rows.length c4'] := box2D _ _ _ _
  have E3 : Hid (∀ W, Below w.heap.size w W → Calls Tryd.prog 29 #[.slice a3 x.cols.length c3, .slice a3' x.cols.length c3'] W fun e w' => e = .returned (.bool true) ∧ Below W.heap.size W w') := fun W h => eqDStringS x.cols a3 c3 a3' c3' A B W (ho 3 (by omega)) (r3.later h) (r3'.later h)
  have E4 : Hid (∀ W, Below w.heap.size w W → Calls Tryd.prog 30 #[.slice a4 x.rows.length c4, .slice a4' x.rows.length c4'] W fun e w' => e = .returned (.bool true) ∧ Below W.heap.size W w') := fun W h => eqDRowS x.rows a4 c4 a4' c4' A B W (ho 4 (by omega)) (r4.later h) (r4'.later h)
  have HB := Lib.hid hb
  clear ho hb r3 r3' r4 r4'
  go_enter Tryd.func15, Tryd.ntmps15
  have x0 := cell_at (o := 0) HB.out.a rfl
  have y0 := cell_at (o := 0) HB.out.b rfl
  have x1 := cell_at (o := 1) HB.out.a rfl
  have y1 := cell_at (o := 1) HB.out.b rfl
  have x2 := cell_at (o := 2) HB.out.a rfl
  have y2 := cell_at (o := 2) HB.out.b rfl
  have x3 := cell_at (o := 3) HB.out.a rfl
  have y3 := cell_at (o := 3) HB.out.b rfl
  have x4 := cell_at (o := 4) HB.out.a rfl
  have y4 := cell_at (o := 4) HB.out.b rfl
  go_wp2_with fail
  refine (E3.out _ HB.out.bel).mono ?_
  rintro e w4 ⟨rfl, hB3⟩
  have H3 := Lib.hid (HB.out.later hB3)
  clear hB3 HB x0 y0 x1 y1 x2 y2 x3 y3 x4 y4
  have x0 := cell_at (o := 0) H3.out.a rfl
  have y0 := cell_at (o := 0) H3.out.b rfl
  have x1 := cell_at (o := 1) H3.out.a rfl
  have y1 := cell_at (o := 1) H3.out.b rfl
  have x2 := cell_at (o := 2) H3.out.a rfl
  have y2 := cell_at (o := 2) H3.out.b rfl
  have x3 := cell_at (o := 3) H3.out.a rfl
  have y3 := cell_at (o := 3) H3.out.b rfl
  have x4 := cell_at (o := 4) H3.out.a rfl
  have y4 := cell_at (o := 4) H3.out.b rfl
  go_wp2_with fail
  refine (E4.out _ H3.out.bel).mono ?_
  rintro e w5 ⟨rfl, hB4⟩
  have H4 := Lib.hid (H3.out.later hB4)
  clear hB4 H3 x0 y0 x1 y1 x2 y2 x3 y3 x4 y4
  have x0 := cell_at (o := 0) H4.out.a rfl
  have y0 := cell_at (o := 0) H4.out.b rfl
  have x1 := cell_at (o := 1) H4.out.a rfl
  have y1 := cell_at (o := 1) H4.out.b rfl
  have x2 := cell_at (o := 2) H4.out.a rfl
  have y2 := cell_at (o := 2) H4.out.b rfl
  have x3 := cell_at (o := 3) H4.out.a rfl
  have y3 := cell_at (o := 3) H4.out.b rfl
  have x4 := cell_at (o := 4) H4.out.a rfl
  have y4 := cell_at (o := 4) H4.out.b rfl
  go_wp2_with fail
  go_ret
  exact ⟨rfl, H4.out.bel⟩
end Go.Proofs.YtndlhcdgpkeifaaDoor
