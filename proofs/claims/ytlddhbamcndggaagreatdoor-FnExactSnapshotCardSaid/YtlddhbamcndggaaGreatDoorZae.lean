import Derived.Test.YtlddhbamcndggaaGreatDoorZad
namespace Go.Proofs.YtlddhbamcndggaaGreatDoor
open Go.RowKit
set_option linter.unusedSimpArgs false
structure MoV where
 nm : List UInt8
 tb : List UInt8
 cs : List (List UInt8)
 ini : Bool
 ins : Bool
 del : Bool
 mod : Bool
 wh : List CondV
def dMonitor (x : MoV) : Nat → D
 | 0 => .s x.nm
 | 1 => .s x.tb
 | 2 => dStringS x.cs
 | 3 => .b x.ini
 | 4 => .b x.ins
 | 5 => .b x.del
 | 6 => .b x.mod
 | _ => dCondS x.wh
theorem szT_Monitor (x : MoV) : szT 8 (dMonitor x) = x.nm.length + x.tb.length + (dStringS x.cs).sz + (dCondS x.wh).sz := by simp [szT, sumN, dMonitor, D.sz]
set_option maxHeartbeats 1600000 in
theorem szDMonitor (x : MoV) (a2 : Option Addr) (c2 : Nat) (a7 : Option Addr) (c7 : Nat) (L : Int) (B : Nat → Prop) (w : World) (h0 : 0 ≤ L) (h1 : L ≤ 1048576) (ho : ∀ j, j < 8 → (dMonitor x j).le maxLen) (r2 : Rd w B (dStringS x.cs) (.slice a2 x.cs.length c2)) (r7 : Rd w B (dCondS x.wh) (.slice a7 x.wh.length c7)) :
  Calls Tryz.prog 6 #[.agg #[.string ⟨x.nm.toArray⟩, .string ⟨x.tb.toArray⟩, .slice a2 x.cs.length c2, .bool x.ini, .bool x.ins, .bool x.del, .bool x.mod, .slice a7 x.wh.length c7], .int .i64 L] w fun e w' => e = .returned (.int .i64 (lessI L (szT 8 (dMonitor x)))) ∧ Below w.heap.size w w' := by
 rw [szT_Monitor]
 have HO := Lib.hid ho
 have R2 := Lib.hid r2
 have R7 := Lib.hid r7
 have hs0 : x.nm.length ≤ maxLen := ho 0 (by omega)
 unfold maxLen at hs0
 have hs1 : x.tb.length ≤ maxLen := ho 1 (by omega)
 unfold maxLen at hs1
 have hx := boxD 31 w #[.string ⟨x.nm.toArray⟩, .string ⟨x.tb.toArray⟩, .slice a2 x.cs.length c2, .bool x.ini, .bool x.ins, .bool x.del, .bool x.mod, .slice a7 x.wh.length c7]
 clear ho r2 r7
 have x0 := cell_at (o := 0) hx.1 rfl
 have x1 := cell_at (o := 1) hx.1 rfl
 have x2 := cell_at (o := 2) hx.1 rfl
 have x3 := cell_at (o := 3) hx.1 rfl
 have x4 := cell_at (o := 4) hx.1 rfl
 have x5 := cell_at (o := 5) hx.1 rfl
 have x6 := cell_at (o := 6) hx.1 rfl
 have x7 := cell_at (o := 7) hx.1 rfl
 by_cases hn0 : L - (x.nm.length : Int) < 0
 case pos =>
  have HR : Hid (lessI L (x.nm.length + x.tb.length + (dStringS x.cs).sz + (dCondS x.wh).sz) = -1) := by show lessI L (x.nm.length + x.tb.length + (dStringS x.cs).sz + (dCondS x.wh).sz) = -1; unfold lessI; rw [if_neg (by omega)]
  have d0 : decide (L - (x.nm.length : Int) < 0) = true := decide_eq_true hn0
  go_enter Tryz.func6, Tryz.ntmps6
  go_wp2_with fail
  go_ret
  exact ⟨ret_i HR.out.symm, hx.2⟩
 obtain ⟨L0, hL0⟩ : ∃ L0 : Int, L0 = L - (x.nm.length : Int) := ⟨_, rfl⟩
 have f0 : IntKind.i64.wrap (L - (x.nm.length : Int)) = L0 := by rw [IntKind.wrap_i64]; omega
 have d0 : decide (L0 < 0) = false := decide_eq_false (by omega)
 have HL0 := Lib.hid hL0
 have bL0 : 0 ≤ L0 ∧ L0 ≤ 1048576 := by omega
 clear hn0 hL0
 by_cases hn1 : L0 - (x.tb.length : Int) < 0
 case pos =>
  have HR : Hid (lessI L (x.nm.length + x.tb.length + (dStringS x.cs).sz + (dCondS x.wh).sz) = -1) := by have := HL0.out; show lessI L (x.nm.length + x.tb.length + (dStringS x.cs).sz + (dCondS x.wh).sz) = -1; unfold lessI; rw [if_neg (by omega)]
  have d1 : decide (L0 - (x.tb.length : Int) < 0) = true := decide_eq_true hn1
  go_enter Tryz.func6, Tryz.ntmps6
  go_wp2_with fail
  go_ret
  exact ⟨ret_i HR.out.symm, hx.2⟩
 obtain ⟨L1, hL1⟩ : ∃ L1 : Int, L1 = L0 - (x.tb.length : Int) := ⟨_, rfl⟩
 have f1 : IntKind.i64.wrap (L0 - (x.tb.length : Int)) = L1 := by rw [IntKind.wrap_i64]; omega
 have d1 : decide (L1 < 0) = false := decide_eq_false (by omega)
 have HL1 := Lib.hid hL1
 have bL1 : 0 ≤ L1 ∧ L1 ≤ 1048576 := by omega
 clear hn1 hL1
 have bl : Hid (0 ≤ L1 ∧ L1 ≤ 1048576) := by show _ ∧ _; omega
 clear h0 h1 bL0 bL1
 go_enter Tryz.func6, Tryz.ntmps6
 go_wp2_with fail
 refine (szDStringS x.cs a2 c2 L1 B _ bl.out.1 bl.out.2 (HO.out 2 (by omega)) (R2.out.later hx.2)).mono ?_
 rintro e w3 ⟨rfl, hB3⟩
 have hx := hx.later hB3
 clear hB3 x0 x1 x2 x3 x4 x5 x6 x7
 have x0 := cell_at (o := 0) hx.1 rfl
 have x1 := cell_at (o := 1) hx.1 rfl
 have x2 := cell_at (o := 2) hx.1 rfl
 have x3 := cell_at (o := 3) hx.1 rfl
 have x4 := cell_at (o := 4) hx.1 rfl
 have x5 := cell_at (o := 5) hx.1 rfl
 have x6 := cell_at (o := 6) hx.1 rfl
 have x7 := cell_at (o := 7) hx.1 rfl
 by_cases hn2 : L1 - ((dStringS x.cs).sz : Int) < 0
 case pos =>
  have HR : Hid (lessI L (x.nm.length + x.tb.length + (dStringS x.cs).sz + (dCondS x.wh).sz) = -1) := by have := HL0.out; have := HL1.out; have := bl.out; show lessI L (x.nm.length + x.tb.length + (dStringS x.cs).sz + (dCondS x.wh).sz) = -1; unfold lessI; rw [if_neg (by omega)]
  rw [less_no hn2]
  go_wp2_with fail
  go_ret
  exact ⟨ret_i HR.out.symm, hx.2⟩
 rw [less_yes (by omega)]
 obtain ⟨L2, hL2⟩ : ∃ L2 : Int, L2 = L1 - ((dStringS x.cs).sz : Int) := ⟨_, rfl⟩
 rw [← hL2]
 have d2 : decide (L2 < 0) = false := decide_eq_false (by omega)
 have bL2 : Hid (0 ≤ L2 ∧ L2 ≤ 1048576) := by have := bl.out; show _ ∧ _; omega
 have HL2 := Lib.hid hL2
 clear hn2 hL2 bl
 have bl := bL2
 clear bL2
 go_wp2_with fail
 refine (szDCondS x.wh a7 c7 L2 B _ bl.out.1 bl.out.2 (HO.out 7 (by omega)) (R7.out.later hx.2)).mono ?_
 rintro e w8 ⟨rfl, hB8⟩
 have hx := hx.later hB8
 clear hB8 x0 x1 x2 x3 x4 x5 x6 x7
 have x0 := cell_at (o := 0) hx.1 rfl
 have x1 := cell_at (o := 1) hx.1 rfl
 have x2 := cell_at (o := 2) hx.1 rfl
 have x3 := cell_at (o := 3) hx.1 rfl
 have x4 := cell_at (o := 4) hx.1 rfl
 have x5 := cell_at (o := 5) hx.1 rfl
 have x6 := cell_at (o := 6) hx.1 rfl
 have x7 := cell_at (o := 7) hx.1 rfl
 by_cases hn7 : L2 - ((dCondS x.wh).sz : Int) < 0
 case pos =>
  have HR : Hid (lessI L (x.nm.length + x.tb.length + (dStringS x.cs).sz + (dCondS x.wh).sz) = -1) := by have := HL0.out; have := HL1.out; have := HL2.out; have := bl.out; show lessI L (x.nm.length + x.tb.length + (dStringS x.cs).sz + (dCondS x.wh).sz) = -1; unfold lessI; rw [if_neg (by omega)]
  rw [less_no hn7]
  go_wp2_with fail
  go_ret
  exact ⟨ret_i HR.out.symm, hx.2⟩
 rw [less_yes (by omega)]
 obtain ⟨L7, hL7⟩ : ∃ L7 : Int, L7 = L2 - ((dCondS x.wh).sz : Int) := ⟨_, rfl⟩
 rw [← hL7]
 have d7 : decide (L7 < 0) = false := decide_eq_false (by omega)
 have bL7 : Hid (0 ≤ L7 ∧ L7 ≤ 1048576) := by have := bl.out; show _ ∧ _; omega
 have HL7 := Lib.hid hL7
 have HR : Hid (lessI L (x.nm.length + x.tb.length + (dStringS x.cs).sz + (dCondS x.wh).sz) = L7) := by have := HL0.out; have := HL1.out; have := HL2.out; have := HL7.out; have := bL7.out; show lessI L (x.nm.length + x.tb.length + (dStringS x.cs).sz + (dCondS x.wh).sz) = L7; unfold lessI; rw [if_pos (by omega)]; omega
 clear hn7 hL7 bl
 have bl := bL7
 clear bL7
 go_wp2_with fail
 go_ret
 exact ⟨ret_i HR.out.symm, hx.2⟩
set_option maxRecDepth 100000 in
set_option maxHeartbeats 3200000 in
theorem toDMonitor (x : MoV) (a2 : Option Addr) (c2 : Nat) (a7 : Option Addr) (c7 : Nat) (B : Nat → Prop) (w : World) (ho : ∀ j, j < 8 → (dMonitor x j).le 1048576) (r2 : Rd w B (dStringS x.cs) (.slice a2 x.cs.length c2)) (r7 : Rd w B (dCondS x.wh) (.slice a7 x.wh.length c7)) :
  Calls Tryz.prog 10 #[.agg #[.string ⟨x.nm.toArray⟩, .string ⟨x.tb.toArray⟩, .slice a2 x.cs.length c2, .bool x.ini, .bool x.ins, .bool x.del, .bool x.mod, .slice a7 x.wh.length c7]] w fun e w' => ∃ p2 : Nat, ∃ p7 : Nat, e = .returned (.agg #[.string ⟨x.nm.toArray⟩, .string ⟨x.tb.toArray⟩, .slice (some ⟨p2, 0, none⟩) x.cs.length x.cs.length, .bool x.ini, .bool x.ins, .bool x.del, .bool x.mod, .slice (some ⟨p7, 0, none⟩) x.wh.length x.wh.length]) ∧ Owns w' 8 (dMonitor x) (vat [.string ⟨x.nm.toArray⟩, .string ⟨x.tb.toArray⟩, .slice (some ⟨p2, 0, none⟩) x.cs.length x.cs.length, .bool x.ini, .bool x.ins, .bool x.del, .bool x.mod, .slice (some ⟨p7, 0, none⟩) x.wh.length x.wh.length]) (fun c => w.heap.size ≤ c ∧ c < w'.heap.size) ∧ Below w.heap.size w w' := by
 have HO := Lib.hid ho
 have R2 := Lib.hid r2
 have R7 := Lib.hid r7
 have T0 := Lib.hid (st3First w 31 48 #[.string ⟨x.nm.toArray⟩, .string ⟨x.tb.toArray⟩, .slice a2 x.cs.length c2, .bool x.ini, .bool x.ins, .bool x.del, .bool x.mod, .slice a7 x.wh.length c7] #[.string ⟨#[]⟩, .string ⟨#[]⟩, .slice none 0 0, .bool false, .bool false, .bool false, .bool false, .slice none 0 0] #[.string ⟨x.nm.toArray⟩, .string ⟨x.tb.toArray⟩, .slice none 0 0, .bool false, .bool false, .bool false, .bool false, .slice none 0 0])
 clear ho r2 r7
 go_enter Tryz.func10, Tryz.ntmps10
 go_wp2_with fail
 have HE : Hid (w.heap.size + 1 + 1 < (((w.alloc (.cells #[.string ⟨x.nm.toArray⟩, .string ⟨x.tb.toArray⟩, .slice a2 x.cs.length c2, .bool x.ini, .bool x.ins, .bool x.del, .bool x.mod, .slice a7 x.wh.length c7] 31)).alloc (.cells #[.string ⟨#[]⟩, .string ⟨#[]⟩, .slice none 0 0, .bool false, .bool false, .bool false, .bool false, .slice none 0 0] 48)).alloc (.cells #[.string ⟨x.nm.toArray⟩, .string ⟨x.tb.toArray⟩, .slice none 0 0, .bool false, .bool false, .bool false, .bool false, .slice none 0 0] 48)).heap.size) := by show _ < _; simp
 refine (toDStringS x.cs a2 c2 B _ (HO.out 2 (by omega)) (R2.out.later T0.out.bel)).mono ?_
 rintro e w3 ⟨rfl, o2, hB2⟩
 have S2 := Lib.hid (T0.out.later hB2)
 obtain ⟨p2, hp2⟩ : ∃ p, p = (((w.alloc (.cells #[.string ⟨x.nm.toArray⟩, .string ⟨x.tb.toArray⟩, .slice a2 x.cs.length c2, .bool x.ini, .bool x.ins, .bool x.del, .bool x.mod, .slice a7 x.wh.length c7] 31)).alloc (.cells #[.string ⟨#[]⟩, .string ⟨#[]⟩, .slice none 0 0, .bool false, .bool false, .bool false, .bool false, .slice none 0 0] 48)).alloc (.cells #[.string ⟨x.nm.toArray⟩, .string ⟨x.tb.toArray⟩, .slice none 0 0, .bool false, .bool false, .bool false, .bool false, .slice none 0 0] 48)).heap.size := ⟨_, rfl⟩
 have HP2 : Hid (w.heap.size + 1 + 1 < p2 ∧ p2 ≤ w3.heap.size) := by
  have h1 := hB2.size; have h2 := HE.out
  rw [← hp2] at h1 h2
  exact ⟨h2, h1⟩
 rw [← hp2] at o2 ⊢
 have O2 := Lib.hid o2
 clear o2 hB2 hp2 T0 HE
 have x2 := cell_at (o := 2) S2.out.ot rfl
 have z2 := frozen_at 2 S2.out.ot
 have hne : (w.heap.size = w.heap.size + 1 + 1) = False := by simp; omega
 have x3 := cell_at (o := 3) S2.out.ot rfl
 have z3 := frozen_at 3 S2.out.ot
 have y3 := cell_at (o := 3) S2.out.bx rfl
 have x4 := cell_at (o := 4) S2.out.ot rfl
 have z4 := frozen_at 4 S2.out.ot
 have y4 := cell_at (o := 4) S2.out.bx rfl
 have x5 := cell_at (o := 5) S2.out.ot rfl
 have z5 := frozen_at 5 S2.out.ot
 have y5 := cell_at (o := 5) S2.out.bx rfl
 have x6 := cell_at (o := 6) S2.out.ot rfl
 have z6 := frozen_at 6 S2.out.ot
 have y6 := cell_at (o := 6) S2.out.bx rfl
 have y7 := cell_at (o := 7) S2.out.bx rfl
 have U2 := Lib.hid (((((S2.out.set 2 (.slice (some ⟨p2, 0, none⟩) x.cs.length x.cs.length)).set 3 (.bool x.ini)).set 4 (.bool x.ins)).set 5 (.bool x.del)).set 6 (.bool x.mod))
 have F2 : Hid (Frm (fun c => c = w.heap.size + 1 + 1) w3 (((((w3.setCell ⟨w.heap.size + 1 + 1, 2, none⟩ (.slice (some ⟨p2, 0, none⟩) x.cs.length x.cs.length)).setCell ⟨w.heap.size + 1 + 1, 3, none⟩ (.bool x.ini)).setCell ⟨w.heap.size + 1 + 1, 4, none⟩ (.bool x.ins)).setCell ⟨w.heap.size + 1 + 1, 5, none⟩ (.bool x.del)).setCell ⟨w.heap.size + 1 + 1, 6, none⟩ (.bool x.mod))) := by
  show Frm _ _ _
  refine Frm.set (B := fun c => c = w.heap.size + 1 + 1) ?_ rfl _
  refine Frm.set (B := fun c => c = w.heap.size + 1 + 1) ?_ rfl _
  refine Frm.set (B := fun c => c = w.heap.size + 1 + 1) ?_ rfl _
  refine Frm.set (B := fun c => c = w.heap.size + 1 + 1) ?_ rfl _
  refine Frm.set (B := fun c => c = w.heap.size + 1 + 1) ?_ rfl _
  exact Frm.refl _ _
 have P2 := Lib.hid (O2.out.frm F2.out (fun c hc hF => by have h1 := HP2.out.1; have h2 := hc.1; have h3 : c = _ := hF; omega))
 clear O2
 have O2 := P2
 clear P2
 have HE : Hid (w.heap.size + 1 + 1 < (((((w3.setCell ⟨w.heap.size + 1 + 1, 2, none⟩ (.slice (some ⟨p2, 0, none⟩) x.cs.length x.cs.length)).setCell ⟨w.heap.size + 1 + 1, 3, none⟩ (.bool x.ini)).setCell ⟨w.heap.size + 1 + 1, 4, none⟩ (.bool x.ins)).setCell ⟨w.heap.size + 1 + 1, 5, none⟩ (.bool x.del)).setCell ⟨w.heap.size + 1 + 1, 6, none⟩ (.bool x.mod)).heap.size) := by have := HP2.out; show _ < _; simp; omega
 clear F2 S2
 go_wp2_with fail
 refine (toDCondS x.wh a7 c7 B _ (HO.out 7 (by omega)) (R7.out.later U2.out.bel)).mono ?_
 rintro e w8 ⟨rfl, o7, hB7⟩
 have S7 := Lib.hid (U2.out.later hB7)
 obtain ⟨p7, hp7⟩ : ∃ p, p = (((((w3.setCell ⟨w.heap.size + 1 + 1, 2, none⟩ (.slice (some ⟨p2, 0, none⟩) x.cs.length x.cs.length)).setCell ⟨w.heap.size + 1 + 1, 3, none⟩ (.bool x.ini)).setCell ⟨w.heap.size + 1 + 1, 4, none⟩ (.bool x.ins)).setCell ⟨w.heap.size + 1 + 1, 5, none⟩ (.bool x.del)).setCell ⟨w.heap.size + 1 + 1, 6, none⟩ (.bool x.mod)).heap.size := ⟨_, rfl⟩
 have HP7 : Hid (w.heap.size + 1 + 1 < p7 ∧ p7 ≤ w8.heap.size ∧ w3.heap.size ≤ p7) := by
  have h1 := hB7.size; have h2 := HE.out
  rw [← hp7] at h1 h2
  exact ⟨h2, h1, by rw [hp7]; simp⟩
 rw [← hp7] at o7 ⊢
 have Q2_7 := Lib.hid (O2.out.later hB7)
 clear O2
 have O2 := Q2_7
 clear Q2_7
 have O7 := Lib.hid o7
 clear o7 hB7 hp7 U2 HE
 have x7 := cell_at (o := 7) S7.out.ot rfl
 have z7 := frozen_at 7 S7.out.ot
 have hne : (w.heap.size = w.heap.size + 1 + 1) = False := by simp; omega
 have x0 := cell_at (o := 0) S7.out.ot rfl
 have x1 := cell_at (o := 1) S7.out.ot rfl
 have x2 := cell_at (o := 2) S7.out.ot rfl
 have x3 := cell_at (o := 3) S7.out.ot rfl
 have x4 := cell_at (o := 4) S7.out.ot rfl
 have x5 := cell_at (o := 5) S7.out.ot rfl
 have x6 := cell_at (o := 6) S7.out.ot rfl
 have g0 := cell_at (o := 0) S7.out.rv rfl
 have k0 := frozen_at 0 S7.out.rv
 have g1 := cell_at (o := 1) S7.out.rv rfl
 have k1 := frozen_at 1 S7.out.rv
 have g2 := cell_at (o := 2) S7.out.rv rfl
 have k2 := frozen_at 2 S7.out.rv
 have g3 := cell_at (o := 3) S7.out.rv rfl
 have k3 := frozen_at 3 S7.out.rv
 have g4 := cell_at (o := 4) S7.out.rv rfl
 have k4 := frozen_at 4 S7.out.rv
 have g5 := cell_at (o := 5) S7.out.rv rfl
 have k5 := frozen_at 5 S7.out.rv
 have g6 := cell_at (o := 6) S7.out.rv rfl
 have k6 := frozen_at 6 S7.out.rv
 have g7 := cell_at (o := 7) S7.out.rv rfl
 have k7 := frozen_at 7 S7.out.rv
 go_wp2_with fail
 refine bodyPost_ret (v := .agg #[.string ⟨x.nm.toArray⟩, .string ⟨x.tb.toArray⟩, .slice (some ⟨p2, 0, none⟩) x.cs.length x.cs.length, .bool x.ini, .bool x.ins, .bool x.del, .bool x.mod, .slice (some ⟨p7, 0, none⟩) x.wh.length x.wh.length]) (by simp [results, Tryz.results10, go_sem, *]) rfl ?_
 have FF : Frm (fun c => c = w.heap.size + 1 ∨ c = w.heap.size + 1 + 1) w8 (((((((((w8.setCell ⟨w.heap.size + 1 + 1, 7, none⟩ (.slice (some ⟨p7, 0, none⟩) x.wh.length x.wh.length)).setCell ⟨w.heap.size + 1, 0, none⟩ (.string ⟨x.nm.toArray⟩)).setCell ⟨w.heap.size + 1, 1, none⟩ (.string ⟨x.tb.toArray⟩)).setCell ⟨w.heap.size + 1, 2, none⟩ (.slice (some ⟨p2, 0, none⟩) x.cs.length x.cs.length)).setCell ⟨w.heap.size + 1, 3, none⟩ (.bool x.ini)).setCell ⟨w.heap.size + 1, 4, none⟩ (.bool x.ins)).setCell ⟨w.heap.size + 1, 5, none⟩ (.bool x.del)).setCell ⟨w.heap.size + 1, 6, none⟩ (.bool x.mod)).setCell ⟨w.heap.size + 1, 7, none⟩ (.slice (some ⟨p7, 0, none⟩) x.wh.length x.wh.length)) := by
  refine Frm.set ?_ (.inl rfl) _
  refine Frm.set ?_ (.inl rfl) _
  refine Frm.set ?_ (.inl rfl) _
  refine Frm.set ?_ (.inl rfl) _
  refine Frm.set ?_ (.inl rfl) _
  refine Frm.set ?_ (.inl rfl) _
  refine Frm.set ?_ (.inl rfl) _
  refine Frm.set ?_ (.inl rfl) _
  refine Frm.set ?_ (.inr rfl) _
  exact Frm.refl _ _
 have hsz : (((((((((w8.setCell ⟨w.heap.size + 1 + 1, 7, none⟩ (.slice (some ⟨p7, 0, none⟩) x.wh.length x.wh.length)).setCell ⟨w.heap.size + 1, 0, none⟩ (.string ⟨x.nm.toArray⟩)).setCell ⟨w.heap.size + 1, 1, none⟩ (.string ⟨x.tb.toArray⟩)).setCell ⟨w.heap.size + 1, 2, none⟩ (.slice (some ⟨p2, 0, none⟩) x.cs.length x.cs.length)).setCell ⟨w.heap.size + 1, 3, none⟩ (.bool x.ini)).setCell ⟨w.heap.size + 1, 4, none⟩ (.bool x.ins)).setCell ⟨w.heap.size + 1, 5, none⟩ (.bool x.del)).setCell ⟨w.heap.size + 1, 6, none⟩ (.bool x.mod)).setCell ⟨w.heap.size + 1, 7, none⟩ (.slice (some ⟨p7, 0, none⟩) x.wh.length x.wh.length)).heap.size = w8.heap.size := by simp
 refine ⟨p2, p7, rfl, ⟨fun j c => (j = 2 ∧ p2 ≤ c ∧ c < w3.heap.size) ∨ (j = 7 ∧ p7 ≤ c ∧ c < w8.heap.size), fun j c hc => ?_, fun j j' c h h' => ?_, fun j hj => ?_⟩, ?_⟩
 ·
  have h2 := HP2.out; have h7 := HP7.out; rw [hsz]; omega
 ·
  have h2 := HP2.out; have h7 := HP7.out; omega
 ·
  rcases (by omega : j = 0 ∨ j = 1 ∨ j = 2 ∨ j = 3 ∨ j = 4 ∨ j = 5 ∨ j = 6 ∨ j = 7) with rfl | rfl | rfl | rfl | rfl | rfl | rfl | rfl
  ·
   rfl
  ·
   rfl
  ·
   exact (O2.out.frm FF (fun c hc hF => by have h1 := HP2.out; have h2 := hc.1; rcases hF with rfl | rfl <;> omega)).mono (fun c hc => .inl ⟨rfl, hc⟩)
  ·
   rfl
  ·
   rfl
  ·
   rfl
  ·
   rfl
  ·
   exact (O7.out.frm FF (fun c hc hF => by have h1 := HP7.out; have h2 := hc.1; rcases hF with rfl | rfl <;> omega)).mono (fun c hc => .inr ⟨rfl, hc⟩)
 ·
  exact (((((((((S7.out.bel.setCell (by simp <;> omega) _).setCell (by simp <;> omega) _).setCell (by simp <;> omega) _).setCell (by simp <;> omega) _).setCell (by simp <;> omega) _).setCell (by simp <;> omega) _).setCell (by simp <;> omega) _).setCell (by simp <;> omega) _).setCell (by simp <;> omega) _)
set_option maxRecDepth 100000 in
set_option maxHeartbeats 1600000 in
theorem eqDMonitor (x : MoV) (a2 : Option Addr) (c2 : Nat) (a7 : Option Addr) (c7 : Nat) (a2' : Option Addr) (c2' : Nat) (a7' : Option Addr) (c7' : Nat) (A B : Nat → Prop) (w : World) (ho : ∀ j, j < 8 → (dMonitor x j).le maxLen) (r2 : Rd w A (dStringS x.cs) (.slice a2 x.cs.length c2)) (r7 : Rd w A (dCondS x.wh) (.slice a7 x.wh.length c7)) (r2' : Rd w B (dStringS x.cs) (.slice a2' x.cs.length c2')) (r7' : Rd w B (dCondS x.wh) (.slice a7' x.wh.length c7')) :
  Calls Tryz.prog 15 #[.agg #[.string ⟨x.nm.toArray⟩, .string ⟨x.tb.toArray⟩, .slice a2 x.cs.length c2, .bool x.ini, .bool x.ins, .bool x.del, .bool x.mod, .slice a7 x.wh.length c7], .agg #[.string ⟨x.nm.toArray⟩, .string ⟨x.tb.toArray⟩, .slice a2' x.cs.length c2', .bool x.ini, .bool x.ins, .bool x.del, .bool x.mod, .slice a7' x.wh.length c7']] w fun e w' => e = .returned (.bool true) ∧ Below w.heap.size w w' := by
 have hb : Box2D 48 w ((w.alloc (.cells #[.string ⟨x.nm.toArray⟩, .string ⟨x.tb.toArray⟩, .slice a2 x.cs.length c2, .bool x.ini, .bool x.ins, .bool x.del, .bool x.mod, .slice a7 x.wh.length c7] 48)).alloc (.cells #[.string ⟨x.nm.toArray⟩, .string ⟨x.tb.toArray⟩, .slice a2' x.cs.length c2', .bool x.ini, .bool x.ins, .bool x.del, .bool x.mod, .slice a7' x.wh.length c7'] 48)) #[.string ⟨x.nm.toArray⟩, .string ⟨x.tb.toArray⟩, .slice a2 x.cs.length c2, .bool x.ini, .bool x.ins, .bool x.del, .bool x.mod, .slice a7 x.wh.length c7] #[.string ⟨x.nm.toArray⟩, .string ⟨x.tb.toArray⟩, .slice a2' x.cs.length c2', .bool x.ini, .bool x.ins, .bool x.del, .bool x.mod, .slice a7' x.wh.length c7'] := box2D _ _ _ _
 have E2 : Hid (∀ W, Below w.heap.size w W → Calls Tryz.prog 43 #[.slice a2 x.cs.length c2, .slice a2' x.cs.length c2'] W fun e w' => e = .returned (.bool true) ∧ Below W.heap.size W w') := fun W h => eqDStringS x.cs a2 c2 a2' c2' A B W (ho 2 (by omega)) (r2.later h) (r2'.later h)
 have E7 : Hid (∀ W, Below w.heap.size w W → Calls Tryz.prog 44 #[.slice a7 x.wh.length c7, .slice a7' x.wh.length c7'] W fun e w' => e = .returned (.bool true) ∧ Below W.heap.size W w') := fun W h => eqDCondS x.wh a7 c7 a7' c7' A B W (ho 7 (by omega)) (r7.later h) (r7'.later h)
 have HB := Lib.hid hb
 clear ho hb r2 r2' r7 r7'
 go_enter Tryz.func15, Tryz.ntmps15
 have x0 := cell_at (o := 0) HB.out.a rfl
 have y0 := cell_at (o := 0) HB.out.b rfl
 have x1 := cell_at (o := 1) HB.out.a rfl
 have y1 := cell_at (o := 1) HB.out.b rfl
 have x2 := cell_at (o := 2) HB.out.a rfl
 have y2 := cell_at (o := 2) HB.out.b rfl
 have x3 := cell_at (o := 3) HB.out.a rfl
 have y3 := cell_at (o := 3) HB.out.b rfl
 have x4 := cell_at (o := 4) HB.out.a rfl
 have y4 := cell_at (o := 4) HB.out.b rfl
 have x5 := cell_at (o := 5) HB.out.a rfl
 have y5 := cell_at (o := 5) HB.out.b rfl
 have x6 := cell_at (o := 6) HB.out.a rfl
 have y6 := cell_at (o := 6) HB.out.b rfl
 have x7 := cell_at (o := 7) HB.out.a rfl
 have y7 := cell_at (o := 7) HB.out.b rfl
 go_wp2_with fail
 refine (E2.out _ HB.out.bel).mono ?_
 rintro e w3 ⟨rfl, hB2⟩
 have H2 := Lib.hid (HB.out.later hB2)
 clear hB2 HB x0 y0 x1 y1 x2 y2 x3 y3 x4 y4 x5 y5 x6 y6 x7 y7
 have x0 := cell_at (o := 0) H2.out.a rfl
 have y0 := cell_at (o := 0) H2.out.b rfl
 have x1 := cell_at (o := 1) H2.out.a rfl
 have y1 := cell_at (o := 1) H2.out.b rfl
 have x2 := cell_at (o := 2) H2.out.a rfl
 have y2 := cell_at (o := 2) H2.out.b rfl
 have x3 := cell_at (o := 3) H2.out.a rfl
 have y3 := cell_at (o := 3) H2.out.b rfl
 have x4 := cell_at (o := 4) H2.out.a rfl
 have y4 := cell_at (o := 4) H2.out.b rfl
 have x5 := cell_at (o := 5) H2.out.a rfl
 have y5 := cell_at (o := 5) H2.out.b rfl
 have x6 := cell_at (o := 6) H2.out.a rfl
 have y6 := cell_at (o := 6) H2.out.b rfl
 have x7 := cell_at (o := 7) H2.out.a rfl
 have y7 := cell_at (o := 7) H2.out.b rfl
 go_wp2_with fail
 refine (E7.out _ H2.out.bel).mono ?_
 rintro e w8 ⟨rfl, hB7⟩
 have H7 := Lib.hid (H2.out.later hB7)
 clear hB7 H2 x0 y0 x1 y1 x2 y2 x3 y3 x4 y4 x5 y5 x6 y6 x7 y7
 have x0 := cell_at (o := 0) H7.out.a rfl
 have y0 := cell_at (o := 0) H7.out.b rfl
 have x1 := cell_at (o := 1) H7.out.a rfl
 have y1 := cell_at (o := 1) H7.out.b rfl
 have x2 := cell_at (o := 2) H7.out.a rfl
 have y2 := cell_at (o := 2) H7.out.b rfl
 have x3 := cell_at (o := 3) H7.out.a rfl
 have y3 := cell_at (o := 3) H7.out.b rfl
 have x4 := cell_at (o := 4) H7.out.a rfl
 have y4 := cell_at (o := 4) H7.out.b rfl
 have x5 := cell_at (o := 5) H7.out.a rfl
 have y5 := cell_at (o := 5) H7.out.b rfl
 have x6 := cell_at (o := 6) H7.out.a rfl
 have y6 := cell_at (o := 6) H7.out.b rfl
 have x7 := cell_at (o := 7) H7.out.a rfl
 have y7 := cell_at (o := 7) H7.out.b rfl
 go_wp2_with fail
 go_ret
 exact ⟨rfl, H7.out.bel⟩
end Go.Proofs.YtlddhbamcndggaaGreatDoor
