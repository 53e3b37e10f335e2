import Derived.Test.YtaepgahejelkaaaGreatZar
import Derived.Test.YtaepgahejelkaaaGreatZam
import Derived.Test.YtaepgahejelkaaaGreatZax
namespace Go.Proofs.YtaepgahejelkaaaGreat
open Go.RowKit
set_option linter.unusedSimpArgs false
structure OpV where
  kd : Int
  tb : List UInt8
  nm : List UInt8
  wh : List CondV
  row : List SetV
  mu : List MutV
  cs : List (List UInt8)
  un : Bool
def dOp (x : OpV) : Nat → D
  | 0 => .i x.kd
  | 1 => .s x.tb
  | 2 => .s x.nm
  | 3 => dCondS x.wh
  | 4 => dSetS x.row
  | 5 => dMutS x.mu
  | 6 => dStringS x.cs
  | _ => .b x.un
theorem szT_Op (x : OpV) : szT 8 (dOp x) = x.tb.length + x.nm.length + (dCondS x.wh).sz + (dSetS x.row).sz + (dMutS x.mu).sz + (dStringS x.cs).sz := by simp [szT, sumN, dOp, D.sz]
set_option maxHeartbeats 1600000 in
theorem szDOp (x : OpV) (a3 : Option Addr) (c3 : Nat) (a4 : Option Addr) (c4 : Nat) (a5 : Option Addr) (c5 : Nat) (a6 : Option Addr) (c6 : Nat) (L : Int) (B : Nat → Prop) (w : World) (h0 : 0 ≤ L) (h1 : L ≤ 1048576) (ho : ∀ j, j < 8 → (dOp x j).le maxLen) (r3 : Rd w B (dCondS x.wh) (.slice a3 x.wh.length c3)) (r4 : Rd w B (dSetS x.row) (.slice a4 x.row.length c4)) (r5 : Rd w B (dMutS x.mu) (.slice a5 x.mu.length c5)) (r6 : Rd w B (dStringS x.cs) (.slice a6 x.cs.length c6)) :
    Calls Tryz.prog 5 #[.agg #[.int .i64 x.kd, .string ⟨x.tb.toArray⟩, .string ⟨x.nm.toArray⟩, .slice a3 x.wh.length c3, .slice a4 x.row.length c4, .slice a5 x.mu.length c5, .slice a6 x.cs.length c6, .bool x.un], .int .i64 L] w fun e w' => e = .returned (.int .i64 (lessI L (szT 8 (dOp x)))) ∧ Below w.heap.size w w' := by
  rw [szT_Op]
  have HO := Lib.hid ho
  have R3 := Lib.hid r3
  have R4 := Lib.hid r4
  have R5 := Lib.hid r5
  have R6 := Lib.hid r6
  have hs1 : x.tb.length ≤ maxLen := ho 1 (by omega)
  unfold maxLen at hs1
  have hs2 : x.nm.length ≤ maxLen := ho 2 (by omega)
  unfold maxLen at hs2
  have hx := boxD 30 w #[.int .i64 x.kd, .string ⟨x.tb.toArray⟩, .string ⟨x.nm.toArray⟩, .slice a3 x.wh.length c3, .slice a4 x.row.length c4, .slice a5 x.mu.length c5, .slice a6 x.cs.length c6, .bool x.un]
  clear ho r3 r4 r5 r6
  have x0 := cell_at (o := 0) hx.1 rfl
  have x1 := cell_at (o := 1) hx.1 rfl
  have x2 := cell_at (o := 2) hx.1 rfl
  have x3 := cell_at (o := 3) hx.1 rfl
  have x4 := cell_at (o := 4) hx.1 rfl
  have x5 := cell_at (o := 5) hx.1 rfl
  have x6 := cell_at (o := 6) hx.1 rfl
  have x7 := cell_at (o := 7) hx.1 rfl
  by_cases hn1 : L - (x.tb.length : Int) < 0
  case pos =>
    have HR : Hid (lessI L (x.tb.length + x.nm.length + (dCondS x.wh).sz + (dSetS x.row).sz + (dMutS x.mu).sz + (dStringS x.cs).sz) = -1) := by show lessI L (x.tb.length + x.nm.length + (dCondS x.wh).sz + (dSetS x.row).sz + (dMutS x.mu).sz + (dStringS x.cs).sz) = -1; unfold lessI; rw [if_neg (by omega)]
    have d1 : decide (L - (x.tb.length : Int) < 0) = true := decide_eq_true hn1
    go_enter Tryz.func5, Tryz.ntmps5
    go_wp2_with fail
    go_ret
    exact ⟨ret_i HR.out.symm, hx.2⟩
  obtain ⟨L1, hL1⟩ : ∃ L1 : Int, L1 = L - (x.tb.length : Int) := ⟨_, rfl⟩
  have f1 : IntKind.i64.wrap (L - (x.tb.length : Int)) = L1 := by rw [IntKind.wrap_i64]; omega
  have d1 : decide (L1 < 0) = false := decide_eq_false (by omega)
  have HL1 := Lib.hid hL1
  have bL1 : 0 ≤ L1 ∧ L1 ≤ 1048576 := by omega
  clear hn1 hL1
  by_cases hn2 : L1 - (x.nm.length : Int) < 0
  case pos =>
    have HR : Hid (lessI L (x.tb.length + x.nm.length + (dCondS x.wh).sz + (dSetS x.row).sz + (dMutS x.mu).sz + (dStringS x.cs).sz) = -1) := by have := HL1.out; show lessI L (x.tb.length + x.nm.length + (dCondS x.wh).sz + (dSetS x.row).sz + (dMutS x.mu).sz + (dStringS x.cs).sz) = -1; unfold lessI; rw [if_neg (by omega)]
    have d2 : decide (L1 - (x.nm.length : Int) < 0) = true := decide_eq_true hn2
    go_enter Tryz.func5, Tryz.ntmps5
    go_wp2_with fail
    go_ret
    exact ⟨ret_i HR.out.symm, hx.2⟩
  obtain ⟨L2, hL2⟩ : ∃ L2 : Int, L2 = L1 - (x.nm.length : Int) := ⟨_, rfl⟩
  have f2 : IntKind.i64.wrap (L1 - (x.nm.length : Int)) = L2 := by rw [IntKind.wrap_i64]; omega
  have d2 : decide (L2 < 0) = false := decide_eq_false (by omega)
  have HL2 := Lib.hid hL2
  have bL2 : 0 ≤ L2 ∧ L2 ≤ 1048576 := by omega
  clear hn2 hL2
  have bl : Hid (0 ≤ L2 ∧ L2 ≤ 1048576) := by show _ ∧ _; omega
  clear h0 h1 bL1 bL2
  go_enter Tryz.func5, Tryz.ntmps5
  go_wp2_with fail
  refine (szDCondS x.wh a3 c3 L2 B _ bl.out.1 bl.out.2 (HO.out 3 (by omega)) (R3.out.later hx.2)).mono ?_
  rintro e w4 ⟨rfl, hB4⟩
  have hx := hx.later hB4
  clear hB4 x0 x1 x2 x3 x4 x5 x6 x7
  have x0 := cell_at (o := 0) hx.1 rfl
  have x1 := cell_at (o := 1) hx.1 rfl
  have x2 := cell_at (o := 2) hx.1 rfl
  have x3 := cell_at (o := 3) hx.1 rfl
  have x4 := cell_at (o := 4) hx.1 rfl
  have x5 := cell_at (o := 5) hx.1 rfl
  have x6 := cell_at (o := 6) hx.1 rfl
  have x7 := cell_at (o := 7) hx.1 rfl
  by_cases hn3 : L2 - ((dCondS x.wh).sz : Int) < 0
  case pos =>
    have HR : Hid (lessI L (x.tb.length + x.nm.length + (dCondS x.wh).sz + (dSetS x.row).sz + (dMutS x.mu).sz + (dStringS x.cs).sz) = -1) := by have := HL1.out; have := HL2.out; have := bl.out; show lessI L (x.tb.length + x.nm.length + (dCondS x.wh).sz + (dSetS x.row).sz + (dMutS x.mu).sz + (dStringS x.cs).sz) = -1; unfold lessI; rw [if_neg (by omega)]
    rw [less_no hn3]
    go_wp2_with fail
    go_ret
    exact ⟨ret_i HR.out.symm, hx.2⟩
  rw [less_yes (by omega)]
  obtain ⟨L3, hL3⟩ : ∃ L3 : Int, L3 = L2 - ((dCondS x.wh).sz : Int) := ⟨_, rfl⟩
  rw [← hL3]
  have d3 : decide (L3 < 0) = false := decide_eq_false (by omega)
  have bL3 : Hid (0 ≤ L3 ∧ L3 ≤ 1048576) := by have := bl.out; show _ ∧ _; omega
  have HL3 := Lib.hid hL3
  clear hn3 hL3 bl
  have bl := bL3
  clear bL3
  go_wp2_with fail
  refine (szDSetS x.row a4 c4 L3 B _ bl.out.1 bl.out.2 (HO.out 4 (by omega)) (R4.out.later hx.2)).mono ?_
  rintro e w5 ⟨rfl, hB5⟩
  have hx := hx.later hB5
  clear hB5 x0 x1 x2 x3 x4 x5 x6 x7
  have x0 := cell_at (o := 0) hx.1 rfl
  have x1 := cell_at (o := 1) hx.1 rfl
  have x2 := cell_at (o := 2) hx.1 rfl
  have x3 := cell_at (o := 3) hx.1 rfl
  have x4 := cell_at (o := 4) hx.1 rfl
  have x5 := cell_at (o := 5) hx.1 rfl
  have x6 := cell_at (o := 6) hx.1 rfl
  have x7 := cell_at (o := 7) hx.1 rfl
  by_cases hn4 : L3 - ((dSetS x.row).sz : Int) < 0
  case pos =>
    have HR : Hid (lessI L (x.tb.length + x.nm.length + (dCondS x.wh).sz + (dSetS x.row).sz + (dMutS x.mu).sz + (dStringS x.cs).sz) = -1) := by have := HL1.out; have := HL2.out; have := HL3.out; have := bl.out; show lessI L (x.tb.length + x.nm.length + (dCondS x.wh).sz + (dSetS x.row).sz + (dMutS x.mu).sz + (dStringS x.cs).sz) = -1; unfold lessI; rw [if_neg (by omega)]
    rw [less_no hn4]
    go_wp2_with fail
    go_ret
    exact ⟨ret_i HR.out.symm, hx.2⟩
  rw [less_yes (by omega)]
  obtain ⟨L4, hL4⟩ : ∃ L4 : Int, L4 = L3 - ((dSetS x.row).sz : Int) := ⟨_, rfl⟩
  rw [← hL4]
  have d4 : decide (L4 < 0) = false := decide_eq_false (by omega)
  have bL4 : Hid (0 ≤ L4 ∧ L4 ≤ 1048576) := by have := bl.out; show _ ∧ _; omega
  have HL4 := Lib.hid hL4
  clear hn4 hL4 bl
  have bl := bL4
  clear bL4
  go_wp2_with fail
  refine (szDMutS x.mu a5 c5 L4 B _ bl.out.1 bl.out.2 (HO.out 5 (by omega)) (R5.out.later hx.2)).mono ?_
  rintro e w6 ⟨rfl, hB6⟩
  have hx := hx.later hB6
  clear hB6 x0 x1 x2 x3 x4 x5 x6 x7
  have x0 := cell_at (o := 0) hx.1 rfl
  have x1 := cell_at (o := 1) hx.1 rfl
  have x2 := cell_at (o := 2) hx.1 rfl
  have x3 := cell_at (o := 3) hx.1 rfl
  have x4 := cell_at (o := 4) hx.1 rfl
  have x5 := cell_at (o := 5) hx.1 rfl
  have x6 := cell_at (o := 6) hx.1 rfl
  have x7 := cell_at (o := 7) hx.1 rfl
  by_cases hn5 : L4 - ((dMutS x.mu).sz : Int) < 0
  case pos =>
    have HR : Hid (lessI L (x.tb.length + x.nm.length + (dCondS x.wh).sz + (dSetS x.row).sz + (dMutS x.mu).sz + (dStringS x.cs).sz) = -1) := by have := HL1.out; have := HL2.out; have := HL3.out; have := HL4.out; have := bl.out; show lessI L (x.tb.length + x.nm.length + (dCondS x.wh).sz + (dSetS x.row).sz + (dMutS x.mu).sz + (dStringS x.cs).sz) = -1; unfold lessI; rw [if_neg (by omega)]
    rw [less_no hn5]
    go_wp2_with fail
    go_ret
    exact ⟨ret_i HR.out.symm, hx.2⟩
  rw [less_yes (by omega)]
  obtain ⟨L5, hL5⟩ : ∃ L5 : Int, L5 = L4 - ((dMutS x.mu).sz : Int) := ⟨_, rfl⟩
  rw [← hL5]
  have d5 : decide (L5 < 0) = false := decide_eq_false (by omega)
  have bL5 : Hid (0 ≤ L5 ∧ L5 ≤ 1048576) := by have := bl.out; show _ ∧ _; omega
  have HL5 := Lib.hid hL5
  clear hn5 hL5 bl
  have bl := bL5
  clear bL5
  go_wp2_with fail
  refine (szDStringS x.cs a6 c6 L5 B _ bl.out.1 bl.out.2 (HO.out 6 (by omega)) (R6.out.later hx.2)).mono ?_
  rintro e w7 ⟨rfl, hB7⟩
  have hx := hx.later hB7
  clear hB7 x0 x1 x2 x3 x4 x5 x6 x7
  have x0 := cell_at (o := 0) hx.1 rfl
  have x1 := cell_at (o := 1) hx.1 rfl
  have x2 := cell_at (o := 2) hx.1 rfl
  have x3 := cell_at (o := 3) hx.1 rfl
  have x4 := cell_at (o := 4) hx.1 rfl
  have x5 := cell_at (o := 5) hx.1 rfl
  have x6 := cell_at (o := 6) hx.1 rfl
  have x7 := cell_at (o := 7) hx.1 rfl
  by_cases hn6 : L5 - ((dStringS x.cs).sz : Int) < 0
  case pos =>
    have HR : Hid (lessI L (x.tb.length + x.nm.length + (dCondS x.wh).sz + (dSetS x.row).sz + (dMutS x.mu).sz + (dStringS x.cs).sz) = -1) := by have := HL1.out; have := HL2.out; have := HL3.out; have := HL4.out; have := HL5.out; have := bl.out; show lessI L (x.tb.length + x.nm.length + (dCondS x.wh).sz + (dSetS x.row).sz + (dMutS x.mu).sz + (dStringS x.cs).sz) = -1; unfold lessI; rw [if_neg (by omega)]
    rw [less_no hn6]
    go_wp2_with fail
    go_ret
    exact ⟨ret_i HR.out.symm, hx.2⟩
  rw [less_yes (by omega)]
  obtain ⟨L6, hL6⟩ : ∃ L6 : Int, L6 = L5 - ((dStringS x.cs).sz : Int) := ⟨_, rfl⟩
  rw [← hL6]
  have d6 : decide (L6 < 0) = false := decide_eq_false (by omega)
  have bL6 : Hid (0 ≤ L6 ∧ L6 ≤ 1048576) := by have := bl.out; show _ ∧ _; omega
  have HL6 := Lib.hid hL6
  have HR : Hid (lessI L (x.tb.length + x.nm.length + (dCondS x.wh).sz + (dSetS x.row).sz + (dMutS x.mu).sz + (dStringS x.cs).sz) = L6) := by have := HL1.out; have := HL2.out; have := HL3.out; have := HL4.out; have := HL5.out; have := HL6.out; have := bL6.out; show lessI L (x.tb.length + x.nm.length + (dCondS x.wh).sz + (dSetS x.row).sz + (dMutS x.mu).sz + (dStringS x.cs).sz) = L6; unfold lessI; rw [if_pos (by omega)]; omega
  clear hn6 hL6 bl
  have bl := bL6
  clear bL6
  go_wp2_with fail
  go_ret
  exact ⟨ret_i HR.out.symm, hx.2⟩
set_option maxRecDepth 100000 in
set_option maxHeartbeats 3200000 in
theorem toDOp (x : OpV) (a3 : Option Addr) (c3 : Nat) (a4 : Option Addr) (c4 : Nat) (a5 : Option Addr) (c5 : Nat) (a6 : Option Addr) (c6 : Nat) (B : Nat → Prop) (w : World) (ho : ∀ j, j < 8 → (dOp x j).le 1048576) (r3 : Rd w B (dCondS x.wh) (.slice a3 x.wh.length c3)) (r4 : Rd w B (dSetS x.row) (.slice a4 x.row.length c4)) (r5 : Rd w B (dMutS x.mu) (.slice a5 x.mu.length c5)) (r6 : Rd w B (dStringS x.cs) (.slice a6 x.cs.length c6)) :
    Calls Tryz.prog 8 #[.agg #[.int .i64 x.kd, .string ⟨x.tb.toArray⟩, .string ⟨x.nm.toArray⟩, .slice a3 x.wh.length c3, .slice a4 x.row.length c4, .slice a5 x.mu.length c5, .slice a6 x.cs.length c6, .bool x.un]] w fun e w' => ∃ p3 : Nat, ∃ p4 : Nat, ∃ p5 : Nat, ∃ p6 : Nat, e = .returned (.agg #[.int .i64 x.kd, .string ⟨x.tb.toArray⟩, .string ⟨x.nm.toArray⟩, .slice (some ⟨p3, 0, none⟩) x.wh.length x.wh.length, .slice (some ⟨p4, 0, none⟩) x.row.length x.row.length, .slice (some ⟨p5, 0, none⟩) x.mu.length x.mu.length, .slice (some ⟨p6, 0, none⟩) x.cs.length x.cs.length, .bool x.un]) ∧ Owns w' 8 (dOp x) (vat [.int .i64 x.kd, .string ⟨x.tb.toArray⟩, .string ⟨x.nm.toArray⟩, .slice (some ⟨p3, 0, none⟩) x.wh.length x.wh.length, .slice (some ⟨p4, 0, none⟩) x.row.length x.row.length, .slice (some ⟨p5, 0, none⟩) x.mu.length x.mu.length, .slice (some ⟨p6, 0, none⟩) x.cs.length x.cs.length, .bool x.un]) (fun c => w.heap.size ≤ c ∧ c < w'.heap.size) ∧ Below w.heap.size w w' := by
  have HO := Lib.hid ho
  have R3 := Lib.hid r3
  have R4 := Lib.hid r4
  have R5 := Lib.hid r5
  have R6 := Lib.hid r6
  have T0 := Lib.hid (st3First w 30 43 #[.int .i64 x.kd, .string ⟨x.tb.toArray⟩, .string ⟨x.nm.toArray⟩, .slice a3 x.wh.length c3, .slice a4 x.row.length c4, .slice a5 x.mu.length c5, .slice a6 x.cs.length c6, .bool x.un] #[.int .i64 0, .string ⟨#[]⟩, .string ⟨#[]⟩, .slice none 0 0, .slice none 0 0, .slice none 0 0, .slice none 0 0, .bool false] #[.int .i64 x.kd, .string ⟨x.tb.toArray⟩, .string ⟨x.nm.toArray⟩, .slice none 0 0, .slice none 0 0, .slice none 0 0, .slice none 0 0, .bool false])
  clear ho r3 r4 r5 r6
  go_enter Tryz.func8, Tryz.ntmps8
  go_wp2_with fail
  have HE : Hid (w.heap.size + 1 + 1 < (((w.alloc (.cells #[.int .i64 x.kd, .string ⟨x.tb.toArray⟩, .string ⟨x.nm.toArray⟩, .slice a3 x.wh.length c3, .slice a4 x.row.length c4, .slice a5 x.mu.length c5, .slice a6 x.cs.length c6, .bool x.un] 30)).alloc (.cells #[.int .i64 0, .string ⟨#[]⟩, .string ⟨#[]⟩, .slice none 0 0, .slice none 0 0, .slice none 0 0, .slice none 0 0, .bool false] 43)).alloc (.cells #[.int .i64 x.kd, .string ⟨x.tb.toArray⟩, .string ⟨x.nm.toArray⟩, .slice none 0 0, .slice none 0 0, .slice none 0 0, .slice none 0 0, .bool false] 43)).heap.size) := by show _ < _; simp
  refine (toDCondS x.wh a3 c3 B _ (HO.out 3 (by omega)) (R3.out.later T0.out.bel)).mono ?_
  rintro e w4 ⟨rfl, o3, hB3⟩
  have S3 := Lib.hid (T0.out.later hB3)
  obtain ⟨p3, hp3⟩ : ∃ p, p = (((w.alloc (.cells #[.int .i64 x.kd, .string ⟨x.tb.toArray⟩, .string ⟨x.nm.toArray⟩, .slice a3 x.wh.length c3, .slice a4 x.row.length c4, .slice a5 x.mu.length c5, .slice a6 x.cs.length c6, .bool x.un] 30)).alloc (.cells #[.int .i64 0, .string ⟨#[]⟩, .string ⟨#[]⟩, .slice none 0 0, .slice none 0 0, .slice none 0 0, .slice none 0 0, .bool false] 43)).alloc (.cells #[.int .i64 x.kd, .string ⟨x.tb.toArray⟩, .string ⟨x.nm.toArray⟩, .slice none 0 0, .slice none 0 0, .slice none 0 0, .slice none 0 0, .bool false] 43)).heap.size := ⟨_, rfl⟩
  have HP3 : Hid (w.heap.size + 1 + 1 < p3 ∧ p3 ≤ w4.heap.size) := by
    have h1 := hB3.size; have h2 := HE.out
    rw [← hp3] at h1 h2
    exact ⟨h2, h1⟩
  rw [← hp3] at o3 ⊢
  have O3 := Lib.hid o3
  clear o3 hB3 hp3 T0 HE
  have x3 := cell_at (o := 3) S3.out.ot rfl
  have z3 := frozen_at 3 S3.out.ot
  have hne : (w.heap.size = w.heap.size + 1 + 1) = False := by simp; omega
  have y4 := cell_at (o := 4) S3.out.bx rfl
  have U3 := Lib.hid (S3.out.set 3 (.slice (some ⟨p3, 0, none⟩) x.wh.length x.wh.length))
  have F3 : Hid (Frm (fun c => c = w.heap.size + 1 + 1) w4 (w4.setCell ⟨w.heap.size + 1 + 1, 3, none⟩ (.slice (some ⟨p3, 0, none⟩) x.wh.length x.wh.length))) := by
    show Frm _ _ _
    refine Frm.set (B := fun c => c = w.heap.size + 1 + 1) ?_ rfl _
    exact Frm.refl _ _
  have P3 := Lib.hid (O3.out.frm F3.out (fun c hc hF => by have h1 := HP3.out.1; have h2 := hc.1; have h3 : c = _ := hF; omega))
  clear O3
  have O3 := P3
  clear P3
  have HE : Hid (w.heap.size + 1 + 1 < (w4.setCell ⟨w.heap.size + 1 + 1, 3, none⟩ (.slice (some ⟨p3, 0, none⟩) x.wh.length x.wh.length)).heap.size) := by have := HP3.out; show _ < _; simp; omega
  clear F3 S3
  go_wp2_with fail
  refine (toDSetS x.row a4 c4 B _ (HO.out 4 (by omega)) (R4.out.later U3.out.bel)).mono ?_
  rintro e w5 ⟨rfl, o4, hB4⟩
  have S4 := Lib.hid (U3.out.later hB4)
  obtain ⟨p4, hp4⟩ : ∃ p, p = (w4.setCell ⟨w.heap.size + 1 + 1, 3, none⟩ (.slice (some ⟨p3, 0, none⟩) x.wh.length x.wh.length)).heap.size := ⟨_, rfl⟩
  have HP4 : Hid (w.heap.size + 1 + 1 < p4 ∧ p4 ≤ w5.heap.size ∧ w4.heap.size ≤ p4) := by
    have h1 := hB4.size; have h2 := HE.out
    rw [← hp4] at h1 h2
    exact ⟨h2, h1, by rw [hp4]; simp⟩
  rw [← hp4] at o4 ⊢
  have Q3_4 := Lib.hid (O3.out.later hB4)
  clear O3
  have O3 := Q3_4
  clear Q3_4
  have O4 := Lib.hid o4
  clear o4 hB4 hp4 U3 HE
  have x4 := cell_at (o := 4) S4.out.ot rfl
  have z4 := frozen_at 4 S4.out.ot
  have hne : (w.heap.size = w.heap.size + 1 + 1) = False := by simp; omega
  have y5 := cell_at (o := 5) S4.out.bx rfl
  have U4 := Lib.hid (S4.out.set 4 (.slice (some ⟨p4, 0, none⟩) x.row.length x.row.length))
  have F4 : Hid (Frm (fun c => c = w.heap.size + 1 + 1) w5 (w5.setCell ⟨w.heap.size + 1 + 1, 4, none⟩ (.slice (some ⟨p4, 0, none⟩) x.row.length x.row.length))) := by
    show Frm _ _ _
    refine Frm.set (B := fun c => c = w.heap.size + 1 + 1) ?_ rfl _
    exact Frm.refl _ _
  have P3 := Lib.hid (O3.out.frm F4.out (fun c hc hF => by have h1 := HP3.out.1; have h2 := hc.1; have h3 : c = _ := hF; omega))
  clear O3
  have O3 := P3
  clear P3
  have P4 := Lib.hid (O4.out.frm F4.out (fun c hc hF => by have h1 := HP4.out.1; have h2 := hc.1; have h3 : c = _ := hF; omega))
  clear O4
  have O4 := P4
  clear P4
  have HE : Hid (w.heap.size + 1 + 1 < (w5.setCell ⟨w.heap.size + 1 + 1, 4, none⟩ (.slice (some ⟨p4, 0, none⟩) x.row.length x.row.length)).heap.size) := by have := HP4.out; show _ < _; simp; omega
  clear F4 S4
  go_wp2_with fail
  refine (toDMutS x.mu a5 c5 B _ (HO.out 5 (by omega)) (R5.out.later U4.out.bel)).mono ?_
  rintro e w6 ⟨rfl, o5, hB5⟩
  have S5 := Lib.hid (U4.out.later hB5)
  obtain ⟨p5, hp5⟩ : ∃ p, p = (w5.setCell ⟨w.heap.size + 1 + 1, 4, none⟩ (.slice (some ⟨p4, 0, none⟩) x.row.length x.row.length)).heap.size := ⟨_, rfl⟩
  have HP5 : Hid (w.heap.size + 1 + 1 < p5 ∧ p5 ≤ w6.heap.size ∧ w5.heap.size ≤ p5) := by
    have h1 := hB5.size; have h2 := HE.out
    rw [← hp5] at h1 h2
    exact ⟨h2, h1, by rw [hp5]; simp⟩
  rw [← hp5] at o5 ⊢
  have Q3_5 := Lib.hid (O3.out.later hB5)
  clear O3
  have O3 := Q3_5
  clear Q3_5
  have Q4_5 := Lib.hid (O4.out.later hB5)
  clear O4
  have O4 := Q4_5
  clear Q4_5
  have O5 := Lib.hid o5
  clear o5 hB5 hp5 U4 HE
  have x5 := cell_at (o := 5) S5.out.ot rfl
  have z5 := frozen_at 5 S5.out.ot
  have hne : (w.heap.size = w.heap.size + 1 + 1) = False := by simp; omega
  have y6 := cell_at (o := 6) S5.out.bx rfl
  have U5 := Lib.hid (S5.out.set 5 (.slice (some ⟨p5, 0, none⟩) x.mu.length x.mu.length))
  have F5 : Hid (Frm (fun c => c = w.heap.size + 1 + 1) w6 (w6.setCell ⟨w.heap.size + 1 + 1, 5, none⟩ (.slice (some ⟨p5, 0, none⟩) x.mu.length x.mu.length))) := by
    show Frm _ _ _
    refine Frm.set (B := fun c => c = w.heap.size + 1 + 1) ?_ rfl _
    exact Frm.refl _ _
  have P3 := Lib.hid (O3.out.frm F5.out (fun c hc hF => by have h1 := HP3.out.1; have h2 := hc.1; have h3 : c = _ := hF; omega))
  clear O3
  have O3 := P3
  clear P3
  have P4 := Lib.hid (O4.out.frm F5.out (fun c hc hF => by have h1 := HP4.out.1; have h2 := hc.1; have h3 : c = _ := hF; omega))
  clear O4
  have O4 := P4
  clear P4
  have P5 := Lib.hid (O5.out.frm F5.out (fun c hc hF => by have h1 := HP5.out.1; have h2 := hc.1; have h3 : c = _ := hF; omega))
  clear O5
  have O5 := P5
  clear P5
  have HE : Hid (w.heap.size + 1 + 1 < (w6.setCell ⟨w.heap.size + 1 + 1, 5, none⟩ (.slice (some ⟨p5, 0, none⟩) x.mu.length x.mu.length)).heap.size) := by have := HP5.out; show _ < _; simp; omega
  clear F5 S5
  go_wp2_with fail
  refine (toDStringS x.cs a6 c6 B _ (HO.out 6 (by omega)) (R6.out.later U5.out.bel)).mono ?_
  rintro e w7 ⟨rfl, o6, hB6⟩
  have S6 := Lib.hid (U5.out.later hB6)
  obtain ⟨p6, hp6⟩ : ∃ p, p = (w6.setCell ⟨w.heap.size + 1 + 1, 5, none⟩ (.slice (some ⟨p5, 0, none⟩) x.mu.length x.mu.length)).heap.size := ⟨_, rfl⟩
  have HP6 : Hid (w.heap.size + 1 + 1 < p6 ∧ p6 ≤ w7.heap.size ∧ w6.heap.size ≤ p6) := by
    have h1 := hB6.size; have h2 := HE.out
    rw [← hp6] at h1 h2
    exact ⟨h2, h1, by rw [hp6]; simp⟩
  rw [← hp6] at o6 ⊢
  have Q3_6 := Lib.hid (O3.out.later hB6)
  clear O3
  have O3 := Q3_6
  clear Q3_6
  have Q4_6 := Lib.hid (O4.out.later hB6)
  clear O4
  have O4 := Q4_6
  clear Q4_6
  have Q5_6 := Lib.hid (O5.out.later hB6)
  clear O5
  have O5 := Q5_6
  clear Q5_6
  have O6 := Lib.hid o6
  clear o6 hB6 hp6 U5 HE
  have x6 := cell_at (o := 6) S6.out.ot rfl
  have z6 := frozen_at 6 S6.out.ot
  have hne : (w.heap.size = w.heap.size + 1 + 1) = False := by simp; omega
  have x0 := cell_at (o := 0) S6.out.ot rfl
  have x1 := cell_at (o := 1) S6.out.ot rfl
  have x2 := cell_at (o := 2) S6.out.ot rfl
  have x3 := cell_at (o := 3) S6.out.ot rfl
  have x4 := cell_at (o := 4) S6.out.ot rfl
  have x5 := cell_at (o := 5) S6.out.ot rfl
  have x7 := cell_at (o := 7) S6.out.ot rfl
  have z7 := frozen_at 7 S6.out.ot
  have y7 := cell_at (o := 7) S6.out.bx rfl
  have g0 := cell_at (o := 0) S6.out.rv rfl
  have k0 := frozen_at 0 S6.out.rv
  have g1 := cell_at (o := 1) S6.out.rv rfl
  have k1 := frozen_at 1 S6.out.rv
  have g2 := cell_at (o := 2) S6.out.rv rfl
  have k2 := frozen_at 2 S6.out.rv
  have g3 := cell_at (o := 3) S6.out.rv rfl
  have k3 := frozen_at 3 S6.out.rv
  have g4 := cell_at (o := 4) S6.out.rv rfl
  have k4 := frozen_at 4 S6.out.rv
  have g5 := cell_at (o := 5) S6.out.rv rfl
  have k5 := frozen_at 5 S6.out.rv
  have g6 := cell_at (o := 6) S6.out.rv rfl
  have k6 := frozen_at 6 S6.out.rv
  have g7 := cell_at (o := 7) S6.out.rv rfl
  have k7 := frozen_at 7 S6.out.rv
  go_wp2_with fail
  refine bodyPost_ret (v := .agg #[.int .i64 x.kd, .string ⟨x.tb.toArray⟩, .string ⟨x.nm.toArray⟩, .slice (some ⟨p3, 0, none⟩) x.wh.length x.wh.length, .slice (some ⟨p4, 0, none⟩) x.row.length x.row.length, .slice (some ⟨p5, 0, none⟩) x.mu.length x.mu.length, .slice (some ⟨p6, 0, none⟩) x.cs.length x.cs.length, .bool x.un]) (by simp [results, Tryz.results8, go_sem, *]) rfl ?_
  have FF : Frm (fun c => c = w.heap.size + 1 ∨ c = w.heap.size + 1 + 1) w7 ((((((((((w7.setCell ⟨w.heap.size + 1 + 1, 6, none⟩ (.slice (some ⟨p6, 0, none⟩) x.cs.length x.cs.length)).setCell ⟨w.heap.size + 1 + 1, 7, none⟩ (.bool x.un)).setCell ⟨w.heap.size + 1, 0, none⟩ (.int .i64 x.kd)).setCell ⟨w.heap.size + 1, 1, none⟩ (.string ⟨x.tb.toArray⟩)).setCell ⟨w.heap.size + 1, 2, none⟩ (.string ⟨x.nm.toArray⟩)).setCell ⟨w.heap.size + 1, 3, none⟩ (.slice (some ⟨p3, 0, none⟩) x.wh.length x.wh.length)).setCell ⟨w.heap.size + 1, 4, none⟩ (.slice (some ⟨p4, 0, none⟩) x.row.length x.row.length)).setCell ⟨w.heap.size + 1, 5, none⟩ (.slice (some ⟨p5, 0, none⟩) x.mu.length x.mu.length)).setCell ⟨w.heap.size + 1, 6, none⟩ (.slice (some ⟨p6, 0, none⟩) x.cs.length x.cs.length)).setCell ⟨w.heap.size + 1, 7, none⟩ (.bool x.un)) := by
    refine Frm.set ?_ (.inl rfl) _
    refine Frm.set ?_ (.inl rfl) _
    refine Frm.set ?_ (.inl rfl) _
    refine Frm.set ?_ (.inl rfl) _
    refine Frm.set ?_ (.inl rfl) _
    refine Frm.set ?_ (.inl rfl) _
    refine Frm.set ?_ (.inl rfl) _
    refine Frm.set ?_ (.inl rfl) _
    refine Frm.set ?_ (.inr rfl) _
    refine Frm.set ?_ (.inr rfl) _
    exact Frm.refl _ _
  have hsz : ((((((((((w7.setCell ⟨w.heap.size + 1 + 1, 6, none⟩ (.slice (some ⟨p6, 0, none⟩) x.cs.length x.cs.length)).setCell ⟨w.heap.size + 1 + 1, 7, none⟩ (.bool x.un)).setCell ⟨w.heap.size + 1, 0, none⟩ (.int .i64 x.kd)).setCell ⟨w.heap.size + 1, 1, none⟩ (.string ⟨x.tb.toArray⟩)).setCell ⟨w.heap.size + 1, 2, none⟩ (.string ⟨x.nm.toArray⟩)).setCell ⟨w.heap.size + 1, 3, none⟩ (.slice (some ⟨p3, 0, none⟩) x.wh.length x.wh.length)).setCell ⟨w.heap.size + 1, 4, none⟩ (.slice (some ⟨p4, 0, none⟩) x.row.length x.row.length)).setCell ⟨w.heap.size + 1, 5, none⟩ (.slice (some ⟨p5, 0, none⟩) x.mu.length x.mu.length)).setCell ⟨w.heap.size + 1, 6, none⟩ (.slice (some ⟨p6, 0, none⟩) x.cs.length x.cs.length)).setCell ⟨w.heap.size + 1, 7, none⟩ (.bool x.un)).heap.size = w7.heap.size := by simp
  refine ⟨p3, p4, p5, p6, rfl, ⟨fun j c => (j = 3 ∧ p3 ≤ c ∧ c < w4.heap.size) ∨ (j = 4 ∧ p4 ≤ c ∧ c < w5.heap.size) ∨ (j = 5 ∧ p5 ≤ c ∧ c < w6.heap.size) ∨ (j = 6 ∧ p6 ≤ c ∧ c < w7.heap.size), fun j c hc => ?_, fun j j' c h h' => ?_, fun j hj => ?_⟩, ?_⟩
  · have h3 := HP3.out; have h4 := HP4.out; have h5 := HP5.out; have h6 := HP6.out; rw [hsz]; omega
  · have h3 := HP3.out; have h4 := HP4.out; have h5 := HP5.out; have h6 := HP6.out; omega
  · rcases (by omega : j = 0 ∨ j = 1 ∨ j = 2 ∨ j = 3 ∨ j = 4 ∨ j = 5 ∨ j = 6 ∨ j = 7) with rfl | rfl | rfl | rfl | rfl | rfl | rfl | rfl
    · rfl
    · rfl
    · rfl
    · exact (O3.out.frm FF (fun c hc hF => by have h1 := HP3.out; have h2 := hc.1; rcases hF with rfl | rfl <;> omega)).mono (fun c hc => .inl ⟨rfl, hc⟩)
    · exact (O4.out.frm FF (fun c hc hF => by have h1 := HP4.out; have h2 := hc.1; rcases hF with rfl | rfl <;> omega)).mono (fun c hc => .inr (.inl ⟨rfl, hc⟩))
    · exact (O5.out.frm FF (fun c hc hF => by have h1 := HP5.out; have h2 := hc.1; rcases hF with rfl | rfl <;> omega)).mono (fun c hc => .inr (.inr (.inl ⟨rfl, hc⟩)))
    · exact (O6.out.frm FF (fun c hc hF => by have h1 := HP6.out; have h2 := hc.1; rcases hF with rfl | rfl <;> omega)).mono (fun c hc => .inr (.inr (.inr ⟨rfl, hc⟩)))
    · rfl
  · exact ((((((((((S6.out.bel.setCell (by simp <;> omega) _).setCell (by simp <;> omega) _).setCell (by simp <;> omega) _).setCell (by simp <;> omega) _).setCell (by simp <;> omega) _).setCell (by simp <;> omega) _).setCell (by simp <;> omega) _).setCell (by simp <;> omega) _).setCell (by simp <;> omega) _).setCell (by simp <;> omega) _)
set_option maxRecDepth 100000 in
set_option maxHeartbeats 1600000 in
theorem eqDOp (x : OpV) (a3 : Option Addr) (c3 : Nat) (a4 : Option Addr) (c4 : Nat) (a5 : Option Addr) (c5 : Nat) (a6 : Option Addr) (c6 : Nat) (a3' : Option Addr) (c3' : Nat) (a4' : Option Addr) (c4' : Nat) (a5' : Option Addr) (c5' : Nat) (a6' : Option Addr) (c6' : Nat) (A B : Nat → Prop) (w : World) (ho : ∀ j, j < 8 → (dOp x j).le maxLen) (r3 : Rd w A (dCondS x.wh) (.slice a3 x.wh.length c3)) (r4 : Rd w A (dSetS x.row) (.slice a4 x.row.length c4)) (r5 : Rd w A (dMutS x.mu) (.slice a5 x.mu.length c5)) (r6 : Rd w A (dStringS x.cs) (.slice a6 x.cs.length c6)) (r3' : Rd w B (dCondS x.wh) (.slice a3' x.wh.length c3')) (r4' : Rd w B (dSetS x.row) (.slice a4' x.row.length c4')) (r5' : Rd w B (dMutS x.mu) (.slice a5' x.mu.length c5')) (r6' : Rd w B (dStringS x.cs) (.slice a6' x.cs.length c6')) :
    Calls Tryz.prog 11 #[.agg #[.int .i64 x.kd, .string ⟨x.tb.toArray⟩, .string ⟨x.nm.toArray⟩, .slice a3 x.wh.length c3, .slice a4 x.row.length c4, .slice a5 x.mu.length c5, .slice a6 x.cs.length c6, .bool x.un], .agg #[.int .i64 x.kd, .string ⟨x.tb.toArray⟩, .string ⟨x.nm.toArray⟩, .slice a3' x.wh.length c3', .slice a4' x.row.length c4', .slice a5' x.mu.length c5', .slice a6' x.cs.length c6', .bool x.un]] w fun e w' => e = .returned (.bool true) ∧ Below w.heap.size w w' := by
  have hb : Box2D 43 w ((w.alloc (.cells #[.int .i64 x.kd, .string ⟨x.tb.toArray⟩, .string ⟨x.nm.toArray⟩, .slice a3 x.wh.length c3, .slice a4 x.row.length c4, .slice a5 x.mu.length c5, .slice a6 x.cs.length c6, .bool x.un] 43)).alloc (.cells #[.int .i64 x.kd, .string ⟨x.tb.toArray⟩, .string ⟨x.nm.toArray⟩, .slice a3' x.wh.length c3', .slice a4' x.row.length c4', .slice a5' x.mu.length c5', .slice a6' x.cs.length c6', .bool x.un] 43)) #[.int .i64 x.kd, .string ⟨x.tb.toArray⟩, .string ⟨x.nm.toArray⟩, .slice a3 x.wh.length c3, .slice a4 x.row.length c4, .slice a5 x.mu.length c5, .slice a6 x.cs.length c6, .bool x.un] #[.int .i64 x.kd, .string ⟨x.tb.toArray⟩, .string ⟨x.nm.toArray⟩, .slice a3' x.wh.length c3', .slice a4' x.row.length c4', .slice a5' x.mu.length c5', .slice a6' x.cs.length c6', .bool x.un] := box2D _ _ _ _
  have E3 : Hid (∀ W, Below w.heap.size w W → Calls Tryz.prog 30 #[.slice a3 x.wh.length c3, .slice a3' x.wh.length c3'] W fun e w' => e = .returned (.bool true) ∧ Below W.heap.size W w') := fun W h => eqDCondS x.wh a3 c3 a3' c3' A B W (ho 3 (by omega)) (r3.later h) (r3'.later h)
  have E4 : Hid (∀ W, Below w.heap.size w W → Calls Tryz.prog 31 #[.slice a4 x.row.length c4, .slice a4' x.row.length c4'] W fun e w' => e = .returned (.bool true) ∧ Below W.heap.size W w') := fun W h => eqDSetS x.row a4 c4 a4' c4' A B W (ho 4 (by omega)) (r4.later h) (r4'.later h)
  have E5 : Hid (∀ W, Below w.heap.size w W → Calls Tryz.prog 32 #[.slice a5 x.mu.length c5, .slice a5' x.mu.length c5'] W fun e w' => e = .returned (.bool true) ∧ Below W.heap.size W w') := fun W h => eqDMutS x.mu a5 c5 a5' c5' A B W (ho 5 (by omega)) (r5.later h) (r5'.later h)
  have E6 : Hid (∀ W, Below w.heap.size w W → Calls Tryz.prog 33 #[.slice a6 x.cs.length c6, .slice a6' x.cs.length c6'] W fun e w' => e = .returned (.bool true) ∧ Below W.heap.size W w') := fun W h => eqDStringS x.cs a6 c6 a6' c6' A B W (ho 6 (by omega)) (r6.later h) (r6'.later h)
  have HB := Lib.hid hb
  clear ho hb r3 r3' r4 r4' r5 r5' r6 r6'
  go_enter Tryz.func11, Tryz.ntmps11
  have x0 := cell_at (o := 0) HB.out.a rfl
  have y0 := cell_at (o := 0) HB.out.b rfl
  have x1 := cell_at (o := 1) HB.out.a rfl
  have y1 := cell_at (o := 1) HB.out.b rfl
  have x2 := cell_at (o := 2) HB.out.a rfl
  have y2 := cell_at (o := 2) HB.out.b rfl
  have x3 := cell_at (o := 3) HB.out.a rfl
  have y3 := cell_at (o := 3) HB.out.b rfl
  have x4 := cell_at (o := 4) HB.out.a rfl
  have y4 := cell_at (o := 4) HB.out.b rfl
  have x5 := cell_at (o := 5) HB.out.a rfl
  have y5 := cell_at (o := 5) HB.out.b rfl
  have x6 := cell_at (o := 6) HB.out.a rfl
  have y6 := cell_at (o := 6) HB.out.b rfl
  have x7 := cell_at (o := 7) HB.out.a rfl
  have y7 := cell_at (o := 7) HB.out.b rfl
  go_wp2_with fail
  refine (E3.out _ HB.out.bel).mono ?_
  rintro e w4 ⟨rfl, hB3⟩
  have H3 := Lib.hid (HB.out.later hB3)
  clear hB3 HB x0 y0 x1 y1 x2 y2 x3 y3 x4 y4 x5 y5 x6 y6 x7 y7
  have x0 := cell_at (o := 0) H3.out.a rfl
  have y0 := cell_at (o := 0) H3.out.b rfl
  have x1 := cell_at (o := 1) H3.out.a rfl
  have y1 := cell_at (o := 1) H3.out.b rfl
  have x2 := cell_at (o := 2) H3.out.a rfl
  have y2 := cell_at (o := 2) H3.out.b rfl
  have x3 := cell_at (o := 3) H3.out.a rfl
  have y3 := cell_at (o := 3) H3.out.b rfl
  have x4 := cell_at (o := 4) H3.out.a rfl
  have y4 := cell_at (o := 4) H3.out.b rfl
  have x5 := cell_at (o := 5) H3.out.a rfl
  have y5 := cell_at (o := 5) H3.out.b rfl
  have x6 := cell_at (o := 6) H3.out.a rfl
  have y6 := cell_at (o := 6) H3.out.b rfl
  have x7 := cell_at (o := 7) H3.out.a rfl
  have y7 := cell_at (o := 7) H3.out.b rfl
  go_wp2_with fail
  refine (E4.out _ H3.out.bel).mono ?_
  rintro e w5 ⟨rfl, hB4⟩
  have H4 := Lib.hid (H3.out.later hB4)
  clear hB4 H3 x0 y0 x1 y1 x2 y2 x3 y3 x4 y4 x5 y5 x6 y6 x7 y7
  have x0 := cell_at (o := 0) H4.out.a rfl
  have y0 := cell_at (o := 0) H4.out.b rfl
  have x1 := cell_at (o := 1) H4.out.a rfl
  have y1 := cell_at (o := 1) H4.out.b rfl
  have x2 := cell_at (o := 2) H4.out.a rfl
  have y2 := cell_at (o := 2) H4.out.b rfl
  have x3 := cell_at (o := 3) H4.out.a rfl
  have y3 := cell_at (o := 3) H4.out.b rfl
  have x4 := cell_at (o := 4) H4.out.a rfl
  have y4 := cell_at (o := 4) H4.out.b rfl
  have x5 := cell_at (o := 5) H4.out.a rfl
  have y5 := cell_at (o := 5) H4.out.b rfl
  have x6 := cell_at (o := 6) H4.out.a rfl
  have y6 := cell_at (o := 6) H4.out.b rfl
  have x7 := cell_at (o := 7) H4.out.a rfl
  have y7 := cell_at (o := 7) H4.out.b rfl
  go_wp2_with fail
  refine (E5.out _ H4.out.bel).mono ?_
  rintro e w6 ⟨rfl, hB5⟩
  have H5 := Lib.hid (H4.out.later hB5)
  clear hB5 H4 x0 y0 x1 y1 x2 y2 x3 y3 x4 y4 x5 y5 x6 y6 x7 y7
  have x0 := cell_at (o := 0) H5.out.a rfl
  have y0 := cell_at (o := 0) H5.out.b rfl
  have x1 := cell_at (o := 1) H5.out.a rfl
  have y1 := cell_at (o := 1) H5.out.b rfl
  have x2 := cell_at (o := 2) H5.out.a rfl
  have y2 := cell_at (o := 2) H5.out.b rfl
  have x3 := cell_at (o := 3) H5.out.a rfl
  have y3 := cell_at (o := 3) H5.out.b rfl
  have x4 := cell_at (o := 4) H5.out.a rfl
  have y4 := cell_at (o := 4) H5.out.b rfl
  have x5 := cell_at (o := 5) H5.out.a rfl
  have y5 := cell_at (o := 5) H5.out.b rfl
  have x6 := cell_at (o := 6) H5.out.a rfl
  have y6 := cell_at (o := 6) H5.out.b rfl
  have x7 := cell_at (o := 7) H5.out.a rfl
  have y7 := cell_at (o := 7) H5.out.b rfl
  go_wp2_with fail
  refine (E6.out _ H5.out.bel).mono ?_
  rintro e w7 ⟨rfl, hB6⟩
  have H6 := Lib.hid (H5.out.later hB6)
  clear hB6 H5 x0 y0 x1 y1 x2 y2 x3 y3 x4 y4 x5 y5 x6 y6 x7 y7
  have x0 := cell_at (o := 0) H6.out.a rfl
  have y0 := cell_at (o := 0) H6.out.b rfl
  have x1 := cell_at (o := 1) H6.out.a rfl
  have y1 := cell_at (o := 1) H6.out.b rfl
  have x2 := cell_at (o := 2) H6.out.a rfl
  have y2 := cell_at (o := 2) H6.out.b rfl
  have x3 := cell_at (o := 3) H6.out.a rfl
  have y3 := cell_at (o := 3) H6.out.b rfl
  have x4 := cell_at (o := 4) H6.out.a rfl
  have y4 := cell_at (o := 4) H6.out.b rfl
  have x5 := cell_at (o := 5) H6.out.a rfl
  have y5 := cell_at (o := 5) H6.out.b rfl
  have x6 := cell_at (o := 6) H6.out.a rfl
  have y6 := cell_at (o := 6) H6.out.b rfl
  have x7 := cell_at (o := 7) H6.out.a rfl
  have y7 := cell_at (o := 7) H6.out.b rfl
  go_wp2_with fail
  go_ret
  exact ⟨rfl, H6.out.bel⟩
end Go.Proofs.YtaepgahejelkaaaGreat
