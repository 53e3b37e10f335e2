import Derived.Test.YtngbhifafdbpkaaGreatZal
namespace Go.Proofs.YtngbhifafdbpkaaGreat
open Go.RowKit
set_option linter.unusedSimpArgs false
def dColumn (x : Cl) : Nat → D
  | 0 => .s x.nm
  | 1 => .i x.k
  | 2 => .i x.mn
  | 3 => .i x.mx
  | 4 => .i x.lo
  | 5 => .i x.hi
  | 6 => .s x.rf
  | _ => .b x.st
theorem szT_Column (x : Cl) : szT 8 (dColumn x) = x.nm.length + x.rf.length := by simp [szT, sumN, dColumn, D.sz]
set_option maxHeartbeats 1600000 in
theorem szDColumn (x : Cl) (L : Int) (_B : Nat → Prop) (w : World) (h0 : 0 ≤ L) (h1 : L ≤ 1048576) (ho : ∀ j, j < 8 → (dColumn x j).le maxLen) :
    Calls Tryz.prog 86 #[.agg #[.string ⟨x.nm.toArray⟩, .int .i64 x.k, .int .i64 x.mn, .int .i64 x.mx, .int .i64 x.lo, .int .i64 x.hi, .string ⟨x.rf.toArray⟩, .bool x.st], .int .i64 L] w fun e w' => e = .returned (.int .i64 (lessI L (szT 8 (dColumn x)))) ∧ Below w.heap.size w w' := by
  rw [szT_Column]
  have HO := Lib.hid ho
  have hs0 : x.nm.length ≤ maxLen := ho 0 (by omega)
  unfold maxLen at hs0
  have hs6 : x.rf.length ≤ maxLen := ho 6 (by omega)
  unfold maxLen at hs6
  have hx := boxD 133 w #[.string ⟨x.nm.toArray⟩, .int .i64 x.k, .int .i64 x.mn, .int .i64 x.mx, .int .i64 x.lo, .int .i64 x.hi, .string ⟨x.rf.toArray⟩, .bool x.st]
  clear ho
  have x0 := cell_at (o := 0) hx.1 rfl
  have x1 := cell_at (o := 1) hx.1 rfl
  have x2 := cell_at (o := 2) hx.1 rfl
  have x3 := cell_at (o := 3) hx.1 rfl
  have x4 := cell_at (o := 4) hx.1 rfl
  have x5 := cell_at (o := 5) hx.1 rfl
  have x6 := cell_at (o := 6) hx.1 rfl
  have x7 := cell_at (o := 7) hx.1 rfl
  by_cases hn0 : L - (x.nm.length : Int) < 0
  case pos =>
    have HR : Hid (lessI L (x.nm.length + x.rf.length) = -1) := by show lessI L (x.nm.length + x.rf.length) = -1; unfold lessI; rw [if_neg (by omega)]
    have d0 : decide (L - (x.nm.length : Int) < 0) = true := decide_eq_true hn0
    go_enter Tryz.func86, Tryz.ntmps86
    go_wp2_with fail
    go_ret
    exact ⟨ret_i HR.out.symm, hx.2⟩
  obtain ⟨L0, hL0⟩ : ∃ L0 : Int, L0 = L - (x.nm.length : Int) := ⟨_, rfl⟩
  have f0 : IntKind.i64.wrap (L - (x.nm.length : Int)) = L0 := by rw [IntKind.wrap_i64]; omega
  have d0 : decide (L0 < 0) = false := decide_eq_false (by omega)
  have HL0 := Lib.hid hL0
  have bL0 : 0 ≤ L0 ∧ L0 ≤ 1048576 := by omega
  clear hn0 hL0
  by_cases hn6 : L0 - (x.rf.length : Int) < 0
  case pos =>
    have HR : Hid (lessI L (x.nm.length + x.rf.length) = -1) := by have := HL0.out; show lessI L (x.nm.length + x.rf.length) = -1; unfold lessI; rw [if_neg (by omega)]
    have d6 : decide (L0 - (x.rf.length : Int) < 0) = true := decide_eq_true hn6
    go_enter Tryz.func86, Tryz.ntmps86
    go_wp2_with fail
    go_ret
    exact ⟨ret_i HR.out.symm, hx.2⟩
  obtain ⟨L6, hL6⟩ : ∃ L6 : Int, L6 = L0 - (x.rf.length : Int) := ⟨_, rfl⟩
  have f6 : IntKind.i64.wrap (L0 - (x.rf.length : Int)) = L6 := by rw [IntKind.wrap_i64]; omega
  have d6 : decide (L6 < 0) = false := decide_eq_false (by omega)
  have HL6 := Lib.hid hL6
  have bL6 : 0 ≤ L6 ∧ L6 ≤ 1048576 := by omega
  clear hn6 hL6
  have bl : Hid (0 ≤ L6 ∧ L6 ≤ 1048576) := by show _ ∧ _; omega
  clear h0 h1 bL0 bL6
  have HR : Hid (lessI L (x.nm.length + x.rf.length) = L6) := by have := HL0.out; have := HL6.out; have := bl.out; show lessI L (x.nm.length + x.rf.length) = L6; unfold lessI; rw [if_pos (by omega)]; omega
  go_enter Tryz.func86, Tryz.ntmps86
  go_wp2_with fail
  go_ret
  exact ⟨ret_i HR.out.symm, hx.2⟩
set_option maxRecDepth 100000 in
set_option maxHeartbeats 3200000 in
theorem toDColumn (x : Cl) (_B : Nat → Prop) (w : World) (_ho : ∀ j, j < 8 → (dColumn x j).le 1048576) :
    Calls Tryz.prog 91 #[.agg #[.string ⟨x.nm.toArray⟩, .int .i64 x.k, .int .i64 x.mn, .int .i64 x.mx, .int .i64 x.lo, .int .i64 x.hi, .string ⟨x.rf.toArray⟩, .bool x.st]] w fun e w' => e = .returned (.agg #[.string ⟨x.nm.toArray⟩, .int .i64 x.k, .int .i64 x.mn, .int .i64 x.mx, .int .i64 x.lo, .int .i64 x.hi, .string ⟨x.rf.toArray⟩, .bool x.st]) ∧ Owns w' 8 (dColumn x) (vat [.string ⟨x.nm.toArray⟩, .int .i64 x.k, .int .i64 x.mn, .int .i64 x.mx, .int .i64 x.lo, .int .i64 x.hi, .string ⟨x.rf.toArray⟩, .bool x.st]) (fun c => w.heap.size ≤ c ∧ c < w'.heap.size) ∧ Below w.heap.size w w' := by
  go_enter Tryz.func91, Tryz.ntmps91
  go_wp2_with fail
  exact bodyPost_ret (v := .agg #[.string ⟨x.nm.toArray⟩, .int .i64 x.k, .int .i64 x.mn, .int .i64 x.mx, .int .i64 x.lo, .int .i64 x.hi, .string ⟨x.rf.toArray⟩, .bool x.st]) (by simp [results, Tryz.results91, go_sem]) rfl ⟨rfl, ⟨fun _ _ => False, fun _ _ h => h.elim, fun _ _ _ h => h.elim, fun j hj => by rcases (by omega : j = 0 ∨ j = 1 ∨ j = 2 ∨ j = 3 ∨ j = 4 ∨ j = 5 ∨ j = 6 ∨ j = 7) with rfl | rfl | rfl | rfl | rfl | rfl | rfl | rfl <;> rfl⟩, (((Below.refl _ _).alloc (Nat.le_refl _) _).alloc (by simp) _).alloc (by simp; omega) _⟩
set_option maxRecDepth 100000 in
set_option maxHeartbeats 1600000 in
theorem eqDColumn (x : Cl) (_A _B : Nat → Prop) (w : World) (_ho : ∀ j, j < 8 → (dColumn x j).le maxLen) :
    Calls Tryz.prog 104 #[.agg #[.string ⟨x.nm.toArray⟩, .int .i64 x.k, .int .i64 x.mn, .int .i64 x.mx, .int .i64 x.lo, .int .i64 x.hi, .string ⟨x.rf.toArray⟩, .bool x.st], .agg #[.string ⟨x.nm.toArray⟩, .int .i64 x.k, .int .i64 x.mn, .int .i64 x.mx, .int .i64 x.lo, .int .i64 x.hi, .string ⟨x.rf.toArray⟩, .bool x.st]] w fun e w' => e = .returned (.bool true) ∧ Below w.heap.size w w' := by
  go_enter Tryz.func104, Tryz.ntmps104
  go_wp2_with fail
  go_ret
  exact ⟨rfl, ((Below.refl _ _).alloc (Nat.le_refl _) _).alloc (by simp) _⟩
def dColumnS (l : List Cl) : D := Ls 8 dColumn l
set_option maxHeartbeats 1600000 in
theorem szDColumnS (l : List Cl) (a : Option Addr) (c : Nat) (L : Int) (B : Nat → Prop) (w : World) (h0 : 0 ≤ L) (h1 : L ≤ 1048576) (ho : (dColumnS l).le maxLen) (hS : Rd w B (dColumnS l) (.slice a l.length c)) :
    Calls Tryz.prog 57 #[.slice a l.length c, .int .i64 L] w fun e w' => e = .returned (.int .i64 (lessI L (dColumnS l).sz)) ∧ Below w.heap.size w w' := by
  have hl : l.length ≤ maxLen := (Ls_le.1 ho).2.1
  unfold maxLen at hl
  have HX : Hid (∀ i (h : i < l.length) j, j < 8 → (dColumn l[i] j).le maxLen) := (Ls_le.1 ho).2.2
  have HS : Hid (Rd w B (Ls 8 dColumn l) (.slice a l.length c)) := hS
  have HZ : Hid ((dColumnS l).sz = l.length + szL 8 dColumn l l.length) := Ls_sz
  clear hS ho
  by_cases hn : L - (l.length : Int) < 0
  · have HR : Hid (lessI L (dColumnS l).sz = -1) := by have := HZ.out; show lessI L (dColumnS l).sz = -1; unfold lessI; rw [if_neg (by omega)]
    go_enter Tryz.func57, Tryz.ntmps57
    go_wp2_with fail
    go_ret
    exact ⟨ret_i HR.out.symm, Below.refl _ _⟩
  go_enter Tryz.func57, Tryz.ntmps57
  go_wp2_with fail
  go_loopw [1, 5] (fun t i wr => ∃ k : Nat, k ≤ l.length ∧ i = .int .i64 k ∧ ∃ m : Int, t = .int .i64 m ∧ 0 ≤ m ∧ m ≤ L ∧ Hid (m = L - (l.length + szL 8 dColumn l k : Nat) ∧ Below w.heap.size w wr)) (fun _ i _ => l.length - (intOf i).toNat)
  case atStart => exact ⟨0, Nat.zero_le _, rfl, L - l.length, rfl, by omega, by omega, by show _ = _; rw [szL_zero]; omega, Below.refl _ _⟩
  case round =>
    obtain ⟨k, hk, rfl, m, rfl, hm0, hmL, HM⟩ := hrel
    by_cases hlt : k < l.length
    case neg =>
      have HR : Hid (lessI L (dColumnS l).sz = m) := by
        have h1 := HM.out.1; have h2 := HZ.out
        have hk' : k = l.length := by omega
        rw [hk'] at h1
        show lessI L (dColumnS l).sz = m
        unfold lessI; rw [if_pos (by omega)]; omega
      go_wp2_with fail
      go_ret
      exact ⟨ret_i HR.out.symm, HM.out.2⟩
    obtain ⟨b, off, rfl, -, hc⟩ := (HS.out.later HM.out.2).things k hlt
    have HSU : Hid (szL 8 dColumn l (k + 1) = szL 8 dColumn l k + szT 8 (dColumn l[k])) := szL_succ hlt
    have HLE : Hid (szL 8 dColumn l (k + 1) ≤ szL 8 dColumn l l.length) := szL_mono (by omega)
    have HXK := Lib.hid (HX.out k hlt)
    obtain ⟨u0, c0, r0⟩ := hc 0 (by omega)
    obtain rfl : u0 = .string ⟨l[k].nm.toArray⟩ := r0
    replace c0 : wr.cell? ⟨b, off + k * 8, none⟩ = _ := c0
    obtain ⟨u1, c1, r1⟩ := hc 1 (by omega)
    obtain rfl : u1 = .int .i64 l[k].k := r1
    obtain ⟨u2, c2, r2⟩ := hc 2 (by omega)
    obtain rfl : u2 = .int .i64 l[k].mn := r2
    obtain ⟨u3, c3, r3⟩ := hc 3 (by omega)
    obtain rfl : u3 = .int .i64 l[k].mx := r3
    obtain ⟨u4, c4, r4⟩ := hc 4 (by omega)
    obtain rfl : u4 = .int .i64 l[k].lo := r4
    obtain ⟨u5, c5, r5⟩ := hc 5 (by omega)
    obtain rfl : u5 = .int .i64 l[k].hi := r5
    obtain ⟨u6, c6, r6⟩ := hc 6 (by omega)
    obtain rfl : u6 = .string ⟨l[k].rf.toArray⟩ := r6
    obtain ⟨u7, c7, r7⟩ := hc 7 (by omega)
    obtain rfl : u7 = .bool l[k].st := r7
    clear hc
    generalize l[k] = x at *
    have CC := Lib.hid (szDColumn x m B wr hm0 (by omega) HXK.out)
    clear HXK
    by_cases hz : m - (szT 8 (dColumn x) : Int) < 0
    · have HR : Hid (lessI L (dColumnS l).sz = -1) := by
        have h1 := HM.out.1; have h2 := HSU.out; have h3 := HLE.out; have h4 := HZ.out
        show lessI L (dColumnS l).sz = -1
        unfold lessI; rw [if_neg (by omega)]
      rw [less_no hz] at CC
      go_wp2_with (go_at_call 86; refine CC.out.mono ?_; rintro e w1 ⟨rfl, hB1⟩)
      go_ret
      exact ⟨ret_i HR.out.symm, HM.out.2.trans (hB1.mono HM.out.2.size)⟩
    rw [less_yes (by omega)] at CC
    obtain ⟨m', hm'⟩ : ∃ m' : Int, m' = m - (szT 8 (dColumn x) : Int) := ⟨_, rfl⟩
    rw [← hm'] at CC
    have hd : decide (m' < 0) = false := decide_eq_false (by omega)
    have HM' : Hid (m' = m - (szT 8 (dColumn x) : Int) ∧ 0 ≤ m') := ⟨hm', by omega⟩
    clear hm' hz
    go_wp2_with (go_at_call 86; refine CC.out.mono ?_; rintro e w1 ⟨rfl, hB1⟩)
    go_roundw
    case rel =>
      have h1 := HM.out.1; have h2 := HSU.out; have h3 := HM'.out
      exact ⟨k + 1, by omega, by go_num, m', rfl, by omega, by omega, by show _ = _; omega, HM.out.2.trans (hB1.mono HM.out.2.size)⟩
    case measure => simp [intOf]; omega
theorem run_mkColumnS (n : Nat) (hn : n ≤ 1048576) (w : World) :
    (Instr.makeSlice 68 (.int .i64 (n : Int)) (.int .i64 (n : Int))).run Tryz.prog w = .ok (.slice (some ⟨w.heap.size, 0, none⟩) n n) (w.alloc (.cells (madeCells #[.string ⟨#[]⟩, .int .i64 0, .int .i64 0, .int .i64 0, .int .i64 0, .int .i64 0, .string ⟨#[]⟩, .bool false] (n * 8)) 72)) := by
  have h : (Tryz.prog.info? 72).map (fun i => (i.zero, i.size, i.bytes)) = some (some (.agg #[.string ⟨#[]⟩, .int .i64 0, .int .i64 0, .int .i64 0, .int .i64 0, .int .i64 0, .string ⟨#[]⟩, .bool false]), 8, 80) := by kernel_rfl
  obtain ⟨i, hi, hzz⟩ := Option.map_eq_some_iff.1 h
  simp only [Prod.mk.injEq] at hzz
  obtain ⟨hz, hs, hb⟩ := hzz
  have hr := run_make (P := Tryz.prog) w 68 72 i _ Tryz.underlying68 hi hz .i64 .i64 n n (by omega) (Int.le_refl _) (by rw [hb]; omega) (by omega)
  rw [hr, hs]
  simp only [Int.toNat_natCast]
  rfl
set_option maxRecDepth 100000 in
set_option maxHeartbeats 3200000 in
theorem toDColumnS (l : List Cl) (a : Option Addr) (c : Nat) (B : Nat → Prop) (w : World) (ho : (dColumnS l).le 1048576) (hS : Rd w B (dColumnS l) (.slice a l.length c)) :
    Calls Tryz.prog 67 #[.slice a l.length c] w fun e w' => e = .returned (.slice (some ⟨w.heap.size, 0, none⟩) l.length l.length) ∧ Own w' (dColumnS l) (fun c => w.heap.size ≤ c ∧ c < w'.heap.size) (.slice (some ⟨w.heap.size, 0, none⟩) l.length l.length) ∧ Below w.heap.size w w' := by
  have HS : Hid (Rd w B (Ls 8 dColumn l) (.slice a l.length c)) := hS
  have HX : Hid (∀ i (h : i < l.length) j, j < 8 → (dColumn l[i] j).le 1048576) := (Ls_le.1 ho).2.2
  have hl : l.length ≤ 1048576 := (Ls_le.1 ho).2.1
  have hmk := run_mkColumnS l.length hl
  clear hS ho
  go_enter Tryz.func67, Tryz.ntmps67
  go_wp2_with fail
  clear hmk
  go_loopw [4] (fun i wr => ∃ k : Nat, k ≤ l.length ∧ i = .int .i64 k ∧ Hid (Below w.heap.size w wr ∧ TS wr 72 8 l.length (lsF dColumn l) w.heap.size k)) (fun i _ => l.length - (intOf i).toNat)
  case atStart => exact ⟨0, Nat.zero_le _, rfl, (Below.refl _ _).alloc (Nat.le_refl _) _, by have := TS.start w #[.string ⟨#[]⟩, .int .i64 0, .int .i64 0, .int .i64 0, .int .i64 0, .int .i64 0, .string ⟨#[]⟩, .bool false] 72 8 l.length (lsF dColumn l); exact this⟩
  case round =>
    obtain ⟨k, hk, rfl, HD⟩ := hrel
    by_cases hlt : k < l.length
    case neg =>
      have hk' : k = l.length := by omega
      have hki : decide ((k : Int) < (l.length : Int)) = false := decide_eq_false (by omega)
      go_wp2_with fail
      go_ret
      exact ⟨rfl, TS.done (by omega) (by have := HD.out.2; rw [hk'] at this; exact this), HD.out.1⟩
    have hki : (k : Int) < (l.length : Int) := by omega
    obtain ⟨b, off, rfl, -, hc⟩ := (HS.out.later HD.out.1).things k hlt
    have HXK := Lib.hid (HX.out k hlt)
    have HFA : Hid (lsF dColumn l k = dColumn l[k]) := lsF_at hlt
    obtain ⟨u0, c0, r0⟩ := hc 0 (by omega)
    obtain rfl : u0 = .string ⟨l[k].nm.toArray⟩ := r0
    replace c0 : wr.cell? ⟨b, off + k * 8, none⟩ = _ := c0
    obtain ⟨u1, c1, r1⟩ := hc 1 (by omega)
    obtain rfl : u1 = .int .i64 l[k].k := r1
    obtain ⟨u2, c2, r2⟩ := hc 2 (by omega)
    obtain rfl : u2 = .int .i64 l[k].mn := r2
    obtain ⟨u3, c3, r3⟩ := hc 3 (by omega)
    obtain rfl : u3 = .int .i64 l[k].mx := r3
    obtain ⟨u4, c4, r4⟩ := hc 4 (by omega)
    obtain rfl : u4 = .int .i64 l[k].lo := r4
    obtain ⟨u5, c5, r5⟩ := hc 5 (by omega)
    obtain rfl : u5 = .int .i64 l[k].hi := r5
    obtain ⟨u6, c6, r6⟩ := hc 6 (by omega)
    obtain rfl : u6 = .string ⟨l[k].rf.toArray⟩ := r6
    obtain ⟨u7, c7, r7⟩ := hc 7 (by omega)
    obtain rfl : u7 = .bool l[k].st := r7
    clear hc
    generalize l[k] = x at *
    have CC := Lib.hid (toDColumn x B wr HXK.out)
    clear HXK
    go_wp2_with fail
    refine CC.out.mono ?_
    rintro e w1 ⟨rfl, oc, hB1⟩
    have HST : Hid (TS ((((((((w1.setCell ⟨w.heap.size, k * 8, none⟩ (.string ⟨x.nm.toArray⟩)).setCell ⟨w.heap.size, k * 8 + 1, none⟩ (.int .i64 x.k)).setCell ⟨w.heap.size, k * 8 + 2, none⟩ (.int .i64 x.mn)).setCell ⟨w.heap.size, k * 8 + 3, none⟩ (.int .i64 x.mx)).setCell ⟨w.heap.size, k * 8 + 4, none⟩ (.int .i64 x.lo)).setCell ⟨w.heap.size, k * 8 + 5, none⟩ (.int .i64 x.hi)).setCell ⟨w.heap.size, k * 8 + 6, none⟩ (.string ⟨x.rf.toArray⟩)).setCell ⟨w.heap.size, k * 8 + 7, none⟩ (.bool x.st)) 72 8 l.length (lsF dColumn l) w.heap.size (k + 1)) := HD.out.2.step hB1 (vat [.string ⟨x.nm.toArray⟩, .int .i64 x.k, .int .i64 x.mn, .int .i64 x.mx, .int .i64 x.lo, .int .i64 x.hi, .string ⟨x.rf.toArray⟩, .bool x.st]) (by rw [HFA.out]; exact oc)
    obtain ⟨g, hg⟩ := HD.out.2.row
    have hg1 := hg.of_block (hB1.block _ hg.lt)
    have e0 := hg1.cell (i := k * 8) (by omega)
    have z0 := hg1.frozen (k * 8)
    have e1 := hg1.cell (i := k * 8 + 1) (by omega)
    have z1 := hg1.frozen (k * 8 + 1)
    have e2 := hg1.cell (i := k * 8 + 2) (by omega)
    have z2 := hg1.frozen (k * 8 + 2)
    have e3 := hg1.cell (i := k * 8 + 3) (by omega)
    have z3 := hg1.frozen (k * 8 + 3)
    have e4 := hg1.cell (i := k * 8 + 4) (by omega)
    have z4 := hg1.frozen (k * 8 + 4)
    have e5 := hg1.cell (i := k * 8 + 5) (by omega)
    have z5 := hg1.frozen (k * 8 + 5)
    have e6 := hg1.cell (i := k * 8 + 6) (by omega)
    have z6 := hg1.frozen (k * 8 + 6)
    have e7 := hg1.cell (i := k * 8 + 7) (by omega)
    have z7 := hg1.frozen (k * 8 + 7)
    have HW := Lib.hid (HD.out.1.trans (hB1.mono HD.out.1.size))
    clear hg hg1 hB1 oc CC
    go_wp2_with fail
    go_roundw
    case rel => exact ⟨k + 1, by omega, by go_num, ((((((((HW.out.setCell (Nat.le_refl _) _).setCell (Nat.le_refl _) _).setCell (Nat.le_refl _) _).setCell (Nat.le_refl _) _).setCell (Nat.le_refl _) _).setCell (Nat.le_refl _) _).setCell (Nat.le_refl _) _).setCell (Nat.le_refl _) _), HST.out⟩
    case measure => simp [intOf]; omega
set_option maxRecDepth 100000 in
set_option maxHeartbeats 3200000 in
theorem eqDColumnS (l : List Cl) (a : Option Addr) (c : Nat) (a' : Option Addr) (c' : Nat) (A B : Nat → Prop) (w : World) (ho : (dColumnS l).le maxLen) (hA : Rd w A (dColumnS l) (.slice a l.length c)) (hB : Rd w B (dColumnS l) (.slice a' l.length c')) :
    Calls Tryz.prog 82 #[.slice a l.length c, .slice a' l.length c'] w fun e w' => e = .returned (.bool true) ∧ Below w.heap.size w w' := by
  have hl : l.length ≤ maxLen := (Ls_le.1 ho).2.1
  unfold maxLen at hl
  have HX : Hid (∀ i (h : i < l.length) j, j < 8 → (dColumn l[i] j).le maxLen) := (Ls_le.1 ho).2.2
  have HA : Hid (∀ W, Below w.heap.size w W → Rd W A (Ls 8 dColumn l) (.slice a l.length c)) := fun W h => Rd.later hA h
  have HB : Hid (∀ W, Below w.heap.size w W → Rd W B (Ls 8 dColumn l) (.slice a' l.length c')) := fun W h => Rd.later hB h
  clear hA hB ho
  go_enter Tryz.func82, Tryz.ntmps82
  go_wp2_with fail
  go_loopw [5] (fun i wr => ∃ k : Nat, k ≤ l.length ∧ i = .int .i64 k ∧ Hid (Below w.heap.size w wr)) (fun i _ => l.length - (intOf i).toNat)
  case atStart => exact ⟨0, Nat.zero_le _, rfl, Below.refl _ _⟩
  case round =>
    obtain ⟨k, hk, rfl, HW⟩ := hrel
    by_cases hlt : k < l.length
    case neg =>
      have hki : decide ((k : Int) < (l.length : Int)) = false := by simp; omega
      go_wp2_with fail
      go_ret
      exact ⟨rfl, HW.out⟩
    obtain ⟨b, off, rfl, -, hc⟩ := (HA.out _ HW.out).things k hlt
    obtain ⟨mb, moff, rfl, -, hd⟩ := (HB.out _ HW.out).things k hlt
    have HXK := Lib.hid (HX.out k hlt)
    obtain ⟨u0, c0, r0⟩ := hc 0 (by omega)
    obtain rfl : u0 = .string ⟨l[k].nm.toArray⟩ := r0
    replace c0 : wr.cell? ⟨b, off + k * 8, none⟩ = _ := c0
    obtain ⟨u1, c1, r1⟩ := hc 1 (by omega)
    obtain rfl : u1 = .int .i64 l[k].k := r1
    obtain ⟨u2, c2, r2⟩ := hc 2 (by omega)
    obtain rfl : u2 = .int .i64 l[k].mn := r2
    obtain ⟨u3, c3, r3⟩ := hc 3 (by omega)
    obtain rfl : u3 = .int .i64 l[k].mx := r3
    obtain ⟨u4, c4, r4⟩ := hc 4 (by omega)
    obtain rfl : u4 = .int .i64 l[k].lo := r4
    obtain ⟨u5, c5, r5⟩ := hc 5 (by omega)
    obtain rfl : u5 = .int .i64 l[k].hi := r5
    obtain ⟨u6, c6, r6⟩ := hc 6 (by omega)
    obtain rfl : u6 = .string ⟨l[k].rf.toArray⟩ := r6
    obtain ⟨u7, c7, r7⟩ := hc 7 (by omega)
    obtain rfl : u7 = .bool l[k].st := r7
    obtain ⟨mu0, mc0, mr0⟩ := hd 0 (by omega)
    obtain rfl : mu0 = .string ⟨l[k].nm.toArray⟩ := mr0
    replace mc0 : wr.cell? ⟨mb, moff + k * 8, none⟩ = _ := mc0
    obtain ⟨mu1, mc1, mr1⟩ := hd 1 (by omega)
    obtain rfl : mu1 = .int .i64 l[k].k := mr1
    obtain ⟨mu2, mc2, mr2⟩ := hd 2 (by omega)
    obtain rfl : mu2 = .int .i64 l[k].mn := mr2
    obtain ⟨mu3, mc3, mr3⟩ := hd 3 (by omega)
    obtain rfl : mu3 = .int .i64 l[k].mx := mr3
    obtain ⟨mu4, mc4, mr4⟩ := hd 4 (by omega)
    obtain rfl : mu4 = .int .i64 l[k].lo := mr4
    obtain ⟨mu5, mc5, mr5⟩ := hd 5 (by omega)
    obtain rfl : mu5 = .int .i64 l[k].hi := mr5
    obtain ⟨mu6, mc6, mr6⟩ := hd 6 (by omega)
    obtain rfl : mu6 = .string ⟨l[k].rf.toArray⟩ := mr6
    obtain ⟨mu7, mc7, mr7⟩ := hd 7 (by omega)
    obtain rfl : mu7 = .bool l[k].st := mr7
    clear hc hd
    generalize l[k] = x at *
    have hki : (k : Int) < (l.length : Int) := by omega
    have EQ : Hid (∀ W, Below wr.heap.size wr W → Calls Tryz.prog 104 #[.agg #[.string ⟨x.nm.toArray⟩, .int .i64 x.k, .int .i64 x.mn, .int .i64 x.mx, .int .i64 x.lo, .int .i64 x.hi, .string ⟨x.rf.toArray⟩, .bool x.st], .agg #[.string ⟨x.nm.toArray⟩, .int .i64 x.k, .int .i64 x.mn, .int .i64 x.mx, .int .i64 x.lo, .int .i64 x.hi, .string ⟨x.rf.toArray⟩, .bool x.st]] W fun e w' => e = .returned (.bool true) ∧ Below W.heap.size W w') := fun W h => eqDColumn x A B W HXK.out
    clear HXK
    go_wp2_with fail
    go_region_with (go_at_call 104; refine (EQ.out _ (by first | exact Below.refl _ _ | exact (Below.refl _ _).drew)).mono ?_; rintro e w1 ⟨rfl, hB1⟩)
    all_goals
      go_wp2_with fail
      go_roundw
      case rel => exact ⟨k + 1, by omega, by go_num, HW.out.trans ((Below.refl _ _).drew.trans (hB1.mono (by first | exact HW.out.size | (have := HW.out.size; simpa using this))))⟩
      case measure => simp [intOf]; omega
def cInt (x : Int) : Nat → D := fun _ => .i x
def dIntS (l : List Int) : D := Ls 1 cInt l
set_option maxHeartbeats 800000 in
theorem szDIntS (l : List Int) (a : Option Addr) (c : Nat) (L : Int) (B : Nat → Prop) (w : World) (h0 : 0 ≤ L) (h1 : L ≤ 1048576) (ho : (dIntS l).le maxLen) (_hS : Rd w B (dIntS l) (.slice a l.length c)) :
    Calls Tryz.prog 58 #[.slice a l.length c, .int .i64 L] w fun e w' => e = .returned (.int .i64 (lessI L (dIntS l).sz)) ∧ Below w.heap.size w w' := by
  have hl : l.length ≤ maxLen := (Ls_le.1 ho).2.1
  unfold maxLen at hl
  have es : (dIntS l).sz = l.length := by
    show l.length + szL 1 cInt l l.length = l.length
    have : szL 1 cInt l l.length = 0 := by
      unfold szL
      rw [sumN_congr (h := fun _ => 0) (fun i hi => by rw [lsF_at hi]; rfl)]
      have := sumN_lin 0 0 (fun _ => 0) l.length
      simpa using this
    omega
  rw [es]
  clear ho es
  by_cases hn : L - (l.length : Int) < 0
  · have HR : Hid (lessI L l.length = -1) := less_no hn
    go_enter Tryz.func58, Tryz.ntmps58
    go_wp2_with fail
    go_ret
    exact ⟨ret_i HR.out.symm, Below.refl _ _⟩
  · have HR : Hid (lessI L l.length = L - l.length) := less_yes (by omega)
    go_enter Tryz.func58, Tryz.ntmps58
    go_wp2_with fail
    go_ret
    exact ⟨ret_i HR.out.symm, Below.refl _ _⟩
theorem run_mkIntS (n : Nat) (hn : n ≤ 1048576) (w : World) :
    (Instr.makeSlice 61 (.int .i64 (n : Int)) (.int .i64 (n : Int))).run Tryz.prog w = .ok (.slice (some ⟨w.heap.size, 0, none⟩) n n) (w.alloc (.cells (madeCells #[.int .i64 0] (n * 1)) 3)) := by
  have h : (Tryz.prog.info? 3).map (fun i => (i.zero, i.size, i.bytes)) = some (some (.int .i64 0), 1, 8) := by kernel_rfl
  obtain ⟨i, hi, hzz⟩ := Option.map_eq_some_iff.1 h
  simp only [Prod.mk.injEq] at hzz
  obtain ⟨hz, hs, hb⟩ := hzz
  have hr := run_make (P := Tryz.prog) w 61 3 i _ Tryz.underlying61 hi hz .i64 .i64 n n (by omega) (Int.le_refl _) (by rw [hb]; omega) (by omega)
  rw [hr, hs]
  simp only [Int.toNat_natCast]
  rfl
set_option maxRecDepth 100000 in
set_option maxHeartbeats 3200000 in
theorem toDIntS (l : List Int) (a : Option Addr) (c : Nat) (B : Nat → Prop) (w : World) (ho : (dIntS l).le 1048576) (hS : Rd w B (dIntS l) (.slice a l.length c)) :
    Calls Tryz.prog 68 #[.slice a l.length c] w fun e w' => e = .returned (.slice (some ⟨w.heap.size, 0, none⟩) l.length l.length) ∧ Own w' (dIntS l) (fun c => w.heap.size ≤ c ∧ c < w'.heap.size) (.slice (some ⟨w.heap.size, 0, none⟩) l.length l.length) ∧ Below w.heap.size w w' := by
  have HS : Hid (Rd w B (Ls 1 cInt l) (.slice a l.length c)) := hS
  have HX : Hid (∀ i (h : i < l.length) j, j < 1 → (cInt l[i] j).le 1048576) := (Ls_le.1 ho).2.2
  have hl : l.length ≤ 1048576 := (Ls_le.1 ho).2.1
  have hmk := run_mkIntS l.length hl
  clear hS ho
  go_enter Tryz.func68, Tryz.ntmps68
  go_wp2_with fail
  clear hmk
  go_loopw [4] (fun i wr => ∃ k : Nat, k ≤ l.length ∧ i = .int .i64 k ∧ Hid (Below w.heap.size w wr ∧ TS wr 3 1 l.length (lsF cInt l) w.heap.size k)) (fun i _ => l.length - (intOf i).toNat)
  case atStart => exact ⟨0, Nat.zero_le _, rfl, (Below.refl _ _).alloc (Nat.le_refl _) _, by have := TS.start w #[.int .i64 0] 3 1 l.length (lsF cInt l); rw [Nat.mul_one] at this; exact this⟩
  case round =>
    obtain ⟨k, hk, rfl, HD⟩ := hrel
    by_cases hlt : k < l.length
    case neg =>
      have hk' : k = l.length := by omega
      have hki : decide ((k : Int) < (l.length : Int)) = false := decide_eq_false (by omega)
      go_wp2_with fail
      go_ret
      exact ⟨rfl, TS.done (by omega) (by have := HD.out.2; rw [hk'] at this; exact this), HD.out.1⟩
    have hki : (k : Int) < (l.length : Int) := by omega
    obtain ⟨b, off, rfl, -, hc⟩ := (HS.out.later HD.out.1).things k hlt
    have HXK := Lib.hid (HX.out k hlt)
    have HFA : Hid (lsF cInt l k = cInt l[k]) := lsF_at hlt
    obtain ⟨u0, c0, r0⟩ := hc 0 (by omega)
    obtain rfl : u0 = .int .i64 l[k] := r0
    rw [Nat.mul_one] at c0
    replace c0 : wr.cell? ⟨b, off + k, none⟩ = _ := c0
    clear hc
    generalize l[k] = x at *
    have HST : Hid (TS (wr.setCell ⟨w.heap.size, k, none⟩ (.int .i64 x)) 3 1 l.length (lsF cInt l) w.heap.size (k + 1)) := by
      have := HD.out.2.step (Below.refl _ _) (fun _ => .int .i64 x) ⟨fun _ _ => False, fun _ _ h => h.elim, fun _ _ _ h => h.elim, fun j hj => by rw [HFA.out]; rfl⟩
      simp only [putN, Nat.mul_one, Nat.add_zero] at this
      exact this
    obtain ⟨g, hg⟩ := HD.out.2.row
    rw [Nat.mul_one] at hg
    have e0 := hg.cell (i := k) hlt
    have z0 := hg.frozen k
    clear hg
    go_wp2_with fail
    go_roundw
    case rel => exact ⟨k + 1, by omega, by go_num, HD.out.1.setCell (Nat.le_refl _) _, HST.out⟩
    case measure => simp [intOf]; omega
set_option maxRecDepth 100000 in
set_option maxHeartbeats 3200000 in
theorem eqDIntS (l : List Int) (a : Option Addr) (c : Nat) (a' : Option Addr) (c' : Nat) (A B : Nat → Prop) (w : World) (ho : (dIntS l).le maxLen) (hA : Rd w A (dIntS l) (.slice a l.length c)) (hB : Rd w B (dIntS l) (.slice a' l.length c')) :
    Calls Tryz.prog 83 #[.slice a l.length c, .slice a' l.length c'] w fun e w' => e = .returned (.bool true) ∧ Below w.heap.size w w' := by
  have hl : l.length ≤ maxLen := (Ls_le.1 ho).2.1
  unfold maxLen at hl
  have HX : Hid (∀ i (h : i < l.length) j, j < 1 → (cInt l[i] j).le maxLen) := (Ls_le.1 ho).2.2
  have HA : Hid (∀ W, Below w.heap.size w W → Rd W A (Ls 1 cInt l) (.slice a l.length c)) := fun W h => Rd.later hA h
  have HB : Hid (∀ W, Below w.heap.size w W → Rd W B (Ls 1 cInt l) (.slice a' l.length c')) := fun W h => Rd.later hB h
  clear hA hB ho
  go_enter Tryz.func83, Tryz.ntmps83
  go_wp2_with fail
  go_loopw [5] (fun i wr => ∃ k : Nat, k ≤ l.length ∧ i = .int .i64 k ∧ Hid (Below w.heap.size w wr)) (fun i _ => l.length - (intOf i).toNat)
  case atStart => exact ⟨0, Nat.zero_le _, rfl, Below.refl _ _⟩
  case round =>
    obtain ⟨k, hk, rfl, HW⟩ := hrel
    by_cases hlt : k < l.length
    case neg =>
      have hki : decide ((k : Int) < (l.length : Int)) = false := by simp; omega
      go_wp2_with fail
      go_ret
      exact ⟨rfl, HW.out⟩
    obtain ⟨b, off, rfl, -, hc⟩ := (HA.out _ HW.out).things k hlt
    obtain ⟨mb, moff, rfl, -, hd⟩ := (HB.out _ HW.out).things k hlt
    have HXK := Lib.hid (HX.out k hlt)
    obtain ⟨u0, c0, r0⟩ := hc 0 (by omega)
    obtain rfl : u0 = .int .i64 l[k] := r0
    rw [Nat.mul_one] at c0
    replace c0 : wr.cell? ⟨b, off + k, none⟩ = _ := c0
    obtain ⟨mu0, mc0, mr0⟩ := hd 0 (by omega)
    obtain rfl : mu0 = .int .i64 l[k] := mr0
    rw [Nat.mul_one] at mc0
    replace mc0 : wr.cell? ⟨mb, moff + k, none⟩ = _ := mc0
    clear hc hd
    generalize l[k] = x at *
    have hki : (k : Int) < (l.length : Int) := by omega
    have hne : (x != x) = false := by simp
    clear HXK
    go_wp2_with fail
    try go_region
    all_goals (try go_wp2_with fail)
    all_goals
      go_roundw
      case rel => exact ⟨k + 1, by omega, by go_num, by first | exact HW.out | exact HW.out.drew⟩
      case measure => simp [intOf]; omega
def dTable (x : Tb) : Nat → D
  | 0 => .s x.nm
  | 1 => dColumnS x.cols
  | 2 => dIntS x.uq
  | _ => .b x.rt
theorem szT_Table (x : Tb) : szT 4 (dTable x) = x.nm.length + (dColumnS x.cols).sz + (dIntS x.uq).sz := by simp [szT, sumN, dTable, D.sz]
set_option maxHeartbeats 1600000 in
theorem szDTable (x : Tb) (a1 : Option Addr) (c1 : Nat) (a2 : Option Addr) (c2 : Nat) (L : Int) (B : Nat → Prop) (w : World) (h0 : 0 ≤ L) (h1 : L ≤ 1048576) (ho : ∀ j, j < 4 → (dTable x j).le maxLen) (r1 : Rd w B (dColumnS x.cols) (.slice a1 x.cols.length c1)) (r2 : Rd w B (dIntS x.uq) (.slice a2 x.uq.length c2)) :
    Calls Tryz.prog 30 #[.agg #[.string ⟨x.nm.toArray⟩, .slice a1 x.cols.length c1, .slice a2 x.uq.length c2, .bool x.rt], .int .i64 L] w fun e w' => e = .returned (.int .i64 (lessI L (szT 4 (dTable x)))) ∧ Below w.heap.size w w' := by
  rw [szT_Table]
  have HO := Lib.hid ho
  have R1 := Lib.hid r1
  have R2 := Lib.hid r2
  have hs0 : x.nm.length ≤ maxLen := ho 0 (by omega)
  unfold maxLen at hs0
  have hx := boxD 63 w #[.string ⟨x.nm.toArray⟩, .slice a1 x.cols.length c1, .slice a2 x.uq.length c2, .bool x.rt]
  clear ho r1 r2
  have x0 := cell_at (o := 0) hx.1 rfl
  have x1 := cell_at (o := 1) hx.1 rfl
  have x2 := cell_at (o := 2) hx.1 rfl
  have x3 := cell_at (o := 3) hx.1 rfl
  by_cases hn0 : L - (x.nm.length : Int) < 0
  case pos =>
    have HR : Hid (lessI L (x.nm.length + (dColumnS x.cols).sz + (dIntS x.uq).sz) = -1) := by show lessI L (x.nm.length + (dColumnS x.cols).sz + (dIntS x.uq).sz) = -1; unfold lessI; rw [if_neg (by omega)]
    have d0 : decide (L - (x.nm.length : Int) < 0) = true := decide_eq_true hn0
    go_enter Tryz.func30, Tryz.ntmps30
    go_wp2_with fail
    go_ret
    exact ⟨ret_i HR.out.symm, hx.2⟩
  obtain ⟨L0, hL0⟩ : ∃ L0 : Int, L0 = L - (x.nm.length : Int) := ⟨_, rfl⟩
  have f0 : IntKind.i64.wrap (L - (x.nm.length : Int)) = L0 := by rw [IntKind.wrap_i64]; omega
  have d0 : decide (L0 < 0) = false := decide_eq_false (by omega)
  have HL0 := Lib.hid hL0
  have bL0 : 0 ≤ L0 ∧ L0 ≤ 1048576 := by omega
  clear hn0 hL0
  have bl : Hid (0 ≤ L0 ∧ L0 ≤ 1048576) := by show _ ∧ _; omega
  clear h0 h1 bL0
  go_enter Tryz.func30, Tryz.ntmps30
  go_wp2_with fail
  refine (szDColumnS x.cols a1 c1 L0 B _ bl.out.1 bl.out.2 (HO.out 1 (by omega)) (R1.out.later hx.2)).mono ?_
  rintro e w2 ⟨rfl, hB2⟩
  have hx := hx.later hB2
  clear hB2 x0 x1 x2 x3
  have x0 := cell_at (o := 0) hx.1 rfl
  have x1 := cell_at (o := 1) hx.1 rfl
  have x2 := cell_at (o := 2) hx.1 rfl
  have x3 := cell_at (o := 3) hx.1 rfl
  by_cases hn1 : L0 - ((dColumnS x.cols).sz : Int) < 0
  case pos =>
    have HR : Hid (lessI L (x.nm.length + (dColumnS x.cols).sz + (dIntS x.uq).sz) = -1) := by have := HL0.out; have := bl.out; show lessI L (x.nm.length + (dColumnS x.cols).sz + (dIntS x.uq).sz) = -1; unfold lessI; rw [if_neg (by omega)]
    rw [less_no hn1]
    go_wp2_with fail
    go_ret
    exact ⟨ret_i HR.out.symm, hx.2⟩
  rw [less_yes (by omega)]
  obtain ⟨L1, hL1⟩ : ∃ L1 : Int, L1 = L0 - ((dColumnS x.cols).sz : Int) := ⟨_, rfl⟩
  rw [← hL1]
  have d1 : decide (L1 < 0) = false := decide_eq_false (by omega)
  have bL1 : Hid (0 ≤ L1 ∧ L1 ≤ 1048576) := by have := bl.out; show _ ∧ _; omega
  have HL1 := Lib.hid hL1
  clear hn1 hL1 bl
  have bl := bL1
  clear bL1
  go_wp2_with fail
  refine (szDIntS x.uq a2 c2 L1 B _ bl.out.1 bl.out.2 (HO.out 2 (by omega)) (R2.out.later hx.2)).mono ?_
  rintro e w3 ⟨rfl, hB3⟩
  have hx := hx.later hB3
  clear hB3 x0 x1 x2 x3
  have x0 := cell_at (o := 0) hx.1 rfl
  have x1 := cell_at (o := 1) hx.1 rfl
  have x2 := cell_at (o := 2) hx.1 rfl
  have x3 := cell_at (o := 3) hx.1 rfl
  by_cases hn2 : L1 - ((dIntS x.uq).sz : Int) < 0
  case pos =>
    have HR : Hid (lessI L (x.nm.length + (dColumnS x.cols).sz + (dIntS x.uq).sz) = -1) := by have := HL0.out; have := HL1.out; have := bl.out; show lessI L (x.nm.length + (dColumnS x.cols).sz + (dIntS x.uq).sz) = -1; unfold lessI; rw [if_neg (by omega)]
    rw [less_no hn2]
    go_wp2_with fail
    go_ret
    exact ⟨ret_i HR.out.symm, hx.2⟩
  rw [less_yes (by omega)]
  obtain ⟨L2, hL2⟩ : ∃ L2 : Int, L2 = L1 - ((dIntS x.uq).sz : Int) := ⟨_, rfl⟩
  rw [← hL2]
  have d2 : decide (L2 < 0) = false := decide_eq_false (by omega)
  have bL2 : Hid (0 ≤ L2 ∧ L2 ≤ 1048576) := by have := bl.out; show _ ∧ _; omega
  have HL2 := Lib.hid hL2
  have HR : Hid (lessI L (x.nm.length + (dColumnS x.cols).sz + (dIntS x.uq).sz) = L2) := by have := HL0.out; have := HL1.out; have := HL2.out; have := bL2.out; show lessI L (x.nm.length + (dColumnS x.cols).sz + (dIntS x.uq).sz) = L2; unfold lessI; rw [if_pos (by omega)]; omega
  clear hn2 hL2 bl
  have bl := bL2
  clear bL2
  go_wp2_with fail
  go_ret
  exact ⟨ret_i HR.out.symm, hx.2⟩
set_option maxRecDepth 100000 in
set_option maxHeartbeats 3200000 in
theorem toDTable (x : Tb) (a1 : Option Addr) (c1 : Nat) (a2 : Option Addr) (c2 : Nat) (B : Nat → Prop) (w : World) (ho : ∀ j, j < 4 → (dTable x j).le 1048576) (r1 : Rd w B (dColumnS x.cols) (.slice a1 x.cols.length c1)) (r2 : Rd w B (dIntS x.uq) (.slice a2 x.uq.length c2)) :
    Calls Tryz.prog 40 #[.agg #[.string ⟨x.nm.toArray⟩, .slice a1 x.cols.length c1, .slice a2 x.uq.length c2, .bool x.rt]] w fun e w' => ∃ p1 : Nat, ∃ p2 : Nat, e = .returned (.agg #[.string ⟨x.nm.toArray⟩, .slice (some ⟨p1, 0, none⟩) x.cols.length x.cols.length, .slice (some ⟨p2, 0, none⟩) x.uq.length x.uq.length, .bool x.rt]) ∧ Owns w' 4 (dTable x) (vat [.string ⟨x.nm.toArray⟩, .slice (some ⟨p1, 0, none⟩) x.cols.length x.cols.length, .slice (some ⟨p2, 0, none⟩) x.uq.length x.uq.length, .bool x.rt]) (fun c => w.heap.size ≤ c ∧ c < w'.heap.size) ∧ Below w.heap.size w w' := by
  have HO := Lib.hid ho
  have R1 := Lib.hid r1
  have R2 := Lib.hid r2
  have T0 := Lib.hid (st3First w 63 70 #[.string ⟨x.nm.toArray⟩, .slice a1 x.cols.length c1, .slice a2 x.uq.length c2, .bool x.rt] #[.string ⟨#[]⟩, .slice none 0 0, .slice none 0 0, .bool false] #[.string ⟨x.nm.toArray⟩, .slice none 0 0, .slice none 0 0, .bool false])
  clear ho r1 r2
  go_enter Tryz.func40, Tryz.ntmps40
  go_wp2_with fail
  have HE : Hid (w.heap.size + 1 + 1 < (((w.alloc (.cells #[.string ⟨x.nm.toArray⟩, .slice a1 x.cols.length c1, .slice a2 x.uq.length c2, .bool x.rt] 63)).alloc (.cells #[.string ⟨#[]⟩, .slice none 0 0, .slice none 0 0, .bool false] 70)).alloc (.cells #[.string ⟨x.nm.toArray⟩, .slice none 0 0, .slice none 0 0, .bool false] 70)).heap.size) := by show _ < _; simp
  refine (toDColumnS x.cols a1 c1 B _ (HO.out 1 (by omega)) (R1.out.later T0.out.bel)).mono ?_
  rintro e w2 ⟨rfl, o1, hB1⟩
  have S1 := Lib.hid (T0.out.later hB1)
  obtain ⟨p1, hp1⟩ : ∃ p, p = (((w.alloc (.cells #[.string ⟨x.nm.toArray⟩, .slice a1 x.cols.length c1, .slice a2 x.uq.length c2, .bool x.rt] 63)).alloc (.cells #[.string ⟨#[]⟩, .slice none 0 0, .slice none 0 0, .bool false] 70)).alloc (.cells #[.string ⟨x.nm.toArray⟩, .slice none 0 0, .slice none 0 0, .bool false] 70)).heap.size := ⟨_, rfl⟩
  have HP1 : Hid (w.heap.size + 1 + 1 < p1 ∧ p1 ≤ w2.heap.size) := by
    have h1 := hB1.size; have h2 := HE.out
    rw [← hp1] at h1 h2
    exact ⟨h2, h1⟩
  rw [← hp1] at o1 ⊢
  have O1 := Lib.hid o1
  clear o1 hB1 hp1 T0 HE
  have x1 := cell_at (o := 1) S1.out.ot rfl
  have z1 := frozen_at 1 S1.out.ot
  have hne : (w.heap.size = w.heap.size + 1 + 1) = False := by simp; omega
  have y2 := cell_at (o := 2) S1.out.bx rfl
  have U1 := Lib.hid (S1.out.set 1 (.slice (some ⟨p1, 0, none⟩) x.cols.length x.cols.length))
  have F1 : Hid (Frm (fun c => c = w.heap.size + 1 + 1) w2 (w2.setCell ⟨w.heap.size + 1 + 1, 1, none⟩ (.slice (some ⟨p1, 0, none⟩) x.cols.length x.cols.length))) := by
    show Frm _ _ _
    refine Frm.set (B := fun c => c = w.heap.size + 1 + 1) ?_ rfl _
    exact Frm.refl _ _
  have P1 := Lib.hid (O1.out.frm F1.out (fun c hc hF => by have h1 := HP1.out.1; have h2 := hc.1; have h3 : c = _ := hF; omega))
  clear O1
  have O1 := P1
  clear P1
  have HE : Hid (w.heap.size + 1 + 1 < (w2.setCell ⟨w.heap.size + 1 + 1, 1, none⟩ (.slice (some ⟨p1, 0, none⟩) x.cols.length x.cols.length)).heap.size) := by have := HP1.out; show _ < _; simp; omega
  clear F1 S1
  go_wp2_with fail
  refine (toDIntS x.uq a2 c2 B _ (HO.out 2 (by omega)) (R2.out.later U1.out.bel)).mono ?_
  rintro e w3 ⟨rfl, o2, hB2⟩
  have S2 := Lib.hid (U1.out.later hB2)
  obtain ⟨p2, hp2⟩ : ∃ p, p = (w2.setCell ⟨w.heap.size + 1 + 1, 1, none⟩ (.slice (some ⟨p1, 0, none⟩) x.cols.length x.cols.length)).heap.size := ⟨_, rfl⟩
  have HP2 : Hid (w.heap.size + 1 + 1 < p2 ∧ p2 ≤ w3.heap.size ∧ w2.heap.size ≤ p2) := by
    have h1 := hB2.size; have h2 := HE.out
    rw [← hp2] at h1 h2
    exact ⟨h2, h1, by rw [hp2]; simp⟩
  rw [← hp2] at o2 ⊢
  have Q1_2 := Lib.hid (O1.out.later hB2)
  clear O1
  have O1 := Q1_2
  clear Q1_2
  have O2 := Lib.hid o2
  clear o2 hB2 hp2 U1 HE
  have x2 := cell_at (o := 2) S2.out.ot rfl
  have z2 := frozen_at 2 S2.out.ot
  have hne : (w.heap.size = w.heap.size + 1 + 1) = False := by simp; omega
  have x0 := cell_at (o := 0) S2.out.ot rfl
  have x1 := cell_at (o := 1) S2.out.ot rfl
  have x3 := cell_at (o := 3) S2.out.ot rfl
  have z3 := frozen_at 3 S2.out.ot
  have y3 := cell_at (o := 3) S2.out.bx rfl
  have g0 := cell_at (o := 0) S2.out.rv rfl
  have k0 := frozen_at 0 S2.out.rv
  have g1 := cell_at (o := 1) S2.out.rv rfl
  have k1 := frozen_at 1 S2.out.rv
  have g2 := cell_at (o := 2) S2.out.rv rfl
  have k2 := frozen_at 2 S2.out.rv
  have g3 := cell_at (o := 3) S2.out.rv rfl
  have k3 := frozen_at 3 S2.out.rv
  go_wp2_with fail
  refine bodyPost_ret (v := .agg #[.string ⟨x.nm.toArray⟩, .slice (some ⟨p1, 0, none⟩) x.cols.length x.cols.length, .slice (some ⟨p2, 0, none⟩) x.uq.length x.uq.length, .bool x.rt]) (by simp [results, Tryz.results40, go_sem, *]) rfl ?_
  have FF : Frm (fun c => c = w.heap.size + 1 ∨ c = w.heap.size + 1 + 1) w3 ((((((w3.setCell ⟨w.heap.size + 1 + 1, 2, none⟩ (.slice (some ⟨p2, 0, none⟩) x.uq.length x.uq.length)).setCell ⟨w.heap.size + 1 + 1, 3, none⟩ (.bool x.rt)).setCell ⟨w.heap.size + 1, 0, none⟩ (.string ⟨x.nm.toArray⟩)).setCell ⟨w.heap.size + 1, 1, none⟩ (.slice (some ⟨p1, 0, none⟩) x.cols.length x.cols.length)).setCell ⟨w.heap.size + 1, 2, none⟩ (.slice (some ⟨p2, 0, none⟩) x.uq.length x.uq.length)).setCell ⟨w.heap.size + 1, 3, none⟩ (.bool x.rt)) := by
    refine Frm.set ?_ (.inl rfl) _
    refine Frm.set ?_ (.inl rfl) _
    refine Frm.set ?_ (.inl rfl) _
    refine Frm.set ?_ (.inl rfl) _
    refine Frm.set ?_ (.inr rfl) _
    refine Frm.set ?_ (.inr rfl) _
    exact Frm.refl _ _
  have hsz : ((((((w3.setCell ⟨w.heap.size + 1 + 1, 2, none⟩ (.slice (some ⟨p2, 0, none⟩) x.uq.length x.uq.length)).setCell ⟨w.heap.size + 1 + 1, 3, none⟩ (.bool x.rt)).setCell ⟨w.heap.size + 1, 0, none⟩ (.string ⟨x.nm.toArray⟩)).setCell ⟨w.heap.size + 1, 1, none⟩ (.slice (some ⟨p1, 0, none⟩) x.cols.length x.cols.length)).setCell ⟨w.heap.size + 1, 2, none⟩ (.slice (some ⟨p2, 0, none⟩) x.uq.length x.uq.length)).setCell ⟨w.heap.size + 1, 3, none⟩ (.bool x.rt)).heap.size = w3.heap.size := by simp
  refine ⟨p1, p2, rfl, ⟨fun j c => (j = 1 ∧ p1 ≤ c ∧ c < w2.heap.size) ∨ (j = 2 ∧ p2 ≤ c ∧ c < w3.heap.size), fun j c hc => ?_, fun j j' c h h' => ?_, fun j hj => ?_⟩, ?_⟩
  · have h1 := HP1.out; have h2 := HP2.out; rw [hsz]; omega
  · have h1 := HP1.out; have h2 := HP2.out; omega
  · rcases (by omega : j = 0 ∨ j = 1 ∨ j = 2 ∨ j = 3) with rfl | rfl | rfl | rfl
    · rfl
    · exact (O1.out.frm FF (fun c hc hF => by have h1 := HP1.out; have h2 := hc.1; rcases hF with rfl | rfl <;> omega)).mono (fun c hc => .inl ⟨rfl, hc⟩)
    · exact (O2.out.frm FF (fun c hc hF => by have h1 := HP2.out; have h2 := hc.1; rcases hF with rfl | rfl <;> omega)).mono (fun c hc => .inr ⟨rfl, hc⟩)
    · rfl
  · exact ((((((S2.out.bel.setCell (by simp <;> omega) _).setCell (by simp <;> omega) _).setCell (by simp <;> omega) _).setCell (by simp <;> omega) _).setCell (by simp <;> omega) _).setCell (by simp <;> omega) _)
set_option maxRecDepth 100000 in
set_option maxHeartbeats 1600000 in
theorem eqDTable (x : Tb) (a1 : Option Addr) (c1 : Nat) (a2 : Option Addr) (c2 : Nat) (a1' : Option Addr) (c1' : Nat) (a2' : Option Addr) (c2' : Nat) (A B : Nat → Prop) (w : World) (ho : ∀ j, j < 4 → (dTable x j).le maxLen) (r1 : Rd w A (dColumnS x.cols) (.slice a1 x.cols.length c1)) (r2 : Rd w A (dIntS x.uq) (.slice a2 x.uq.length c2)) (r1' : Rd w B (dColumnS x.cols) (.slice a1' x.cols.length c1')) (r2' : Rd w B (dIntS x.uq) (.slice a2' x.uq.length c2')) :
    Calls Tryz.prog 51 #[.agg #[.string ⟨x.nm.toArray⟩, .slice a1 x.cols.length c1, .slice a2 x.uq.length c2, .bool x.rt], .agg #[.string ⟨x.nm.toArray⟩, .slice a1' x.cols.length c1', .slice a2' x.uq.length c2', .bool x.rt]] w fun e w' => e = .returned (.bool true) ∧ Below w.heap.size w w' := by
  have hb : Box2D 70 w ((w.alloc (.cells #[.string ⟨x.nm.toArray⟩, .slice a1 x.cols.length c1, .slice a2 x.uq.length c2, .bool x.rt] 70)).alloc (.cells #[.string ⟨x.nm.toArray⟩, .slice a1' x.cols.length c1', .slice a2' x.uq.length c2', .bool x.rt] 70)) #[.string ⟨x.nm.toArray⟩, .slice a1 x.cols.length c1, .slice a2 x.uq.length c2, .bool x.rt] #[.string ⟨x.nm.toArray⟩, .slice a1' x.cols.length c1', .slice a2' x.uq.length c2', .bool x.rt] := box2D _ _ _ _
  have E1 : Hid (∀ W, Below w.heap.size w W → Calls Tryz.prog 82 #[.slice a1 x.cols.length c1, .slice a1' x.cols.length c1'] W fun e w' => e = .returned (.bool true) ∧ Below W.heap.size W w') := fun W h => eqDColumnS x.cols a1 c1 a1' c1' A B W (ho 1 (by omega)) (r1.later h) (r1'.later h)
  have E2 : Hid (∀ W, Below w.heap.size w W → Calls Tryz.prog 83 #[.slice a2 x.uq.length c2, .slice a2' x.uq.length c2'] W fun e w' => e = .returned (.bool true) ∧ Below W.heap.size W w') := fun W h => eqDIntS x.uq a2 c2 a2' c2' A B W (ho 2 (by omega)) (r2.later h) (r2'.later h)
  have HB := Lib.hid hb
  clear ho hb r1 r1' r2 r2'
  go_enter Tryz.func51, Tryz.ntmps51
  have x0 := cell_at (o := 0) HB.out.a rfl
  have y0 := cell_at (o := 0) HB.out.b rfl
  have x1 := cell_at (o := 1) HB.out.a rfl
  have y1 := cell_at (o := 1) HB.out.b rfl
  have x2 := cell_at (o := 2) HB.out.a rfl
  have y2 := cell_at (o := 2) HB.out.b rfl
  have x3 := cell_at (o := 3) HB.out.a rfl
  have y3 := cell_at (o := 3) HB.out.b rfl
  go_wp2_with fail
  refine (E1.out _ HB.out.bel).mono ?_
  rintro e w2 ⟨rfl, hB1⟩
  have H1 := Lib.hid (HB.out.later hB1)
  clear hB1 HB x0 y0 x1 y1 x2 y2 x3 y3
  have x0 := cell_at (o := 0) H1.out.a rfl
  have y0 := cell_at (o := 0) H1.out.b rfl
  have x1 := cell_at (o := 1) H1.out.a rfl
  have y1 := cell_at (o := 1) H1.out.b rfl
  have x2 := cell_at (o := 2) H1.out.a rfl
  have y2 := cell_at (o := 2) H1.out.b rfl
  have x3 := cell_at (o := 3) H1.out.a rfl
  have y3 := cell_at (o := 3) H1.out.b rfl
  go_wp2_with fail
  refine (E2.out _ H1.out.bel).mono ?_
  rintro e w3 ⟨rfl, hB2⟩
  have H2 := Lib.hid (H1.out.later hB2)
  clear hB2 H1 x0 y0 x1 y1 x2 y2 x3 y3
  have x0 := cell_at (o := 0) H2.out.a rfl
  have y0 := cell_at (o := 0) H2.out.b rfl
  have x1 := cell_at (o := 1) H2.out.a rfl
  have y1 := cell_at (o := 1) H2.out.b rfl
  have x2 := cell_at (o := 2) H2.out.a rfl
  have y2 := cell_at (o := 2) H2.out.b rfl
  have x3 := cell_at (o := 3) H2.out.a rfl
  have y3 := cell_at (o := 3) H2.out.b rfl
  go_wp2_with fail
  go_ret
  exact ⟨rfl, H2.out.bel⟩
def dTableS (l : List Tb) : D := Ls 4 dTable l
set_option maxHeartbeats 1600000 in
theorem szDTableS (l : List Tb) (a : Option Addr) (c : Nat) (L : Int) (B : Nat → Prop) (w : World) (h0 : 0 ≤ L) (h1 : L ≤ 1048576) (ho : (dTableS l).le maxLen) (hS : Rd w B (dTableS l) (.slice a l.length c)) :
    Calls Tryz.prog 15 #[.slice a l.length c, .int .i64 L] w fun e w' => e = .returned (.int .i64 (lessI L (dTableS l).sz)) ∧ Below w.heap.size w w' := by
  have hl : l.length ≤ maxLen := (Ls_le.1 ho).2.1
  unfold maxLen at hl
  have HX : Hid (∀ i (h : i < l.length) j, j < 4 → (dTable l[i] j).le maxLen) := (Ls_le.1 ho).2.2
  have HS : Hid (Rd w B (Ls 4 dTable l) (.slice a l.length c)) := hS
  have HZ : Hid ((dTableS l).sz = l.length + szL 4 dTable l l.length) := Ls_sz
  clear hS ho
  by_cases hn : L - (l.length : Int) < 0
  · have HR : Hid (lessI L (dTableS l).sz = -1) := by have := HZ.out; show lessI L (dTableS l).sz = -1; unfold lessI; rw [if_neg (by omega)]
    go_enter Tryz.func15, Tryz.ntmps15
    go_wp2_with fail
    go_ret
    exact ⟨ret_i HR.out.symm, Below.refl _ _⟩
  go_enter Tryz.func15, Tryz.ntmps15
  go_wp2_with fail
  go_loopw [1, 5] (fun t i wr => ∃ k : Nat, k ≤ l.length ∧ i = .int .i64 k ∧ ∃ m : Int, t = .int .i64 m ∧ 0 ≤ m ∧ m ≤ L ∧ Hid (m = L - (l.length + szL 4 dTable l k : Nat) ∧ Below w.heap.size w wr)) (fun _ i _ => l.length - (intOf i).toNat)
  case atStart => exact ⟨0, Nat.zero_le _, rfl, L - l.length, rfl, by omega, by omega, by show _ = _; rw [szL_zero]; omega, Below.refl _ _⟩
  case round =>
    obtain ⟨k, hk, rfl, m, rfl, hm0, hmL, HM⟩ := hrel
    by_cases hlt : k < l.length
    case neg =>
      have HR : Hid (lessI L (dTableS l).sz = m) := by
        have h1 := HM.out.1; have h2 := HZ.out
        have hk' : k = l.length := by omega
        rw [hk'] at h1
        show lessI L (dTableS l).sz = m
        unfold lessI; rw [if_pos (by omega)]; omega
      go_wp2_with fail
      go_ret
      exact ⟨ret_i HR.out.symm, HM.out.2⟩
    obtain ⟨b, off, rfl, -, hc⟩ := (HS.out.later HM.out.2).things k hlt
    have HSU : Hid (szL 4 dTable l (k + 1) = szL 4 dTable l k + szT 4 (dTable l[k])) := szL_succ hlt
    have HLE : Hid (szL 4 dTable l (k + 1) ≤ szL 4 dTable l l.length) := szL_mono (by omega)
    have HXK := Lib.hid (HX.out k hlt)
    obtain ⟨u0, c0, r0⟩ := hc 0 (by omega)
    obtain rfl : u0 = .string ⟨l[k].nm.toArray⟩ := r0
    replace c0 : wr.cell? ⟨b, off + k * 4, none⟩ = _ := c0
    obtain ⟨u1, c1, r1⟩ := hc 1 (by omega)
    replace r1 : Rd wr _ (dColumnS l[k].cols) u1 := r1
    obtain ⟨a1, q1, rfl⟩ := r1.lsSlice
    obtain ⟨u2, c2, r2⟩ := hc 2 (by omega)
    replace r2 : Rd wr _ (dIntS l[k].uq) u2 := r2
    obtain ⟨a2, q2, rfl⟩ := r2.lsSlice
    obtain ⟨u3, c3, r3⟩ := hc 3 (by omega)
    obtain rfl : u3 = .bool l[k].rt := r3
    clear hc
    generalize l[k] = x at *
    have CC := Lib.hid (szDTable x a1 q1 a2 q2 m B wr hm0 (by omega) HXK.out r1 r2)
    clear HXK r1 r2
    by_cases hz : m - (szT 4 (dTable x) : Int) < 0
    · have HR : Hid (lessI L (dTableS l).sz = -1) := by
        have h1 := HM.out.1; have h2 := HSU.out; have h3 := HLE.out; have h4 := HZ.out
        show lessI L (dTableS l).sz = -1
        unfold lessI; rw [if_neg (by omega)]
      rw [less_no hz] at CC
      go_wp2_with (go_at_call 30; refine CC.out.mono ?_; rintro e w1 ⟨rfl, hB1⟩)
      go_ret
      exact ⟨ret_i HR.out.symm, HM.out.2.trans (hB1.mono HM.out.2.size)⟩
    rw [less_yes (by omega)] at CC
    obtain ⟨m', hm'⟩ : ∃ m' : Int, m' = m - (szT 4 (dTable x) : Int) := ⟨_, rfl⟩
    rw [← hm'] at CC
    have hd : decide (m' < 0) = false := decide_eq_false (by omega)
    have HM' : Hid (m' = m - (szT 4 (dTable x) : Int) ∧ 0 ≤ m') := ⟨hm', by omega⟩
    clear hm' hz
    go_wp2_with (go_at_call 30; refine CC.out.mono ?_; rintro e w1 ⟨rfl, hB1⟩)
    go_roundw
    case rel =>
      have h1 := HM.out.1; have h2 := HSU.out; have h3 := HM'.out
      exact ⟨k + 1, by omega, by go_num, m', rfl, by omega, by omega, by show _ = _; omega, HM.out.2.trans (hB1.mono HM.out.2.size)⟩
    case measure => simp [intOf]; omega
theorem run_mkTableS (n : Nat) (hn : n ≤ 1048576) (w : World) :
    (Instr.makeSlice 35 (.int .i64 (n : Int)) (.int .i64 (n : Int))).run Tryz.prog w = .ok (.slice (some ⟨w.heap.size, 0, none⟩) n n) (w.alloc (.cells (madeCells #[.string ⟨#[]⟩, .slice none 0 0, .slice none 0 0, .bool false] (n * 4)) 70)) := by
  have h : (Tryz.prog.info? 70).map (fun i => (i.zero, i.size, i.bytes)) = some (some (.agg #[.string ⟨#[]⟩, .slice none 0 0, .slice none 0 0, .bool false]), 4, 72) := by kernel_rfl
  obtain ⟨i, hi, hzz⟩ := Option.map_eq_some_iff.1 h
  simp only [Prod.mk.injEq] at hzz
  obtain ⟨hz, hs, hb⟩ := hzz
  have hr := run_make (P := Tryz.prog) w 35 70 i _ Tryz.underlying35 hi hz .i64 .i64 n n (by omega) (Int.le_refl _) (by rw [hb]; omega) (by omega)
  rw [hr, hs]
  simp only [Int.toNat_natCast]
  rfl
set_option maxRecDepth 100000 in
set_option maxHeartbeats 3200000 in
theorem toDTableS (l : List Tb) (a : Option Addr) (c : Nat) (B : Nat → Prop) (w : World) (ho : (dTableS l).le 1048576) (hS : Rd w B (dTableS l) (.slice a l.length c)) :
    Calls Tryz.prog 20 #[.slice a l.length c] w fun e w' => e = .returned (.slice (some ⟨w.heap.size, 0, none⟩) l.length l.length) ∧ Own w' (dTableS l) (fun c => w.heap.size ≤ c ∧ c < w'.heap.size) (.slice (some ⟨w.heap.size, 0, none⟩) l.length l.length) ∧ Below w.heap.size w w' := by
  have HS : Hid (Rd w B (Ls 4 dTable l) (.slice a l.length c)) := hS
  have HX : Hid (∀ i (h : i < l.length) j, j < 4 → (dTable l[i] j).le 1048576) := (Ls_le.1 ho).2.2
  have hl : l.length ≤ 1048576 := (Ls_le.1 ho).2.1
  have hmk := run_mkTableS l.length hl
  clear hS ho
  go_enter Tryz.func20, Tryz.ntmps20
  go_wp2_with fail
  clear hmk
  go_loopw [4] (fun i wr => ∃ k : Nat, k ≤ l.length ∧ i = .int .i64 k ∧ Hid (Below w.heap.size w wr ∧ TS wr 70 4 l.length (lsF dTable l) w.heap.size k)) (fun i _ => l.length - (intOf i).toNat)
  case atStart => exact ⟨0, Nat.zero_le _, rfl, (Below.refl _ _).alloc (Nat.le_refl _) _, by have := TS.start w #[.string ⟨#[]⟩, .slice none 0 0, .slice none 0 0, .bool false] 70 4 l.length (lsF dTable l); exact this⟩
  case round =>
    obtain ⟨k, hk, rfl, HD⟩ := hrel
    by_cases hlt : k < l.length
    case neg =>
      have hk' : k = l.length := by omega
      have hki : decide ((k : Int) < (l.length : Int)) = false := decide_eq_false (by omega)
      go_wp2_with fail
      go_ret
      exact ⟨rfl, TS.done (by omega) (by have := HD.out.2; rw [hk'] at this; exact this), HD.out.1⟩
    have hki : (k : Int) < (l.length : Int) := by omega
    obtain ⟨b, off, rfl, -, hc⟩ := (HS.out.later HD.out.1).things k hlt
    have HXK := Lib.hid (HX.out k hlt)
    have HFA : Hid (lsF dTable l k = dTable l[k]) := lsF_at hlt
    obtain ⟨u0, c0, r0⟩ := hc 0 (by omega)
    obtain rfl : u0 = .string ⟨l[k].nm.toArray⟩ := r0
    replace c0 : wr.cell? ⟨b, off + k * 4, none⟩ = _ := c0
    obtain ⟨u1, c1, r1⟩ := hc 1 (by omega)
    replace r1 : Rd wr _ (dColumnS l[k].cols) u1 := r1
    obtain ⟨a1, q1, rfl⟩ := r1.lsSlice
    obtain ⟨u2, c2, r2⟩ := hc 2 (by omega)
    replace r2 : Rd wr _ (dIntS l[k].uq) u2 := r2
    obtain ⟨a2, q2, rfl⟩ := r2.lsSlice
    obtain ⟨u3, c3, r3⟩ := hc 3 (by omega)
    obtain rfl : u3 = .bool l[k].rt := r3
    clear hc
    generalize l[k] = x at *
    have CC := Lib.hid (toDTable x a1 q1 a2 q2 B wr HXK.out r1 r2)
    clear HXK r1 r2
    go_wp2_with fail
    refine CC.out.mono ?_
    rintro e w1 ⟨p1, p2, rfl, oc, hB1⟩
    have HST : Hid (TS ((((w1.setCell ⟨w.heap.size, k * 4, none⟩ (.string ⟨x.nm.toArray⟩)).setCell ⟨w.heap.size, k * 4 + 1, none⟩ (.slice (some ⟨p1, 0, none⟩) x.cols.length x.cols.length)).setCell ⟨w.heap.size, k * 4 + 2, none⟩ (.slice (some ⟨p2, 0, none⟩) x.uq.length x.uq.length)).setCell ⟨w.heap.size, k * 4 + 3, none⟩ (.bool x.rt)) 70 4 l.length (lsF dTable l) w.heap.size (k + 1)) := HD.out.2.step hB1 (vat [.string ⟨x.nm.toArray⟩, .slice (some ⟨p1, 0, none⟩) x.cols.length x.cols.length, .slice (some ⟨p2, 0, none⟩) x.uq.length x.uq.length, .bool x.rt]) (by rw [HFA.out]; exact oc)
    obtain ⟨g, hg⟩ := HD.out.2.row
    have hg1 := hg.of_block (hB1.block _ hg.lt)
    have e0 := hg1.cell (i := k * 4) (by omega)
    have z0 := hg1.frozen (k * 4)
    have e1 := hg1.cell (i := k * 4 + 1) (by omega)
    have z1 := hg1.frozen (k * 4 + 1)
    have e2 := hg1.cell (i := k * 4 + 2) (by omega)
    have z2 := hg1.frozen (k * 4 + 2)
    have e3 := hg1.cell (i := k * 4 + 3) (by omega)
    have z3 := hg1.frozen (k * 4 + 3)
    have HW := Lib.hid (HD.out.1.trans (hB1.mono HD.out.1.size))
    clear hg hg1 hB1 oc CC
    go_wp2_with fail
    go_roundw
    case rel => exact ⟨k + 1, by omega, by go_num, ((((HW.out.setCell (Nat.le_refl _) _).setCell (Nat.le_refl _) _).setCell (Nat.le_refl _) _).setCell (Nat.le_refl _) _), HST.out⟩
    case measure => simp [intOf]; omega
set_option maxRecDepth 100000 in
set_option maxHeartbeats 3200000 in
theorem eqDTableS (l : List Tb) (a : Option Addr) (c : Nat) (a' : Option Addr) (c' : Nat) (A B : Nat → Prop) (w : World) (ho : (dTableS l).le maxLen) (hA : Rd w A (dTableS l) (.slice a l.length c)) (hB : Rd w B (dTableS l) (.slice a' l.length c')) :
    Calls Tryz.prog 26 #[.slice a l.length c, .slice a' l.length c'] w fun e w' => e = .returned (.bool true) ∧ Below w.heap.size w w' := by
  have hl : l.length ≤ maxLen := (Ls_le.1 ho).2.1
  unfold maxLen at hl
  have HX : Hid (∀ i (h : i < l.length) j, j < 4 → (dTable l[i] j).le maxLen) := (Ls_le.1 ho).2.2
  have HA : Hid (∀ W, Below w.heap.size w W → Rd W A (Ls 4 dTable l) (.slice a l.length c)) := fun W h => Rd.later hA h
  have HB : Hid (∀ W, Below w.heap.size w W → Rd W B (Ls 4 dTable l) (.slice a' l.length c')) := fun W h => Rd.later hB h
  clear hA hB ho
  go_enter Tryz.func26, Tryz.ntmps26
  go_wp2_with fail
  go_loopw [5] (fun i wr => ∃ k : Nat, k ≤ l.length ∧ i = .int .i64 k ∧ Hid (Below w.heap.size w wr)) (fun i _ => l.length - (intOf i).toNat)
  case atStart => exact ⟨0, Nat.zero_le _, rfl, Below.refl _ _⟩
  case round =>
    obtain ⟨k, hk, rfl, HW⟩ := hrel
    by_cases hlt : k < l.length
    case neg =>
      have hki : decide ((k : Int) < (l.length : Int)) = false := by simp; omega
      go_wp2_with fail
      go_ret
      exact ⟨rfl, HW.out⟩
    obtain ⟨b, off, rfl, -, hc⟩ := (HA.out _ HW.out).things k hlt
    obtain ⟨mb, moff, rfl, -, hd⟩ := (HB.out _ HW.out).things k hlt
    have HXK := Lib.hid (HX.out k hlt)
    obtain ⟨u0, c0, r0⟩ := hc 0 (by omega)
    obtain rfl : u0 = .string ⟨l[k].nm.toArray⟩ := r0
    replace c0 : wr.cell? ⟨b, off + k * 4, none⟩ = _ := c0
    obtain ⟨u1, c1, r1⟩ := hc 1 (by omega)
    replace r1 : Rd wr _ (dColumnS l[k].cols) u1 := r1
    obtain ⟨a1, q1, rfl⟩ := r1.lsSlice
    obtain ⟨u2, c2, r2⟩ := hc 2 (by omega)
    replace r2 : Rd wr _ (dIntS l[k].uq) u2 := r2
    obtain ⟨a2, q2, rfl⟩ := r2.lsSlice
    obtain ⟨u3, c3, r3⟩ := hc 3 (by omega)
    obtain rfl : u3 = .bool l[k].rt := r3
    obtain ⟨mu0, mc0, mr0⟩ := hd 0 (by omega)
    obtain rfl : mu0 = .string ⟨l[k].nm.toArray⟩ := mr0
    replace mc0 : wr.cell? ⟨mb, moff + k * 4, none⟩ = _ := mc0
    obtain ⟨mu1, mc1, mr1⟩ := hd 1 (by omega)
    replace mr1 : Rd wr _ (dColumnS l[k].cols) mu1 := mr1
    obtain ⟨ma1, mq1, rfl⟩ := mr1.lsSlice
    obtain ⟨mu2, mc2, mr2⟩ := hd 2 (by omega)
    replace mr2 : Rd wr _ (dIntS l[k].uq) mu2 := mr2
    obtain ⟨ma2, mq2, rfl⟩ := mr2.lsSlice
    obtain ⟨mu3, mc3, mr3⟩ := hd 3 (by omega)
    obtain rfl : mu3 = .bool l[k].rt := mr3
    clear hc hd
    generalize l[k] = x at *
    have hki : (k : Int) < (l.length : Int) := by omega
    have EQ : Hid (∀ W, Below wr.heap.size wr W → Calls Tryz.prog 51 #[.agg #[.string ⟨x.nm.toArray⟩, .slice a1 x.cols.length q1, .slice a2 x.uq.length q2, .bool x.rt], .agg #[.string ⟨x.nm.toArray⟩, .slice ma1 x.cols.length mq1, .slice ma2 x.uq.length mq2, .bool x.rt]] W fun e w' => e = .returned (.bool true) ∧ Below W.heap.size W w') := fun W h => eqDTable x a1 q1 a2 q2 ma1 mq1 ma2 mq2 A B W HXK.out (r1.later h) (r2.later h) (mr1.later h) (mr2.later h)
    clear HXK r1 mr1 r2 mr2
    go_wp2_with fail
    go_region_with (go_at_call 51; refine (EQ.out _ (by first | exact Below.refl _ _ | exact (Below.refl _ _).drew)).mono ?_; rintro e w1 ⟨rfl, hB1⟩)
    all_goals
      go_wp2_with fail
      go_roundw
      case rel => exact ⟨k + 1, by omega, by go_num, HW.out.trans ((Below.refl _ _).drew.trans (hB1.mono (by first | exact HW.out.size | (have := HW.out.size; simpa using this))))⟩
      case measure => simp [intOf]; omega
structure ScV where
  tables : List Tb
def dSchema (x : ScV) : Nat → D
  | _ => dTableS x.tables
theorem szT_Schema (x : ScV) : szT 1 (dSchema x) = (dTableS x.tables).sz := by simp [szT, sumN, dSchema, D.sz]
set_option maxHeartbeats 1600000 in
theorem szDSchema (x : ScV) (a0 : Option Addr) (c0 : Nat) (L : Int) (B : Nat → Prop) (w : World) (h0 : 0 ≤ L) (h1 : L ≤ 1048576) (ho : ∀ j, j < 1 → (dSchema x j).le maxLen) (r0 : Rd w B (dTableS x.tables) (.slice a0 x.tables.length c0)) :
    Calls Tryz.prog 4 #[.agg #[.slice a0 x.tables.length c0], .int .i64 L] w fun e w' => e = .returned (.int .i64 (lessI L (szT 1 (dSchema x)))) ∧ Below w.heap.size w w' := by
  rw [szT_Schema]
  have HO := Lib.hid ho
  have R0 := Lib.hid r0
  have hx := boxD 24 w #[.slice a0 x.tables.length c0]
  clear ho r0
  have x0 := cell_at (o := 0) hx.1 rfl
  have bl : Hid (0 ≤ L ∧ L ≤ 1048576) := by show _ ∧ _; omega
  clear h0 h1
  go_enter Tryz.func4, Tryz.ntmps4
  go_wp2_with fail
  refine (szDTableS x.tables a0 c0 L B _ bl.out.1 bl.out.2 (HO.out 0 (by omega)) (R0.out.later hx.2)).mono ?_
  rintro e w1 ⟨rfl, hB1⟩
  have hx := hx.later hB1
  clear hB1 x0
  have x0 := cell_at (o := 0) hx.1 rfl
  by_cases hn0 : L - ((dTableS x.tables).sz : Int) < 0
  case pos =>
    have HR : Hid (lessI L ((dTableS x.tables).sz) = -1) := by have := bl.out; show lessI L ((dTableS x.tables).sz) = -1; unfold lessI; rw [if_neg (by omega)]
    rw [less_no hn0]
    go_wp2_with fail
    go_ret
    exact ⟨ret_i HR.out.symm, hx.2⟩
  rw [less_yes (by omega)]
  obtain ⟨L0, hL0⟩ : ∃ L0 : Int, L0 = L - ((dTableS x.tables).sz : Int) := ⟨_, rfl⟩
  rw [← hL0]
  have d0 : decide (L0 < 0) = false := decide_eq_false (by omega)
  have bL0 : Hid (0 ≤ L0 ∧ L0 ≤ 1048576) := by have := bl.out; show _ ∧ _; omega
  have HL0 := Lib.hid hL0
  have HR : Hid (lessI L ((dTableS x.tables).sz) = L0) := by have := HL0.out; have := bL0.out; show lessI L ((dTableS x.tables).sz) = L0; unfold lessI; rw [if_pos (by omega)]; omega
  clear hn0 hL0 bl
  have bl := bL0
  clear bL0
  go_wp2_with fail
  go_ret
  exact ⟨ret_i HR.out.symm, hx.2⟩
set_option maxRecDepth 100000 in
set_option maxHeartbeats 3200000 in
theorem toDSchema (x : ScV) (a0 : Option Addr) (c0 : Nat) (B : Nat → Prop) (w : World) (ho : ∀ j, j < 1 → (dSchema x j).le 1048576) (r0 : Rd w B (dTableS x.tables) (.slice a0 x.tables.length c0)) :
    Calls Tryz.prog 7 #[.agg #[.slice a0 x.tables.length c0]] w fun e w' => ∃ p0 : Nat, e = .returned (.agg #[.slice (some ⟨p0, 0, none⟩) x.tables.length x.tables.length]) ∧ Owns w' 1 (dSchema x) (vat [.slice (some ⟨p0, 0, none⟩) x.tables.length x.tables.length]) (fun c => w.heap.size ≤ c ∧ c < w'.heap.size) ∧ Below w.heap.size w w' := by
  have HO := Lib.hid ho
  have R0 := Lib.hid r0
  have T0 := Lib.hid (st3First w 24 37 #[.slice a0 x.tables.length c0] #[.slice none 0 0] #[.slice none 0 0])
  clear ho r0
  go_enter Tryz.func7, Tryz.ntmps7
  go_wp2_with fail
  have HE : Hid (w.heap.size + 1 + 1 < (((w.alloc (.cells #[.slice a0 x.tables.length c0] 24)).alloc (.cells #[.slice none 0 0] 37)).alloc (.cells #[.slice none 0 0] 37)).heap.size) := by show _ < _; simp
  refine (toDTableS x.tables a0 c0 B _ (HO.out 0 (by omega)) (R0.out.later T0.out.bel)).mono ?_
  rintro e w1 ⟨rfl, o0, hB0⟩
  have S0 := Lib.hid (T0.out.later hB0)
  obtain ⟨p0, hp0⟩ : ∃ p, p = (((w.alloc (.cells #[.slice a0 x.tables.length c0] 24)).alloc (.cells #[.slice none 0 0] 37)).alloc (.cells #[.slice none 0 0] 37)).heap.size := ⟨_, rfl⟩
  have HP0 : Hid (w.heap.size + 1 + 1 < p0 ∧ p0 ≤ w1.heap.size) := by
    have h1 := hB0.size; have h2 := HE.out
    rw [← hp0] at h1 h2
    exact ⟨h2, h1⟩
  rw [← hp0] at o0 ⊢
  have O0 := Lib.hid o0
  clear o0 hB0 hp0 T0 HE
  have x0 := cell_at (o := 0) S0.out.ot rfl
  have z0 := frozen_at 0 S0.out.ot
  have hne : (w.heap.size = w.heap.size + 1 + 1) = False := by simp; omega
  have g0 := cell_at (o := 0) S0.out.rv rfl
  have k0 := frozen_at 0 S0.out.rv
  go_wp2_with fail
  refine bodyPost_ret (v := .agg #[.slice (some ⟨p0, 0, none⟩) x.tables.length x.tables.length]) (by simp [results, Tryz.results7, go_sem, *]) rfl ?_
  have FF : Frm (fun c => c = w.heap.size + 1 ∨ c = w.heap.size + 1 + 1) w1 ((w1.setCell ⟨w.heap.size + 1 + 1, 0, none⟩ (.slice (some ⟨p0, 0, none⟩) x.tables.length x.tables.length)).setCell ⟨w.heap.size + 1, 0, none⟩ (.slice (some ⟨p0, 0, none⟩) x.tables.length x.tables.length)) := by
    refine Frm.set ?_ (.inl rfl) _
    refine Frm.set ?_ (.inr rfl) _
    exact Frm.refl _ _
  have hsz : ((w1.setCell ⟨w.heap.size + 1 + 1, 0, none⟩ (.slice (some ⟨p0, 0, none⟩) x.tables.length x.tables.length)).setCell ⟨w.heap.size + 1, 0, none⟩ (.slice (some ⟨p0, 0, none⟩) x.tables.length x.tables.length)).heap.size = w1.heap.size := by simp
  refine ⟨p0, rfl, ⟨fun j c => (j = 0 ∧ p0 ≤ c ∧ c < w1.heap.size), fun j c hc => ?_, fun j j' c h h' => ?_, fun j hj => ?_⟩, ?_⟩
  · have h0 := HP0.out; rw [hsz]; omega
  · have h0 := HP0.out; omega
  · rcases (by omega : j = 0) with rfl
    · exact (O0.out.frm FF (fun c hc hF => by have h1 := HP0.out; have h2 := hc.1; rcases hF with rfl | rfl <;> omega)).mono (fun c hc => ⟨rfl, hc⟩)
  · exact ((S0.out.bel.setCell (by simp <;> omega) _).setCell (by simp <;> omega) _)
set_option maxRecDepth 100000 in
set_option maxHeartbeats 1600000 in
theorem eqDSchema (x : ScV) (a0 : Option Addr) (c0 : Nat) (a0' : Option Addr) (c0' : Nat) (A B : Nat → Prop) (w : World) (ho : ∀ j, j < 1 → (dSchema x j).le maxLen) (r0 : Rd w A (dTableS x.tables) (.slice a0 x.tables.length c0)) (r0' : Rd w B (dTableS x.tables) (.slice a0' x.tables.length c0')) :
    Calls Tryz.prog 11 #[.agg #[.slice a0 x.tables.length c0], .agg #[.slice a0' x.tables.length c0']] w fun e w' => e = .returned (.bool true) ∧ Below w.heap.size w w' := by
  have hb : Box2D 37 w ((w.alloc (.cells #[.slice a0 x.tables.length c0] 37)).alloc (.cells #[.slice a0' x.tables.length c0'] 37)) #[.slice a0 x.tables.length c0] #[.slice a0' x.tables.length c0'] := box2D _ _ _ _
  have E0 : Hid (∀ W, Below w.heap.size w W → Calls Tryz.prog 26 #[.slice a0 x.tables.length c0, .slice a0' x.tables.length c0'] W fun e w' => e = .returned (.bool true) ∧ Below W.heap.size W w') := fun W h => eqDTableS x.tables a0 c0 a0' c0' A B W (ho 0 (by omega)) (r0.later h) (r0'.later h)
  have HB := Lib.hid hb
  clear ho hb r0 r0'
  go_enter Tryz.func11, Tryz.ntmps11
  have x0 := cell_at (o := 0) HB.out.a rfl
  have y0 := cell_at (o := 0) HB.out.b rfl
  go_wp2_with fail
  refine (E0.out _ HB.out.bel).mono ?_
  rintro e w1 ⟨rfl, hB0⟩
  have H0 := Lib.hid (HB.out.later hB0)
  clear hB0 HB x0 y0
  have x0 := cell_at (o := 0) H0.out.a rfl
  have y0 := cell_at (o := 0) H0.out.b rfl
  go_wp2_with fail
  go_ret
  exact ⟨rfl, H0.out.bel⟩
end Go.Proofs.YtngbhifafdbpkaaGreat
