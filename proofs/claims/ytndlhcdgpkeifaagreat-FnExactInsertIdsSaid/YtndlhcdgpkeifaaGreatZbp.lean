import Derived.Test.YtndlhcdgpkeifaaGreatZaw
namespace Go.Proofs.YtndlhcdgpkeifaaGreat
open Go.RowKit
set_option linter.unusedSimpArgs false
def dOpS (l : List OpV) : D := Ls 8 dOp l
set_option maxHeartbeats 1600000 in
theorem szDOpS (l : List OpV) (a : Option Addr) (c : Nat) (L : Int) (B : Nat → Prop) (w : World) (h0 : 0 ≤ L) (h1 : L ≤ 1048576) (ho : (dOpS l).le maxLen) (hS : Rd w B (dOpS l) (.slice a l.length c)) :
    Calls Tryz.prog 4 #[.slice a l.length c, .int .i64 L] w fun e w' => e = .returned (.int .i64 (lessI L (dOpS l).sz)) ∧ Below w.heap.size w w' := by
  have hl : l.length ≤ maxLen := (Ls_le.1 ho).2.1
  unfold maxLen at hl
  have HX : Hid (∀ i (h : i < l.length) j, j < 8 → (dOp l[i] j).le maxLen) := (Ls_le.1 ho).2.2
  have HS : Hid (Rd w B (Ls 8 dOp l) (.slice a l.length c)) := hS
  have HZ : Hid ((dOpS l).sz = l.length + szL 8 dOp l l.length) := Ls_sz
  clear hS ho
  by_cases hn : L - (l.length : Int) < 0
  · have HR : Hid (lessI L (dOpS l).sz = -1) := by have := HZ.out; show lessI L (dOpS l).sz = -1; unfold lessI; rw [if_neg (by omega)]
    go_enter Tryz.func4, Tryz.ntmps4
    go_wp2_with fail
    go_ret
    exact ⟨ret_i HR.out.symm, Below.refl _ _⟩
  go_enter Tryz.func4, Tryz.ntmps4
  go_wp2_with fail
  go_loopw [1, 5] (fun t i wr => ∃ k : Nat, k ≤ l.length ∧ i = .int .i64 k ∧ ∃ m : Int, t = .int .i64 m ∧ 0 ≤ m ∧ m ≤ L ∧ Hid (m = L - (l.length + szL 8 dOp l k : Nat) ∧ Below w.heap.size w wr)) (fun _ i _ => l.length - (intOf i).toNat)
  case atStart => exact ⟨0, Nat.zero_le _, rfl, L - l.length, rfl, by omega, by omega, by show _ = _; rw [szL_zero]; omega, Below.refl _ _⟩
  case round =>
    obtain ⟨k, hk, rfl, m, rfl, hm0, hmL, HM⟩ := hrel
    by_cases hlt : k < l.length
    case neg =>
      have HR : Hid (lessI L (dOpS l).sz = m) := by
        have h1 := HM.out.1; have h2 := HZ.out
        have hk' : k = l.length := by omega
        rw [hk'] at h1
        show lessI L (dOpS l).sz = m
        unfold lessI; rw [if_pos (by omega)]; omega
      go_wp2_with fail
      go_ret
      exact ⟨ret_i HR.out.symm, HM.out.2⟩
    obtain ⟨b, off, rfl, -, hc⟩ := (HS.out.later HM.out.2).things k hlt
    have HSU : Hid (szL 8 dOp l (k + 1) = szL 8 dOp l k + szT 8 (dOp l[k])) := szL_succ hlt
    have HLE : Hid (szL 8 dOp l (k + 1) ≤ szL 8 dOp l l.length) := szL_mono (by omega)
    have HXK := Lib.hid (HX.out k hlt)
    obtain ⟨u0, c0, r0⟩ := hc 0 (by omega)
    obtain rfl : u0 = .int .i64 l[k].kd := r0
    replace c0 : wr.cell? ⟨b, off + k * 8, none⟩ = _ := c0
    obtain ⟨u1, c1, r1⟩ := hc 1 (by omega)
    obtain rfl : u1 = .string ⟨l[k].tb.toArray⟩ := r1
    obtain ⟨u2, c2, r2⟩ := hc 2 (by omega)
    obtain rfl : u2 = .string ⟨l[k].nm.toArray⟩ := r2
    obtain ⟨u3, c3, r3⟩ := hc 3 (by omega)
    replace r3 : Rd wr _ (dCondS l[k].wh) u3 := r3
    obtain ⟨a3, q3, rfl⟩ := r3.lsSlice
    obtain ⟨u4, c4, r4⟩ := hc 4 (by omega)
    replace r4 : Rd wr _ (dSetS l[k].row) u4 := r4
    obtain ⟨a4, q4, rfl⟩ := r4.lsSlice
    obtain ⟨u5, c5, r5⟩ := hc 5 (by omega)
    replace r5 : Rd wr _ (dMutS l[k].mu) u5 := r5
    obtain ⟨a5, q5, rfl⟩ := r5.lsSlice
    obtain ⟨u6, c6, r6⟩ := hc 6 (by omega)
    replace r6 : Rd wr _ (dStringS l[k].cs) u6 := r6
    obtain ⟨a6, q6, rfl⟩ := r6.lsSlice
    obtain ⟨u7, c7, r7⟩ := hc 7 (by omega)
    obtain rfl : u7 = .bool l[k].un := r7
    clear hc
    generalize l[k] = x at *
    have CC := Lib.hid (szDOp x a3 q3 a4 q4 a5 q5 a6 q6 m B wr hm0 (by omega) HXK.out r3 r4 r5 r6)
    clear HXK r3 r4 r5 r6
    by_cases hz : m - (szT 8 (dOp x) : Int) < 0
    · have HR : Hid (lessI L (dOpS l).sz = -1) := by
        have h1 := HM.out.1; have h2 := HSU.out; have h3 := HLE.out; have h4 := HZ.out
        show lessI L (dOpS l).sz = -1
        unfold lessI; rw [if_neg (by omega)]
      rw [less_no hz] at CC
      go_wp2_with (go_at_call 13; refine CC.out.mono ?_; rintro e w1 ⟨rfl, hB1⟩)
      go_ret
      exact ⟨ret_i HR.out.symm, HM.out.2.trans (hB1.mono HM.out.2.size)⟩
    rw [less_yes (by omega)] at CC
    obtain ⟨m', hm'⟩ : ∃ m' : Int, m' = m - (szT 8 (dOp x) : Int) := ⟨_, rfl⟩
    rw [← hm'] at CC
    have hd : decide (m' < 0) = false := decide_eq_false (by omega)
    have HM' : Hid (m' = m - (szT 8 (dOp x) : Int) ∧ 0 ≤ m') := ⟨hm', by omega⟩
    clear hm' hz
    go_wp2_with (go_at_call 13; refine CC.out.mono ?_; rintro e w1 ⟨rfl, hB1⟩)
    go_roundw
    case rel =>
      have h1 := HM.out.1; have h2 := HSU.out; have h3 := HM'.out
      exact ⟨k + 1, by omega, by go_num, m', rfl, by omega, by omega, by show _ = _; omega, HM.out.2.trans (hB1.mono HM.out.2.size)⟩
    case measure => simp [intOf]; omega
theorem run_mkOpS (n : Nat) (hn : n ≤ 1048576) (w : World) :
    (Instr.makeSlice 27 (.int .i64 (n : Int)) (.int .i64 (n : Int))).run Tryz.prog w = .ok (.slice (some ⟨w.heap.size, 0, none⟩) n n) (w.alloc (.cells (madeCells #[.int .i64 0, .string ⟨#[]⟩, .string ⟨#[]⟩, .slice none 0 0, .slice none 0 0, .slice none 0 0, .slice none 0 0, .bool false] (n * 8)) 48)) := by
  have h : (Tryz.prog.info? 48).map (fun i => (i.zero, i.size, i.bytes)) = some (some (.agg #[.int .i64 0, .string ⟨#[]⟩, .string ⟨#[]⟩, .slice none 0 0, .slice none 0 0, .slice none 0 0, .slice none 0 0, .bool false]), 8, 144) := by kernel_rfl
  obtain ⟨i, hi, hzz⟩ := Option.map_eq_some_iff.1 h
  simp only [Prod.mk.injEq] at hzz
  obtain ⟨hz, hs, hb⟩ := hzz
  have hr := run_make (P := Tryz.prog) w 27 48 i _ Tryz.underlying27 hi hz .i64 .i64 n n (by omega) (Int.le_refl _) (by rw [hb]; omega) (by omega)
  rw [hr, hs]
  simp only [Int.toNat_natCast]
  rfl
set_option maxRecDepth 100000 in
set_option maxHeartbeats 3200000 in
theorem toDOpS (l : List OpV) (a : Option Addr) (c : Nat) (B : Nat → Prop) (w : World) (ho : (dOpS l).le 1048576) (hS : Rd w B (dOpS l) (.slice a l.length c)) :
    Calls Tryz.prog 6 #[.slice a l.length c] w fun e w' => e = .returned (.slice (some ⟨w.heap.size, 0, none⟩) l.length l.length) ∧ Own w' (dOpS l) (fun c => w.heap.size ≤ c ∧ c < w'.heap.size) (.slice (some ⟨w.heap.size, 0, none⟩) l.length l.length) ∧ Below w.heap.size w w' := by
  have HS : Hid (Rd w B (Ls 8 dOp l) (.slice a l.length c)) := hS
  have HX : Hid (∀ i (h : i < l.length) j, j < 8 → (dOp l[i] j).le 1048576) := (Ls_le.1 ho).2.2
  have hl : l.length ≤ 1048576 := (Ls_le.1 ho).2.1
  have hmk := run_mkOpS l.length hl
  clear hS ho
  go_enter Tryz.func6, Tryz.ntmps6
  go_wp2_with fail
  clear hmk
  go_loopw [4] (fun i wr => ∃ k : Nat, k ≤ l.length ∧ i = .int .i64 k ∧ Hid (Below w.heap.size w wr ∧ TS wr 48 8 l.length (lsF dOp l) w.heap.size k)) (fun i _ => l.length - (intOf i).toNat)
  case atStart => exact ⟨0, Nat.zero_le _, rfl, (Below.refl _ _).alloc (Nat.le_refl _) _, by have := TS.start w #[.int .i64 0, .string ⟨#[]⟩, .string ⟨#[]⟩, .slice none 0 0, .slice none 0 0, .slice none 0 0, .slice none 0 0, .bool false] 48 8 l.length (lsF dOp l); exact this⟩
  case round =>
    obtain ⟨k, hk, rfl, HD⟩ := hrel
    by_cases hlt : k < l.length
    case neg =>
      have hk' : k = l.length := by omega
      have hki : decide ((k : Int) < (l.length : Int)) = false := decide_eq_false (by omega)
      go_wp2_with fail
      go_ret
      exact ⟨rfl, TS.done (by omega) (by have := HD.out.2; rw [hk'] at this; exact this), HD.out.1⟩
    have hki : (k : Int) < (l.length : Int) := by omega
    obtain ⟨b, off, rfl, -, hc⟩ := (HS.out.later HD.out.1).things k hlt
    have HXK := Lib.hid (HX.out k hlt)
    have HFA : Hid (lsF dOp l k = dOp l[k]) := lsF_at hlt
    obtain ⟨u0, c0, r0⟩ := hc 0 (by omega)
    obtain rfl : u0 = .int .i64 l[k].kd := r0
    replace c0 : wr.cell? ⟨b, off + k * 8, none⟩ = _ := c0
    obtain ⟨u1, c1, r1⟩ := hc 1 (by omega)
    obtain rfl : u1 = .string ⟨l[k].tb.toArray⟩ := r1
    obtain ⟨u2, c2, r2⟩ := hc 2 (by omega)
    obtain rfl : u2 = .string ⟨l[k].nm.toArray⟩ := r2
    obtain ⟨u3, c3, r3⟩ := hc 3 (by omega)
    replace r3 : Rd wr _ (dCondS l[k].wh) u3 := r3
    obtain ⟨a3, q3, rfl⟩ := r3.lsSlice
    obtain ⟨u4, c4, r4⟩ := hc 4 (by omega)
    replace r4 : Rd wr _ (dSetS l[k].row) u4 := r4
    obtain ⟨a4, q4, rfl⟩ := r4.lsSlice
    obtain ⟨u5, c5, r5⟩ := hc 5 (by omega)
    replace r5 : Rd wr _ (dMutS l[k].mu) u5 := r5
    obtain ⟨a5, q5, rfl⟩ := r5.lsSlice
    obtain ⟨u6, c6, r6⟩ := hc 6 (by omega)
    replace r6 : Rd wr _ (dStringS l[k].cs) u6 := r6
    obtain ⟨a6, q6, rfl⟩ := r6.lsSlice
    obtain ⟨u7, c7, r7⟩ := hc 7 (by omega)
    obtain rfl : u7 = .bool l[k].un := r7
    clear hc
    generalize l[k] = x at *
    have CC := Lib.hid (toDOp x a3 q3 a4 q4 a5 q5 a6 q6 B wr HXK.out r3 r4 r5 r6)
    clear HXK r3 r4 r5 r6
    go_wp2_with fail
    refine CC.out.mono ?_
    rintro e w1 ⟨p3, p4, p5, p6, rfl, oc, hB1⟩
    have HST : Hid (TS ((((((((w1.setCell ⟨w.heap.size, k * 8, none⟩ (.int .i64 x.kd)).setCell ⟨w.heap.size, k * 8 + 1, none⟩ (.string ⟨x.tb.toArray⟩)).setCell ⟨w.heap.size, k * 8 + 2, none⟩ (.string ⟨x.nm.toArray⟩)).setCell ⟨w.heap.size, k * 8 + 3, none⟩ (.slice (some ⟨p3, 0, none⟩) x.wh.length x.wh.length)).setCell ⟨w.heap.size, k * 8 + 4, none⟩ (.slice (some ⟨p4, 0, none⟩) x.row.length x.row.length)).setCell ⟨w.heap.size, k * 8 + 5, none⟩ (.slice (some ⟨p5, 0, none⟩) x.mu.length x.mu.length)).setCell ⟨w.heap.size, k * 8 + 6, none⟩ (.slice (some ⟨p6, 0, none⟩) x.cs.length x.cs.length)).setCell ⟨w.heap.size, k * 8 + 7, none⟩ (.bool x.un)) 48 8 l.length (lsF dOp l) w.heap.size (k + 1)) := HD.out.2.step hB1 (vat [.int .i64 x.kd, .string ⟨x.tb.toArray⟩, .string ⟨x.nm.toArray⟩, .slice (some ⟨p3, 0, none⟩) x.wh.length x.wh.length, .slice (some ⟨p4, 0, none⟩) x.row.length x.row.length, .slice (some ⟨p5, 0, none⟩) x.mu.length x.mu.length, .slice (some ⟨p6, 0, none⟩) x.cs.length x.cs.length, .bool x.un]) (by rw [HFA.out]; exact oc)
    obtain ⟨g, hg⟩ := HD.out.2.row
    have hg1 := hg.of_block (hB1.block _ hg.lt)
    have e0 := hg1.cell (i := k * 8) (by omega)
    have z0 := hg1.frozen (k * 8)
    have e1 := hg1.cell (i := k * 8 + 1) (by omega)
    have z1 := hg1.frozen (k * 8 + 1)
    have e2 := hg1.cell (i := k * 8 + 2) (by omega)
    have z2 := hg1.frozen (k * 8 + 2)
    have e3 := hg1.cell (i := k * 8 + 3) (by omega)
    have z3 := hg1.frozen (k * 8 + 3)
    have e4 := hg1.cell (i := k * 8 + 4) (by omega)
    have z4 := hg1.frozen (k * 8 + 4)
    have e5 := hg1.cell (i := k * 8 + 5) (by omega)
    have z5 := hg1.frozen (k * 8 + 5)
    have e6 := hg1.cell (i := k * 8 + 6) (by omega)
    have z6 := hg1.frozen (k * 8 + 6)
    have e7 := hg1.cell (i := k * 8 + 7) (by omega)
    have z7 := hg1.frozen (k * 8 + 7)
    have HW := Lib.hid (HD.out.1.trans (hB1.mono HD.out.1.size))
    clear hg hg1 hB1 oc CC
    go_wp2_with fail
    go_roundw
    case rel => exact ⟨k + 1, by omega, by go_num, ((((((((HW.out.setCell (Nat.le_refl _) _).setCell (Nat.le_refl _) _).setCell (Nat.le_refl _) _).setCell (Nat.le_refl _) _).setCell (Nat.le_refl _) _).setCell (Nat.le_refl _) _).setCell (Nat.le_refl _) _).setCell (Nat.le_refl _) _), HST.out⟩
    case measure => simp [intOf]; omega
set_option maxRecDepth 100000 in
set_option maxHeartbeats 3200000 in
theorem eqDOpS (l : List OpV) (a : Option Addr) (c : Nat) (a' : Option Addr) (c' : Nat) (A B : Nat → Prop) (w : World) (ho : (dOpS l).le maxLen) (hA : Rd w A (dOpS l) (.slice a l.length c)) (hB : Rd w B (dOpS l) (.slice a' l.length c')) :
    Calls Tryz.prog 9 #[.slice a l.length c, .slice a' l.length c'] w fun e w' => e = .returned (.bool true) ∧ Below w.heap.size w w' := by
  have hl : l.length ≤ maxLen := (Ls_le.1 ho).2.1
  unfold maxLen at hl
  have HX : Hid (∀ i (h : i < l.length) j, j < 8 → (dOp l[i] j).le maxLen) := (Ls_le.1 ho).2.2
  have HA : Hid (∀ W, Below w.heap.size w W → Rd W A (Ls 8 dOp l) (.slice a l.length c)) := fun W h => Rd.later hA h
  have HB : Hid (∀ W, Below w.heap.size w W → Rd W B (Ls 8 dOp l) (.slice a' l.length c')) := fun W h => Rd.later hB h
  clear hA hB ho
  go_enter Tryz.func9, Tryz.ntmps9
  go_wp2_with fail
  go_loopw [5] (fun i wr => ∃ k : Nat, k ≤ l.length ∧ i = .int .i64 k ∧ Hid (Below w.heap.size w wr)) (fun i _ => l.length - (intOf i).toNat)
  case atStart => exact ⟨0, Nat.zero_le _, rfl, Below.refl _ _⟩
  case round =>
    obtain ⟨k, hk, rfl, HW⟩ := hrel
    by_cases hlt : k < l.length
    case neg =>
      have hki : decide ((k : Int) < (l.length : Int)) = false := by simp; omega
      go_wp2_with fail
      go_ret
      exact ⟨rfl, HW.out⟩
    obtain ⟨b, off, rfl, -, hc⟩ := (HA.out _ HW.out).things k hlt
    obtain ⟨mb, moff, rfl, -, hd⟩ := (HB.out _ HW.out).things k hlt
    have HXK := Lib.hid (HX.out k hlt)
    obtain ⟨u0, c0, r0⟩ := hc 0 (by omega)
    obtain rfl : u0 = .int .i64 l[k].kd := r0
    replace c0 : wr.cell? ⟨b, off + k * 8, none⟩ = _ := c0
    obtain ⟨u1, c1, r1⟩ := hc 1 (by omega)
    obtain rfl : u1 = .string ⟨l[k].tb.toArray⟩ := r1
    obtain ⟨u2, c2, r2⟩ := hc 2 (by omega)
    obtain rfl : u2 = .string ⟨l[k].nm.toArray⟩ := r2
    obtain ⟨u3, c3, r3⟩ := hc 3 (by omega)
    replace r3 : Rd wr _ (dCondS l[k].wh) u3 := r3
    obtain ⟨a3, q3, rfl⟩ := r3.lsSlice
    obtain ⟨u4, c4, r4⟩ := hc 4 (by omega)
    replace r4 : Rd wr _ (dSetS l[k].row) u4 := r4
    obtain ⟨a4, q4, rfl⟩ := r4.lsSlice
    obtain ⟨u5, c5, r5⟩ := hc 5 (by omega)
    replace r5 : Rd wr _ (dMutS l[k].mu) u5 := r5
    obtain ⟨a5, q5, rfl⟩ := r5.lsSlice
    obtain ⟨u6, c6, r6⟩ := hc 6 (by omega)
    replace r6 : Rd wr _ (dStringS l[k].cs) u6 := r6
    obtain ⟨a6, q6, rfl⟩ := r6.lsSlice
    obtain ⟨u7, c7, r7⟩ := hc 7 (by omega)
    obtain rfl : u7 = .bool l[k].un := r7
    obtain ⟨mu0, mc0, mr0⟩ := hd 0 (by omega)
    obtain rfl : mu0 = .int .i64 l[k].kd := mr0
    replace mc0 : wr.cell? ⟨mb, moff + k * 8, none⟩ = _ := mc0
    obtain ⟨mu1, mc1, mr1⟩ := hd 1 (by omega)
    obtain rfl : mu1 = .string ⟨l[k].tb.toArray⟩ := mr1
    obtain ⟨mu2, mc2, mr2⟩ := hd 2 (by omega)
    obtain rfl : mu2 = .string ⟨l[k].nm.toArray⟩ := mr2
    obtain ⟨mu3, mc3, mr3⟩ := hd 3 (by omega)
    replace mr3 : Rd wr _ (dCondS l[k].wh) mu3 := mr3
    obtain ⟨ma3, mq3, rfl⟩ := mr3.lsSlice
    obtain ⟨mu4, mc4, mr4⟩ := hd 4 (by omega)
    replace mr4 : Rd wr _ (dSetS l[k].row) mu4 := mr4
    obtain ⟨ma4, mq4, rfl⟩ := mr4.lsSlice
    obtain ⟨mu5, mc5, mr5⟩ := hd 5 (by omega)
    replace mr5 : Rd wr _ (dMutS l[k].mu) mu5 := mr5
    obtain ⟨ma5, mq5, rfl⟩ := mr5.lsSlice
    obtain ⟨mu6, mc6, mr6⟩ := hd 6 (by omega)
    replace mr6 : Rd wr _ (dStringS l[k].cs) mu6 := mr6
    obtain ⟨ma6, mq6, rfl⟩ := mr6.lsSlice
    obtain ⟨mu7, mc7, mr7⟩ := hd 7 (by omega)
    obtain rfl : mu7 = .bool l[k].un := mr7
    clear hc hd
    generalize l[k] = x at *
    have hki : (k : Int) < (l.length : Int) := by omega
    have EQ : Hid (∀ W, Below wr.heap.size wr W → Calls Tryz.prog 21 #[.agg #[.int .i64 x.kd, .string ⟨x.tb.toArray⟩, .string ⟨x.nm.toArray⟩, .slice a3 x.wh.length q3, .slice a4 x.row.length q4, .slice a5 x.mu.length q5, .slice a6 x.cs.length q6, .bool x.un], .agg #[.int .i64 x.kd, .string ⟨x.tb.toArray⟩, .string ⟨x.nm.toArray⟩, .slice ma3 x.wh.length mq3, .slice ma4 x.row.length mq4, .slice ma5 x.mu.length mq5, .slice ma6 x.cs.length mq6, .bool x.un]] W fun e w' => e = .returned (.bool true) ∧ Below W.heap.size W w') := fun W h => eqDOp x a3 q3 a4 q4 a5 q5 a6 q6 ma3 mq3 ma4 mq4 ma5 mq5 ma6 mq6 A B W HXK.out (r3.later h) (r4.later h) (r5.later h) (r6.later h) (mr3.later h) (mr4.later h) (mr5.later h) (mr6.later h)
    clear HXK r3 mr3 r4 mr4 r5 mr5 r6 mr6
    go_wp2_with fail
    go_region_with (go_at_call 21; refine (EQ.out _ (by first | exact Below.refl _ _ | exact (Below.refl _ _).drew)).mono ?_; rintro e w1 ⟨rfl, hB1⟩)
    all_goals
      go_wp2_with fail
      go_roundw
      case rel => exact ⟨k + 1, by omega, by go_num, HW.out.trans ((Below.refl _ _).drew.trans (hB1.mono (by first | exact HW.out.size | (have := HW.out.size; simpa using this))))⟩
      case measure => simp [intOf]; omega
end Go.Proofs.YtndlhcdgpkeifaaGreat
