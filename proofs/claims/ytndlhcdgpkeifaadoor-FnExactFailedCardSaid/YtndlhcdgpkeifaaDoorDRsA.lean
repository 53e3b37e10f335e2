import Derived.Test.YtndlhcdgpkeifaaDoorDReA
namespace Go.Proofs.YtndlhcdgpkeifaaDoor
open Go.RowKit
set_option linter.unusedSimpArgs false
def dResultS (l : List ResV) : D := Ls 5 dResult l
set_option maxHeartbeats 1600000 in
theorem szDResultS (l : List ResV) (a : Option Addr) (c : Nat) (L : Int) (B : Nat → Prop) (w : World) (h0 : 0 ≤ L) (h1 : L ≤ 1048576) (ho : (dResultS l).le maxLen) (hS : Rd w B (dResultS l) (.slice a l.length c)) :
    Calls Tryd.prog 4 #[.slice a l.length c, .int .i64 L] w fun e w' => e = .returned (.int .i64 (lessI L (dResultS l).sz)) ∧ Below w.heap.size w w' := by
  have hl : l.length ≤ maxLen := (Ls_le.1 ho).2.1
  unfold maxLen at hl
  have HX : Hid (∀ i (h : i < l.length) j, j < 5 → (dResult l[i] j).le maxLen) := (Ls_le.1 ho).2.2
  have HS : Hid (Rd w B (Ls 5 dResult l) (.slice a l.length c)) := hS
  have HZ : Hid ((dResultS l).sz = l.length + szL 5 dResult l l.length) := Ls_sz
  clear hS ho
  by_cases hn : L - (l.length : Int) < 0
  · have HR : Hid (lessI L (dResultS l).sz = -1) := by have := HZ.out; show lessI L (dResultS l).sz = -1; unfold lessI; rw [if_neg (by omega)]
    go_enter Tryd.func4, Tryd.ntmps4
    go_wp2_with fail
    go_ret
    exact ⟨ret_i HR.out.symm, Below.refl _ _⟩
  go_enter Tryd.func4, Tryd.ntmps4
  go_wp2_with fail
  go_loopw [1, 5] (fun t i wr => ∃ k : Nat, k ≤ l.length ∧ i = .int .i64 k ∧ ∃ m : Int, t = .int .i64 m ∧ 0 ≤ m ∧ m ≤ L ∧ Hid (m = L - (l.length + szL 5 dResult l k : Nat) ∧ Below w.heap.size w wr)) (fun _ i _ => l.length - (intOf i).toNat)
  case atStart => exact ⟨0, Nat.zero_le _, rfl, L - l.length, rfl, by omega, by omega, by show _ = _; rw [szL_zero]; omega, Below.refl _ _⟩
  case round =>
    obtain ⟨k, hk, rfl, m, rfl, hm0, hmL, HM⟩ := hrel
    by_cases hlt : k < l.length
    case neg =>
      have HR : Hid (lessI L (dResultS l).sz = m) := by
        have h1 := HM.out.1; have h2 := HZ.out
        have hk' : k = l.length := by omega
        rw [hk'] at h1
        show lessI L (dResultS l).sz = m
        unfold lessI; rw [if_pos (by omega)]; omega
      go_wp2_with fail
      go_ret
      exact ⟨ret_i HR.out.symm, HM.out.2⟩
    obtain ⟨b, off, rfl, -, hc⟩ := (HS.out.later HM.out.2).things k hlt
    have HSU : Hid (szL 5 dResult l (k + 1) = szL 5 dResult l k + szT 5 (dResult l[k])) := szL_succ hlt
    have HLE : Hid (szL 5 dResult l (k + 1) ≤ szL 5 dResult l l.length) := szL_mono (by omega)
    have HXK := Lib.hid (HX.out k hlt)
    obtain ⟨u0, c0, r0⟩ := hc 0 (by omega)
    obtain rfl : u0 = .int .i64 l[k].code := r0
    replace c0 : wr.cell? ⟨b, off + k * 5, none⟩ = _ := c0
    obtain ⟨u1, c1, r1⟩ := hc 1 (by omega)
    obtain rfl : u1 = .int .i64 l[k].cnt := r1
    obtain ⟨u2, c2, r2⟩ := hc 2 (by omega)
    obtain rfl : u2 = .int .i64 l[k].id := r2
    obtain ⟨u3, c3, r3⟩ := hc 3 (by omega)
    replace r3 : Rd wr _ (dStringS l[k].cols) u3 := r3
    obtain ⟨a3, q3, rfl⟩ := r3.lsSlice
    obtain ⟨u4, c4, r4⟩ := hc 4 (by omega)
    replace r4 : Rd wr _ (dRowS l[k].rows) u4 := r4
    obtain ⟨a4, q4, rfl⟩ := r4.lsSlice
    clear hc
    generalize l[k] = x at *
    have CC := Lib.hid (szDResult x a3 q3 a4 q4 m B wr hm0 (by omega) HXK.out r3 r4)
    clear HXK r3 r4
    by_cases hz : m - (szT 5 (dResult x) : Int) < 0
    · have HR : Hid (lessI L (dResultS l).sz = -1) := by
        have h1 := HM.out.1; have h2 := HSU.out; have h3 := HLE.out; have h4 := HZ.out
        show lessI L (dResultS l).sz = -1
        unfold lessI; rw [if_neg (by omega)]
      rw [less_no hz] at CC
      go_wp2_with (go_at_call 9; refine CC.out.mono ?_; rintro e w1 ⟨rfl, hB1⟩)
      go_ret
      exact ⟨ret_i HR.out.symm, HM.out.2.trans (hB1.mono HM.out.2.size)⟩
    rw [less_yes (by omega)] at CC
    obtain ⟨m', hm'⟩ : ∃ m' : Int, m' = m - (szT 5 (dResult x) : Int) := ⟨_, rfl⟩
    rw [← hm'] at CC
    have hd : decide (m' < 0) = false := decide_eq_false (by omega)
    have HM' : Hid (m' = m - (szT 5 (dResult x) : Int) ∧ 0 ≤ m') := ⟨hm', by omega⟩
    clear hm' hz
    go_wp2_with (go_at_call 9; refine CC.out.mono ?_; rintro e w1 ⟨rfl, hB1⟩)
    go_roundw
    case rel =>
      have h1 := HM.out.1; have h2 := HSU.out; have h3 := HM'.out
      exact ⟨k + 1, by omega, by go_num, m', rfl, by omega, by omega, by show _ = _; omega, HM.out.2.trans (hB1.mono HM.out.2.size)⟩
    case measure => simp [intOf]; omega
theorem run_mkResultS (n : Nat) (hn : n ≤ 1048576) (w : World) :
    (Instr.makeSlice 26 (.int .i64 (n : Int)) (.int .i64 (n : Int))).run Tryd.prog w = .ok (.slice (some ⟨w.heap.size, 0, none⟩) n n) (w.alloc (.cells (madeCells #[.int .i64 0, .int .i64 0, .int .i64 0, .slice none 0 0, .slice none 0 0] (n * 5)) 38)) := by
  have h : (Tryd.prog.info? 38).map (fun i => (i.zero, i.size, i.bytes)) = some (some (.agg #[.int .i64 0, .int .i64 0, .int .i64 0, .slice none 0 0, .slice none 0 0]), 5, 72) := by kernel_rfl
  obtain ⟨i, hi, hzz⟩ := Option.map_eq_some_iff.1 h
  simp only [Prod.mk.injEq] at hzz
  obtain ⟨hz, hs, hb⟩ := hzz
  have hr := run_make (P := Tryd.prog) w 26 38 i _ Tryd.underlying26 hi hz .i64 .i64 n n (by omega) (Int.le_refl _) (by rw [hb]; omega) (by omega)
  rw [hr, hs]
  simp only [Int.toNat_natCast]
  rfl
set_option maxRecDepth 100000 in
set_option maxHeartbeats 3200000 in
theorem toDResultS (l : List ResV) (a : Option Addr) (c : Nat) (B : Nat → Prop) (w : World) (ho : (dResultS l).le 1048576) (hS : Rd w B (dResultS l) (.slice a l.length c)) :
    Calls Tryd.prog 6 #[.slice a l.length c] w fun e w' => e = .returned (.slice (some ⟨w.heap.size, 0, none⟩) l.length l.length) ∧ Own w' (dResultS l) (fun c => w.heap.size ≤ c ∧ c < w'.heap.size) (.slice (some ⟨w.heap.size, 0, none⟩) l.length l.length) ∧ Below w.heap.size w w' := by
  have HS : Hid (Rd w B (Ls 5 dResult l) (.slice a l.length c)) := hS
  have HX : Hid (∀ i (h : i < l.length) j, j < 5 → (dResult l[i] j).le 1048576) := (Ls_le.1 ho).2.2
  have hl : l.length ≤ 1048576 := (Ls_le.1 ho).2.1
  have hmk := run_mkResultS l.length hl
  clear hS ho
  go_enter Tryd.func6, Tryd.ntmps6
  go_wp2_with fail
  clear hmk
  go_loopw [4] (fun i wr => ∃ k : Nat, k ≤ l.length ∧ i = .int .i64 k ∧ Hid (Below w.heap.size w wr ∧ TS wr 38 5 l.length (lsF dResult l) w.heap.size k)) (fun i _ => l.length - (intOf i).toNat)
  case atStart => exact ⟨0, Nat.zero_le _, rfl, (Below.refl _ _).alloc (Nat.le_refl _) _, by have := TS.start w #[.int .i64 0, .int .i64 0, .int .i64 0, .slice none 0 0, .slice none 0 0] 38 5 l.length (lsF dResult l); exact this⟩
  case round =>
    obtain ⟨k, hk, rfl, HD⟩ := hrel
    by_cases hlt : k < l.length
    case neg =>
      have hk' : k = l.length := by omega
      have hki : decide ((k : Int) < (l.length : Int)) = false := decide_eq_false (by omega)
      go_wp2_with fail
      go_ret
      exact ⟨rfl, TS.done (by omega) (by have := HD.out.2; rw [hk'] at this; exact this), HD.out.1⟩
    have hki : (k : Int) < (l.length : Int) := by omega
    obtain ⟨b, off, rfl, -, hc⟩ := (HS.out.later HD.out.1).things k hlt
    have HXK := Lib.hid (HX.out k hlt)
    have HFA : Hid (lsF dResult l k = dResult l[k]) := lsF_at hlt
    obtain ⟨u0, c0, r0⟩ := hc 0 (by omega)
    obtain rfl : u0 = .int .i64 l[k].code := r0
    replace c0 : wr.cell? ⟨b, off + k * 5, none⟩ = _ := c0
    obtain ⟨u1, c1, r1⟩ := hc 1 (by omega)
    obtain rfl : u1 = .int .i64 l[k].cnt := r1
    obtain ⟨u2, c2, r2⟩ := hc 2 (by omega)
    obtain rfl : u2 = .int .i64 l[k].id := r2
    obtain ⟨u3, c3, r3⟩ := hc 3 (by omega)
    replace r3 : Rd wr _ (dStringS l[k].cols) u3 := r3
    obtain ⟨a3, q3, rfl⟩ := r3.lsSlice
    obtain ⟨u4, c4, r4⟩ := hc 4 (by omega)
    replace r4 : Rd wr _ (dRowS l[k].rows) u4 := r4
    obtain ⟨a4, q4, rfl⟩ := r4.lsSlice
    clear hc
    generalize l[k] = x at *
    have CC := Lib.hid (toDResult x a3 q3 a4 q4 B wr HXK.out r3 r4)
    clear HXK r3 r4
    go_wp2_with fail
    refine CC.out.mono ?_
    rintro e w1 ⟨p3, p4, rfl, oc, hB1⟩
    have HST : Hid (TS (((((w1.setCell ⟨w.heap.size, k * 5, none⟩ (.int .i64 x.code)).setCell ⟨w.heap.size, k * 5 + 1, none⟩ (.int .i64 x.cnt)).setCell ⟨w.heap.size, k * 5 + 2, none⟩ (.int .i64 x.id)).setCell ⟨w.heap.size, k * 5 + 3, none⟩ (.slice (some ⟨p3, 0, none⟩) x.cols.length x.cols.length)).setCell ⟨w.heap.size, k * 5 + 4, none⟩ (.slice (some ⟨p4, 0, none⟩) x.rows.length x.rows.length)) 38 5 l.length (lsF dResult l) w.heap.size (k + 1)) := HD.out.2.step hB1 (vat [.int .i64 x.code, .int .i64 x.cnt, .int .i64 x.id, .slice (some ⟨p3, 0, none⟩) x.cols.length x.cols.length, .slice (some ⟨p4, 0, none⟩) x.rows.length x.rows.length]) (by rw [HFA.out]; exact oc)
    obtain ⟨g, hg⟩ := HD.out.2.row
    have hg1 := hg.of_block (hB1.block _ hg.lt)
    have e0 := hg1.cell (i := k * 5) (by omega)
    have z0 := hg1.frozen (k * 5)
    have e1 := hg1.cell (i := k * 5 + 1) (by omega)
    have z1 := hg1.frozen (k * 5 + 1)
    have e2 := hg1.cell (i := k * 5 + 2) (by omega)
    have z2 := hg1.frozen (k * 5 + 2)
    have e3 := hg1.cell (i := k * 5 + 3) (by omega)
    have z3 := hg1.frozen (k * 5 + 3)
    have e4 := hg1.cell (i := k * 5 + 4) (by omega)
    have z4 := hg1.frozen (k * 5 + 4)
    have HW := Lib.hid (HD.out.1.trans (hB1.mono HD.out.1.size))
    clear hg hg1 hB1 oc CC
    go_wp2_with fail
    go_roundw
    case rel => exact ⟨k + 1, by omega, by go_num, (((((HW.out.setCell (Nat.le_refl _) _).setCell (Nat.le_refl _) _).setCell (Nat.le_refl _) _).setCell (Nat.le_refl _) _).setCell (Nat.le_refl _) _), HST.out⟩
    case measure => simp [intOf]; omega
set_option maxRecDepth 100000 in
set_option maxHeartbeats 3200000 in
theorem eqDResultS (l : List ResV) (a : Option Addr) (c : Nat) (a' : Option Addr) (c' : Nat) (A B : Nat → Prop) (w : World) (ho : (dResultS l).le maxLen) (hA : Rd w A (dResultS l) (.slice a l.length c)) (hB : Rd w B (dResultS l) (.slice a' l.length c')) :
    Calls Tryd.prog 8 #[.slice a l.length c, .slice a' l.length c'] w fun e w' => e = .returned (.bool true) ∧ Below w.heap.size w w' := by
  have hl : l.length ≤ maxLen := (Ls_le.1 ho).2.1
  unfold maxLen at hl
  have HX : Hid (∀ i (h : i < l.length) j, j < 5 → (dResult l[i] j).le maxLen) := (Ls_le.1 ho).2.2
  have HA : Hid (∀ W, Below w.heap.size w W → Rd W A (Ls 5 dResult l) (.slice a l.length c)) := fun W h => Rd.later hA h
  have HB : Hid (∀ W, Below w.heap.size w W → Rd W B (Ls 5 dResult l) (.slice a' l.length c')) := fun W h => Rd.later hB h
  clear hA hB ho
  go_enter Tryd.func8, Tryd.ntmps8
  go_wp2_with fail
  go_loopw [5] (fun i wr => ∃ k : Nat, k ≤ l.length ∧ i = .int .i64 k ∧ Hid (Below w.heap.size w wr)) (fun i _ => l.length - (intOf i).toNat)
  case atStart => exact ⟨0, Nat.zero_le _, rfl, Below.refl _ _⟩
  case round =>
    obtain ⟨k, hk, rfl, HW⟩ := hrel
    by_cases hlt : k < l.length
    case neg =>
      have hki : decide ((k : Int) < (l.length : Int)) = false := by simp; omega
      go_wp2_with fail
      go_ret
      exact ⟨rfl, HW.out⟩
    obtain ⟨b, off, rfl, -, hc⟩ := (HA.out _ HW.out).things k hlt
    obtain ⟨mb, moff, rfl, -, hd⟩ := (HB.out _ HW.out).things k hlt
    have HXK := Lib.hid (HX.out k hlt)
    obtain ⟨u0, c0, r0⟩ := hc 0 (by omega)
    obtain rfl : u0 = .int .i64 l[k].code := r0
    replace c0 : wr.cell? ⟨b, off + k * 5, none⟩ = _ := c0
    obtain ⟨u1, c1, r1⟩ := hc 1 (by omega)
    obtain rfl : u1 = .int .i64 l[k].cnt := r1
    obtain ⟨u2, c2, r2⟩ := hc 2 (by omega)
    obtain rfl : u2 = .int .i64 l[k].id := r2
    obtain ⟨u3, c3, r3⟩ := hc 3 (by omega)
    replace r3 : Rd wr _ (dStringS l[k].cols) u3 := r3
    obtain ⟨a3, q3, rfl⟩ := r3.lsSlice
    obtain ⟨u4, c4, r4⟩ := hc 4 (by omega)
    replace r4 : Rd wr _ (dRowS l[k].rows) u4 := r4
    obtain ⟨a4, q4, rfl⟩ := r4.lsSlice
    obtain ⟨mu0, mc0, mr0⟩ := hd 0 (by omega)
    obtain rfl : mu0 = .int .i64 l[k].code := mr0
    replace mc0 : wr.cell? ⟨mb, moff + k * 5, none⟩ = _ := mc0
    obtain ⟨mu1, mc1, mr1⟩ := hd 1 (by omega)
    obtain rfl : mu1 = .int .i64 l[k].cnt := mr1
    obtain ⟨mu2, mc2, mr2⟩ := hd 2 (by omega)
    obtain rfl : mu2 = .int .i64 l[k].id := mr2
    obtain ⟨mu3, mc3, mr3⟩ := hd 3 (by omega)
    replace mr3 : Rd wr _ (dStringS l[k].cols) mu3 := mr3
    obtain ⟨ma3, mq3, rfl⟩ := mr3.lsSlice
    obtain ⟨mu4, mc4, mr4⟩ := hd 4 (by omega)
    replace mr4 : Rd wr _ (dRowS l[k].rows) mu4 := mr4
    obtain ⟨ma4, mq4, rfl⟩ := mr4.lsSlice
    clear hc hd
    generalize l[k] = x at *
    have hki : (k : Int) < (l.length : Int) := by omega
    have EQ : Hid (∀ W, Below wr.heap.size wr W → Calls Tryd.prog 15 #[.agg #[.int .i64 x.code, .int .i64 x.cnt, .int .i64 x.id, .slice a3 x.cols.length q3, .slice a4 x.rows.length q4], .agg #[.int .i64 x.code, .int .i64 x.cnt, .int .i64 x.id, .slice ma3 x.cols.length mq3, .slice ma4 x.rows.length mq4]] W fun e w' => e = .returned (.bool true) ∧ Below W.heap.size W w') := fun W h => eqDResult x a3 q3 a4 q4 ma3 mq3 ma4 mq4 A B W HXK.out (r3.later h) (r4.later h) (mr3.later h) (mr4.later h)
    clear HXK r3 mr3 r4 mr4
    go_wp2_with fail
    go_region_with (go_at_call 15; refine (EQ.out _ (by first | exact Below.refl _ _ | exact (Below.refl _ _).drew)).mono ?_; rintro e w1 ⟨rfl, hB1⟩)
    all_goals
      go_wp2_with fail
      go_roundw
      case rel => exact ⟨k + 1, by omega, by go_num, HW.out.trans ((Below.refl _ _).drew.trans (hB1.mono (by first | exact HW.out.size | (have := HW.out.size; simpa using this))))⟩
      case measure => simp [intOf]; omega
end Go.Proofs.YtndlhcdgpkeifaaDoor
