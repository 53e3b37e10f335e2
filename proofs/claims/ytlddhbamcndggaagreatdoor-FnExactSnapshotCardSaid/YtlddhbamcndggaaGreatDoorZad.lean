import Derived.Test.YtlddhbamcndggaaGreatDoorZac
namespace Go.Proofs.YtlddhbamcndggaaGreatDoor
open Go.RowKit
set_option linter.unusedSimpArgs false
def cString (x : List UInt8) : Nat → D := fun _ => .s x
def dStringS (l : List (List UInt8)) : D := Ls 1 cString l
set_option maxHeartbeats 1600000 in
theorem szDStringS (l : List (List UInt8)) (a : Option Addr) (c : Nat) (L : Int) (B : Nat → Prop) (w : World) (h0 : 0 ≤ L) (h1 : L ≤ 1048576) (ho : (dStringS l).le maxLen) (hS : Rd w B (dStringS l) (.slice a l.length c)) :
  Calls Tryz.prog 23 #[.slice a l.length c, .int .i64 L] w fun e w' => e = .returned (.int .i64 (lessI L (dStringS l).sz)) ∧ Below w.heap.size w w' := by
 have hl : l.length ≤ maxLen := (Ls_le.1 ho).2.1
 unfold maxLen at hl
 have HX : Hid (∀ i (h : i < l.length) j, j < 1 → (cString l[i] j).le maxLen) := (Ls_le.1 ho).2.2
 have HS : Hid (Rd w B (Ls 1 cString l) (.slice a l.length c)) := hS
 have HZ : Hid ((dStringS l).sz = l.length + szL 1 cString l l.length) := Ls_sz
 clear hS ho
 by_cases hn : L - (l.length : Int) < 0
 ·
  have HR : Hid (lessI L (dStringS l).sz = -1) := by have := HZ.out; show lessI L (dStringS l).sz = -1; unfold lessI; rw [if_neg (by omega)]
  go_enter Tryz.func23, Tryz.ntmps23
  go_wp2_with fail
  go_ret
  exact ⟨ret_i HR.out.symm, Below.refl _ _⟩
 go_enter Tryz.func23, Tryz.ntmps23
 go_wp2_with fail
 go_loopw [1, 5] (fun t i wr => ∃ k : Nat, k ≤ l.length ∧ i = .int .i64 k ∧ ∃ m : Int, t = .int .i64 m ∧ 0 ≤ m ∧ m ≤ L ∧ Hid (m = L - (l.length + szL 1 cString l k : Nat) ∧ Below w.heap.size w wr)) (fun _ i _ => l.length - (intOf i).toNat)
 case atStart => exact ⟨0, Nat.zero_le _, rfl, L - l.length, rfl, by omega, by omega, by show _ = _; rw [szL_zero]; omega, Below.refl _ _⟩
 case round =>
  obtain ⟨k, hk, rfl, m, rfl, hm0, hmL, HM⟩ := hrel
  by_cases hlt : k < l.length
  case neg =>
   have HR : Hid (lessI L (dStringS l).sz = m) := by
    have h1 := HM.out.1; have h2 := HZ.out
    have hk' : k = l.length := by omega
    rw [hk'] at h1
    show lessI L (dStringS l).sz = m
    unfold lessI; rw [if_pos (by omega)]; omega
   go_wp2_with fail
   go_ret
   exact ⟨ret_i HR.out.symm, HM.out.2⟩
  obtain ⟨b, off, rfl, -, hc⟩ := (HS.out.later HM.out.2).things k hlt
  have HSU : Hid (szL 1 cString l (k + 1) = szL 1 cString l k + szT 1 (cString l[k])) := szL_succ hlt
  have HLE : Hid (szL 1 cString l (k + 1) ≤ szL 1 cString l l.length) := szL_mono (by omega)
  have HXK := Lib.hid (HX.out k hlt)
  obtain ⟨u0, c0, r0⟩ := hc 0 (by omega)
  obtain rfl : u0 = .string ⟨l[k].toArray⟩ := r0
  rw [Nat.mul_one] at c0
  replace c0 : wr.cell? ⟨b, off + k, none⟩ = _ := c0
  clear hc
  generalize l[k] = x at *
  have hxl : x.length ≤ maxLen := HXK.out 0 (by omega)
  unfold maxLen at hxl
  have HSE : Hid (szT 1 (cString x) = x.length) := by show szT 1 (cString x) = _; simp [szT, sumN, cString, D.sz]
  by_cases hz : m - (x.length : Int) < 0
  ·
   have HR : Hid (lessI L (dStringS l).sz = -1) := by
    have h1 := HM.out.1; have h2 := HSU.out; have h3 := HLE.out; have h4 := HZ.out; have h5 := HSE.out
    show lessI L (dStringS l).sz = -1
    unfold lessI; rw [if_neg (by omega)]
   have hd : decide (m - (x.length : Int) < 0) = true := decide_eq_true hz
   go_wp2_with fail
   go_ret
   exact ⟨ret_i HR.out.symm, HM.out.2⟩
  obtain ⟨m', hm'⟩ : ∃ m' : Int, m' = m - x.length := ⟨_, rfl⟩
  have fm : IntKind.i64.wrap (m - (x.length : Int)) = m' := by rw [IntKind.wrap_i64]; omega
  have hd : decide (m' < 0) = false := decide_eq_false (by omega)
  have HM' : Hid (m' = m - x.length ∧ 0 ≤ m') := ⟨hm', by omega⟩
  clear hm' hz
  go_wp2_with fail
  go_roundw
  case rel =>
   have h1 := HM.out.1; have h2 := HSU.out; have h3 := HM'.out; have h5 := HSE.out
   exact ⟨k + 1, by omega, by go_num, m', rfl, by omega, by omega, by show _ = _; omega, HM.out.2⟩
  case measure => simp [intOf]; omega
theorem run_mkStringS (n : Nat) (hn : n ≤ 1048576) (w : World) :
  (Instr.makeSlice 28 (.int .i64 (n : Int)) (.int .i64 (n : Int))).run Tryz.prog w = .ok (.slice (some ⟨w.heap.size, 0, none⟩) n n) (w.alloc (.cells (madeCells #[.string ⟨#[]⟩] (n * 1)) 9)) := by
 have h : (Tryz.prog.info? 9).map (fun i => (i.zero, i.size, i.bytes)) = some (some (.string ⟨#[]⟩), 1, 16) := by kernel_rfl
 obtain ⟨i, hi, hzz⟩ := Option.map_eq_some_iff.1 h
 simp only [Prod.mk.injEq] at hzz
 obtain ⟨hz, hs, hb⟩ := hzz
 have hr := run_make (P := Tryz.prog) w 28 9 i _ Tryz.underlying28 hi hz .i64 .i64 n n (by omega) (Int.le_refl _) (by rw [hb]; omega) (by omega)
 rw [hr, hs]
 simp only [Int.toNat_natCast]
 rfl
set_option maxRecDepth 100000 in
set_option maxHeartbeats 3200000 in
theorem toDStringS (l : List (List UInt8)) (a : Option Addr) (c : Nat) (B : Nat → Prop) (w : World) (ho : (dStringS l).le 1048576) (hS : Rd w B (dStringS l) (.slice a l.length c)) :
  Calls Tryz.prog 32 #[.slice a l.length c] w fun e w' => e = .returned (.slice (some ⟨w.heap.size, 0, none⟩) l.length l.length) ∧ Own w' (dStringS l) (fun c => w.heap.size ≤ c ∧ c < w'.heap.size) (.slice (some ⟨w.heap.size, 0, none⟩) l.length l.length) ∧ Below w.heap.size w w' := by
 have HS : Hid (Rd w B (Ls 1 cString l) (.slice a l.length c)) := hS
 have HX : Hid (∀ i (h : i < l.length) j, j < 1 → (cString l[i] j).le 1048576) := (Ls_le.1 ho).2.2
 have hl : l.length ≤ 1048576 := (Ls_le.1 ho).2.1
 have hmk := run_mkStringS l.length hl
 clear hS ho
 go_enter Tryz.func32, Tryz.ntmps32
 go_wp2_with fail
 clear hmk
 go_loopw [4] (fun i wr => ∃ k : Nat, k ≤ l.length ∧ i = .int .i64 k ∧ Hid (Below w.heap.size w wr ∧ TS wr 9 1 l.length (lsF cString l) w.heap.size k)) (fun i _ => l.length - (intOf i).toNat)
 case atStart => exact ⟨0, Nat.zero_le _, rfl, (Below.refl _ _).alloc (Nat.le_refl _) _, by have := TS.start w #[.string ⟨#[]⟩] 9 1 l.length (lsF cString l); rw [Nat.mul_one] at this; exact this⟩
 case round =>
  obtain ⟨k, hk, rfl, HD⟩ := hrel
  by_cases hlt : k < l.length
  case neg =>
   have hk' : k = l.length := by omega
   have hki : decide ((k : Int) < (l.length : Int)) = false := decide_eq_false (by omega)
   go_wp2_with fail
   go_ret
   exact ⟨rfl, TS.done (by omega) (by have := HD.out.2; rw [hk'] at this; exact this), HD.out.1⟩
  have hki : (k : Int) < (l.length : Int) := by omega
  obtain ⟨b, off, rfl, -, hc⟩ := (HS.out.later HD.out.1).things k hlt
  have HXK := Lib.hid (HX.out k hlt)
  have HFA : Hid (lsF cString l k = cString l[k]) := lsF_at hlt
  obtain ⟨u0, c0, r0⟩ := hc 0 (by omega)
  obtain rfl : u0 = .string ⟨l[k].toArray⟩ := r0
  rw [Nat.mul_one] at c0
  replace c0 : wr.cell? ⟨b, off + k, none⟩ = _ := c0
  clear hc
  generalize l[k] = x at *
  have HST : Hid (TS (wr.setCell ⟨w.heap.size, k, none⟩ (.string ⟨x.toArray⟩)) 9 1 l.length (lsF cString l) w.heap.size (k + 1)) := by
   have := HD.out.2.step (Below.refl _ _) (fun _ => .string ⟨x.toArray⟩) ⟨fun _ _ => False, fun _ _ h => h.elim, fun _ _ _ h => h.elim, fun j hj => by rw [HFA.out]; rfl⟩
   simp only [putN, Nat.mul_one, Nat.add_zero] at this
   exact this
  obtain ⟨g, hg⟩ := HD.out.2.row
  rw [Nat.mul_one] at hg
  have e0 := hg.cell (i := k) hlt
  have z0 := hg.frozen k
  clear hg
  go_wp2_with fail
  go_roundw
  case rel => exact ⟨k + 1, by omega, by go_num, HD.out.1.setCell (Nat.le_refl _) _, HST.out⟩
  case measure => simp [intOf]; omega
set_option maxRecDepth 100000 in
set_option maxHeartbeats 3200000 in
theorem eqDStringS (l : List (List UInt8)) (a : Option Addr) (c : Nat) (a' : Option Addr) (c' : Nat) (A B : Nat → Prop) (w : World) (ho : (dStringS l).le maxLen) (hA : Rd w A (dStringS l) (.slice a l.length c)) (hB : Rd w B (dStringS l) (.slice a' l.length c')) :
  Calls Tryz.prog 43 #[.slice a l.length c, .slice a' l.length c'] w fun e w' => e = .returned (.bool true) ∧ Below w.heap.size w w' := by
 have hl : l.length ≤ maxLen := (Ls_le.1 ho).2.1
 unfold maxLen at hl
 have HX : Hid (∀ i (h : i < l.length) j, j < 1 → (cString l[i] j).le maxLen) := (Ls_le.1 ho).2.2
 have HA : Hid (∀ W, Below w.heap.size w W → Rd W A (Ls 1 cString l) (.slice a l.length c)) := fun W h => Rd.later hA h
 have HB : Hid (∀ W, Below w.heap.size w W → Rd W B (Ls 1 cString l) (.slice a' l.length c')) := fun W h => Rd.later hB h
 clear hA hB ho
 go_enter Tryz.func43, Tryz.ntmps43
 go_wp2_with fail
 go_loopw [5] (fun i wr => ∃ k : Nat, k ≤ l.length ∧ i = .int .i64 k ∧ Hid (Below w.heap.size w wr)) (fun i _ => l.length - (intOf i).toNat)
 case atStart => exact ⟨0, Nat.zero_le _, rfl, Below.refl _ _⟩
 case round =>
  obtain ⟨k, hk, rfl, HW⟩ := hrel
  by_cases hlt : k < l.length
  case neg =>
   have hki : decide ((k : Int) < (l.length : Int)) = false := by simp; omega
   go_wp2_with fail
   go_ret
   exact ⟨rfl, HW.out⟩
  obtain ⟨b, off, rfl, -, hc⟩ := (HA.out _ HW.out).things k hlt
  obtain ⟨mb, moff, rfl, -, hd⟩ := (HB.out _ HW.out).things k hlt
  have HXK := Lib.hid (HX.out k hlt)
  obtain ⟨u0, c0, r0⟩ := hc 0 (by omega)
  obtain rfl : u0 = .string ⟨l[k].toArray⟩ := r0
  rw [Nat.mul_one] at c0
  replace c0 : wr.cell? ⟨b, off + k, none⟩ = _ := c0
  obtain ⟨mu0, mc0, mr0⟩ := hd 0 (by omega)
  obtain rfl : mu0 = .string ⟨l[k].toArray⟩ := mr0
  rw [Nat.mul_one] at mc0
  replace mc0 : wr.cell? ⟨mb, moff + k, none⟩ = _ := mc0
  clear hc hd
  generalize l[k] = x at *
  have hki : (k : Int) < (l.length : Int) := by omega
  have hne : (x != x) = false := by simp
  clear HXK
  go_wp2_with fail
  try go_region
  all_goals (try go_wp2_with fail)
  all_goals
   go_roundw
   case rel => exact ⟨k + 1, by omega, by go_num, by first | exact HW.out | exact HW.out.drew⟩
   case measure => simp [intOf]; omega
structure CondV where
 col : List UInt8
 fn : Int
 val : List At
def dCond (x : CondV) : Nat → D
 | 0 => .s x.col
 | 1 => .i x.fn
 | _ => dAtomS x.val
theorem szT_Cond (x : CondV) : szT 3 (dCond x) = x.col.length + (dAtomS x.val).sz := by simp [szT, sumN, dCond, D.sz]
set_option maxHeartbeats 1600000 in
theorem szDCond (x : CondV) (a2 : Option Addr) (c2 : Nat) (L : Int) (B : Nat → Prop) (w : World) (h0 : 0 ≤ L) (h1 : L ≤ 1048576) (ho : ∀ j, j < 3 → (dCond x j).le maxLen) (r2 : Rd w B (dAtomS x.val) (.slice a2 x.val.length c2)) :
  Calls Tryz.prog 53 #[.agg #[.string ⟨x.col.toArray⟩, .int .i64 x.fn, .slice a2 x.val.length c2], .int .i64 L] w fun e w' => e = .returned (.int .i64 (lessI L (szT 3 (dCond x)))) ∧ Below w.heap.size w w' := by
 rw [szT_Cond]
 have HO := Lib.hid ho
 have R2 := Lib.hid r2
 have hs0 : x.col.length ≤ maxLen := ho 0 (by omega)
 unfold maxLen at hs0
 have hx := boxD 103 w #[.string ⟨x.col.toArray⟩, .int .i64 x.fn, .slice a2 x.val.length c2]
 clear ho r2
 have x0 := cell_at (o := 0) hx.1 rfl
 have x1 := cell_at (o := 1) hx.1 rfl
 have x2 := cell_at (o := 2) hx.1 rfl
 by_cases hn0 : L - (x.col.length : Int) < 0
 case pos =>
  have HR : Hid (lessI L (x.col.length + (dAtomS x.val).sz) = -1) := by show lessI L (x.col.length + (dAtomS x.val).sz) = -1; unfold lessI; rw [if_neg (by omega)]
  have d0 : decide (L - (x.col.length : Int) < 0) = true := decide_eq_true hn0
  go_enter Tryz.func53, Tryz.ntmps53
  go_wp2_with fail
  go_ret
  exact ⟨ret_i HR.out.symm, hx.2⟩
 obtain ⟨L0, hL0⟩ : ∃ L0 : Int, L0 = L - (x.col.length : Int) := ⟨_, rfl⟩
 have f0 : IntKind.i64.wrap (L - (x.col.length : Int)) = L0 := by rw [IntKind.wrap_i64]; omega
 have d0 : decide (L0 < 0) = false := decide_eq_false (by omega)
 have HL0 := Lib.hid hL0
 have bL0 : 0 ≤ L0 ∧ L0 ≤ 1048576 := by omega
 clear hn0 hL0
 have bl : Hid (0 ≤ L0 ∧ L0 ≤ 1048576) := by show _ ∧ _; omega
 clear h0 h1 bL0
 go_enter Tryz.func53, Tryz.ntmps53
 go_wp2_with fail
 refine (szDAtomS x.val a2 c2 L0 B _ bl.out.1 bl.out.2 (HO.out 2 (by omega)) (R2.out.later hx.2)).mono ?_
 rintro e w3 ⟨rfl, hB3⟩
 have hx := hx.later hB3
 clear hB3 x0 x1 x2
 have x0 := cell_at (o := 0) hx.1 rfl
 have x1 := cell_at (o := 1) hx.1 rfl
 have x2 := cell_at (o := 2) hx.1 rfl
 by_cases hn2 : L0 - ((dAtomS x.val).sz : Int) < 0
 case pos =>
  have HR : Hid (lessI L (x.col.length + (dAtomS x.val).sz) = -1) := by have := HL0.out; have := bl.out; show lessI L (x.col.length + (dAtomS x.val).sz) = -1; unfold lessI; rw [if_neg (by omega)]
  rw [less_no hn2]
  go_wp2_with fail
  go_ret
  exact ⟨ret_i HR.out.symm, hx.2⟩
 rw [less_yes (by omega)]
 obtain ⟨L2, hL2⟩ : ∃ L2 : Int, L2 = L0 - ((dAtomS x.val).sz : Int) := ⟨_, rfl⟩
 rw [← hL2]
 have d2 : decide (L2 < 0) = false := decide_eq_false (by omega)
 have bL2 : Hid (0 ≤ L2 ∧ L2 ≤ 1048576) := by have := bl.out; show _ ∧ _; omega
 have HL2 := Lib.hid hL2
 have HR : Hid (lessI L (x.col.length + (dAtomS x.val).sz) = L2) := by have := HL0.out; have := HL2.out; have := bL2.out; show lessI L (x.col.length + (dAtomS x.val).sz) = L2; unfold lessI; rw [if_pos (by omega)]; omega
 clear hn2 hL2 bl
 have bl := bL2
 clear bL2
 go_wp2_with fail
 go_ret
 exact ⟨ret_i HR.out.symm, hx.2⟩
set_option maxRecDepth 100000 in
set_option maxHeartbeats 3200000 in
theorem toDCond (x : CondV) (a2 : Option Addr) (c2 : Nat) (B : Nat → Prop) (w : World) (ho : ∀ j, j < 3 → (dCond x j).le 1048576) (r2 : Rd w B (dAtomS x.val) (.slice a2 x.val.length c2)) :
  Calls Tryz.prog 65 #[.agg #[.string ⟨x.col.toArray⟩, .int .i64 x.fn, .slice a2 x.val.length c2]] w fun e w' => ∃ p2 : Nat, e = .returned (.agg #[.string ⟨x.col.toArray⟩, .int .i64 x.fn, .slice (some ⟨p2, 0, none⟩) x.val.length x.val.length]) ∧ Owns w' 3 (dCond x) (vat [.string ⟨x.col.toArray⟩, .int .i64 x.fn, .slice (some ⟨p2, 0, none⟩) x.val.length x.val.length]) (fun c => w.heap.size ≤ c ∧ c < w'.heap.size) ∧ Below w.heap.size w w' := by
 have HO := Lib.hid ho
 have R2 := Lib.hid r2
 have T0 := Lib.hid (st3First w 103 119 #[.string ⟨x.col.toArray⟩, .int .i64 x.fn, .slice a2 x.val.length c2] #[.string ⟨#[]⟩, .int .i64 0, .slice none 0 0] #[.string ⟨x.col.toArray⟩, .int .i64 x.fn, .slice none 0 0])
 clear ho r2
 go_enter Tryz.func65, Tryz.ntmps65
 go_wp2_with fail
 have HE : Hid (w.heap.size + 1 + 1 < (((w.alloc (.cells #[.string ⟨x.col.toArray⟩, .int .i64 x.fn, .slice a2 x.val.length c2] 103)).alloc (.cells #[.string ⟨#[]⟩, .int .i64 0, .slice none 0 0] 119)).alloc (.cells #[.string ⟨x.col.toArray⟩, .int .i64 x.fn, .slice none 0 0] 119)).heap.size) := by show _ < _; simp
 refine (toDAtomS x.val a2 c2 B _ (HO.out 2 (by omega)) (R2.out.later T0.out.bel)).mono ?_
 rintro e w3 ⟨rfl, o2, hB2⟩
 have S2 := Lib.hid (T0.out.later hB2)
 obtain ⟨p2, hp2⟩ : ∃ p, p = (((w.alloc (.cells #[.string ⟨x.col.toArray⟩, .int .i64 x.fn, .slice a2 x.val.length c2] 103)).alloc (.cells #[.string ⟨#[]⟩, .int .i64 0, .slice none 0 0] 119)).alloc (.cells #[.string ⟨x.col.toArray⟩, .int .i64 x.fn, .slice none 0 0] 119)).heap.size := ⟨_, rfl⟩
 have HP2 : Hid (w.heap.size + 1 + 1 < p2 ∧ p2 ≤ w3.heap.size) := by
  have h1 := hB2.size; have h2 := HE.out
  rw [← hp2] at h1 h2
  exact ⟨h2, h1⟩
 rw [← hp2] at o2 ⊢
 have O2 := Lib.hid o2
 clear o2 hB2 hp2 T0 HE
 have x2 := cell_at (o := 2) S2.out.ot rfl
 have z2 := frozen_at 2 S2.out.ot
 have hne : (w.heap.size = w.heap.size + 1 + 1) = False := by simp; omega
 have x0 := cell_at (o := 0) S2.out.ot rfl
 have x1 := cell_at (o := 1) S2.out.ot rfl
 have g0 := cell_at (o := 0) S2.out.rv rfl
 have k0 := frozen_at 0 S2.out.rv
 have g1 := cell_at (o := 1) S2.out.rv rfl
 have k1 := frozen_at 1 S2.out.rv
 have g2 := cell_at (o := 2) S2.out.rv rfl
 have k2 := frozen_at 2 S2.out.rv
 go_wp2_with fail
 refine bodyPost_ret (v := .agg #[.string ⟨x.col.toArray⟩, .int .i64 x.fn, .slice (some ⟨p2, 0, none⟩) x.val.length x.val.length]) (by simp [results, Tryz.results65, go_sem, *]) rfl ?_
 have FF : Frm (fun c => c = w.heap.size + 1 ∨ c = w.heap.size + 1 + 1) w3 ((((w3.setCell ⟨w.heap.size + 1 + 1, 2, none⟩ (.slice (some ⟨p2, 0, none⟩) x.val.length x.val.length)).setCell ⟨w.heap.size + 1, 0, none⟩ (.string ⟨x.col.toArray⟩)).setCell ⟨w.heap.size + 1, 1, none⟩ (.int .i64 x.fn)).setCell ⟨w.heap.size + 1, 2, none⟩ (.slice (some ⟨p2, 0, none⟩) x.val.length x.val.length)) := by
  refine Frm.set ?_ (.inl rfl) _
  refine Frm.set ?_ (.inl rfl) _
  refine Frm.set ?_ (.inl rfl) _
  refine Frm.set ?_ (.inr rfl) _
  exact Frm.refl _ _
 have hsz : ((((w3.setCell ⟨w.heap.size + 1 + 1, 2, none⟩ (.slice (some ⟨p2, 0, none⟩) x.val.length x.val.length)).setCell ⟨w.heap.size + 1, 0, none⟩ (.string ⟨x.col.toArray⟩)).setCell ⟨w.heap.size + 1, 1, none⟩ (.int .i64 x.fn)).setCell ⟨w.heap.size + 1, 2, none⟩ (.slice (some ⟨p2, 0, none⟩) x.val.length x.val.length)).heap.size = w3.heap.size := by simp
 refine ⟨p2, rfl, ⟨fun j c => (j = 2 ∧ p2 ≤ c ∧ c < w3.heap.size), fun j c hc => ?_, fun j j' c h h' => ?_, fun j hj => ?_⟩, ?_⟩
 ·
  have h2 := HP2.out; rw [hsz]; omega
 ·
  have h2 := HP2.out; omega
 ·
  rcases (by omega : j = 0 ∨ j = 1 ∨ j = 2) with rfl | rfl | rfl
  ·
   rfl
  ·
   rfl
  ·
   exact (O2.out.frm FF (fun c hc hF => by have h1 := HP2.out; have h2 := hc.1; rcases hF with rfl | rfl <;> omega)).mono (fun c hc => ⟨rfl, hc⟩)
 ·
  exact ((((S2.out.bel.setCell (by simp <;> omega) _).setCell (by simp <;> omega) _).setCell (by simp <;> omega) _).setCell (by simp <;> omega) _)
set_option maxRecDepth 100000 in
set_option maxHeartbeats 1600000 in
theorem eqDCond (x : CondV) (a2 : Option Addr) (c2 : Nat) (a2' : Option Addr) (c2' : Nat) (A B : Nat → Prop) (w : World) (ho : ∀ j, j < 3 → (dCond x j).le maxLen) (r2 : Rd w A (dAtomS x.val) (.slice a2 x.val.length c2)) (r2' : Rd w B (dAtomS x.val) (.slice a2' x.val.length c2')) :
  Calls Tryz.prog 84 #[.agg #[.string ⟨x.col.toArray⟩, .int .i64 x.fn, .slice a2 x.val.length c2], .agg #[.string ⟨x.col.toArray⟩, .int .i64 x.fn, .slice a2' x.val.length c2']] w fun e w' => e = .returned (.bool true) ∧ Below w.heap.size w w' := by
 have hb : Box2D 119 w ((w.alloc (.cells #[.string ⟨x.col.toArray⟩, .int .i64 x.fn, .slice a2 x.val.length c2] 119)).alloc (.cells #[.string ⟨x.col.toArray⟩, .int .i64 x.fn, .slice a2' x.val.length c2'] 119)) #[.string ⟨x.col.toArray⟩, .int .i64 x.fn, .slice a2 x.val.length c2] #[.string ⟨x.col.toArray⟩, .int .i64 x.fn, .slice a2' x.val.length c2'] := box2D _ _ _ _
 have E2 : Hid (∀ W, Below w.heap.size w W → Calls Tryz.prog 125 #[.slice a2 x.val.length c2, .slice a2' x.val.length c2'] W fun e w' => e = .returned (.bool true) ∧ Below W.heap.size W w') := fun W h => eqDAtomS x.val a2 c2 a2' c2' A B W (ho 2 (by omega)) (r2.later h) (r2'.later h)
 have HB := Lib.hid hb
 clear ho hb r2 r2'
 go_enter Tryz.func84, Tryz.ntmps84
 have x0 := cell_at (o := 0) HB.out.a rfl
 have y0 := cell_at (o := 0) HB.out.b rfl
 have x1 := cell_at (o := 1) HB.out.a rfl
 have y1 := cell_at (o := 1) HB.out.b rfl
 have x2 := cell_at (o := 2) HB.out.a rfl
 have y2 := cell_at (o := 2) HB.out.b rfl
 go_wp2_with fail
 refine (E2.out _ HB.out.bel).mono ?_
 rintro e w3 ⟨rfl, hB2⟩
 have H2 := Lib.hid (HB.out.later hB2)
 clear hB2 HB x0 y0 x1 y1 x2 y2
 have x0 := cell_at (o := 0) H2.out.a rfl
 have y0 := cell_at (o := 0) H2.out.b rfl
 have x1 := cell_at (o := 1) H2.out.a rfl
 have y1 := cell_at (o := 1) H2.out.b rfl
 have x2 := cell_at (o := 2) H2.out.a rfl
 have y2 := cell_at (o := 2) H2.out.b rfl
 go_wp2_with fail
 go_ret
 exact ⟨rfl, H2.out.bel⟩
def dCondS (l : List CondV) : D := Ls 3 dCond l
set_option maxHeartbeats 1600000 in
theorem szDCondS (l : List CondV) (a : Option Addr) (c : Nat) (L : Int) (B : Nat → Prop) (w : World) (h0 : 0 ≤ L) (h1 : L ≤ 1048576) (ho : (dCondS l).le maxLen) (hS : Rd w B (dCondS l) (.slice a l.length c)) :
  Calls Tryz.prog 24 #[.slice a l.length c, .int .i64 L] w fun e w' => e = .returned (.int .i64 (lessI L (dCondS l).sz)) ∧ Below w.heap.size w w' := by
 have hl : l.length ≤ maxLen := (Ls_le.1 ho).2.1
 unfold maxLen at hl
 have HX : Hid (∀ i (h : i < l.length) j, j < 3 → (dCond l[i] j).le maxLen) := (Ls_le.1 ho).2.2
 have HS : Hid (Rd w B (Ls 3 dCond l) (.slice a l.length c)) := hS
 have HZ : Hid ((dCondS l).sz = l.length + szL 3 dCond l l.length) := Ls_sz
 clear hS ho
 by_cases hn : L - (l.length : Int) < 0
 ·
  have HR : Hid (lessI L (dCondS l).sz = -1) := by have := HZ.out; show lessI L (dCondS l).sz = -1; unfold lessI; rw [if_neg (by omega)]
  go_enter Tryz.func24, Tryz.ntmps24
  go_wp2_with fail
  go_ret
  exact ⟨ret_i HR.out.symm, Below.refl _ _⟩
 go_enter Tryz.func24, Tryz.ntmps24
 go_wp2_with fail
 go_loopw [1, 5] (fun t i wr => ∃ k : Nat, k ≤ l.length ∧ i = .int .i64 k ∧ ∃ m : Int, t = .int .i64 m ∧ 0 ≤ m ∧ m ≤ L ∧ Hid (m = L - (l.length + szL 3 dCond l k : Nat) ∧ Below w.heap.size w wr)) (fun _ i _ => l.length - (intOf i).toNat)
 case atStart => exact ⟨0, Nat.zero_le _, rfl, L - l.length, rfl, by omega, by omega, by show _ = _; rw [szL_zero]; omega, Below.refl _ _⟩
 case round =>
  obtain ⟨k, hk, rfl, m, rfl, hm0, hmL, HM⟩ := hrel
  by_cases hlt : k < l.length
  case neg =>
   have HR : Hid (lessI L (dCondS l).sz = m) := by
    have h1 := HM.out.1; have h2 := HZ.out
    have hk' : k = l.length := by omega
    rw [hk'] at h1
    show lessI L (dCondS l).sz = m
    unfold lessI; rw [if_pos (by omega)]; omega
   go_wp2_with fail
   go_ret
   exact ⟨ret_i HR.out.symm, HM.out.2⟩
  obtain ⟨b, off, rfl, -, hc⟩ := (HS.out.later HM.out.2).things k hlt
  have HSU : Hid (szL 3 dCond l (k + 1) = szL 3 dCond l k + szT 3 (dCond l[k])) := szL_succ hlt
  have HLE : Hid (szL 3 dCond l (k + 1) ≤ szL 3 dCond l l.length) := szL_mono (by omega)
  have HXK := Lib.hid (HX.out k hlt)
  obtain ⟨u0, c0, r0⟩ := hc 0 (by omega)
  obtain rfl : u0 = .string ⟨l[k].col.toArray⟩ := r0
  replace c0 : wr.cell? ⟨b, off + k * 3, none⟩ = _ := c0
  obtain ⟨u1, c1, r1⟩ := hc 1 (by omega)
  obtain rfl : u1 = .int .i64 l[k].fn := r1
  obtain ⟨u2, c2, r2⟩ := hc 2 (by omega)
  replace r2 : Rd wr _ (dAtomS l[k].val) u2 := r2
  obtain ⟨a2, q2, rfl⟩ := r2.lsSlice
  clear hc
  generalize l[k] = x at *
  have CC := Lib.hid (szDCond x a2 q2 m B wr hm0 (by omega) HXK.out r2)
  clear HXK r2
  by_cases hz : m - (szT 3 (dCond x) : Int) < 0
  ·
   have HR : Hid (lessI L (dCondS l).sz = -1) := by
    have h1 := HM.out.1; have h2 := HSU.out; have h3 := HLE.out; have h4 := HZ.out
    show lessI L (dCondS l).sz = -1
    unfold lessI; rw [if_neg (by omega)]
   rw [less_no hz] at CC
   go_wp2_with (go_at_call 53; refine CC.out.mono ?_; rintro e w1 ⟨rfl, hB1⟩)
   go_ret
   exact ⟨ret_i HR.out.symm, HM.out.2.trans (hB1.mono HM.out.2.size)⟩
  rw [less_yes (by omega)] at CC
  obtain ⟨m', hm'⟩ : ∃ m' : Int, m' = m - (szT 3 (dCond x) : Int) := ⟨_, rfl⟩
  rw [← hm'] at CC
  have hd : decide (m' < 0) = false := decide_eq_false (by omega)
  have HM' : Hid (m' = m - (szT 3 (dCond x) : Int) ∧ 0 ≤ m') := ⟨hm', by omega⟩
  clear hm' hz
  go_wp2_with (go_at_call 53; refine CC.out.mono ?_; rintro e w1 ⟨rfl, hB1⟩)
  go_roundw
  case rel =>
   have h1 := HM.out.1; have h2 := HSU.out; have h3 := HM'.out
   exact ⟨k + 1, by omega, by go_num, m', rfl, by omega, by omega, by show _ = _; omega, HM.out.2.trans (hB1.mono HM.out.2.size)⟩
  case measure => simp [intOf]; omega
theorem run_mkCondS (n : Nat) (hn : n ≤ 1048576) (w : World) :
  (Instr.makeSlice 46 (.int .i64 (n : Int)) (.int .i64 (n : Int))).run Tryz.prog w = .ok (.slice (some ⟨w.heap.size, 0, none⟩) n n) (w.alloc (.cells (madeCells #[.string ⟨#[]⟩, .int .i64 0, .slice none 0 0] (n * 3)) 119)) := by
 have h : (Tryz.prog.info? 119).map (fun i => (i.zero, i.size, i.bytes)) = some (some (.agg #[.string ⟨#[]⟩, .int .i64 0, .slice none 0 0]), 3, 48) := by kernel_rfl
 obtain ⟨i, hi, hzz⟩ := Option.map_eq_some_iff.1 h
 simp only [Prod.mk.injEq] at hzz
 obtain ⟨hz, hs, hb⟩ := hzz
 have hr := run_make (P := Tryz.prog) w 46 119 i _ Tryz.underlying46 hi hz .i64 .i64 n n (by omega) (Int.le_refl _) (by rw [hb]; omega) (by omega)
 rw [hr, hs]
 simp only [Int.toNat_natCast]
 rfl
set_option maxRecDepth 100000 in
set_option maxHeartbeats 3200000 in
theorem toDCondS (l : List CondV) (a : Option Addr) (c : Nat) (B : Nat → Prop) (w : World) (ho : (dCondS l).le 1048576) (hS : Rd w B (dCondS l) (.slice a l.length c)) :
  Calls Tryz.prog 33 #[.slice a l.length c] w fun e w' => e = .returned (.slice (some ⟨w.heap.size, 0, none⟩) l.length l.length) ∧ Own w' (dCondS l) (fun c => w.heap.size ≤ c ∧ c < w'.heap.size) (.slice (some ⟨w.heap.size, 0, none⟩) l.length l.length) ∧ Below w.heap.size w w' := by
 have HS : Hid (Rd w B (Ls 3 dCond l) (.slice a l.length c)) := hS
 have HX : Hid (∀ i (h : i < l.length) j, j < 3 → (dCond l[i] j).le 1048576) := (Ls_le.1 ho).2.2
 have hl : l.length ≤ 1048576 := (Ls_le.1 ho).2.1
 have hmk := run_mkCondS l.length hl
 clear hS ho
 go_enter Tryz.func33, Tryz.ntmps33
 go_wp2_with fail
 clear hmk
 go_loopw [4] (fun i wr => ∃ k : Nat, k ≤ l.length ∧ i = .int .i64 k ∧ Hid (Below w.heap.size w wr ∧ TS wr 119 3 l.length (lsF dCond l) w.heap.size k)) (fun i _ => l.length - (intOf i).toNat)
 case atStart => exact ⟨0, Nat.zero_le _, rfl, (Below.refl _ _).alloc (Nat.le_refl _) _, by have := TS.start w #[.string ⟨#[]⟩, .int .i64 0, .slice none 0 0] 119 3 l.length (lsF dCond l); exact this⟩
 case round =>
  obtain ⟨k, hk, rfl, HD⟩ := hrel
  by_cases hlt : k < l.length
  case neg =>
   have hk' : k = l.length := by omega
   have hki : decide ((k : Int) < (l.length : Int)) = false := decide_eq_false (by omega)
   go_wp2_with fail
   go_ret
   exact ⟨rfl, TS.done (by omega) (by have := HD.out.2; rw [hk'] at this; exact this), HD.out.1⟩
  have hki : (k : Int) < (l.length : Int) := by omega
  obtain ⟨b, off, rfl, -, hc⟩ := (HS.out.later HD.out.1).things k hlt
  have HXK := Lib.hid (HX.out k hlt)
  have HFA : Hid (lsF dCond l k = dCond l[k]) := lsF_at hlt
  obtain ⟨u0, c0, r0⟩ := hc 0 (by omega)
  obtain rfl : u0 = .string ⟨l[k].col.toArray⟩ := r0
  replace c0 : wr.cell? ⟨b, off + k * 3, none⟩ = _ := c0
  obtain ⟨u1, c1, r1⟩ := hc 1 (by omega)
  obtain rfl : u1 = .int .i64 l[k].fn := r1
  obtain ⟨u2, c2, r2⟩ := hc 2 (by omega)
  replace r2 : Rd wr _ (dAtomS l[k].val) u2 := r2
  obtain ⟨a2, q2, rfl⟩ := r2.lsSlice
  clear hc
  generalize l[k] = x at *
  have CC := Lib.hid (toDCond x a2 q2 B wr HXK.out r2)
  clear HXK r2
  go_wp2_with fail
  refine CC.out.mono ?_
  rintro e w1 ⟨p2, rfl, oc, hB1⟩
  have HST : Hid (TS (((w1.setCell ⟨w.heap.size, k * 3, none⟩ (.string ⟨x.col.toArray⟩)).setCell ⟨w.heap.size, k * 3 + 1, none⟩ (.int .i64 x.fn)).setCell ⟨w.heap.size, k * 3 + 2, none⟩ (.slice (some ⟨p2, 0, none⟩) x.val.length x.val.length)) 119 3 l.length (lsF dCond l) w.heap.size (k + 1)) := HD.out.2.step hB1 (vat [.string ⟨x.col.toArray⟩, .int .i64 x.fn, .slice (some ⟨p2, 0, none⟩) x.val.length x.val.length]) (by rw [HFA.out]; exact oc)
  obtain ⟨g, hg⟩ := HD.out.2.row
  have hg1 := hg.of_block (hB1.block _ hg.lt)
  have e0 := hg1.cell (i := k * 3) (by omega)
  have z0 := hg1.frozen (k * 3)
  have e1 := hg1.cell (i := k * 3 + 1) (by omega)
  have z1 := hg1.frozen (k * 3 + 1)
  have e2 := hg1.cell (i := k * 3 + 2) (by omega)
  have z2 := hg1.frozen (k * 3 + 2)
  have HW := Lib.hid (HD.out.1.trans (hB1.mono HD.out.1.size))
  clear hg hg1 hB1 oc CC
  go_wp2_with fail
  go_roundw
  case rel => exact ⟨k + 1, by omega, by go_num, (((HW.out.setCell (Nat.le_refl _) _).setCell (Nat.le_refl _) _).setCell (Nat.le_refl _) _), HST.out⟩
  case measure => simp [intOf]; omega
set_option maxRecDepth 100000 in
set_option maxHeartbeats 3200000 in
theorem eqDCondS (l : List CondV) (a : Option Addr) (c : Nat) (a' : Option Addr) (c' : Nat) (A B : Nat → Prop) (w : World) (ho : (dCondS l).le maxLen) (hA : Rd w A (dCondS l) (.slice a l.length c)) (hB : Rd w B (dCondS l) (.slice a' l.length c')) :
  Calls Tryz.prog 44 #[.slice a l.length c, .slice a' l.length c'] w fun e w' => e = .returned (.bool true) ∧ Below w.heap.size w w' := by
 have hl : l.length ≤ maxLen := (Ls_le.1 ho).2.1
 unfold maxLen at hl
 have HX : Hid (∀ i (h : i < l.length) j, j < 3 → (dCond l[i] j).le maxLen) := (Ls_le.1 ho).2.2
 have HA : Hid (∀ W, Below w.heap.size w W → Rd W A (Ls 3 dCond l) (.slice a l.length c)) := fun W h => Rd.later hA h
 have HB : Hid (∀ W, Below w.heap.size w W → Rd W B (Ls 3 dCond l) (.slice a' l.length c')) := fun W h => Rd.later hB h
 clear hA hB ho
 go_enter Tryz.func44, Tryz.ntmps44
 go_wp2_with fail
 go_loopw [5] (fun i wr => ∃ k : Nat, k ≤ l.length ∧ i = .int .i64 k ∧ Hid (Below w.heap.size w wr)) (fun i _ => l.length - (intOf i).toNat)
 case atStart => exact ⟨0, Nat.zero_le _, rfl, Below.refl _ _⟩
 case round =>
  obtain ⟨k, hk, rfl, HW⟩ := hrel
  by_cases hlt : k < l.length
  case neg =>
   have hki : decide ((k : Int) < (l.length : Int)) = false := by simp; omega
   go_wp2_with fail
   go_ret
   exact ⟨rfl, HW.out⟩
  obtain ⟨b, off, rfl, -, hc⟩ := (HA.out _ HW.out).things k hlt
  obtain ⟨mb, moff, rfl, -, hd⟩ := (HB.out _ HW.out).things k hlt
  have HXK := Lib.hid (HX.out k hlt)
  obtain ⟨u0, c0, r0⟩ := hc 0 (by omega)
  obtain rfl : u0 = .string ⟨l[k].col.toArray⟩ := r0
  replace c0 : wr.cell? ⟨b, off + k * 3, none⟩ = _ := c0
  obtain ⟨u1, c1, r1⟩ := hc 1 (by omega)
  obtain rfl : u1 = .int .i64 l[k].fn := r1
  obtain ⟨u2, c2, r2⟩ := hc 2 (by omega)
  replace r2 : Rd wr _ (dAtomS l[k].val) u2 := r2
  obtain ⟨a2, q2, rfl⟩ := r2.lsSlice
  obtain ⟨mu0, mc0, mr0⟩ := hd 0 (by omega)
  obtain rfl : mu0 = .string ⟨l[k].col.toArray⟩ := mr0
  replace mc0 : wr.cell? ⟨mb, moff + k * 3, none⟩ = _ := mc0
  obtain ⟨mu1, mc1, mr1⟩ := hd 1 (by omega)
  obtain rfl : mu1 = .int .i64 l[k].fn := mr1
  obtain ⟨mu2, mc2, mr2⟩ := hd 2 (by omega)
  replace mr2 : Rd wr _ (dAtomS l[k].val) mu2 := mr2
  obtain ⟨ma2, mq2, rfl⟩ := mr2.lsSlice
  clear hc hd
  generalize l[k] = x at *
  have hki : (k : Int) < (l.length : Int) := by omega
  have EQ : Hid (∀ W, Below wr.heap.size wr W → Calls Tryz.prog 84 #[.agg #[.string ⟨x.col.toArray⟩, .int .i64 x.fn, .slice a2 x.val.length q2], .agg #[.string ⟨x.col.toArray⟩, .int .i64 x.fn, .slice ma2 x.val.length mq2]] W fun e w' => e = .returned (.bool true) ∧ Below W.heap.size W w') := fun W h => eqDCond x a2 q2 ma2 mq2 A B W HXK.out (r2.later h) (mr2.later h)
  clear HXK r2 mr2
  go_wp2_with fail
  go_region_with (go_at_call 84; refine (EQ.out _ (by first | exact Below.refl _ _ | exact (Below.refl _ _).drew)).mono ?_; rintro e w1 ⟨rfl, hB1⟩)
  all_goals
   go_wp2_with fail
   go_roundw
   case rel => exact ⟨k + 1, by omega, by go_num, HW.out.trans ((Below.refl _ _).drew.trans (hB1.mono (by first | exact HW.out.size | (have := HW.out.size; simpa using this))))⟩
   case measure => simp [intOf]; omega
end Go.Proofs.YtlddhbamcndggaaGreatDoor
