import Derived.Test.YtngbhifafdbpkaaGreatZam
namespace Go.Proofs.YtngbhifafdbpkaaGreat
open Go.RowKit
set_option linter.unusedSimpArgs false
structure RowV where
  id : Int
  cells : List (List At)
def dRow (x : RowV) : Nat → D
  | 0 => .i x.id
  | _ => dAtomSS x.cells
theorem szT_Row (x : RowV) : szT 2 (dRow x) = (dAtomSS x.cells).sz := by simp [szT, sumN, dRow, D.sz]
set_option maxHeartbeats 1600000 in
theorem szDRow (x : RowV) (a1 : Option Addr) (c1 : Nat) (L : Int) (B : Nat → Prop) (w : World) (h0 : 0 ≤ L) (h1 : L ≤ 1048576) (ho : ∀ j, j < 2 → (dRow x j).le maxLen) (r1 : Rd w B (dAtomSS x.cells) (.slice a1 x.cells.length c1)) :
    Calls Tryz.prog 59 #[.agg #[.int .i64 x.id, .slice a1 x.cells.length c1], .int .i64 L] w fun e w' => e = .returned (.int .i64 (lessI L (szT 2 (dRow x)))) ∧ Below w.heap.size w w' := by
  rw [szT_Row]
  have HO := Lib.hid ho
  have R1 := Lib.hid r1
  have hx := boxD 106 w #[.int .i64 x.id, .slice a1 x.cells.length c1]
  clear ho r1
  have x0 := cell_at (o := 0) hx.1 rfl
  have x1 := cell_at (o := 1) hx.1 rfl
  have bl : Hid (0 ≤ L ∧ L ≤ 1048576) := by show _ ∧ _; omega
  clear h0 h1
  go_enter Tryz.func59, Tryz.ntmps59
  go_wp2_with fail
  refine (szDAtomSS x.cells a1 c1 L B _ bl.out.1 bl.out.2 (HO.out 1 (by omega)) (R1.out.later hx.2)).mono ?_
  rintro e w2 ⟨rfl, hB2⟩
  have hx := hx.later hB2
  clear hB2 x0 x1
  have x0 := cell_at (o := 0) hx.1 rfl
  have x1 := cell_at (o := 1) hx.1 rfl
  by_cases hn1 : L - ((dAtomSS x.cells).sz : Int) < 0
  case pos =>
    have HR : Hid (lessI L ((dAtomSS x.cells).sz) = -1) := by have := bl.out; show lessI L ((dAtomSS x.cells).sz) = -1; unfold lessI; rw [if_neg (by omega)]
    rw [less_no hn1]
    go_wp2_with fail
    go_ret
    exact ⟨ret_i HR.out.symm, hx.2⟩
  rw [less_yes (by omega)]
  obtain ⟨L1, hL1⟩ : ∃ L1 : Int, L1 = L - ((dAtomSS x.cells).sz : Int) := ⟨_, rfl⟩
  rw [← hL1]
  have d1 : decide (L1 < 0) = false := decide_eq_false (by omega)
  have bL1 : Hid (0 ≤ L1 ∧ L1 ≤ 1048576) := by have := bl.out; show _ ∧ _; omega
  have HL1 := Lib.hid hL1
  have HR : Hid (lessI L ((dAtomSS x.cells).sz) = L1) := by have := HL1.out; have := bL1.out; show lessI L ((dAtomSS x.cells).sz) = L1; unfold lessI; rw [if_pos (by omega)]; omega
  clear hn1 hL1 bl
  have bl := bL1
  clear bL1
  go_wp2_with fail
  go_ret
  exact ⟨ret_i HR.out.symm, hx.2⟩
set_option maxRecDepth 100000 in
set_option maxHeartbeats 3200000 in
theorem toDRow (x : RowV) (a1 : Option Addr) (c1 : Nat) (B : Nat → Prop) (w : World) (ho : ∀ j, j < 2 → (dRow x j).le 1048576) (r1 : Rd w B (dAtomSS x.cells) (.slice a1 x.cells.length c1)) :
    Calls Tryz.prog 69 #[.agg #[.int .i64 x.id, .slice a1 x.cells.length c1]] w fun e w' => ∃ p1 : Nat, e = .returned (.agg #[.int .i64 x.id, .slice (some ⟨p1, 0, none⟩) x.cells.length x.cells.length]) ∧ Owns w' 2 (dRow x) (vat [.int .i64 x.id, .slice (some ⟨p1, 0, none⟩) x.cells.length x.cells.length]) (fun c => w.heap.size ≤ c ∧ c < w'.heap.size) ∧ Below w.heap.size w w' := by
  have HO := Lib.hid ho
  have R1 := Lib.hid r1
  have T0 := Lib.hid (st3First w 106 77 #[.int .i64 x.id, .slice a1 x.cells.length c1] #[.int .i64 0, .slice none 0 0] #[.int .i64 x.id, .slice none 0 0])
  clear ho r1
  go_enter Tryz.func69, Tryz.ntmps69
  go_wp2_with fail
  have HE : Hid (w.heap.size + 1 + 1 < (((w.alloc (.cells #[.int .i64 x.id, .slice a1 x.cells.length c1] 106)).alloc (.cells #[.int .i64 0, .slice none 0 0] 77)).alloc (.cells #[.int .i64 x.id, .slice none 0 0] 77)).heap.size) := by show _ < _; simp
  refine (toDAtomSS x.cells a1 c1 B _ (HO.out 1 (by omega)) (R1.out.later T0.out.bel)).mono ?_
  rintro e w2 ⟨rfl, o1, hB1⟩
  have S1 := Lib.hid (T0.out.later hB1)
  obtain ⟨p1, hp1⟩ : ∃ p, p = (((w.alloc (.cells #[.int .i64 x.id, .slice a1 x.cells.length c1] 106)).alloc (.cells #[.int .i64 0, .slice none 0 0] 77)).alloc (.cells #[.int .i64 x.id, .slice none 0 0] 77)).heap.size := ⟨_, rfl⟩
  have HP1 : Hid (w.heap.size + 1 + 1 < p1 ∧ p1 ≤ w2.heap.size) := by
    have h1 := hB1.size; have h2 := HE.out
    rw [← hp1] at h1 h2
    exact ⟨h2, h1⟩
  rw [← hp1] at o1 ⊢
  have O1 := Lib.hid o1
  clear o1 hB1 hp1 T0 HE
  have x1 := cell_at (o := 1) S1.out.ot rfl
  have z1 := frozen_at 1 S1.out.ot
  have hne : (w.heap.size = w.heap.size + 1 + 1) = False := by simp; omega
  have x0 := cell_at (o := 0) S1.out.ot rfl
  have g0 := cell_at (o := 0) S1.out.rv rfl
  have k0 := frozen_at 0 S1.out.rv
  have g1 := cell_at (o := 1) S1.out.rv rfl
  have k1 := frozen_at 1 S1.out.rv
  go_wp2_with fail
  refine bodyPost_ret (v := .agg #[.int .i64 x.id, .slice (some ⟨p1, 0, none⟩) x.cells.length x.cells.length]) (by simp [results, Tryz.results69, go_sem, *]) rfl ?_
  have FF : Frm (fun c => c = w.heap.size + 1 ∨ c = w.heap.size + 1 + 1) w2 (((w2.setCell ⟨w.heap.size + 1 + 1, 1, none⟩ (.slice (some ⟨p1, 0, none⟩) x.cells.length x.cells.length)).setCell ⟨w.heap.size + 1, 0, none⟩ (.int .i64 x.id)).setCell ⟨w.heap.size + 1, 1, none⟩ (.slice (some ⟨p1, 0, none⟩) x.cells.length x.cells.length)) := by
    refine Frm.set ?_ (.inl rfl) _
    refine Frm.set ?_ (.inl rfl) _
    refine Frm.set ?_ (.inr rfl) _
    exact Frm.refl _ _
  have hsz : (((w2.setCell ⟨w.heap.size + 1 + 1, 1, none⟩ (.slice (some ⟨p1, 0, none⟩) x.cells.length x.cells.length)).setCell ⟨w.heap.size + 1, 0, none⟩ (.int .i64 x.id)).setCell ⟨w.heap.size + 1, 1, none⟩ (.slice (some ⟨p1, 0, none⟩) x.cells.length x.cells.length)).heap.size = w2.heap.size := by simp
  refine ⟨p1, rfl, ⟨fun j c => (j = 1 ∧ p1 ≤ c ∧ c < w2.heap.size), fun j c hc => ?_, fun j j' c h h' => ?_, fun j hj => ?_⟩, ?_⟩
  · have h1 := HP1.out; rw [hsz]; omega
  · have h1 := HP1.out; omega
  · rcases (by omega : j = 0 ∨ j = 1) with rfl | rfl
    · rfl
    · exact (O1.out.frm FF (fun c hc hF => by have h1 := HP1.out; have h2 := hc.1; rcases hF with rfl | rfl <;> omega)).mono (fun c hc => ⟨rfl, hc⟩)
  · exact (((S1.out.bel.setCell (by simp <;> omega) _).setCell (by simp <;> omega) _).setCell (by simp <;> omega) _)
set_option maxRecDepth 100000 in
set_option maxHeartbeats 1600000 in
theorem eqDRow (x : RowV) (a1 : Option Addr) (c1 : Nat) (a1' : Option Addr) (c1' : Nat) (A B : Nat → Prop) (w : World) (ho : ∀ j, j < 2 → (dRow x j).le maxLen) (r1 : Rd w A (dAtomSS x.cells) (.slice a1 x.cells.length c1)) (r1' : Rd w B (dAtomSS x.cells) (.slice a1' x.cells.length c1')) :
    Calls Tryz.prog 81 #[.agg #[.int .i64 x.id, .slice a1 x.cells.length c1], .agg #[.int .i64 x.id, .slice a1' x.cells.length c1']] w fun e w' => e = .returned (.bool true) ∧ Below w.heap.size w w' := by
  have hb : Box2D 77 w ((w.alloc (.cells #[.int .i64 x.id, .slice a1 x.cells.length c1] 77)).alloc (.cells #[.int .i64 x.id, .slice a1' x.cells.length c1'] 77)) #[.int .i64 x.id, .slice a1 x.cells.length c1] #[.int .i64 x.id, .slice a1' x.cells.length c1'] := box2D _ _ _ _
  have E1 : Hid (∀ W, Below w.heap.size w W → Calls Tryz.prog 103 #[.slice a1 x.cells.length c1, .slice a1' x.cells.length c1'] W fun e w' => e = .returned (.bool true) ∧ Below W.heap.size W w') := fun W h => eqDAtomSS x.cells a1 c1 a1' c1' A B W (ho 1 (by omega)) (r1.later h) (r1'.later h)
  have HB := Lib.hid hb
  clear ho hb r1 r1'
  go_enter Tryz.func81, Tryz.ntmps81
  have x0 := cell_at (o := 0) HB.out.a rfl
  have y0 := cell_at (o := 0) HB.out.b rfl
  have x1 := cell_at (o := 1) HB.out.a rfl
  have y1 := cell_at (o := 1) HB.out.b rfl
  go_wp2_with fail
  refine (E1.out _ HB.out.bel).mono ?_
  rintro e w2 ⟨rfl, hB1⟩
  have H1 := Lib.hid (HB.out.later hB1)
  clear hB1 HB x0 y0 x1 y1
  have x0 := cell_at (o := 0) H1.out.a rfl
  have y0 := cell_at (o := 0) H1.out.b rfl
  have x1 := cell_at (o := 1) H1.out.a rfl
  have y1 := cell_at (o := 1) H1.out.b rfl
  go_wp2_with fail
  go_ret
  exact ⟨rfl, H1.out.bel⟩
def dRowS (l : List RowV) : D := Ls 2 dRow l
set_option maxHeartbeats 1600000 in
theorem szDRowS (l : List RowV) (a : Option Addr) (c : Nat) (L : Int) (B : Nat → Prop) (w : World) (h0 : 0 ≤ L) (h1 : L ≤ 1048576) (ho : (dRowS l).le maxLen) (hS : Rd w B (dRowS l) (.slice a l.length c)) :
    Calls Tryz.prog 31 #[.slice a l.length c, .int .i64 L] w fun e w' => e = .returned (.int .i64 (lessI L (dRowS l).sz)) ∧ Below w.heap.size w w' := by
  have hl : l.length ≤ maxLen := (Ls_le.1 ho).2.1
  unfold maxLen at hl
  have HX : Hid (∀ i (h : i < l.length) j, j < 2 → (dRow l[i] j).le maxLen) := (Ls_le.1 ho).2.2
  have HS : Hid (Rd w B (Ls 2 dRow l) (.slice a l.length c)) := hS
  have HZ : Hid ((dRowS l).sz = l.length + szL 2 dRow l l.length) := Ls_sz
  clear hS ho
  by_cases hn : L - (l.length : Int) < 0
  · have HR : Hid (lessI L (dRowS l).sz = -1) := by have := HZ.out; show lessI L (dRowS l).sz = -1; unfold lessI; rw [if_neg (by omega)]
    go_enter Tryz.func31, Tryz.ntmps31
    go_wp2_with fail
    go_ret
    exact ⟨ret_i HR.out.symm, Below.refl _ _⟩
  go_enter Tryz.func31, Tryz.ntmps31
  go_wp2_with fail
  go_loopw [1, 5] (fun t i wr => ∃ k : Nat, k ≤ l.length ∧ i = .int .i64 k ∧ ∃ m : Int, t = .int .i64 m ∧ 0 ≤ m ∧ m ≤ L ∧ Hid (m = L - (l.length + szL 2 dRow l k : Nat) ∧ Below w.heap.size w wr)) (fun _ i _ => l.length - (intOf i).toNat)
  case atStart => exact ⟨0, Nat.zero_le _, rfl, L - l.length, rfl, by omega, by omega, by show _ = _; rw [szL_zero]; omega, Below.refl _ _⟩
  case round =>
    obtain ⟨k, hk, rfl, m, rfl, hm0, hmL, HM⟩ := hrel
    by_cases hlt : k < l.length
    case neg =>
      have HR : Hid (lessI L (dRowS l).sz = m) := by
        have h1 := HM.out.1; have h2 := HZ.out
        have hk' : k = l.length := by omega
        rw [hk'] at h1
        show lessI L (dRowS l).sz = m
        unfold lessI; rw [if_pos (by omega)]; omega
      go_wp2_with fail
      go_ret
      exact ⟨ret_i HR.out.symm, HM.out.2⟩
    obtain ⟨b, off, rfl, -, hc⟩ := (HS.out.later HM.out.2).things k hlt
    have HSU : Hid (szL 2 dRow l (k + 1) = szL 2 dRow l k + szT 2 (dRow l[k])) := szL_succ hlt
    have HLE : Hid (szL 2 dRow l (k + 1) ≤ szL 2 dRow l l.length) := szL_mono (by omega)
    have HXK := Lib.hid (HX.out k hlt)
    obtain ⟨u0, c0, r0⟩ := hc 0 (by omega)
    obtain rfl : u0 = .int .i64 l[k].id := r0
    replace c0 : wr.cell? ⟨b, off + k * 2, none⟩ = _ := c0
    obtain ⟨u1, c1, r1⟩ := hc 1 (by omega)
    replace r1 : Rd wr _ (dAtomSS l[k].cells) u1 := r1
    obtain ⟨a1, q1, rfl⟩ := r1.lsSlice
    clear hc
    generalize l[k] = x at *
    have CC := Lib.hid (szDRow x a1 q1 m B wr hm0 (by omega) HXK.out r1)
    clear HXK r1
    by_cases hz : m - (szT 2 (dRow x) : Int) < 0
    · have HR : Hid (lessI L (dRowS l).sz = -1) := by
        have h1 := HM.out.1; have h2 := HSU.out; have h3 := HLE.out; have h4 := HZ.out
        show lessI L (dRowS l).sz = -1
        unfold lessI; rw [if_neg (by omega)]
      rw [less_no hz] at CC
      go_wp2_with (go_at_call 59; refine CC.out.mono ?_; rintro e w1 ⟨rfl, hB1⟩)
      go_ret
      exact ⟨ret_i HR.out.symm, HM.out.2.trans (hB1.mono HM.out.2.size)⟩
    rw [less_yes (by omega)] at CC
    obtain ⟨m', hm'⟩ : ∃ m' : Int, m' = m - (szT 2 (dRow x) : Int) := ⟨_, rfl⟩
    rw [← hm'] at CC
    have hd : decide (m' < 0) = false := decide_eq_false (by omega)
    have HM' : Hid (m' = m - (szT 2 (dRow x) : Int) ∧ 0 ≤ m') := ⟨hm', by omega⟩
    clear hm' hz
    go_wp2_with (go_at_call 59; refine CC.out.mono ?_; rintro e w1 ⟨rfl, hB1⟩)
    go_roundw
    case rel =>
      have h1 := HM.out.1; have h2 := HSU.out; have h3 := HM'.out
      exact ⟨k + 1, by omega, by go_num, m', rfl, by omega, by omega, by show _ = _; omega, HM.out.2.trans (hB1.mono HM.out.2.size)⟩
    case measure => simp [intOf]; omega
theorem run_mkRowS (n : Nat) (hn : n ≤ 1048576) (w : World) :
    (Instr.makeSlice 74 (.int .i64 (n : Int)) (.int .i64 (n : Int))).run Tryz.prog w = .ok (.slice (some ⟨w.heap.size, 0, none⟩) n n) (w.alloc (.cells (madeCells #[.int .i64 0, .slice none 0 0] (n * 2)) 77)) := by
  have h : (Tryz.prog.info? 77).map (fun i => (i.zero, i.size, i.bytes)) = some (some (.agg #[.int .i64 0, .slice none 0 0]), 2, 32) := by kernel_rfl
  obtain ⟨i, hi, hzz⟩ := Option.map_eq_some_iff.1 h
  simp only [Prod.mk.injEq] at hzz
  obtain ⟨hz, hs, hb⟩ := hzz
  have hr := run_make (P := Tryz.prog) w 74 77 i _ Tryz.underlying74 hi hz .i64 .i64 n n (by omega) (Int.le_refl _) (by rw [hb]; omega) (by omega)
  rw [hr, hs]
  simp only [Int.toNat_natCast]
  rfl
set_option maxRecDepth 100000 in
set_option maxHeartbeats 3200000 in
theorem toDRowS (l : List RowV) (a : Option Addr) (c : Nat) (B : Nat → Prop) (w : World) (ho : (dRowS l).le 1048576) (hS : Rd w B (dRowS l) (.slice a l.length c)) :
    Calls Tryz.prog 41 #[.slice a l.length c] w fun e w' => e = .returned (.slice (some ⟨w.heap.size, 0, none⟩) l.length l.length) ∧ Own w' (dRowS l) (fun c => w.heap.size ≤ c ∧ c < w'.heap.size) (.slice (some ⟨w.heap.size, 0, none⟩) l.length l.length) ∧ Below w.heap.size w w' := by
  have HS : Hid (Rd w B (Ls 2 dRow l) (.slice a l.length c)) := hS
  have HX : Hid (∀ i (h : i < l.length) j, j < 2 → (dRow l[i] j).le 1048576) := (Ls_le.1 ho).2.2
  have hl : l.length ≤ 1048576 := (Ls_le.1 ho).2.1
  have hmk := run_mkRowS l.length hl
  clear hS ho
  go_enter Tryz.func41, Tryz.ntmps41
  go_wp2_with fail
  clear hmk
  go_loopw [4] (fun i wr => ∃ k : Nat, k ≤ l.length ∧ i = .int .i64 k ∧ Hid (Below w.heap.size w wr ∧ TS wr 77 2 l.length (lsF dRow l) w.heap.size k)) (fun i _ => l.length - (intOf i).toNat)
  case atStart => exact ⟨0, Nat.zero_le _, rfl, (Below.refl _ _).alloc (Nat.le_refl _) _, by have := TS.start w #[.int .i64 0, .slice none 0 0] 77 2 l.length (lsF dRow l); exact this⟩
  case round =>
    obtain ⟨k, hk, rfl, HD⟩ := hrel
    by_cases hlt : k < l.length
    case neg =>
      have hk' : k = l.length := by omega
      have hki : decide ((k : Int) < (l.length : Int)) = false := decide_eq_false (by omega)
      go_wp2_with fail
      go_ret
      exact ⟨rfl, TS.done (by omega) (by have := HD.out.2; rw [hk'] at this; exact this), HD.out.1⟩
    have hki : (k : Int) < (l.length : Int) := by omega
    obtain ⟨b, off, rfl, -, hc⟩ := (HS.out.later HD.out.1).things k hlt
    have HXK := Lib.hid (HX.out k hlt)
    have HFA : Hid (lsF dRow l k = dRow l[k]) := lsF_at hlt
    obtain ⟨u0, c0, r0⟩ := hc 0 (by omega)
    obtain rfl : u0 = .int .i64 l[k].id := r0
    replace c0 : wr.cell? ⟨b, off + k * 2, none⟩ = _ := c0
    obtain ⟨u1, c1, r1⟩ := hc 1 (by omega)
    replace r1 : Rd wr _ (dAtomSS l[k].cells) u1 := r1
    obtain ⟨a1, q1, rfl⟩ := r1.lsSlice
    clear hc
    generalize l[k] = x at *
    have CC := Lib.hid (toDRow x a1 q1 B wr HXK.out r1)
    clear HXK r1
    go_wp2_with fail
    refine CC.out.mono ?_
    rintro e w1 ⟨p1, rfl, oc, hB1⟩
    have HST : Hid (TS ((w1.setCell ⟨w.heap.size, k * 2, none⟩ (.int .i64 x.id)).setCell ⟨w.heap.size, k * 2 + 1, none⟩ (.slice (some ⟨p1, 0, none⟩) x.cells.length x.cells.length)) 77 2 l.length (lsF dRow l) w.heap.size (k + 1)) := HD.out.2.step hB1 (vat [.int .i64 x.id, .slice (some ⟨p1, 0, none⟩) x.cells.length x.cells.length]) (by rw [HFA.out]; exact oc)
    obtain ⟨g, hg⟩ := HD.out.2.row
    have hg1 := hg.of_block (hB1.block _ hg.lt)
    have e0 := hg1.cell (i := k * 2) (by omega)
    have z0 := hg1.frozen (k * 2)
    have e1 := hg1.cell (i := k * 2 + 1) (by omega)
    have z1 := hg1.frozen (k * 2 + 1)
    have HW := Lib.hid (HD.out.1.trans (hB1.mono HD.out.1.size))
    clear hg hg1 hB1 oc CC
    go_wp2_with fail
    go_roundw
    case rel => exact ⟨k + 1, by omega, by go_num, ((HW.out.setCell (Nat.le_refl _) _).setCell (Nat.le_refl _) _), HST.out⟩
    case measure => simp [intOf]; omega
set_option maxRecDepth 100000 in
set_option maxHeartbeats 3200000 in
theorem eqDRowS (l : List RowV) (a : Option Addr) (c : Nat) (a' : Option Addr) (c' : Nat) (A B : Nat → Prop) (w : World) (ho : (dRowS l).le maxLen) (hA : Rd w A (dRowS l) (.slice a l.length c)) (hB : Rd w B (dRowS l) (.slice a' l.length c')) :
    Calls Tryz.prog 50 #[.slice a l.length c, .slice a' l.length c'] w fun e w' => e = .returned (.bool true) ∧ Below w.heap.size w w' := by
  have hl : l.length ≤ maxLen := (Ls_le.1 ho).2.1
  unfold maxLen at hl
  have HX : Hid (∀ i (h : i < l.length) j, j < 2 → (dRow l[i] j).le maxLen) := (Ls_le.1 ho).2.2
  have HA : Hid (∀ W, Below w.heap.size w W → Rd W A (Ls 2 dRow l) (.slice a l.length c)) := fun W h => Rd.later hA h
  have HB : Hid (∀ W, Below w.heap.size w W → Rd W B (Ls 2 dRow l) (.slice a' l.length c')) := fun W h => Rd.later hB h
  clear hA hB ho
  go_enter Tryz.func50, Tryz.ntmps50
  go_wp2_with fail
  go_loopw [5] (fun i wr => ∃ k : Nat, k ≤ l.length ∧ i = .int .i64 k ∧ Hid (Below w.heap.size w wr)) (fun i _ => l.length - (intOf i).toNat)
  case atStart => exact ⟨0, Nat.zero_le _, rfl, Below.refl _ _⟩
  case round =>
    obtain ⟨k, hk, rfl, HW⟩ := hrel
    by_cases hlt : k < l.length
    case neg =>
      have hki : decide ((k : Int) < (l.length : Int)) = false := by simp; omega
      go_wp2_with fail
      go_ret
      exact ⟨rfl, HW.out⟩
    obtain ⟨b, off, rfl, -, hc⟩ := (HA.out _ HW.out).things k hlt
    obtain ⟨mb, moff, rfl, -, hd⟩ := (HB.out _ HW.out).things k hlt
    have HXK := Lib.hid (HX.out k hlt)
    obtain ⟨u0, c0, r0⟩ := hc 0 (by omega)
    obtain rfl : u0 = .int .i64 l[k].id := r0
    replace c0 : wr.cell? ⟨b, off + k * 2, none⟩ = _ := c0
    obtain ⟨u1, c1, r1⟩ := hc 1 (by omega)
    replace r1 : Rd wr _ (dAtomSS l[k].cells) u1 := r1
    obtain ⟨a1, q1, rfl⟩ := r1.lsSlice
    obtain ⟨mu0, mc0, mr0⟩ := hd 0 (by omega)
    obtain rfl : mu0 = .int .i64 l[k].id := mr0
    replace mc0 : wr.cell? ⟨mb, moff + k * 2, none⟩ = _ := mc0
    obtain ⟨mu1, mc1, mr1⟩ := hd 1 (by omega)
    replace mr1 : Rd wr _ (dAtomSS l[k].cells) mu1 := mr1
    obtain ⟨ma1, mq1, rfl⟩ := mr1.lsSlice
    clear hc hd
    generalize l[k] = x at *
    have hki : (k : Int) < (l.length : Int) := by omega
    have EQ : Hid (∀ W, Below wr.heap.size wr W → Calls Tryz.prog 81 #[.agg #[.int .i64 x.id, .slice a1 x.cells.length q1], .agg #[.int .i64 x.id, .slice ma1 x.cells.length mq1]] W fun e w' => e = .returned (.bool true) ∧ Below W.heap.size W w') := fun W h => eqDRow x a1 q1 ma1 mq1 A B W HXK.out (r1.later h) (mr1.later h)
    clear HXK r1 mr1
    go_wp2_with fail
    go_region_with (go_at_call 81; refine (EQ.out _ (by first | exact Below.refl _ _ | exact (Below.refl _ _).drew)).mono ?_; rintro e w1 ⟨rfl, hB1⟩)
    all_goals
      go_wp2_with fail
      go_roundw
      case rel => exact ⟨k + 1, by omega, by go_num, HW.out.trans ((Below.refl _ _).drew.trans (hB1.mono (by first | exact HW.out.size | (have := HW.out.size; simpa using this))))⟩
      case measure => simp [intOf]; omega
def cRowS (x : List RowV) : Nat → D := fun _ => dRowS x
def dRowSS (l : List (List RowV)) : D := Ls 1 cRowS l
set_option maxHeartbeats 1600000 in
theorem szDRowSS (l : List (List RowV)) (a : Option Addr) (c : Nat) (L : Int) (B : Nat → Prop) (w : World) (h0 : 0 ≤ L) (h1 : L ≤ 1048576) (ho : (dRowSS l).le maxLen) (hS : Rd w B (dRowSS l) (.slice a l.length c)) :
    Calls Tryz.prog 16 #[.slice a l.length c, .int .i64 L] w fun e w' => e = .returned (.int .i64 (lessI L (dRowSS l).sz)) ∧ Below w.heap.size w w' := by
  have hl : l.length ≤ maxLen := (Ls_le.1 ho).2.1
  unfold maxLen at hl
  have HX : Hid (∀ i (h : i < l.length) j, j < 1 → (cRowS l[i] j).le maxLen) := (Ls_le.1 ho).2.2
  have HS : Hid (Rd w B (Ls 1 cRowS l) (.slice a l.length c)) := hS
  have HZ : Hid ((dRowSS l).sz = l.length + szL 1 cRowS l l.length) := Ls_sz
  clear hS ho
  by_cases hn : L - (l.length : Int) < 0
  · have HR : Hid (lessI L (dRowSS l).sz = -1) := by have := HZ.out; show lessI L (dRowSS l).sz = -1; unfold lessI; rw [if_neg (by omega)]
    go_enter Tryz.func16, Tryz.ntmps16
    go_wp2_with fail
    go_ret
    exact ⟨ret_i HR.out.symm, Below.refl _ _⟩
  go_enter Tryz.func16, Tryz.ntmps16
  go_wp2_with fail
  go_loopw [1, 5] (fun t i wr => ∃ k : Nat, k ≤ l.length ∧ i = .int .i64 k ∧ ∃ m : Int, t = .int .i64 m ∧ 0 ≤ m ∧ m ≤ L ∧ Hid (m = L - (l.length + szL 1 cRowS l k : Nat) ∧ Below w.heap.size w wr)) (fun _ i _ => l.length - (intOf i).toNat)
  case atStart => exact ⟨0, Nat.zero_le _, rfl, L - l.length, rfl, by omega, by omega, by show _ = _; rw [szL_zero]; omega, Below.refl _ _⟩
  case round =>
    obtain ⟨k, hk, rfl, m, rfl, hm0, hmL, HM⟩ := hrel
    by_cases hlt : k < l.length
    case neg =>
      have HR : Hid (lessI L (dRowSS l).sz = m) := by
        have h1 := HM.out.1; have h2 := HZ.out
        have hk' : k = l.length := by omega
        rw [hk'] at h1
        show lessI L (dRowSS l).sz = m
        unfold lessI; rw [if_pos (by omega)]; omega
      go_wp2_with fail
      go_ret
      exact ⟨ret_i HR.out.symm, HM.out.2⟩
    obtain ⟨b, off, rfl, -, hc⟩ := (HS.out.later HM.out.2).things k hlt
    have HSU : Hid (szL 1 cRowS l (k + 1) = szL 1 cRowS l k + szT 1 (cRowS l[k])) := szL_succ hlt
    have HLE : Hid (szL 1 cRowS l (k + 1) ≤ szL 1 cRowS l l.length) := szL_mono (by omega)
    have HXK := Lib.hid (HX.out k hlt)
    obtain ⟨u0, c0, r0⟩ := hc 0 (by omega)
    replace r0 : Rd wr _ (dRowS l[k]) u0 := r0
    obtain ⟨a0, q0, rfl⟩ := r0.lsSlice
    rw [Nat.mul_one] at c0
    replace c0 : wr.cell? ⟨b, off + k, none⟩ = _ := c0
    clear hc
    generalize l[k] = x at *
    have HSE : Hid (szT 1 (cRowS x) = (dRowS x).sz) := by show szT 1 (cRowS x) = _; simp [szT, sumN, cRowS]
    rw [HSE.out] at HSU
    have CC := Lib.hid (szDRowS x a0 q0 m B wr hm0 (by omega) (HXK.out 0 (by omega)) r0)
    clear HXK r0
    by_cases hz : m - ((dRowS x).sz : Int) < 0
    · have HR : Hid (lessI L (dRowSS l).sz = -1) := by
        have h1 := HM.out.1; have h2 := HSU.out; have h3 := HLE.out; have h4 := HZ.out
        show lessI L (dRowSS l).sz = -1
        unfold lessI; rw [if_neg (by omega)]
      rw [less_no hz] at CC
      go_wp2_with (go_at_call 31; refine CC.out.mono ?_; rintro e w1 ⟨rfl, hB1⟩)
      go_ret
      exact ⟨ret_i HR.out.symm, HM.out.2.trans (hB1.mono HM.out.2.size)⟩
    rw [less_yes (by omega)] at CC
    obtain ⟨m', hm'⟩ : ∃ m' : Int, m' = m - ((dRowS x).sz : Int) := ⟨_, rfl⟩
    rw [← hm'] at CC
    have hd : decide (m' < 0) = false := decide_eq_false (by omega)
    have HM' : Hid (m' = m - ((dRowS x).sz : Int) ∧ 0 ≤ m') := ⟨hm', by omega⟩
    clear hm' hz
    go_wp2_with (go_at_call 31; refine CC.out.mono ?_; rintro e w1 ⟨rfl, hB1⟩)
    go_roundw
    case rel =>
      have h1 := HM.out.1; have h2 := HSU.out; have h3 := HM'.out
      exact ⟨k + 1, by omega, by go_num, m', rfl, by omega, by omega, by show _ = _; omega, HM.out.2.trans (hB1.mono HM.out.2.size)⟩
    case measure => simp [intOf]; omega
theorem run_mkRowSS (n : Nat) (hn : n ≤ 1048576) (w : World) :
    (Instr.makeSlice 30 (.int .i64 (n : Int)) (.int .i64 (n : Int))).run Tryz.prog w = .ok (.slice (some ⟨w.heap.size, 0, none⟩) n n) (w.alloc (.cells (madeCells #[.slice none 0 0] (n * 1)) 74)) := by
  have h : (Tryz.prog.info? 74).map (fun i => (i.zero, i.size, i.bytes)) = some (some (.slice none 0 0), 1, 24) := by kernel_rfl
  obtain ⟨i, hi, hzz⟩ := Option.map_eq_some_iff.1 h
  simp only [Prod.mk.injEq] at hzz
  obtain ⟨hz, hs, hb⟩ := hzz
  have hr := run_make (P := Tryz.prog) w 30 74 i _ Tryz.underlying30 hi hz .i64 .i64 n n (by omega) (Int.le_refl _) (by rw [hb]; omega) (by omega)
  rw [hr, hs]
  simp only [Int.toNat_natCast]
  rfl
set_option maxRecDepth 100000 in
set_option maxHeartbeats 3200000 in
theorem toDRowSS (l : List (List RowV)) (a : Option Addr) (c : Nat) (B : Nat → Prop) (w : World) (ho : (dRowSS l).le 1048576) (hS : Rd w B (dRowSS l) (.slice a l.length c)) :
    Calls Tryz.prog 21 #[.slice a l.length c] w fun e w' => e = .returned (.slice (some ⟨w.heap.size, 0, none⟩) l.length l.length) ∧ Own w' (dRowSS l) (fun c => w.heap.size ≤ c ∧ c < w'.heap.size) (.slice (some ⟨w.heap.size, 0, none⟩) l.length l.length) ∧ Below w.heap.size w w' := by
  have HS : Hid (Rd w B (Ls 1 cRowS l) (.slice a l.length c)) := hS
  have HX : Hid (∀ i (h : i < l.length) j, j < 1 → (cRowS l[i] j).le 1048576) := (Ls_le.1 ho).2.2
  have hl : l.length ≤ 1048576 := (Ls_le.1 ho).2.1
  have hmk := run_mkRowSS l.length hl
  clear hS ho
  go_enter Tryz.func21, Tryz.ntmps21
  go_wp2_with fail
  clear hmk
  go_loopw [4] (fun i wr => ∃ k : Nat, k ≤ l.length ∧ i = .int .i64 k ∧ Hid (Below w.heap.size w wr ∧ TS wr 74 1 l.length (lsF cRowS l) w.heap.size k)) (fun i _ => l.length - (intOf i).toNat)
  case atStart => exact ⟨0, Nat.zero_le _, rfl, (Below.refl _ _).alloc (Nat.le_refl _) _, by have := TS.start w #[.slice none 0 0] 74 1 l.length (lsF cRowS l); rw [Nat.mul_one] at this; exact this⟩
  case round =>
    obtain ⟨k, hk, rfl, HD⟩ := hrel
    by_cases hlt : k < l.length
    case neg =>
      have hk' : k = l.length := by omega
      have hki : decide ((k : Int) < (l.length : Int)) = false := decide_eq_false (by omega)
      go_wp2_with fail
      go_ret
      exact ⟨rfl, TS.done (by omega) (by have := HD.out.2; rw [hk'] at this; exact this), HD.out.1⟩
    have hki : (k : Int) < (l.length : Int) := by omega
    obtain ⟨b, off, rfl, -, hc⟩ := (HS.out.later HD.out.1).things k hlt
    have HXK := Lib.hid (HX.out k hlt)
    have HFA : Hid (lsF cRowS l k = cRowS l[k]) := lsF_at hlt
    obtain ⟨u0, c0, r0⟩ := hc 0 (by omega)
    replace r0 : Rd wr _ (dRowS l[k]) u0 := r0
    obtain ⟨a0, q0, rfl⟩ := r0.lsSlice
    rw [Nat.mul_one] at c0
    replace c0 : wr.cell? ⟨b, off + k, none⟩ = _ := c0
    clear hc
    generalize l[k] = x at *
    have CC := Lib.hid (toDRowS x a0 q0 B wr (HXK.out 0 (by omega)) r0)
    clear HXK r0
    go_wp2_with fail
    refine CC.out.mono ?_
    rintro e w1 ⟨rfl, oc, hB1⟩
    have HST : Hid (TS (w1.setCell ⟨w.heap.size, k, none⟩ (.slice (some ⟨wr.heap.size, 0, none⟩) x.length x.length)) 74 1 l.length (lsF cRowS l) w.heap.size (k + 1)) := by
      have := HD.out.2.step hB1 (fun _ => .slice (some ⟨wr.heap.size, 0, none⟩) x.length x.length) ⟨fun j c => j = 0 ∧ wr.heap.size ≤ c ∧ c < w1.heap.size, fun _ _ h => h.2, fun _ _ _ h h' => by omega, fun j hj => by
        rw [HFA.out]
        obtain rfl : j = 0 := by omega
        exact oc.mono (fun c h => ⟨rfl, h⟩)⟩
      simp only [putN, Nat.mul_one, Nat.add_zero] at this
      exact this
    obtain ⟨g, hg⟩ := HD.out.2.row
    have hg1 := hg.of_block (hB1.block _ hg.lt)
    rw [Nat.mul_one] at hg1
    have e0 := hg1.cell (i := k) hlt
    have z0 := hg1.frozen k
    have HW := Lib.hid (HD.out.1.trans (hB1.mono HD.out.1.size))
    clear hg hg1 hB1 oc CC
    generalize wr.heap.size = q at *
    go_wp2_with fail
    go_roundw
    case rel => exact ⟨k + 1, by omega, by go_num, HW.out.setCell (Nat.le_refl _) _, HST.out⟩
    case measure => simp [intOf]; omega
set_option maxRecDepth 100000 in
set_option maxHeartbeats 3200000 in
theorem eqDRowSS (l : List (List RowV)) (a : Option Addr) (c : Nat) (a' : Option Addr) (c' : Nat) (A B : Nat → Prop) (w : World) (ho : (dRowSS l).le maxLen) (hA : Rd w A (dRowSS l) (.slice a l.length c)) (hB : Rd w B (dRowSS l) (.slice a' l.length c')) :
    Calls Tryz.prog 25 #[.slice a l.length c, .slice a' l.length c'] w fun e w' => e = .returned (.bool true) ∧ Below w.heap.size w w' := by
  have hl : l.length ≤ maxLen := (Ls_le.1 ho).2.1
  unfold maxLen at hl
  have HX : Hid (∀ i (h : i < l.length) j, j < 1 → (cRowS l[i] j).le maxLen) := (Ls_le.1 ho).2.2
  have HA : Hid (∀ W, Below w.heap.size w W → Rd W A (Ls 1 cRowS l) (.slice a l.length c)) := fun W h => Rd.later hA h
  have HB : Hid (∀ W, Below w.heap.size w W → Rd W B (Ls 1 cRowS l) (.slice a' l.length c')) := fun W h => Rd.later hB h
  clear hA hB ho
  go_enter Tryz.func25, Tryz.ntmps25
  go_wp2_with fail
  go_loopw [5] (fun i wr => ∃ k : Nat, k ≤ l.length ∧ i = .int .i64 k ∧ Hid (Below w.heap.size w wr)) (fun i _ => l.length - (intOf i).toNat)
  case atStart => exact ⟨0, Nat.zero_le _, rfl, Below.refl _ _⟩
  case round =>
    obtain ⟨k, hk, rfl, HW⟩ := hrel
    by_cases hlt : k < l.length
    case neg =>
      have hki : decide ((k : Int) < (l.length : Int)) = false := by simp; omega
      go_wp2_with fail
      go_ret
      exact ⟨rfl, HW.out⟩
    obtain ⟨b, off, rfl, -, hc⟩ := (HA.out _ HW.out).things k hlt
    obtain ⟨mb, moff, rfl, -, hd⟩ := (HB.out _ HW.out).things k hlt
    have HXK := Lib.hid (HX.out k hlt)
    obtain ⟨u0, c0, r0⟩ := hc 0 (by omega)
    replace r0 : Rd wr _ (dRowS l[k]) u0 := r0
    obtain ⟨a0, q0, rfl⟩ := r0.lsSlice
    rw [Nat.mul_one] at c0
    replace c0 : wr.cell? ⟨b, off + k, none⟩ = _ := c0
    obtain ⟨mu0, mc0, mr0⟩ := hd 0 (by omega)
    replace mr0 : Rd wr _ (dRowS l[k]) mu0 := mr0
    obtain ⟨ma0, mq0, rfl⟩ := mr0.lsSlice
    rw [Nat.mul_one] at mc0
    replace mc0 : wr.cell? ⟨mb, moff + k, none⟩ = _ := mc0
    clear hc hd
    generalize l[k] = x at *
    have hki : (k : Int) < (l.length : Int) := by omega
    have EQ : Hid (∀ W, Below wr.heap.size wr W → Calls Tryz.prog 50 #[.slice a0 x.length q0, .slice ma0 x.length mq0] W fun e w' => e = .returned (.bool true) ∧ Below W.heap.size W w') := fun W h => eqDRowS x a0 q0 ma0 mq0 A B W (HXK.out 0 (by omega)) (r0.later h) (mr0.later h)
    clear HXK r0 mr0
    go_wp2_with fail
    go_region_with (go_at_call 50; refine (EQ.out _ (by first | exact Below.refl _ _ | exact (Below.refl _ _).drew)).mono ?_; rintro e w1 ⟨rfl, hB1⟩)
    all_goals
      go_wp2_with fail
      go_roundw
      case rel => exact ⟨k + 1, by omega, by go_num, HW.out.trans ((Below.refl _ _).drew.trans (hB1.mono (by first | exact HW.out.size | (have := HW.out.size; simpa using this))))⟩
      case measure => simp [intOf]; omega
structure StV where
  tables : List (List RowV)
  next : Int
def dStore (x : StV) : Nat → D
  | 0 => dRowSS x.tables
  | _ => .i x.next
theorem szT_Store (x : StV) : szT 2 (dStore x) = (dRowSS x.tables).sz := by simp [szT, sumN, dStore, D.sz]
set_option maxHeartbeats 1600000 in
theorem szDStore (x : StV) (a0 : Option Addr) (c0 : Nat) (L : Int) (B : Nat → Prop) (w : World) (h0 : 0 ≤ L) (h1 : L ≤ 1048576) (ho : ∀ j, j < 2 → (dStore x j).le maxLen) (r0 : Rd w B (dRowSS x.tables) (.slice a0 x.tables.length c0)) :
    Calls Tryz.prog 5 #[.agg #[.slice a0 x.tables.length c0, .int .i64 x.next], .int .i64 L] w fun e w' => e = .returned (.int .i64 (lessI L (szT 2 (dStore x)))) ∧ Below w.heap.size w w' := by
  rw [szT_Store]
  have HO := Lib.hid ho
  have R0 := Lib.hid r0
  have hx := boxD 27 w #[.slice a0 x.tables.length c0, .int .i64 x.next]
  clear ho r0
  have x0 := cell_at (o := 0) hx.1 rfl
  have x1 := cell_at (o := 1) hx.1 rfl
  have bl : Hid (0 ≤ L ∧ L ≤ 1048576) := by show _ ∧ _; omega
  clear h0 h1
  go_enter Tryz.func5, Tryz.ntmps5
  go_wp2_with fail
  refine (szDRowSS x.tables a0 c0 L B _ bl.out.1 bl.out.2 (HO.out 0 (by omega)) (R0.out.later hx.2)).mono ?_
  rintro e w1 ⟨rfl, hB1⟩
  have hx := hx.later hB1
  clear hB1 x0 x1
  have x0 := cell_at (o := 0) hx.1 rfl
  have x1 := cell_at (o := 1) hx.1 rfl
  by_cases hn0 : L - ((dRowSS x.tables).sz : Int) < 0
  case pos =>
    have HR : Hid (lessI L ((dRowSS x.tables).sz) = -1) := by have := bl.out; show lessI L ((dRowSS x.tables).sz) = -1; unfold lessI; rw [if_neg (by omega)]
    rw [less_no hn0]
    go_wp2_with fail
    go_ret
    exact ⟨ret_i HR.out.symm, hx.2⟩
  rw [less_yes (by omega)]
  obtain ⟨L0, hL0⟩ : ∃ L0 : Int, L0 = L - ((dRowSS x.tables).sz : Int) := ⟨_, rfl⟩
  rw [← hL0]
  have d0 : decide (L0 < 0) = false := decide_eq_false (by omega)
  have bL0 : Hid (0 ≤ L0 ∧ L0 ≤ 1048576) := by have := bl.out; show _ ∧ _; omega
  have HL0 := Lib.hid hL0
  have HR : Hid (lessI L ((dRowSS x.tables).sz) = L0) := by have := HL0.out; have := bL0.out; show lessI L ((dRowSS x.tables).sz) = L0; unfold lessI; rw [if_pos (by omega)]; omega
  clear hn0 hL0 bl
  have bl := bL0
  clear bL0
  go_wp2_with fail
  go_ret
  exact ⟨ret_i HR.out.symm, hx.2⟩
set_option maxRecDepth 100000 in
set_option maxHeartbeats 3200000 in
theorem toDStore (x : StV) (a0 : Option Addr) (c0 : Nat) (B : Nat → Prop) (w : World) (ho : ∀ j, j < 2 → (dStore x j).le 1048576) (r0 : Rd w B (dRowSS x.tables) (.slice a0 x.tables.length c0)) :
    Calls Tryz.prog 8 #[.agg #[.slice a0 x.tables.length c0, .int .i64 x.next]] w fun e w' => ∃ p0 : Nat, e = .returned (.agg #[.slice (some ⟨p0, 0, none⟩) x.tables.length x.tables.length, .int .i64 x.next]) ∧ Owns w' 2 (dStore x) (vat [.slice (some ⟨p0, 0, none⟩) x.tables.length x.tables.length, .int .i64 x.next]) (fun c => w.heap.size ≤ c ∧ c < w'.heap.size) ∧ Below w.heap.size w w' := by
  have HO := Lib.hid ho
  have R0 := Lib.hid r0
  have T0 := Lib.hid (st3First w 27 32 #[.slice a0 x.tables.length c0, .int .i64 x.next] #[.slice none 0 0, .int .i64 0] #[.slice none 0 0, .int .i64 0])
  clear ho r0
  go_enter Tryz.func8, Tryz.ntmps8
  go_wp2_with fail
  have HE : Hid (w.heap.size + 1 + 1 < (((w.alloc (.cells #[.slice a0 x.tables.length c0, .int .i64 x.next] 27)).alloc (.cells #[.slice none 0 0, .int .i64 0] 32)).alloc (.cells #[.slice none 0 0, .int .i64 0] 32)).heap.size) := by show _ < _; simp
  refine (toDRowSS x.tables a0 c0 B _ (HO.out 0 (by omega)) (R0.out.later T0.out.bel)).mono ?_
  rintro e w1 ⟨rfl, o0, hB0⟩
  have S0 := Lib.hid (T0.out.later hB0)
  obtain ⟨p0, hp0⟩ : ∃ p, p = (((w.alloc (.cells #[.slice a0 x.tables.length c0, .int .i64 x.next] 27)).alloc (.cells #[.slice none 0 0, .int .i64 0] 32)).alloc (.cells #[.slice none 0 0, .int .i64 0] 32)).heap.size := ⟨_, rfl⟩
  have HP0 : Hid (w.heap.size + 1 + 1 < p0 ∧ p0 ≤ w1.heap.size) := by
    have h1 := hB0.size; have h2 := HE.out
    rw [← hp0] at h1 h2
    exact ⟨h2, h1⟩
  rw [← hp0] at o0 ⊢
  have O0 := Lib.hid o0
  clear o0 hB0 hp0 T0 HE
  have x0 := cell_at (o := 0) S0.out.ot rfl
  have z0 := frozen_at 0 S0.out.ot
  have hne : (w.heap.size = w.heap.size + 1 + 1) = False := by simp; omega
  have x1 := cell_at (o := 1) S0.out.ot rfl
  have z1 := frozen_at 1 S0.out.ot
  have y1 := cell_at (o := 1) S0.out.bx rfl
  have g0 := cell_at (o := 0) S0.out.rv rfl
  have k0 := frozen_at 0 S0.out.rv
  have g1 := cell_at (o := 1) S0.out.rv rfl
  have k1 := frozen_at 1 S0.out.rv
  go_wp2_with fail
  refine bodyPost_ret (v := .agg #[.slice (some ⟨p0, 0, none⟩) x.tables.length x.tables.length, .int .i64 x.next]) (by simp [results, Tryz.results8, go_sem, *]) rfl ?_
  have FF : Frm (fun c => c = w.heap.size + 1 ∨ c = w.heap.size + 1 + 1) w1 ((((w1.setCell ⟨w.heap.size + 1 + 1, 0, none⟩ (.slice (some ⟨p0, 0, none⟩) x.tables.length x.tables.length)).setCell ⟨w.heap.size + 1 + 1, 1, none⟩ (.int .i64 x.next)).setCell ⟨w.heap.size + 1, 0, none⟩ (.slice (some ⟨p0, 0, none⟩) x.tables.length x.tables.length)).setCell ⟨w.heap.size + 1, 1, none⟩ (.int .i64 x.next)) := by
    refine Frm.set ?_ (.inl rfl) _
    refine Frm.set ?_ (.inl rfl) _
    refine Frm.set ?_ (.inr rfl) _
    refine Frm.set ?_ (.inr rfl) _
    exact Frm.refl _ _
  have hsz : ((((w1.setCell ⟨w.heap.size + 1 + 1, 0, none⟩ (.slice (some ⟨p0, 0, none⟩) x.tables.length x.tables.length)).setCell ⟨w.heap.size + 1 + 1, 1, none⟩ (.int .i64 x.next)).setCell ⟨w.heap.size + 1, 0, none⟩ (.slice (some ⟨p0, 0, none⟩) x.tables.length x.tables.length)).setCell ⟨w.heap.size + 1, 1, none⟩ (.int .i64 x.next)).heap.size = w1.heap.size := by simp
  refine ⟨p0, rfl, ⟨fun j c => (j = 0 ∧ p0 ≤ c ∧ c < w1.heap.size), fun j c hc => ?_, fun j j' c h h' => ?_, fun j hj => ?_⟩, ?_⟩
  · have h0 := HP0.out; rw [hsz]; omega
  · have h0 := HP0.out; omega
  · rcases (by omega : j = 0 ∨ j = 1) with rfl | rfl
    · exact (O0.out.frm FF (fun c hc hF => by have h1 := HP0.out; have h2 := hc.1; rcases hF with rfl | rfl <;> omega)).mono (fun c hc => ⟨rfl, hc⟩)
    · rfl
  · exact ((((S0.out.bel.setCell (by simp <;> omega) _).setCell (by simp <;> omega) _).setCell (by simp <;> omega) _).setCell (by simp <;> omega) _)
set_option maxRecDepth 100000 in
set_option maxHeartbeats 1600000 in
theorem eqDStore (x : StV) (a0 : Option Addr) (c0 : Nat) (a0' : Option Addr) (c0' : Nat) (A B : Nat → Prop) (w : World) (ho : ∀ j, j < 2 → (dStore x j).le maxLen) (r0 : Rd w A (dRowSS x.tables) (.slice a0 x.tables.length c0)) (r0' : Rd w B (dRowSS x.tables) (.slice a0' x.tables.length c0')) :
    Calls Tryz.prog 10 #[.agg #[.slice a0 x.tables.length c0, .int .i64 x.next], .agg #[.slice a0' x.tables.length c0', .int .i64 x.next]] w fun e w' => e = .returned (.bool true) ∧ Below w.heap.size w w' := by
  have hb : Box2D 32 w ((w.alloc (.cells #[.slice a0 x.tables.length c0, .int .i64 x.next] 32)).alloc (.cells #[.slice a0' x.tables.length c0', .int .i64 x.next] 32)) #[.slice a0 x.tables.length c0, .int .i64 x.next] #[.slice a0' x.tables.length c0', .int .i64 x.next] := box2D _ _ _ _
  have E0 : Hid (∀ W, Below w.heap.size w W → Calls Tryz.prog 25 #[.slice a0 x.tables.length c0, .slice a0' x.tables.length c0'] W fun e w' => e = .returned (.bool true) ∧ Below W.heap.size W w') := fun W h => eqDRowSS x.tables a0 c0 a0' c0' A B W (ho 0 (by omega)) (r0.later h) (r0'.later h)
  have HB := Lib.hid hb
  clear ho hb r0 r0'
  go_enter Tryz.func10, Tryz.ntmps10
  have x0 := cell_at (o := 0) HB.out.a rfl
  have y0 := cell_at (o := 0) HB.out.b rfl
  have x1 := cell_at (o := 1) HB.out.a rfl
  have y1 := cell_at (o := 1) HB.out.b rfl
  go_wp2_with fail
  refine (E0.out _ HB.out.bel).mono ?_
  rintro e w1 ⟨rfl, hB0⟩
  have H0 := Lib.hid (HB.out.later hB0)
  clear hB0 HB x0 y0 x1 y1
  have x0 := cell_at (o := 0) H0.out.a rfl
  have y0 := cell_at (o := 0) H0.out.b rfl
  have x1 := cell_at (o := 1) H0.out.a rfl
  have y1 := cell_at (o := 1) H0.out.b rfl
  go_wp2_with fail
  go_ret
  exact ⟨rfl, H0.out.bel⟩
end Go.Proofs.YtngbhifafdbpkaaGreat
