import Derived.Test.YtoalhminembpkaaUai
namespace Go.Proofs.Ytoalhminembpkaa
open Go.RowKit
set_option linter.unusedSimpArgs false
structure LkV where
  nm : List UInt8
  qu : List Int
def dLock (x : LkV) : Nat → D
  | 0 => .s x.nm
  | _ => dIntS x.qu
theorem szT_Lock (x : LkV) : szT 2 (dLock x) = x.nm.length + (dIntS x.qu).sz := by simp [szT, sumN, dLock, D.sz]
set_option maxHeartbeats 1600000 in
theorem szDLock (x : LkV) (a1 : Option Addr) (c1 : Nat) (L : Int) (B : Nat → Prop) (w : World) (h0 : 0 ≤ L) (h1 : L ≤ 1048576) (ho : ∀ j, j < 2 → (dLock x j).le maxLen) (r1 : Rd w B (dIntS x.qu) (.slice a1 x.qu.length c1)) :
    Calls Try.prog 32 #[.agg #[.string ⟨x.nm.toArray⟩, .slice a1 x.qu.length c1], .int .i64 L] w fun e w' => e = .returned (.int .i64 (lessI L (szT 2 (dLock x)))) ∧ Below w.heap.size w w' := by
  rw [szT_Lock]
  have HO := Lib.hid ho
  have R1 := Lib.hid r1
  have hs0 : x.nm.length ≤ maxLen := ho 0 (by omega)
  unfold maxLen at hs0
  have hx := boxD 48 w #[.string ⟨x.nm.toArray⟩, .slice a1 x.qu.length c1]
  clear ho r1
  have x0 := cell_at (o := 0) hx.1 rfl
  have x1 := cell_at (o := 1) hx.1 rfl
  by_cases hn0 : L - (x.nm.length : Int) < 0
  case pos =>
    have HR : Hid (lessI L (x.nm.length + (dIntS x.qu).sz) = -1) := by show lessI L (x.nm.length + (dIntS x.qu).sz) = -1; unfold lessI; rw [if_neg (by omega)]
    have d0 : decide (L - (x.nm.length : Int) < 0) = true := decide_eq_true hn0
    go_enter Try.func32, Try.ntmps32
    go_wp2_with fail
    go_ret
    exact ⟨ret_i HR.out.symm, hx.2⟩
  obtain ⟨L0, hL0⟩ : ∃ L0 : Int, L0 = L - (x.nm.length : Int) := ⟨_, rfl⟩
  have f0 : IntKind.i64.wrap (L - (x.nm.length : Int)) = L0 := by rw [IntKind.wrap_i64]; omega
  have d0 : decide (L0 < 0) = false := decide_eq_false (by omega)
  have HL0 := Lib.hid hL0
  have bL0 : 0 ≤ L0 ∧ L0 ≤ 1048576 := by omega
  clear hn0 hL0
  have bl : Hid (0 ≤ L0 ∧ L0 ≤ 1048576) := by show _ ∧ _; omega
  clear h0 h1 bL0
  go_enter Try.func32, Try.ntmps32
  go_wp2_with fail
  refine (szDIntS x.qu a1 c1 L0 B _ bl.out.1 bl.out.2 (HO.out 1 (by omega)) (R1.out.later hx.2)).mono ?_
  rintro e w2 ⟨rfl, hB2⟩
  have hx := hx.later hB2
  clear hB2 x0 x1
  have x0 := cell_at (o := 0) hx.1 rfl
  have x1 := cell_at (o := 1) hx.1 rfl
  by_cases hn1 : L0 - ((dIntS x.qu).sz : Int) < 0
  case pos =>
    have HR : Hid (lessI L (x.nm.length + (dIntS x.qu).sz) = -1) := by have := HL0.out; have := bl.out; show lessI L (x.nm.length + (dIntS x.qu).sz) = -1; unfold lessI; rw [if_neg (by omega)]
    rw [less_no hn1]
    go_wp2_with fail
    go_ret
    exact ⟨ret_i HR.out.symm, hx.2⟩
  rw [less_yes (by omega)]
  obtain ⟨L1, hL1⟩ : ∃ L1 : Int, L1 = L0 - ((dIntS x.qu).sz : Int) := ⟨_, rfl⟩
  rw [← hL1]
  have d1 : decide (L1 < 0) = false := decide_eq_false (by omega)
  have bL1 : Hid (0 ≤ L1 ∧ L1 ≤ 1048576) := by have := bl.out; show _ ∧ _; omega
  have HL1 := Lib.hid hL1
  have HR : Hid (lessI L (x.nm.length + (dIntS x.qu).sz) = L1) := by have := HL0.out; have := HL1.out; have := bL1.out; show lessI L (x.nm.length + (dIntS x.qu).sz) = L1; unfold lessI; rw [if_pos (by omega)]; omega
  clear hn1 hL1 bl
  have bl := bL1
  clear bL1
  go_wp2_with fail
  go_ret
  exact ⟨ret_i HR.out.symm, hx.2⟩
set_option maxRecDepth 100000 in
set_option maxHeartbeats 3200000 in
theorem toDLock (x : LkV) (a1 : Option Addr) (c1 : Nat) (B : Nat → Prop) (w : World) (ho : ∀ j, j < 2 → (dLock x j).le 1048576) (r1 : Rd w B (dIntS x.qu) (.slice a1 x.qu.length c1)) :
    Calls Try.prog 37 #[.agg #[.string ⟨x.nm.toArray⟩, .slice a1 x.qu.length c1]] w fun e w' => ∃ p1 : Nat, e = .returned (.agg #[.string ⟨x.nm.toArray⟩, .slice (some ⟨p1, 0, none⟩) x.qu.length x.qu.length]) ∧ Owns w' 2 (dLock x) (vat [.string ⟨x.nm.toArray⟩, .slice (some ⟨p1, 0, none⟩) x.qu.length x.qu.length]) (fun c => w.heap.size ≤ c ∧ c < w'.heap.size) ∧ Below w.heap.size w w' := by
  have HO := Lib.hid ho
  have R1 := Lib.hid r1
  have T0 := Lib.hid (st3First w 48 50 #[.string ⟨x.nm.toArray⟩, .slice a1 x.qu.length c1] #[.string ⟨#[]⟩, .slice none 0 0] #[.string ⟨x.nm.toArray⟩, .slice none 0 0])
  clear ho r1
  go_enter Try.func37, Try.ntmps37
  go_wp2_with fail
  have HE : Hid (w.heap.size + 1 + 1 < (((w.alloc (.cells #[.string ⟨x.nm.toArray⟩, .slice a1 x.qu.length c1] 48)).alloc (.cells #[.string ⟨#[]⟩, .slice none 0 0] 50)).alloc (.cells #[.string ⟨x.nm.toArray⟩, .slice none 0 0] 50)).heap.size) := by show _ < _; simp
  refine (toDIntS x.qu a1 c1 B _ (HO.out 1 (by omega)) (R1.out.later T0.out.bel)).mono ?_
  rintro e w2 ⟨rfl, o1, hB1⟩
  have S1 := Lib.hid (T0.out.later hB1)
  obtain ⟨p1, hp1⟩ : ∃ p, p = (((w.alloc (.cells #[.string ⟨x.nm.toArray⟩, .slice a1 x.qu.length c1] 48)).alloc (.cells #[.string ⟨#[]⟩, .slice none 0 0] 50)).alloc (.cells #[.string ⟨x.nm.toArray⟩, .slice none 0 0] 50)).heap.size := ⟨_, rfl⟩
  have HP1 : Hid (w.heap.size + 1 + 1 < p1 ∧ p1 ≤ w2.heap.size) := by
    have h1 := hB1.size; have h2 := HE.out
    rw [← hp1] at h1 h2
    exact ⟨h2, h1⟩
  rw [← hp1] at o1 ⊢
  have O1 := Lib.hid o1
  clear o1 hB1 hp1 T0 HE
  have x1 := cell_at (o := 1) S1.out.ot rfl
  have z1 := frozen_at 1 S1.out.ot
  have hne : (w.heap.size = w.heap.size + 1 + 1) = False := by simp; omega
  have x0 := cell_at (o := 0) S1.out.ot rfl
  have g0 := cell_at (o := 0) S1.out.rv rfl
  have k0 := frozen_at 0 S1.out.rv
  have g1 := cell_at (o := 1) S1.out.rv rfl
  have k1 := frozen_at 1 S1.out.rv
  go_wp2_with fail
  refine bodyPost_ret (v := .agg #[.string ⟨x.nm.toArray⟩, .slice (some ⟨p1, 0, none⟩) x.qu.length x.qu.length]) (by simp [results, Try.results37, go_sem, *]) rfl ?_
  have FF : Frm (fun c => c = w.heap.size + 1 ∨ c = w.heap.size + 1 + 1) w2 (((w2.setCell ⟨w.heap.size + 1 + 1, 1, none⟩ (.slice (some ⟨p1, 0, none⟩) x.qu.length x.qu.length)).setCell ⟨w.heap.size + 1, 0, none⟩ (.string ⟨x.nm.toArray⟩)).setCell ⟨w.heap.size + 1, 1, none⟩ (.slice (some ⟨p1, 0, none⟩) x.qu.length x.qu.length)) := by
    refine Frm.set ?_ (.inl rfl) _
    refine Frm.set ?_ (.inl rfl) _
    refine Frm.set ?_ (.inr rfl) _
    exact Frm.refl _ _
  have hsz : (((w2.setCell ⟨w.heap.size + 1 + 1, 1, none⟩ (.slice (some ⟨p1, 0, none⟩) x.qu.length x.qu.length)).setCell ⟨w.heap.size + 1, 0, none⟩ (.string ⟨x.nm.toArray⟩)).setCell ⟨w.heap.size + 1, 1, none⟩ (.slice (some ⟨p1, 0, none⟩) x.qu.length x.qu.length)).heap.size = w2.heap.size := by simp
  refine ⟨p1, rfl, ⟨fun j c => (j = 1 ∧ p1 ≤ c ∧ c < w2.heap.size), fun j c hc => ?_, fun j j' c h h' => ?_, fun j hj => ?_⟩, ?_⟩
  · have h1 := HP1.out; rw [hsz]; omega
  · have h1 := HP1.out; omega
  · rcases (by omega : j = 0 ∨ j = 1) with rfl | rfl
    · rfl
    · exact (O1.out.frm FF (fun c hc hF => by have h1 := HP1.out; have h2 := hc.1; rcases hF with rfl | rfl <;> omega)).mono (fun c hc => ⟨rfl, hc⟩)
  · exact (((S1.out.bel.setCell (by simp <;> omega) _).setCell (by simp <;> omega) _).setCell (by simp <;> omega) _)
set_option maxRecDepth 100000 in
set_option maxHeartbeats 1600000 in
theorem eqDLock (x : LkV) (a1 : Option Addr) (c1 : Nat) (a1' : Option Addr) (c1' : Nat) (A B : Nat → Prop) (w : World) (ho : ∀ j, j < 2 → (dLock x j).le maxLen) (r1 : Rd w A (dIntS x.qu) (.slice a1 x.qu.length c1)) (r1' : Rd w B (dIntS x.qu) (.slice a1' x.qu.length c1')) :
    Calls Try.prog 42 #[.agg #[.string ⟨x.nm.toArray⟩, .slice a1 x.qu.length c1], .agg #[.string ⟨x.nm.toArray⟩, .slice a1' x.qu.length c1']] w fun e w' => e = .returned (.bool true) ∧ Below w.heap.size w w' := by
  have hb : Box2D 50 w ((w.alloc (.cells #[.string ⟨x.nm.toArray⟩, .slice a1 x.qu.length c1] 50)).alloc (.cells #[.string ⟨x.nm.toArray⟩, .slice a1' x.qu.length c1'] 50)) #[.string ⟨x.nm.toArray⟩, .slice a1 x.qu.length c1] #[.string ⟨x.nm.toArray⟩, .slice a1' x.qu.length c1'] := box2D _ _ _ _
  have E1 : Hid (∀ W, Below w.heap.size w W → Calls Try.prog 65 #[.slice a1 x.qu.length c1, .slice a1' x.qu.length c1'] W fun e w' => e = .returned (.bool true) ∧ Below W.heap.size W w') := fun W h => eqDIntS x.qu a1 c1 a1' c1' A B W (ho 1 (by omega)) (r1.later h) (r1'.later h)
  have HB := Lib.hid hb
  clear ho hb r1 r1'
  go_enter Try.func42, Try.ntmps42
  have x0 := cell_at (o := 0) HB.out.a rfl
  have y0 := cell_at (o := 0) HB.out.b rfl
  have x1 := cell_at (o := 1) HB.out.a rfl
  have y1 := cell_at (o := 1) HB.out.b rfl
  go_wp2_with fail
  refine (E1.out _ HB.out.bel).mono ?_
  rintro e w2 ⟨rfl, hB1⟩
  have H1 := Lib.hid (HB.out.later hB1)
  clear hB1 HB x0 y0 x1 y1
  have x0 := cell_at (o := 0) H1.out.a rfl
  have y0 := cell_at (o := 0) H1.out.b rfl
  have x1 := cell_at (o := 1) H1.out.a rfl
  have y1 := cell_at (o := 1) H1.out.b rfl
  go_wp2_with fail
  go_ret
  exact ⟨rfl, H1.out.bel⟩
def dLockS (l : List LkV) : D := Ls 2 dLock l
set_option maxHeartbeats 1600000 in
theorem szDLockS (l : List LkV) (a : Option Addr) (c : Nat) (L : Int) (B : Nat → Prop) (w : World) (h0 : 0 ≤ L) (h1 : L ≤ 1048576) (ho : (dLockS l).le maxLen) (hS : Rd w B (dLockS l) (.slice a l.length c)) :
    Calls Try.prog 9 #[.slice a l.length c, .int .i64 L] w fun e w' => e = .returned (.int .i64 (lessI L (dLockS l).sz)) ∧ Below w.heap.size w w' := by
  have hl : l.length ≤ maxLen := (Ls_le.1 ho).2.1
  unfold maxLen at hl
  have HX : Hid (∀ i (h : i < l.length) j, j < 2 → (dLock l[i] j).le maxLen) := (Ls_le.1 ho).2.2
  have HS : Hid (Rd w B (Ls 2 dLock l) (.slice a l.length c)) := hS
  have HZ : Hid ((dLockS l).sz = l.length + szL 2 dLock l l.length) := Ls_sz
  clear hS ho
  by_cases hn : L - (l.length : Int) < 0
  · have HR : Hid (lessI L (dLockS l).sz = -1) := by have := HZ.out; show lessI L (dLockS l).sz = -1; unfold lessI; rw [if_neg (by omega)]
    go_enter Try.func9, Try.ntmps9
    go_wp2_with fail
    go_ret
    exact ⟨ret_i HR.out.symm, Below.refl _ _⟩
  go_enter Try.func9, Try.ntmps9
  go_wp2_with fail
  go_loopw [1, 5] (fun t i wr => ∃ k : Nat, k ≤ l.length ∧ i = .int .i64 k ∧ ∃ m : Int, t = .int .i64 m ∧ 0 ≤ m ∧ m ≤ L ∧ Hid (m = L - (l.length + szL 2 dLock l k : Nat) ∧ Below w.heap.size w wr)) (fun _ i _ => l.length - (intOf i).toNat)
  case atStart => exact ⟨0, Nat.zero_le _, rfl, L - l.length, rfl, by omega, by omega, by show _ = _; rw [szL_zero]; omega, Below.refl _ _⟩
  case round =>
    obtain ⟨k, hk, rfl, m, rfl, hm0, hmL, HM⟩ := hrel
    by_cases hlt : k < l.length
    case neg =>
      have HR : Hid (lessI L (dLockS l).sz = m) := by
        have h1 := HM.out.1; have h2 := HZ.out
        have hk' : k = l.length := by omega
        rw [hk'] at h1
        show lessI L (dLockS l).sz = m
        unfold lessI; rw [if_pos (by omega)]; omega
      go_wp2_with fail
      go_ret
      exact ⟨ret_i HR.out.symm, HM.out.2⟩
    obtain ⟨b, off, rfl, -, hc⟩ := (HS.out.later HM.out.2).things k hlt
    have HSU : Hid (szL 2 dLock l (k + 1) = szL 2 dLock l k + szT 2 (dLock l[k])) := szL_succ hlt
    have HLE : Hid (szL 2 dLock l (k + 1) ≤ szL 2 dLock l l.length) := szL_mono (by omega)
    have HXK := Lib.hid (HX.out k hlt)
    obtain ⟨u0, c0, r0⟩ := hc 0 (by omega)
    obtain rfl : u0 = .string ⟨l[k].nm.toArray⟩ := r0
    replace c0 : wr.cell? ⟨b, off + k * 2, none⟩ = _ := c0
    obtain ⟨u1, c1, r1⟩ := hc 1 (by omega)
    replace r1 : Rd wr _ (dIntS l[k].qu) u1 := r1
    obtain ⟨a1, q1, rfl⟩ := r1.lsSlice
    clear hc
    generalize l[k] = x at *
    have CC := Lib.hid (szDLock x a1 q1 m B wr hm0 (by omega) HXK.out r1)
    clear HXK r1
    by_cases hz : m - (szT 2 (dLock x) : Int) < 0
    · have HR : Hid (lessI L (dLockS l).sz = -1) := by
        have h1 := HM.out.1; have h2 := HSU.out; have h3 := HLE.out; have h4 := HZ.out
        show lessI L (dLockS l).sz = -1
        unfold lessI; rw [if_neg (by omega)]
      rw [less_no hz] at CC
      go_wp2_with (go_at_call 32; refine CC.out.mono ?_; rintro e w1 ⟨rfl, hB1⟩)
      go_ret
      exact ⟨ret_i HR.out.symm, HM.out.2.trans (hB1.mono HM.out.2.size)⟩
    rw [less_yes (by omega)] at CC
    obtain ⟨m', hm'⟩ : ∃ m' : Int, m' = m - (szT 2 (dLock x) : Int) := ⟨_, rfl⟩
    rw [← hm'] at CC
    have hd : decide (m' < 0) = false := decide_eq_false (by omega)
    have HM' : Hid (m' = m - (szT 2 (dLock x) : Int) ∧ 0 ≤ m') := ⟨hm', by omega⟩
    clear hm' hz
    go_wp2_with (go_at_call 32; refine CC.out.mono ?_; rintro e w1 ⟨rfl, hB1⟩)
    go_roundw
    case rel =>
      have h1 := HM.out.1; have h2 := HSU.out; have h3 := HM'.out
      exact ⟨k + 1, by omega, by go_num, m', rfl, by omega, by omega, by show _ = _; omega, HM.out.2.trans (hB1.mono HM.out.2.size)⟩
    case measure => simp [intOf]; omega
theorem run_mkLockS (n : Nat) (hn : n ≤ 1048576) (w : World) :
    (Instr.makeSlice 25 (.int .i64 (n : Int)) (.int .i64 (n : Int))).run Try.prog w = .ok (.slice (some ⟨w.heap.size, 0, none⟩) n n) (w.alloc (.cells (madeCells #[.string ⟨#[]⟩, .slice none 0 0] (n * 2)) 50)) := by
  have h : (Try.prog.info? 50).map (fun i => (i.zero, i.size, i.bytes)) = some (some (.agg #[.string ⟨#[]⟩, .slice none 0 0]), 2, 40) := by kernel_rfl
  obtain ⟨i, hi, hzz⟩ := Option.map_eq_some_iff.1 h
  simp only [Prod.mk.injEq] at hzz
  obtain ⟨hz, hs, hb⟩ := hzz
  have hr := run_make (P := Try.prog) w 25 50 i _ Try.underlying25 hi hz .i64 .i64 n n (by omega) (Int.le_refl _) (by rw [hb]; omega) (by omega)
  rw [hr, hs]
  simp only [Int.toNat_natCast]
  rfl
set_option maxRecDepth 100000 in
set_option maxHeartbeats 3200000 in
theorem toDLockS (l : List LkV) (a : Option Addr) (c : Nat) (B : Nat → Prop) (w : World) (ho : (dLockS l).le 1048576) (hS : Rd w B (dLockS l) (.slice a l.length c)) :
    Calls Try.prog 11 #[.slice a l.length c] w fun e w' => e = .returned (.slice (some ⟨w.heap.size, 0, none⟩) l.length l.length) ∧ Own w' (dLockS l) (fun c => w.heap.size ≤ c ∧ c < w'.heap.size) (.slice (some ⟨w.heap.size, 0, none⟩) l.length l.length) ∧ Below w.heap.size w w' := by
  have HS : Hid (Rd w B (Ls 2 dLock l) (.slice a l.length c)) := hS
  have HX : Hid (∀ i (h : i < l.length) j, j < 2 → (dLock l[i] j).le 1048576) := (Ls_le.1 ho).2.2
  have hl : l.length ≤ 1048576 := (Ls_le.1 ho).2.1
  have hmk := run_mkLockS l.length hl
  clear hS ho
  go_enter Try.func11, Try.ntmps11
  go_wp2_with fail
  clear hmk
  go_loopw [4] (fun i wr => ∃ k : Nat, k ≤ l.length ∧ i = .int .i64 k ∧ Hid (Below w.heap.size w wr ∧ TS wr 50 2 l.length (lsF dLock l) w.heap.size k)) (fun i _ => l.length - (intOf i).toNat)
  case atStart => exact ⟨0, Nat.zero_le _, rfl, (Below.refl _ _).alloc (Nat.le_refl _) _, by have := TS.start w #[.string ⟨#[]⟩, .slice none 0 0] 50 2 l.length (lsF dLock l); exact this⟩
  case round =>
    obtain ⟨k, hk, rfl, HD⟩ := hrel
    by_cases hlt : k < l.length
    case neg =>
      have hk' : k = l.length := by omega
      have hki : decide ((k : Int) < (l.length : Int)) = false := decide_eq_false (by omega)
      go_wp2_with fail
      go_ret
      exact ⟨rfl, TS.done (by omega) (by have := HD.out.2; rw [hk'] at this; exact this), HD.out.1⟩
    have hki : (k : Int) < (l.length : Int) := by omega
    obtain ⟨b, off, rfl, -, hc⟩ := (HS.out.later HD.out.1).things k hlt
    have HXK := Lib.hid (HX.out k hlt)
    have HFA : Hid (lsF dLock l k = dLock l[k]) := lsF_at hlt
    obtain ⟨u0, c0, r0⟩ := hc 0 (by omega)
    obtain rfl : u0 = .string ⟨l[k].nm.toArray⟩ := r0
    replace c0 : wr.cell? ⟨b, off + k * 2, none⟩ = _ := c0
    obtain ⟨u1, c1, r1⟩ := hc 1 (by omega)
    replace r1 : Rd wr _ (dIntS l[k].qu) u1 := r1
    obtain ⟨a1, q1, rfl⟩ := r1.lsSlice
    clear hc
    generalize l[k] = x at *
    have CC := Lib.hid (toDLock x a1 q1 B wr HXK.out r1)
    clear HXK r1
    go_wp2_with fail
    refine CC.out.mono ?_
    rintro e w1 ⟨p1, rfl, oc, hB1⟩
    have HST : Hid (TS ((w1.setCell ⟨w.heap.size, k * 2, none⟩ (.string ⟨x.nm.toArray⟩)).setCell ⟨w.heap.size, k * 2 + 1, none⟩ (.slice (some ⟨p1, 0, none⟩) x.qu.length x.qu.length)) 50 2 l.length (lsF dLock l) w.heap.size (k + 1)) := HD.out.2.step hB1 (vat [.string ⟨x.nm.toArray⟩, .slice (some ⟨p1, 0, none⟩) x.qu.length x.qu.length]) (by rw [HFA.out]; exact oc)
    obtain ⟨g, hg⟩ := HD.out.2.row
    have hg1 := hg.of_block (hB1.block _ hg.lt)
    have e0 := hg1.cell (i := k * 2) (by omega)
    have z0 := hg1.frozen (k * 2)
    have e1 := hg1.cell (i := k * 2 + 1) (by omega)
    have z1 := hg1.frozen (k * 2 + 1)
    have HW := Lib.hid (HD.out.1.trans (hB1.mono HD.out.1.size))
    clear hg hg1 hB1 oc CC
    go_wp2_with fail
    go_roundw
    case rel => exact ⟨k + 1, by omega, by go_num, ((HW.out.setCell (Nat.le_refl _) _).setCell (Nat.le_refl _) _), HST.out⟩
    case measure => simp [intOf]; omega
set_option maxRecDepth 100000 in
set_option maxHeartbeats 3200000 in
theorem eqDLockS (l : List LkV) (a : Option Addr) (c : Nat) (a' : Option Addr) (c' : Nat) (A B : Nat → Prop) (w : World) (ho : (dLockS l).le maxLen) (hA : Rd w A (dLockS l) (.slice a l.length c)) (hB : Rd w B (dLockS l) (.slice a' l.length c')) :
    Calls Try.prog 13 #[.slice a l.length c, .slice a' l.length c'] w fun e w' => e = .returned (.bool true) ∧ Below w.heap.size w w' := by
  have hl : l.length ≤ maxLen := (Ls_le.1 ho).2.1
  unfold maxLen at hl
  have HX : Hid (∀ i (h : i < l.length) j, j < 2 → (dLock l[i] j).le maxLen) := (Ls_le.1 ho).2.2
  have HA : Hid (∀ W, Below w.heap.size w W → Rd W A (Ls 2 dLock l) (.slice a l.length c)) := fun W h => Rd.later hA h
  have HB : Hid (∀ W, Below w.heap.size w W → Rd W B (Ls 2 dLock l) (.slice a' l.length c')) := fun W h => Rd.later hB h
  clear hA hB ho
  go_enter Try.func13, Try.ntmps13
  go_wp2_with fail
  go_loopw [5] (fun i wr => ∃ k : Nat, k ≤ l.length ∧ i = .int .i64 k ∧ Hid (Below w.heap.size w wr)) (fun i _ => l.length - (intOf i).toNat)
  case atStart => exact ⟨0, Nat.zero_le _, rfl, Below.refl _ _⟩
  case round =>
    obtain ⟨k, hk, rfl, HW⟩ := hrel
    by_cases hlt : k < l.length
    case neg =>
      have hki : decide ((k : Int) < (l.length : Int)) = false := by simp; omega
      go_wp2_with fail
      go_ret
      exact ⟨rfl, HW.out⟩
    obtain ⟨b, off, rfl, -, hc⟩ := (HA.out _ HW.out).things k hlt
    obtain ⟨mb, moff, rfl, -, hd⟩ := (HB.out _ HW.out).things k hlt
    have HXK := Lib.hid (HX.out k hlt)
    obtain ⟨u0, c0, r0⟩ := hc 0 (by omega)
    obtain rfl : u0 = .string ⟨l[k].nm.toArray⟩ := r0
    replace c0 : wr.cell? ⟨b, off + k * 2, none⟩ = _ := c0
    obtain ⟨u1, c1, r1⟩ := hc 1 (by omega)
    replace r1 : Rd wr _ (dIntS l[k].qu) u1 := r1
    obtain ⟨a1, q1, rfl⟩ := r1.lsSlice
    obtain ⟨mu0, mc0, mr0⟩ := hd 0 (by omega)
    obtain rfl : mu0 = .string ⟨l[k].nm.toArray⟩ := mr0
    replace mc0 : wr.cell? ⟨mb, moff + k * 2, none⟩ = _ := mc0
    obtain ⟨mu1, mc1, mr1⟩ := hd 1 (by omega)
    replace mr1 : Rd wr _ (dIntS l[k].qu) mu1 := mr1
    obtain ⟨ma1, mq1, rfl⟩ := mr1.lsSlice
    clear hc hd
    generalize l[k] = x at *
    have hki : (k : Int) < (l.length : Int) := by omega
    have EQ : Hid (∀ W, Below wr.heap.size wr W → Calls Try.prog 42 #[.agg #[.string ⟨x.nm.toArray⟩, .slice a1 x.qu.length q1], .agg #[.string ⟨x.nm.toArray⟩, .slice ma1 x.qu.length mq1]] W fun e w' => e = .returned (.bool true) ∧ Below W.heap.size W w') := fun W h => eqDLock x a1 q1 ma1 mq1 A B W HXK.out (r1.later h) (mr1.later h)
    clear HXK r1 mr1
    go_wp2_with fail
    go_region_with (go_at_call 42; refine (EQ.out _ (by first | exact Below.refl _ _ | exact (Below.refl _ _).drew)).mono ?_; rintro e w1 ⟨rfl, hB1⟩)
    all_goals
      go_wp2_with fail
      go_roundw
      case rel => exact ⟨k + 1, by omega, by go_num, HW.out.trans ((Below.refl _ _).drew.trans (hB1.mono (by first | exact HW.out.size | (have := HW.out.size; simpa using this))))⟩
      case measure => simp [intOf]; omega
structure ToV where
  se : Int
  wd : List UInt8
  tn : List UInt8
def dTold (x : ToV) : Nat → D
  | 0 => .i x.se
  | 1 => .s x.wd
  | _ => .s x.tn
set_option maxRecDepth 100000 in
set_option maxHeartbeats 1600000 in
theorem eqDTold (x : ToV) (_A _B : Nat → Prop) (w : World) (_ho : ∀ j, j < 3 → (dTold x j).le maxLen) :
    Calls Try.prog 54 #[.agg #[.int .i64 x.se, .string ⟨x.wd.toArray⟩, .string ⟨x.tn.toArray⟩], .agg #[.int .i64 x.se, .string ⟨x.wd.toArray⟩, .string ⟨x.tn.toArray⟩]] w fun e w' => e = .returned (.bool true) ∧ Below w.heap.size w w' := by
  go_enter Try.func54, Try.ntmps54
  go_wp2_with fail
  go_ret
  exact ⟨rfl, ((Below.refl _ _).alloc (Nat.le_refl _) _).alloc (by simp) _⟩
def dToldS (l : List ToV) : D := Ls 3 dTold l
set_option maxRecDepth 100000 in
set_option maxHeartbeats 3200000 in
theorem eqDToldS (l : List ToV) (a : Option Addr) (c : Nat) (a' : Option Addr) (c' : Nat) (A B : Nat → Prop) (w : World) (ho : (dToldS l).le maxLen) (hA : Rd w A (dToldS l) (.slice a l.length c)) (hB : Rd w B (dToldS l) (.slice a' l.length c')) :
    Calls Try.prog 20 #[.slice a l.length c, .slice a' l.length c'] w fun e w' => e = .returned (.bool true) ∧ Below w.heap.size w w' := by
  have hl : l.length ≤ maxLen := (Ls_le.1 ho).2.1
  unfold maxLen at hl
  have HX : Hid (∀ i (h : i < l.length) j, j < 3 → (dTold l[i] j).le maxLen) := (Ls_le.1 ho).2.2
  have HA : Hid (∀ W, Below w.heap.size w W → Rd W A (Ls 3 dTold l) (.slice a l.length c)) := fun W h => Rd.later hA h
  have HB : Hid (∀ W, Below w.heap.size w W → Rd W B (Ls 3 dTold l) (.slice a' l.length c')) := fun W h => Rd.later hB h
  clear hA hB ho
  go_enter Try.func20, Try.ntmps20
  go_wp2_with fail
  go_loopw [5] (fun i wr => ∃ k : Nat, k ≤ l.length ∧ i = .int .i64 k ∧ Hid (Below w.heap.size w wr)) (fun i _ => l.length - (intOf i).toNat)
  case atStart => exact ⟨0, Nat.zero_le _, rfl, Below.refl _ _⟩
  case round =>
    obtain ⟨k, hk, rfl, HW⟩ := hrel
    by_cases hlt : k < l.length
    case neg =>
      have hki : decide ((k : Int) < (l.length : Int)) = false := by simp; omega
      go_wp2_with fail
      go_ret
      exact ⟨rfl, HW.out⟩
    obtain ⟨b, off, rfl, -, hc⟩ := (HA.out _ HW.out).things k hlt
    obtain ⟨mb, moff, rfl, -, hd⟩ := (HB.out _ HW.out).things k hlt
    have HXK := Lib.hid (HX.out k hlt)
    obtain ⟨u0, c0, r0⟩ := hc 0 (by omega)
    obtain rfl : u0 = .int .i64 l[k].se := r0
    replace c0 : wr.cell? ⟨b, off + k * 3, none⟩ = _ := c0
    obtain ⟨u1, c1, r1⟩ := hc 1 (by omega)
    obtain rfl : u1 = .string ⟨l[k].wd.toArray⟩ := r1
    obtain ⟨u2, c2, r2⟩ := hc 2 (by omega)
    obtain rfl : u2 = .string ⟨l[k].tn.toArray⟩ := r2
    obtain ⟨mu0, mc0, mr0⟩ := hd 0 (by omega)
    obtain rfl : mu0 = .int .i64 l[k].se := mr0
    replace mc0 : wr.cell? ⟨mb, moff + k * 3, none⟩ = _ := mc0
    obtain ⟨mu1, mc1, mr1⟩ := hd 1 (by omega)
    obtain rfl : mu1 = .string ⟨l[k].wd.toArray⟩ := mr1
    obtain ⟨mu2, mc2, mr2⟩ := hd 2 (by omega)
    obtain rfl : mu2 = .string ⟨l[k].tn.toArray⟩ := mr2
    clear hc hd
    generalize l[k] = x at *
    have hki : (k : Int) < (l.length : Int) := by omega
    have EQ : Hid (∀ W, Below wr.heap.size wr W → Calls Try.prog 54 #[.agg #[.int .i64 x.se, .string ⟨x.wd.toArray⟩, .string ⟨x.tn.toArray⟩], .agg #[.int .i64 x.se, .string ⟨x.wd.toArray⟩, .string ⟨x.tn.toArray⟩]] W fun e w' => e = .returned (.bool true) ∧ Below W.heap.size W w') := fun W h => eqDTold x A B W HXK.out
    clear HXK
    go_wp2_with fail
    go_region_with (go_at_call 54; refine (EQ.out _ (by first | exact Below.refl _ _ | exact (Below.refl _ _).drew)).mono ?_; rintro e w1 ⟨rfl, hB1⟩)
    all_goals
      go_wp2_with fail
      go_roundw
      case rel => exact ⟨k + 1, by omega, by go_num, HW.out.trans ((Below.refl _ _).drew.trans (hB1.mono (by first | exact HW.out.size | (have := HW.out.size; simpa using this))))⟩
      case measure => simp [intOf]; omega
end Go.Proofs.Ytoalhminembpkaa
