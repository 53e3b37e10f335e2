import Derived.Test.YtlddhbamcndggaaGreatDoorZax
import Derived.Test.YtlddhbamcndggaaGreatDoorZTk
namespace Go.Proofs.YtlddhbamcndggaaGreatDoor
open Go.RowKit
set_option linter.unusedSimpArgs false
def condsB (list : List CondV) : Bool := list.all condB && decide (list.length ≤ 8)
noncomputable def condsC (t : Tb) : List CondV → Int
 | [] => 0
 | c :: l => if condC t c = 0 then condsC t l else condC t c
noncomputable def allM (t : Tb) (r : RowV) (list : List CondV) : Bool := list.all (matchC t r)
theorem conds_no {list : List CondV} {k : Nat} (hk : k < list.length) (h : condB list[k] = false) : condsB list = false := by
 unfold condsB
 rw [List.all_eq_false.2 ⟨_, List.getElem_mem hk, by simp [h]⟩]; rfl
theorem conds_yes {list : List CondV} (h : ∀ k (hk : k < list.length), condB list[k] = true) : condsB list = decide (list.length ≤ 8) := by
 unfold condsB
 rw [List.all_eq_true.2 (fun x hx => by obtain ⟨k, hk, rfl⟩ := List.mem_iff_getElem.1 hx; exact h k hk), Bool.true_and]
theorem condsC_at {t : Tb} : ∀ {list : List CondV} {k : Nat} (hk : k < list.length), (∀ m (h : m < list.length), m < k → condC t list[m] = 0) → condC t list[k] ≠ 0 → condsC t list = condC t list[k]
 | c :: l, 0, _, _, h => by
  simp only [List.getElem_cons_zero] at h ⊢
  unfold condsC; rw [if_neg h]
 | c :: l, k + 1, hk, hb, h => by
  have h0 : condC t c = 0 := hb 0 (by simp) (by omega)
  have hk' : k < l.length := by simpa using hk
  simp only [List.getElem_cons_succ] at h ⊢
  unfold condsC; rw [if_pos h0]
  exact condsC_at hk' (fun m hm hmk => by have := hb (m + 1) (by simpa using hm) (by omega); simpa using this) h
theorem condsC_zero {t : Tb} : ∀ {list : List CondV}, (∀ m (h : m < list.length), condC t list[m] = 0) → condsC t list = 0
 | [], _ => rfl
 | c :: l, h => by
  have h0 : condC t c = 0 := h 0 (by simp)
  unfold condsC; rw [if_pos h0]
  exact condsC_zero fun m hm => by have := h (m + 1) (by simpa using hm); simpa using this
theorem condsC_all {t : Tb} : ∀ {list : List CondV}, condsC t list = 0 → ∀ c ∈ list, condC t c = 0
 | [], _, c, h => by simp at h
 | x :: l, h, c, hc => by
  unfold condsC at h
  by_cases h0 : condC t x = 0
  ·
   rw [if_pos h0] at h
   rcases List.mem_cons.1 hc with rfl | hc
   ·
    exact h0
   ·
    exact condsC_all h c hc
  ·
   rw [if_neg h0] at h; exact absurd h h0
theorem conds_all {list : List CondV} (h : condsB list = true) : ∀ c ∈ list, condB c = true := by
 unfold condsB at h
 simp only [Bool.and_eq_true] at h
 exact List.all_eq_true.1 h.1
theorem allM_no {t : Tb} {r : RowV} {list : List CondV} {k : Nat} (hk : k < list.length) (h : matchC t r list[k] = false) : allM t r list = false := by
 unfold allM
 exact List.all_eq_false.2 ⟨_, List.getElem_mem hk, by simp [h]⟩
theorem allM_yes {t : Tb} {r : RowV} {list : List CondV} (h : ∀ k (hk : k < list.length), matchC t r list[k] = true) : allM t r list = true := by
 unfold allM
 exact List.all_eq_true.2 (fun x hx => by obtain ⟨k, hk, rfl⟩ := List.mem_iff_getElem.1 hx; exact h k hk)
theorem le_cond {list : List CondV} {K : Nat} (h : (dCondS list).le K) {k : Nat} (hk : k < list.length) : list[k].col.length ≤ K ∧ (dAtomS list[k].val).le K :=
 ⟨(Ls_le.1 h).2.2 k hk 0 (by omega), (Ls_le.1 h).2.2 k hk 2 (by omega)⟩
set_option maxRecDepth 100000 in
set_option maxHeartbeats 3200000 in
theorem listS (list : List CondV) (a : Option Addr) (c : Nat) (B : Nat → Prop) (w : World) (ho : (dCondS list).le maxLen) (hL : Rd w B (dCondS list) (.slice a list.length c)) :
  Calls Tryz.prog 59 #[.slice a list.length c] w fun e w' => e = .returned (.bool (condsB list)) ∧ Below w.heap.size w w' := by
 have HL : Hid (∀ W, Below w.heap.size w W → Rd W B (Ls 3 dCond list) (.slice a list.length c)) := fun W h => Rd.later hL h
 have HO := Lib.hid ho
 have hll : list.length ≤ maxLen := (Ls_le.1 ho).2.1
 unfold maxLen at hll
 clear ho hL
 go_enter Tryz.func59, Tryz.ntmps59
 go_wp2_with fail
 go_loopw [3] (fun i wr => ∃ k : Nat, k ≤ list.length ∧ i = .int .i64 k ∧ Hid ((∀ m (h : m < list.length), m < k → condB list[m] = true) ∧ Below w.heap.size w wr)) (fun i _ => list.length - (intOf i).toNat)
 case atStart => exact ⟨0, Nat.zero_le _, rfl, fun m _ h => absurd h (by omega), Below.refl _ _⟩
 case round =>
  obtain ⟨k, hk, rfl, HW⟩ := hrel
  by_cases hlt : k < list.length
  case neg =>
   have hki : decide ((k : Int) < (list.length : Int)) = false := by simp; omega
   have HR : Hid (condsB list = decide (list.length ≤ 8)) := conds_yes (fun m h => HW.out.1 m h (by omega))
   go_wp2_with fail
   go_ret
   exact ⟨ret_b (by rw [HR.out]; simp; omega), HW.out.2⟩
  have hki : (k : Int) < (list.length : Int) := by omega
  obtain ⟨b, off, rfl, -, hc⟩ := (HL.out _ HW.out.2).things k hlt
  obtain ⟨u0, c0, r0⟩ := hc 0 (by omega)
  obtain rfl : u0 = .string ⟨list[k].col.toArray⟩ := r0
  rw [Nat.add_zero] at c0
  obtain ⟨u1, c1, r1⟩ := hc 1 (by omega)
  obtain rfl : u1 = .int .i64 list[k].fn := r1
  obtain ⟨u2, c2, r2⟩ := hc 2 (by omega)
  replace r2 : Rd wr B (dAtomS list[k].val) u2 := r2
  obtain ⟨va, vc, rfl⟩ := r2.lsSlice
  have HR2 := Lib.hid r2
  clear hc r2
  have CO := Lib.hid (condOKs list[k] va vc wr.heap.size wr (le_cond HO.out hlt).1 (le_atoms (le_cond HO.out hlt).2).1 (le_atoms (le_cond HO.out hlt).2).2 (Nat.le_refl _) HR2.out.lt.ats)
  have HNO : Hid (condB list[k] = false → condsB list = false) := fun h => conds_no hlt h
  have HNX : Hid (condB list[k] = true → ∀ m (h : m < list.length), m < k + 1 → condB list[m] = true) := fun he m h hm => by
   by_cases e : m = k
   ·
    subst e; exact he
   ·
    exact HW.out.1 m h (by omega)
  clear HR2
  generalize list[k] = x at *
  go_wp2_with fail
  refine CO.out.mono ?_
  rintro e w1 ⟨rfl, hB1⟩
  have HB1 := Lib.hid (HW.out.2.trans (hB1.mono HW.out.2.size))
  clear hB1 c0 c1 c2
  cases he : condB x
  case false =>
   have HR := Lib.hid (HNO.out he)
   clear HNO HNX he CO
   go_wp2_with fail
   go_ret
   exact ⟨ret_b HR.out.symm, HB1.out⟩
  have HN := Lib.hid (HNX.out he)
  clear HNO HNX he CO
  go_wp2_with fail
  go_roundw
  case rel => exact ⟨k + 1, by omega, by go_num, HN.out, HB1.out⟩
  case measure => simp [intOf]; omega
set_option maxRecDepth 100000 in
set_option maxHeartbeats 6400000 in
theorem condsS (t : Tb) (ca : Option Addr) (cc : Nat) (ua : Option Addr) (uc : Nat) (A : Nat → Prop) (list : List CondV) (a : Option Addr) (c : Nat) (B : Nat → Prop) (w : World) (hto : t.ok) (ho : (dCondS list).le maxLen) (hT : t.Has w A ca ua) (hL : Rd w B (dCondS list) (.slice a list.length c)) :
  Calls Tryz.prog 61 #[.agg #[.string ⟨t.nm.toArray⟩, .slice ca t.cols.length cc, .slice ua t.uq.length uc, .bool t.rt], .slice a list.length c] w fun e w' => e = .returned (.int .i64 (condsC t list)) ∧ Below w.heap.size w w' := by
 have HL : Hid (∀ W, Below w.heap.size w W → Rd W B (Ls 3 dCond list) (.slice a list.length c)) := fun W h => Rd.later hL h
 have HT : Hid (t.ok ∧ ∀ W, Below w.heap.size w W → t.Has W A ca ua) := ⟨hto, fun W h => hT.later h⟩
 have HO := Lib.hid ho
 have hll : list.length ≤ maxLen := (Ls_le.1 ho).2.1
 unfold maxLen at hll
 have HX := Lib.hid (boxD 75 w #[.string ⟨t.nm.toArray⟩, .slice ca t.cols.length cc, .slice ua t.uq.length uc, .bool t.rt])
 clear ho hL hT hto
 go_enter Tryz.func61, Tryz.ntmps61
 go_wp2_with fail
 go_loopw [5] (fun i wr => ∃ k : Nat, k ≤ list.length ∧ i = .int .i64 k ∧ Hid ((∀ m (h : m < list.length), m < k → condC t list[m] = 0) ∧ BoxD 75 w wr #[.string ⟨t.nm.toArray⟩, .slice ca t.cols.length cc, .slice ua t.uq.length uc, .bool t.rt])) (fun i _ => list.length - (intOf i).toNat)
 case atStart => exact ⟨0, Nat.zero_le _, rfl, fun m _ h => absurd h (by omega), HX.out⟩
 case round =>
  obtain ⟨k, hk, rfl, HW⟩ := hrel
  by_cases hlt : k < list.length
  case neg =>
   have hki : decide ((k : Int) < (list.length : Int)) = false := by simp; omega
   have HR : Hid (condsC t list = 0) := condsC_zero (fun m h => HW.out.1 m h (by omega))
   go_wp2_with fail
   go_ret
   exact ⟨ret_i HR.out.symm, HW.out.2.2⟩
  have hki : (k : Int) < (list.length : Int) := by omega
  obtain ⟨b, off, rfl, -, hc⟩ := (HL.out _ HW.out.2.2).things k hlt
  obtain ⟨u0, c0, r0⟩ := hc 0 (by omega)
  obtain rfl : u0 = .string ⟨list[k].col.toArray⟩ := r0
  rw [Nat.add_zero] at c0
  obtain ⟨u1, c1, r1⟩ := hc 1 (by omega)
  obtain rfl : u1 = .int .i64 list[k].fn := r1
  obtain ⟨u2, c2, r2⟩ := hc 2 (by omega)
  replace r2 : Rd wr B (dAtomS list[k].val) u2 := r2
  obtain ⟨va, vc, rfl⟩ := r2.lsSlice
  have HR2 := Lib.hid r2
  clear hc r2
  have KL := Lib.hid (le_atoms (le_cond HO.out hlt).2)
  have HNO : Hid (condC t list[k] ≠ 0 → condsC t list = condC t list[k]) := fun h => condsC_at hlt (fun m h hm => HW.out.1 m h hm) h
  have HNX : Hid (condC t list[k] = 0 → ∀ m (h : m < list.length), m < k + 1 → condC t list[m] = 0) := fun he m h hm => by
   by_cases e : m = k
   ·
    subst e; exact he
   ·
    exact HW.out.1 m h (by omega)
  generalize list[k] = x at *
  have CC : Hid (∀ W, Below wr.heap.size wr W → Calls Tryz.prog 99 #[.agg #[.string ⟨t.nm.toArray⟩, .slice ca t.cols.length cc, .slice ua t.uq.length uc, .bool t.rt], .agg #[.string ⟨x.col.toArray⟩, .int .i64 x.fn, .slice va x.val.length vc]] W fun e w' => e = .returned (.int .i64 (condC t x)) ∧ Below W.heap.size W w') := fun W h => condCodeS t x ca cc ua uc va vc A W.heap.size W HT.out.1 KL.out.1 (HT.out.2 W (HW.out.2.2.trans (h.mono HW.out.2.2.size))) (Nat.le_refl _) (HR2.out.later h).lt.ats
  have CX : Hid (∀ W, Below wr.heap.size wr W → (W.cell? ⟨w.heap.size, 0, none⟩ = some (.string ⟨t.nm.toArray⟩) ∧ W.cell? ⟨w.heap.size, 1, none⟩ = some (.slice ca t.cols.length cc) ∧ W.cell? ⟨w.heap.size, 2, none⟩ = some (.slice ua t.uq.length uc) ∧ W.cell? ⟨w.heap.size, 3, none⟩ = some (.bool t.rt)) ∧ W.cell? ⟨b, off + k * 3, none⟩ = some (.string ⟨x.col.toArray⟩) ∧ W.cell? ⟨b, off + k * 3 + 1, none⟩ = some (.int .i64 x.fn) ∧ W.cell? ⟨b, off + k * 3 + 2, none⟩ = some (.slice va x.val.length vc)) := fun W h => ⟨⟨cell_at (o := 0) (HW.out.2.later h).1 rfl, cell_at (o := 1) (HW.out.2.later h).1 rfl, cell_at (o := 2) (HW.out.2.later h).1 rfl, cell_at (o := 3) (HW.out.2.later h).1 rfl⟩, (h.cell (p := ⟨b, off + k * 3, none⟩) (World.block_lt_of_cell? _ _ c0)).trans c0, (h.cell (p := ⟨b, off + k * 3 + 1, none⟩) (World.block_lt_of_cell? _ _ c1)).trans c1, (h.cell (p := ⟨b, off + k * 3 + 2, none⟩) (World.block_lt_of_cell? _ _ c2)).trans c2⟩
  clear c0 c1 c2
  go_wp2_with fail
  refine wp_region_held_drew (S := (fun W => (W.cell? ⟨w.heap.size, 0, none⟩ = some (.string ⟨t.nm.toArray⟩) ∧ W.cell? ⟨w.heap.size, 1, none⟩ = some (.slice ca t.cols.length cc) ∧ W.cell? ⟨w.heap.size, 2, none⟩ = some (.slice ua t.uq.length uc) ∧ W.cell? ⟨w.heap.size, 3, none⟩ = some (.bool t.rt)) ∧ W.cell? ⟨b, off + k * 3, none⟩ = some (.string ⟨x.col.toArray⟩) ∧ W.cell? ⟨b, off + k * 3 + 1, none⟩ = some (.int .i64 x.fn) ∧ W.cell? ⟨b, off + k * 3 + 2, none⟩ = some (.slice va x.val.length vc))) (by kernel_rfl) ?_ (fun hHeld => ?_)
  ·
   (first | exact CX.out _ (Below.refl _ _) | exact CX.out _ (Below.refl _ _).drew | exact CX.out _ BW.out)
  refine tkB (i := 0) ?_
  refine tkB (i := 1) ?_
  refine tkB (i := 2) ?_
  refine tkB (i := 3) ?_
  refine tkB (i := 4) ?_
  refine tkR (i := 5) (fun K hK => ?_)
  go_simp
  go_at_call 99
  refine (CC.out _ (Below.refl _ _).drew).mono ?_
  rintro e w1 ⟨rfl, hB1⟩
  have BW : Hid (Below wr.heap.size wr w1) := (Below.refl _ _).drew.trans hB1
  clear hB1
  refine hK.out _ _ ?_ (fun hHeld => ?_)
  ·
   (first | exact CX.out _ (Below.refl _ _) | exact CX.out _ (Below.refl _ _).drew | exact CX.out _ BW.out)
  clear hK K
  try simp only [Act.put, tkS]
  refine tkB (i := 6) ?_
  refine wpAnyH_done (by kernel_rfl) ?_ _
  have HB1 := Lib.hid (HW.out.2.later BW.out)
  by_cases he : condC t x = 0
  case neg =>
   have HR := Lib.hid (HNO.out he)
   have hne : (condC t x != 0) = true := by simpa using he
   clear HNO HNX he
   go_wp2_with fail
   go_ret
   exact ⟨ret_i HR.out.symm, HB1.out.2⟩
  have HN := Lib.hid (HNX.out he)
  have hne : (condC t x != 0) = false := by simpa using he
  clear HNO HNX he
  go_wp2_with fail
  go_roundw
  case rel => exact ⟨k + 1, by omega, by go_num, HN.out, HB1.out⟩
  case measure => simp [intOf]; omega
set_option maxRecDepth 100000 in
set_option maxHeartbeats 6400000 in
theorem allS (t : Tb) (ca : Option Addr) (cc : Nat) (ua : Option Addr) (uc : Nat) (A : Nat → Prop) (r : RowV) (ra : Option Addr) (rc : Nat) (R : Nat → Prop) (list : List CondV) (a : Option Addr) (c : Nat) (B : Nat → Prop) (w : World) (hto : t.ok) (ho : (dCondS list).le 1048576) (hr : (dAtomSS r.cells).le maxLen) (hid : iOK r.id) (hq : ∀ k (h : k < list.length), Asks t r list[k]) (hT : t.Has w A ca ua) (hR : Rd w R (dAtomSS r.cells) (.slice ra r.cells.length rc)) (hL : Rd w B (dCondS list) (.slice a list.length c)) :
  Calls Tryz.prog 100 #[.agg #[.string ⟨t.nm.toArray⟩, .slice ca t.cols.length cc, .slice ua t.uq.length uc, .bool t.rt], .agg #[.int .i64 r.id, .slice ra r.cells.length rc], .slice a list.length c] w fun e w' => e = .returned (.bool (allM t r list)) ∧ Below w.heap.size w w' := by
 have HL : Hid (∀ W, Below w.heap.size w W → Rd W B (Ls 3 dCond list) (.slice a list.length c)) := fun W h => Rd.later hL h
 have HT : Hid (t.ok ∧ ∀ W, Below w.heap.size w W → t.Has W A ca ua) := ⟨hto, fun W h => hT.later h⟩
 have HR : Hid (∀ W, Below w.heap.size w W → Rd W R (dAtomSS r.cells) (.slice ra r.cells.length rc)) := fun W h => hR.later h
 have HO := Lib.hid (And.intro ho (And.intro hr (And.intro hid hq)))
 have hll : list.length ≤ 1048576 := (Ls_le.1 ho).2.1
 have HX := Lib.hid (boxE 75 81 w #[.string ⟨t.nm.toArray⟩, .slice ca t.cols.length cc, .slice ua t.uq.length uc, .bool t.rt] #[.int .i64 r.id, .slice ra r.cells.length rc])
 clear ho hL hT hto hr hid hq hR
 go_enter Tryz.func100, Tryz.ntmps100
 go_wp2_with fail
 go_loopw [7] (fun i wr => ∃ k : Nat, k ≤ list.length ∧ i = .int .i64 k ∧ Hid ((∀ m (h : m < list.length), m < k → matchC t r list[m] = true) ∧ BoxE 75 81 w wr #[.string ⟨t.nm.toArray⟩, .slice ca t.cols.length cc, .slice ua t.uq.length uc, .bool t.rt] #[.int .i64 r.id, .slice ra r.cells.length rc])) (fun i _ => list.length - (intOf i).toNat)
 case atStart => exact ⟨0, Nat.zero_le _, rfl, fun m _ h => absurd h (by omega), HX.out⟩
 case round =>
  obtain ⟨k, hk, rfl, HW⟩ := hrel
  by_cases hlt : k < list.length
  case neg =>
   have hki : decide ((k : Int) < (list.length : Int)) = false := by simp; omega
   have HRR : Hid (allM t r list = true) := allM_yes (fun m h => HW.out.1 m h (by omega))
   go_wp2_with fail
   go_ret
   exact ⟨ret_b HRR.out.symm, HW.out.2.bel⟩
  have hki : (k : Int) < (list.length : Int) := by omega
  obtain ⟨b, off, rfl, -, hc⟩ := (HL.out _ HW.out.2.bel).things k hlt
  obtain ⟨u0, c0, r0⟩ := hc 0 (by omega)
  obtain rfl : u0 = .string ⟨list[k].col.toArray⟩ := r0
  rw [Nat.add_zero] at c0
  obtain ⟨u1, c1, r1⟩ := hc 1 (by omega)
  obtain rfl : u1 = .int .i64 list[k].fn := r1
  obtain ⟨u2, c2, r2⟩ := hc 2 (by omega)
  replace r2 : Rd wr B (dAtomS list[k].val) u2 := r2
  obtain ⟨va, vc, rfl⟩ := r2.lsSlice
  have HR2 := Lib.hid r2
  clear hc r2
  have KL := Lib.hid (And.intro (le_cond HO.out.1 hlt).2 (HO.out.2.2.2 k hlt))
  have HNO : Hid (matchC t r list[k] = false → allM t r list = false) := fun h => allM_no hlt h
  have HNX : Hid (matchC t r list[k] = true → ∀ m (h : m < list.length), m < k + 1 → matchC t r list[m] = true) := fun he m h hm => by
   by_cases e : m = k
   ·
    subst e; exact he
   ·
    exact HW.out.1 m h (by omega)
  generalize list[k] = x at *
  have CC : Hid (∀ W, Below wr.heap.size wr W → Calls Tryz.prog 135 #[.agg #[.string ⟨t.nm.toArray⟩, .slice ca t.cols.length cc, .slice ua t.uq.length uc, .bool t.rt], .agg #[.int .i64 r.id, .slice ra r.cells.length rc], .agg #[.string ⟨x.col.toArray⟩, .int .i64 x.fn, .slice va x.val.length vc]] W fun e w' => e = .returned (.bool (matchC t r x)) ∧ Below W.heap.size W w') := fun W h => matchS t r x ca cc ua uc ra rc va vc A R B W HT.out.1 KL.out.1 HO.out.2.1 HO.out.2.2.1 KL.out.2 (HT.out.2 W (HW.out.2.bel.trans (h.mono HW.out.2.bel.size))) (HR.out W (HW.out.2.bel.trans (h.mono HW.out.2.bel.size))) (HR2.out.later h)
  have CX : Hid (∀ W, Below wr.heap.size wr W → (W.cell? ⟨w.heap.size, 0, none⟩ = some (.string ⟨t.nm.toArray⟩) ∧ W.cell? ⟨w.heap.size, 1, none⟩ = some (.slice ca t.cols.length cc) ∧ W.cell? ⟨w.heap.size, 2, none⟩ = some (.slice ua t.uq.length uc) ∧ W.cell? ⟨w.heap.size, 3, none⟩ = some (.bool t.rt)) ∧ (W.cell? ⟨w.heap.size + 1, 0, none⟩ = some (.int .i64 r.id) ∧ W.cell? ⟨w.heap.size + 1, 1, none⟩ = some (.slice ra r.cells.length rc)) ∧ W.cell? ⟨b, off + k * 3, none⟩ = some (.string ⟨x.col.toArray⟩) ∧ W.cell? ⟨b, off + k * 3 + 1, none⟩ = some (.int .i64 x.fn) ∧ W.cell? ⟨b, off + k * 3 + 2, none⟩ = some (.slice va x.val.length vc)) := fun W h => ⟨⟨cell_at (o := 0) (HW.out.2.later h).a rfl, cell_at (o := 1) (HW.out.2.later h).a rfl, cell_at (o := 2) (HW.out.2.later h).a rfl, cell_at (o := 3) (HW.out.2.later h).a rfl⟩, ⟨cell_at (o := 0) (HW.out.2.later h).b rfl, cell_at (o := 1) (HW.out.2.later h).b rfl⟩, (h.cell (p := ⟨b, off + k * 3, none⟩) (World.block_lt_of_cell? _ _ c0)).trans c0, (h.cell (p := ⟨b, off + k * 3 + 1, none⟩) (World.block_lt_of_cell? _ _ c1)).trans c1, (h.cell (p := ⟨b, off + k * 3 + 2, none⟩) (World.block_lt_of_cell? _ _ c2)).trans c2⟩
  clear c0 c1 c2
  go_wp2_with fail
  refine wp_region_held_drew (S := (fun W => (W.cell? ⟨w.heap.size, 0, none⟩ = some (.string ⟨t.nm.toArray⟩) ∧ W.cell? ⟨w.heap.size, 1, none⟩ = some (.slice ca t.cols.length cc) ∧ W.cell? ⟨w.heap.size, 2, none⟩ = some (.slice ua t.uq.length uc) ∧ W.cell? ⟨w.heap.size, 3, none⟩ = some (.bool t.rt)) ∧ (W.cell? ⟨w.heap.size + 1, 0, none⟩ = some (.int .i64 r.id) ∧ W.cell? ⟨w.heap.size + 1, 1, none⟩ = some (.slice ra r.cells.length rc)) ∧ W.cell? ⟨b, off + k * 3, none⟩ = some (.string ⟨x.col.toArray⟩) ∧ W.cell? ⟨b, off + k * 3 + 1, none⟩ = some (.int .i64 x.fn) ∧ W.cell? ⟨b, off + k * 3 + 2, none⟩ = some (.slice va x.val.length vc))) (by kernel_rfl) ?_ (fun hHeld => ?_)
  ·
   (first | exact CX.out _ (Below.refl _ _) | exact CX.out _ (Below.refl _ _).drew | exact CX.out _ BW.out)
  refine tkB (i := 0) ?_
  refine tkB (i := 1) ?_
  refine tkB (i := 2) ?_
  refine tkB (i := 3) ?_
  refine tkB (i := 4) ?_
  refine tkB (i := 5) ?_
  refine tkR (i := 6) (fun K hK => ?_)
  go_simp
  go_at_call 135
  refine (CC.out _ (Below.refl _ _).drew).mono ?_
  rintro e w1 ⟨rfl, hB1⟩
  have BW : Hid (Below wr.heap.size wr w1) := (Below.refl _ _).drew.trans hB1
  clear hB1
  refine hK.out _ _ ?_ (fun hHeld => ?_)
  ·
   (first | exact CX.out _ (Below.refl _ _) | exact CX.out _ (Below.refl _ _).drew | exact CX.out _ BW.out)
  clear hK K
  try simp only [Act.put, tkS]
  refine tkB (i := 7) ?_
  refine wpAnyH_done (by kernel_rfl) ?_ _
  have HB1 := Lib.hid (HW.out.2.later BW.out)
  cases he : matchC t r x
  case false =>
   have HRR := Lib.hid (HNO.out he)
   clear HNO HNX CC he
   go_wp2_with fail
   go_ret
   exact ⟨ret_b HRR.out.symm, HB1.out.bel⟩
  have HN := Lib.hid (HNX.out he)
  clear HNO HNX CC he
  go_wp2_with fail
  go_roundw
  case rel => exact ⟨k + 1, by omega, by go_num, HN.out, HB1.out⟩
  case measure => simp [intOf]; omega
end Go.Proofs.YtlddhbamcndggaaGreatDoor
