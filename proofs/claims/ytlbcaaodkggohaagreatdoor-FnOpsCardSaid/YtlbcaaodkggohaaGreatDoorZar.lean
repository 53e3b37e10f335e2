import Derived.Test.YtlbcaaodkggohaaGreatDoorZaq
import Derived.Test.YtlbcaaodkggohaaGreatDoorZTk
namespace Go.Proofs.YtlbcaaodkggohaaGreatDoor
open Go.RowKit
set_option linter.unusedSimpArgs false
def mutsB (list : List MutV) : Bool := list.all mutB && decide (list.length ≤ 8)
noncomputable def mutsC (t : Tb) : List MutV → Int
 | [] => 0
 | c :: l => if mutC t c = 0 then mutsC t l else mutC t c
theorem muts_no {list : List MutV} {k : Nat} (hk : k < list.length) (h : mutB list[k] = false) : mutsB list = false := by
 unfold mutsB; rw [List.all_eq_false.2 ⟨_, List.getElem_mem hk, by simp [h]⟩]; rfl
theorem muts_yes {list : List MutV} (h : ∀ k (hk : k < list.length), mutB list[k] = true) : mutsB list = decide (list.length ≤ 8) := by
 unfold mutsB; rw [List.all_eq_true.2 (fun x hx => by obtain ⟨k, hk, rfl⟩ := List.mem_iff_getElem.1 hx; exact h k hk), Bool.true_and]
theorem mutsC_at {t : Tb} : ∀ {list : List MutV} {k : Nat} (hk : k < list.length), (∀ m (h : m < list.length), m < k → mutC t list[m] = 0) → mutC t list[k] ≠ 0 → mutsC t list = mutC t list[k]
 | c :: l, 0, _, _, h => by
  simp only [List.getElem_cons_zero] at h ⊢; unfold mutsC; rw [if_neg h]
 | c :: l, k + 1, hk, hb, h => by
  have h0 : mutC t c = 0 := hb 0 (by simp) (by omega); have hk' : k < l.length := by simpa using hk
  simp only [List.getElem_cons_succ] at h ⊢; unfold mutsC; rw [if_pos h0]; exact mutsC_at hk' (fun m hm hmk => by have := hb (m + 1) (by simpa using hm) (by omega); simpa using this) h
theorem mutsC_zero {t : Tb} : ∀ {list : List MutV}, (∀ m (h : m < list.length), mutC t list[m] = 0) → mutsC t list = 0
 | [], _ => rfl
 | c :: l, h => by
  have h0 : mutC t c = 0 := h 0 (by simp); unfold mutsC; rw [if_pos h0]; exact mutsC_zero fun m hm => by have := h (m + 1) (by simpa using hm); simpa using this
theorem muts_all {list : List MutV} (h : mutsB list = true) : ∀ c ∈ list, mutB c = true := by
 unfold mutsB at h; simp only [Bool.and_eq_true] at h; exact List.all_eq_true.1 h.1
theorem le_mut {list : List MutV} {K : Nat} (h : (dMutS list).le K) {k : Nat} (hk : k < list.length) : list[k].col.length ≤ K ∧ (dAtomS list[k].val).le K :=
 ⟨(Ls_le.1 h).2.2 k hk 0 (by omega), (Ls_le.1 h).2.2 k hk 2 (by omega)⟩
set_option maxRecDepth 100000 in
set_option maxHeartbeats 3200000 in
theorem mlistS (list : List MutV) (a : Option Addr) (c : Nat) (B : Nat → Prop) (w : World) (ho : (dMutS list).le maxLen) (hL : Rd w B (dMutS list) (.slice a list.length c)) :
  Calls Tryz.prog 49 #[.slice a list.length c] w fun e w' => e = .returned (.bool (mutsB list)) ∧ Below w.heap.size w w' := by
 have HL : Hid (∀ W, Below w.heap.size w W → Rd W B (Ls 3 dMut list) (.slice a list.length c)) := fun W h => Rd.later hL h
 have HO := Lib.hid ho; have hll : list.length ≤ maxLen := (Ls_le.1 ho).2.1; unfold maxLen at hll; clear ho hL; (go_enter Tryz.func49, Tryz.ntmps49); (go_wp2_with fail); go_loopw [3] (fun i wr => ∃ k : Nat, k ≤ list.length ∧ i = .int .i64 k ∧ Hid ((∀ m (h : m < list.length), m < k → mutB list[m] = true) ∧ Below w.heap.size w wr)) (fun i _ => list.length - (intOf i).toNat)
 case atStart => exact ⟨0, Nat.zero_le _, rfl, fun m _ h => absurd h (by omega), Below.refl _ _⟩
 case round =>
  obtain ⟨k, hk, rfl, HW⟩ := hrel
  by_cases hlt : k < list.length
  case neg =>
   have hki : decide ((k : Int) < (list.length : Int)) = false := by simp; omega
   have HR : Hid (mutsB list = decide (list.length ≤ 8)) := muts_yes (fun m h => HW.out.1 m h (by omega)); (go_wp2_with fail); go_ret; exact ⟨ret_b (by rw [HR.out]; simp; omega), HW.out.2⟩
  have hki : (k : Int) < (list.length : Int) := by omega
  obtain ⟨b, off, rfl, -, hc⟩ := (HL.out _ HW.out.2).things k hlt; obtain ⟨u0, c0, r0⟩ := hc 0 (by omega); obtain rfl : u0 = .string ⟨list[k].col.toArray⟩ := r0; rw [Nat.add_zero] at c0; obtain ⟨u1, c1, r1⟩ := hc 1 (by omega); obtain rfl : u1 = .int .i64 list[k].fn := r1; obtain ⟨u2, c2, r2⟩ := hc 2 (by omega); replace r2 : Rd wr B (dAtomS list[k].val) u2 := r2; obtain ⟨va, vc, rfl⟩ := r2.lsSlice; have HR2 := Lib.hid r2; clear hc r2; have CO := Lib.hid (mutOKs list[k] va vc wr.heap.size wr (le_mut HO.out hlt).1 (le_atoms (le_mut HO.out hlt).2).1 (le_atoms (le_mut HO.out hlt).2).2 (Nat.le_refl _) HR2.out.lt.ats); have HNO : Hid (mutB list[k] = false → mutsB list = false) := fun h => muts_no hlt h
  have HNX : Hid (mutB list[k] = true → ∀ m (h : m < list.length), m < k + 1 → mutB list[m] = true) := fun he m h hm => by
   by_cases e : m = k
   ·
    subst e; exact he
   ·
    exact HW.out.1 m h (by omega)
  clear HR2; generalize list[k] = x at *; (go_wp2_with fail); refine CO.out.mono ?_; rintro e w1 ⟨rfl, hB1⟩; have HB1 := Lib.hid (HW.out.2.trans (hB1.mono HW.out.2.size)); clear hB1 c0 c1 c2
  cases he : mutB x
  case false =>
   have HR := Lib.hid (HNO.out he); clear HNO HNX he CO; (go_wp2_with fail); go_ret; exact ⟨ret_b HR.out.symm, HB1.out⟩
  have HN := Lib.hid (HNX.out he); clear HNO HNX he CO; (go_wp2_with fail); go_roundw
  case rel => exact ⟨k + 1, by omega, by go_num, HN.out, HB1.out⟩
  case measure => simp [intOf]; omega
set_option maxRecDepth 100000 in
set_option maxHeartbeats 3200000 in
theorem mfewI (list : List MutV) (a : Option Addr) (c : Nat) (B : Nat → Prop) (w : World) (ho : (dMutS list).le maxLen) (hL : Rd w B (dMutS list) (.slice a list.length c)) :
  Calls Tryz.prog 61 #[.slice a list.length c, .int .i64 8, .func (.func 62) #[] #[]] w fun e w' => e = .returned (.bool (mutsB list)) ∧ Below w.heap.size w w' := by
 have HL : Hid (∀ W, Below w.heap.size w W → Rd W B (Ls 3 dMut list) (.slice a list.length c)) := fun W h => Rd.later hL h
 have HO := Lib.hid ho; have hll : list.length ≤ maxLen := (Ls_le.1 ho).2.1; unfold maxLen at hll; clear ho hL
 by_cases h8 : 8 < list.length
 case pos =>
  have HR : Hid (mutsB list = false) := by show mutsB list = false; unfold mutsB; rw [decide_eq_false (by omega), Bool.and_false]
  have hd : decide (8 < (list.length : Int)) = true := decide_eq_true (by omega); clear h8; (go_enter Tryz.func61, Tryz.ntmps61); (go_wp2_with fail); go_ret; exact ⟨ret_b HR.out.symm, Below.refl _ _⟩
 have hd : decide (8 < (list.length : Int)) = false := decide_eq_false (by omega); have H8 := Lib.hid h8; clear h8; (go_enter Tryz.func61, Tryz.ntmps61); (go_wp2_with fail); go_loopw [14] (fun i wr => ∃ k : Nat, k ≤ list.length ∧ i = .int .i64 k ∧ Hid ((∀ m (h : m < list.length), m < k → mutB list[m] = true) ∧ Below w.heap.size w wr)) (fun i _ => list.length - (intOf i).toNat)
 case atStart => exact ⟨0, Nat.zero_le _, rfl, fun m _ h => absurd h (by omega), Below.refl _ _⟩
 case round =>
  obtain ⟨k, hk, rfl, HW⟩ := hrel
  by_cases hlt : k < list.length
  case neg =>
   have hki : decide ((k : Int) < (list.length : Int)) = false := by simp; omega
   have HR : Hid (mutsB list = decide (list.length ≤ 8)) := muts_yes (fun m h => HW.out.1 m h (by omega)); (go_wp2_with fail); go_ret; exact ⟨ret_b (by rw [HR.out]; have := H8.out; simp; omega), HW.out.2⟩
  have hki : (k : Int) < (list.length : Int) := by omega
  obtain ⟨b, off, rfl, -, hc⟩ := (HL.out _ HW.out.2).things k hlt; obtain ⟨u0, c0, r0⟩ := hc 0 (by omega); obtain rfl : u0 = .string ⟨list[k].col.toArray⟩ := r0; rw [Nat.add_zero] at c0; obtain ⟨u1, c1, r1⟩ := hc 1 (by omega); obtain rfl : u1 = .int .i64 list[k].fn := r1; obtain ⟨u2, c2, r2⟩ := hc 2 (by omega); replace r2 : Rd wr B (dAtomS list[k].val) u2 := r2; obtain ⟨va, vc, rfl⟩ := r2.lsSlice; have HR2 := Lib.hid r2; clear hc r2; have CO := Lib.hid (mutOKi list[k] va vc wr.heap.size wr (le_mut HO.out hlt).1 (le_atoms (le_mut HO.out hlt).2).1 (le_atoms (le_mut HO.out hlt).2).2 (Nat.le_refl _) HR2.out.lt.ats); have HNO : Hid (mutB list[k] = false → mutsB list = false) := fun h => muts_no hlt h
  have HNX : Hid (mutB list[k] = true → ∀ m (h : m < list.length), m < k + 1 → mutB list[m] = true) := fun he m h hm => by
   by_cases e : m = k
   ·
    subst e; exact he
   ·
    exact HW.out.1 m h (by omega)
  clear HR2; generalize list[k] = x at *; (go_wp2_with fail); refine CO.out.mono ?_; rintro e w1 ⟨rfl, hB1⟩; have HB1 := Lib.hid (HW.out.2.trans (hB1.mono HW.out.2.size)); clear hB1 c0 c1 c2
  cases he : mutB x
  case false =>
   have HR := Lib.hid (HNO.out he); clear HNO HNX he CO; (go_wp2_with fail); go_ret; exact ⟨ret_b HR.out.symm, HB1.out⟩
  have HN := Lib.hid (HNX.out he); clear HNO HNX he CO; (go_wp2_with fail); go_roundw
  case rel => exact ⟨k + 1, by omega, by go_num, HN.out, HB1.out⟩
  case measure => simp [intOf]; omega
set_option maxRecDepth 100000 in
set_option maxHeartbeats 6400000 in
theorem mutsS (t : Tb) (ca : Option Addr) (cc : Nat) (ua : Option Addr) (uc : Nat) (A : Nat → Prop) (list : List MutV) (a : Option Addr) (c : Nat) (B : Nat → Prop) (w : World) (hto : t.ok) (ho : (dMutS list).le maxLen) (hT : t.Has w A ca ua) (hL : Rd w B (dMutS list) (.slice a list.length c)) :
  Calls Tryz.prog 55 #[.agg #[.string ⟨t.nm.toArray⟩, .slice ca t.cols.length cc, .slice ua t.uq.length uc, .bool t.rt], .slice a list.length c] w fun e w' => e = .returned (.int .i64 (mutsC t list)) ∧ Below w.heap.size w w' := by
 have HL : Hid (∀ W, Below w.heap.size w W → Rd W B (Ls 3 dMut list) (.slice a list.length c)) := fun W h => Rd.later hL h
 have HT : Hid (t.ok ∧ ∀ W, Below w.heap.size w W → t.Has W A ca ua) := ⟨hto, fun W h => hT.later h⟩; have HO := Lib.hid ho; have hll : list.length ≤ maxLen := (Ls_le.1 ho).2.1; unfold maxLen at hll; have HX := Lib.hid (boxD 48 w #[.string ⟨t.nm.toArray⟩, .slice ca t.cols.length cc, .slice ua t.uq.length uc, .bool t.rt]); clear ho hL hT hto; (go_enter Tryz.func55, Tryz.ntmps55); (go_wp2_with fail); go_loopw [5] (fun i wr => ∃ k : Nat, k ≤ list.length ∧ i = .int .i64 k ∧ Hid ((∀ m (h : m < list.length), m < k → mutC t list[m] = 0) ∧ BoxD 48 w wr #[.string ⟨t.nm.toArray⟩, .slice ca t.cols.length cc, .slice ua t.uq.length uc, .bool t.rt])) (fun i _ => list.length - (intOf i).toNat)
 case atStart => exact ⟨0, Nat.zero_le _, rfl, fun m _ h => absurd h (by omega), HX.out⟩
 case round =>
  obtain ⟨k, hk, rfl, HW⟩ := hrel
  by_cases hlt : k < list.length
  case neg =>
   have hki : decide ((k : Int) < (list.length : Int)) = false := by simp; omega
   have HR : Hid (mutsC t list = 0) := mutsC_zero (fun m h => HW.out.1 m h (by omega)); (go_wp2_with fail); go_ret; exact ⟨ret_i HR.out.symm, HW.out.2.2⟩
  have hki : (k : Int) < (list.length : Int) := by omega
  obtain ⟨b, off, rfl, -, hc⟩ := (HL.out _ HW.out.2.2).things k hlt; obtain ⟨u0, c0, r0⟩ := hc 0 (by omega); obtain rfl : u0 = .string ⟨list[k].col.toArray⟩ := r0; rw [Nat.add_zero] at c0; obtain ⟨u1, c1, r1⟩ := hc 1 (by omega); obtain rfl : u1 = .int .i64 list[k].fn := r1; obtain ⟨u2, c2, r2⟩ := hc 2 (by omega); replace r2 : Rd wr B (dAtomS list[k].val) u2 := r2; obtain ⟨va, vc, rfl⟩ := r2.lsSlice; have HR2 := Lib.hid r2; clear hc r2; have KL := Lib.hid (le_atoms (le_mut HO.out hlt).2); have HNO : Hid (mutC t list[k] ≠ 0 → mutsC t list = mutC t list[k]) := fun h => mutsC_at hlt (fun m h hm => HW.out.1 m h hm) h
  have HNX : Hid (mutC t list[k] = 0 → ∀ m (h : m < list.length), m < k + 1 → mutC t list[m] = 0) := fun he m h hm => by
   by_cases e : m = k
   ·
    subst e; exact he
   ·
    exact HW.out.1 m h (by omega)
  generalize list[k] = x at *; have CC : Hid (∀ W, Below wr.heap.size wr W → Calls Tryz.prog 91 #[.agg #[.string ⟨t.nm.toArray⟩, .slice ca t.cols.length cc, .slice ua t.uq.length uc, .bool t.rt], .agg #[.string ⟨x.col.toArray⟩, .int .i64 x.fn, .slice va x.val.length vc]] W fun e w' => e = .returned (.int .i64 (mutC t x)) ∧ Below W.heap.size W w') := fun W h => mutCodeS t x ca cc ua uc va vc A W.heap.size W HT.out.1 KL.out.1 (HT.out.2 W (HW.out.2.2.trans (h.mono HW.out.2.2.size))) (Nat.le_refl _) (HR2.out.later h).lt.ats
  have CX : Hid (∀ W, Below wr.heap.size wr W → (W.cell? ⟨w.heap.size, 0, none⟩ = some (.string ⟨t.nm.toArray⟩) ∧ W.cell? ⟨w.heap.size, 1, none⟩ = some (.slice ca t.cols.length cc) ∧ W.cell? ⟨w.heap.size, 2, none⟩ = some (.slice ua t.uq.length uc) ∧ W.cell? ⟨w.heap.size, 3, none⟩ = some (.bool t.rt)) ∧ W.cell? ⟨b, off + k * 3, none⟩ = some (.string ⟨x.col.toArray⟩) ∧ W.cell? ⟨b, off + k * 3 + 1, none⟩ = some (.int .i64 x.fn) ∧ W.cell? ⟨b, off + k * 3 + 2, none⟩ = some (.slice va x.val.length vc)) := fun W h => ⟨⟨cell_at (o := 0) (HW.out.2.later h).1 rfl, cell_at (o := 1) (HW.out.2.later h).1 rfl, cell_at (o := 2) (HW.out.2.later h).1 rfl, cell_at (o := 3) (HW.out.2.later h).1 rfl⟩, (h.cell (p := ⟨b, off + k * 3, none⟩) (World.block_lt_of_cell? _ _ c0)).trans c0, (h.cell (p := ⟨b, off + k * 3 + 1, none⟩) (World.block_lt_of_cell? _ _ c1)).trans c1, (h.cell (p := ⟨b, off + k * 3 + 2, none⟩) (World.block_lt_of_cell? _ _ c2)).trans c2⟩
  clear c0 c1 c2; (go_wp2_with fail); refine wp_region_held_drew (S := (fun W => (W.cell? ⟨w.heap.size, 0, none⟩ = some (.string ⟨t.nm.toArray⟩) ∧ W.cell? ⟨w.heap.size, 1, none⟩ = some (.slice ca t.cols.length cc) ∧ W.cell? ⟨w.heap.size, 2, none⟩ = some (.slice ua t.uq.length uc) ∧ W.cell? ⟨w.heap.size, 3, none⟩ = some (.bool t.rt)) ∧ W.cell? ⟨b, off + k * 3, none⟩ = some (.string ⟨x.col.toArray⟩) ∧ W.cell? ⟨b, off + k * 3 + 1, none⟩ = some (.int .i64 x.fn) ∧ W.cell? ⟨b, off + k * 3 + 2, none⟩ = some (.slice va x.val.length vc))) (by kernel_rfl) ?_ (fun hHeld => ?_)
  ·
   (first | exact CX.out _ (Below.refl _ _) | exact CX.out _ (Below.refl _ _).drew | exact CX.out _ BW.out)
  refine tkB (i := 0) ?_; refine tkB (i := 1) ?_; refine tkB (i := 2) ?_; refine tkB (i := 3) ?_; refine tkB (i := 4) ?_; refine tkR (i := 5) (fun K hK => ?_); go_simp; (go_at_call 91); refine (CC.out _ (Below.refl _ _).drew).mono ?_; rintro e w1 ⟨rfl, hB1⟩; have BW : Hid (Below wr.heap.size wr w1) := (Below.refl _ _).drew.trans hB1; clear hB1; refine hK.out _ _ ?_ (fun hHeld => ?_)
  ·
   (first | exact CX.out _ (Below.refl _ _) | exact CX.out _ (Below.refl _ _).drew | exact CX.out _ BW.out)
  clear hK K; (try simp only [Act.put, tkS]); refine tkB (i := 6) ?_; refine wpAnyH_done (by kernel_rfl) ?_ _; have HB1 := Lib.hid (HW.out.2.later BW.out)
  by_cases he : mutC t x = 0
  case neg =>
   have HR := Lib.hid (HNO.out he); have hne : (mutC t x != 0) = true := by simpa using he
   clear HNO HNX he; (go_wp2_with fail); go_ret; exact ⟨ret_i HR.out.symm, HB1.out.2⟩
  have HN := Lib.hid (HNX.out he); have hne : (mutC t x != 0) = false := by simpa using he
  clear HNO HNX he; (go_wp2_with fail); go_roundw
  case rel => exact ⟨k + 1, by omega, by go_num, HN.out, HB1.out⟩
  case measure => simp [intOf]; omega
set_option maxRecDepth 100000 in
set_option maxHeartbeats 6400000 in
theorem mfirstI (t : Tb) (ca : Option Addr) (cc : Nat) (ua : Option Addr) (uc : Nat) (A : Nat → Prop) (list : List MutV) (a : Option Addr) (c : Nat) (B : Nat → Prop) (w : World) (hto : t.ok) (hq : ∀ k (h : k < list.length), mutB list[k] = true) (ho : (dMutS list).le maxLen) (hT : t.Has w A ca ua) (hL : Rd w B (dMutS list) (.slice a list.length c)) :
  Calls Tryz.prog 42 #[.agg #[.string ⟨t.nm.toArray⟩, .slice ca t.cols.length cc, .slice ua t.uq.length uc, .bool t.rt], .slice a list.length c, .func (.func 43) #[] #[]] w fun e w' => e = .returned (.int .i64 (mutsC t list)) ∧ Below w.heap.size w w' := by
 have HL : Hid (∀ W, Below w.heap.size w W → Rd W B (Ls 3 dMut list) (.slice a list.length c)) := fun W h => Rd.later hL h
 have HT : Hid (t.ok ∧ ∀ W, Below w.heap.size w W → t.Has W A ca ua) := ⟨hto, fun W h => hT.later h⟩; have HO := Lib.hid ho; have hll : list.length ≤ maxLen := (Ls_le.1 ho).2.1; unfold maxLen at hll; have HX := Lib.hid (boxD 48 w #[.string ⟨t.nm.toArray⟩, .slice ca t.cols.length cc, .slice ua t.uq.length uc, .bool t.rt]); have HQ := Lib.hid hq; clear ho hL hT hto hq; (go_enter Tryz.func42, Tryz.ntmps42); (go_wp2_with fail); go_loopw [11] (fun i wr => ∃ k : Nat, k ≤ list.length ∧ i = .int .i64 k ∧ Hid ((∀ m (h : m < list.length), m < k → mutC t list[m] = 0) ∧ BoxD 48 w wr #[.string ⟨t.nm.toArray⟩, .slice ca t.cols.length cc, .slice ua t.uq.length uc, .bool t.rt])) (fun i _ => list.length - (intOf i).toNat)
 case atStart => exact ⟨0, Nat.zero_le _, rfl, fun m _ h => absurd h (by omega), HX.out⟩
 case round =>
  obtain ⟨k, hk, rfl, HW⟩ := hrel
  by_cases hlt : k < list.length
  case neg =>
   have hki : decide ((k : Int) < (list.length : Int)) = false := by simp; omega
   have HR : Hid (mutsC t list = 0) := mutsC_zero (fun m h => HW.out.1 m h (by omega)); (go_wp2_with fail); go_ret; exact ⟨ret_i HR.out.symm, HW.out.2.2⟩
  have hki : (k : Int) < (list.length : Int) := by omega
  obtain ⟨b, off, rfl, -, hc⟩ := (HL.out _ HW.out.2.2).things k hlt; obtain ⟨u0, c0, r0⟩ := hc 0 (by omega); obtain rfl : u0 = .string ⟨list[k].col.toArray⟩ := r0; rw [Nat.add_zero] at c0; obtain ⟨u1, c1, r1⟩ := hc 1 (by omega); obtain rfl : u1 = .int .i64 list[k].fn := r1; obtain ⟨u2, c2, r2⟩ := hc 2 (by omega); replace r2 : Rd wr B (dAtomS list[k].val) u2 := r2; obtain ⟨va, vc, rfl⟩ := r2.lsSlice; have HR2 := Lib.hid r2; clear hc r2; have KL := Lib.hid (le_atoms (le_mut HO.out hlt).2); have HNO : Hid (mutC t list[k] ≠ 0 → mutsC t list = mutC t list[k]) := fun h => mutsC_at hlt (fun m h hm => HW.out.1 m h hm) h
  have HNX : Hid (mutC t list[k] = 0 → ∀ m (h : m < list.length), m < k + 1 → mutC t list[m] = 0) := fun he m h hm => by
   by_cases e : m = k
   ·
    subst e; exact he
   ·
    exact HW.out.1 m h (by omega)
  have H1F := Lib.hid (mut_fn (HQ.out k hlt)); generalize list[k] = x at *; have CC : Hid (∀ W, Below wr.heap.size wr W → Calls Tryz.prog 43 #[.agg #[.string ⟨t.nm.toArray⟩, .slice ca t.cols.length cc, .slice ua t.uq.length uc, .bool t.rt], .agg #[.string ⟨x.col.toArray⟩, .int .i64 x.fn, .slice va x.val.length vc]] W fun e w' => e = .returned (.int .i64 (mutC t x)) ∧ Below W.heap.size W w') := fun W h => mutCodeI t x ca cc ua uc va vc A W.heap.size W HT.out.1 KL.out.1 (HT.out.2 W (HW.out.2.2.trans (h.mono HW.out.2.2.size))) (Nat.le_refl _) (HR2.out.later h).lt.ats H1F.out
  have CX : Hid (∀ W, Below wr.heap.size wr W → (W.cell? ⟨w.heap.size, 0, none⟩ = some (.string ⟨t.nm.toArray⟩) ∧ W.cell? ⟨w.heap.size, 1, none⟩ = some (.slice ca t.cols.length cc) ∧ W.cell? ⟨w.heap.size, 2, none⟩ = some (.slice ua t.uq.length uc) ∧ W.cell? ⟨w.heap.size, 3, none⟩ = some (.bool t.rt)) ∧ W.cell? ⟨b, off + k * 3, none⟩ = some (.string ⟨x.col.toArray⟩) ∧ W.cell? ⟨b, off + k * 3 + 1, none⟩ = some (.int .i64 x.fn) ∧ W.cell? ⟨b, off + k * 3 + 2, none⟩ = some (.slice va x.val.length vc)) := fun W h => ⟨⟨cell_at (o := 0) (HW.out.2.later h).1 rfl, cell_at (o := 1) (HW.out.2.later h).1 rfl, cell_at (o := 2) (HW.out.2.later h).1 rfl, cell_at (o := 3) (HW.out.2.later h).1 rfl⟩, (h.cell (p := ⟨b, off + k * 3, none⟩) (World.block_lt_of_cell? _ _ c0)).trans c0, (h.cell (p := ⟨b, off + k * 3 + 1, none⟩) (World.block_lt_of_cell? _ _ c1)).trans c1, (h.cell (p := ⟨b, off + k * 3 + 2, none⟩) (World.block_lt_of_cell? _ _ c2)).trans c2⟩
  clear c0 c1 c2; (go_wp2_with fail); refine wp_region_held_drew (S := (fun W => (W.cell? ⟨w.heap.size, 0, none⟩ = some (.string ⟨t.nm.toArray⟩) ∧ W.cell? ⟨w.heap.size, 1, none⟩ = some (.slice ca t.cols.length cc) ∧ W.cell? ⟨w.heap.size, 2, none⟩ = some (.slice ua t.uq.length uc) ∧ W.cell? ⟨w.heap.size, 3, none⟩ = some (.bool t.rt)) ∧ W.cell? ⟨b, off + k * 3, none⟩ = some (.string ⟨x.col.toArray⟩) ∧ W.cell? ⟨b, off + k * 3 + 1, none⟩ = some (.int .i64 x.fn) ∧ W.cell? ⟨b, off + k * 3 + 2, none⟩ = some (.slice va x.val.length vc))) (by kernel_rfl) ?_ (fun hHeld => ?_)
  ·
   (first | exact CX.out _ (Below.refl _ _) | exact CX.out _ (Below.refl _ _).drew | exact CX.out _ BW.out)
  refine tkB (i := 0) ?_; refine tkB (i := 1) ?_; refine tkB (i := 2) ?_; refine tkB (i := 3) ?_; refine tkB (i := 4) ?_; refine tkB (i := 5) ?_; refine tkR (i := 6) (fun K hK => ?_); go_simp; (go_at_call 43); refine (CC.out _ (Below.refl _ _).drew).mono ?_; rintro e w1 ⟨rfl, hB1⟩; have BW : Hid (Below wr.heap.size wr w1) := (Below.refl _ _).drew.trans hB1; clear hB1; refine hK.out _ _ ?_ (fun hHeld => ?_)
  ·
   (first | exact CX.out _ (Below.refl _ _) | exact CX.out _ (Below.refl _ _).drew | exact CX.out _ BW.out)
  clear hK K; (try simp only [Act.put, tkS]); refine tkB (i := 7) ?_; refine wpAnyH_done (by kernel_rfl) ?_ _; have HB1 := Lib.hid (HW.out.2.later BW.out)
  by_cases he : mutC t x = 0
  case neg =>
   have HR := Lib.hid (HNO.out he); have hne : (mutC t x != 0) = true := by simpa using he
   clear HNO HNX he; (go_wp2_with fail); go_ret; exact ⟨ret_i HR.out.symm, HB1.out.2⟩
  have HN := Lib.hid (HNX.out he); have hne : (mutC t x != 0) = false := by simpa using he
  clear HNO HNX he; (go_wp2_with fail); go_roundw
  case rel => exact ⟨k + 1, by omega, by go_num, HN.out, HB1.out⟩
  case measure => simp [intOf]; omega
end Go.Proofs.YtlbcaaodkggohaaGreatDoor
