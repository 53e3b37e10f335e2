import Derived.Test.YtlbcaaodkggohaaGreatDoorZbc
import Derived.Test.YtlbcaaodkggohaaGreatDoorZbj
import Derived.Test.YtlbcaaodkggohaaGreatDoorZbk
import Derived.Test.YtlbcaaodkggohaaGreatDoorZar
import Derived.Test.YtlbcaaodkggohaaGreatDoorZaj
import Derived.Test.YtlbcaaodkggohaaGreatDoorZTk
namespace Go.Proofs.YtlbcaaodkggohaaGreatDoor
open Go.RowKit
set_option linter.unusedSimpArgs false
set_option maxRecDepth 100000 in
set_option maxHeartbeats 3200000 in
theorem fewI (list : List CondV) (a : Option Addr) (c : Nat) (B : Nat → Prop) (w : World) (ho : (dCondS list).le maxLen) (hL : Rd w B (dCondS list) (.slice a list.length c)) :
  Calls Tryz.prog 57 #[.slice a list.length c, .int .i64 8, .func (.func 58) #[] #[]] w fun e w' => e = .returned (.bool (condsB list)) ∧ Below w.heap.size w w' := by
 have HL : Hid (∀ W, Below w.heap.size w W → Rd W B (Ls 3 dCond list) (.slice a list.length c)) := fun W h => Rd.later hL h
 have HO := Lib.hid ho; have hll : list.length ≤ maxLen := (Ls_le.1 ho).2.1; unfold maxLen at hll; clear ho hL
 by_cases h8 : 8 < list.length
 case pos =>
  have HR : Hid (condsB list = false) := by show condsB list = false; unfold condsB; rw [decide_eq_false (by omega), Bool.and_false]
  have hd : decide (8 < (list.length : Int)) = true := decide_eq_true (by omega); clear h8; (go_enter Tryz.func57, Tryz.ntmps57); (go_wp2_with fail); go_ret; exact ⟨ret_b HR.out.symm, Below.refl _ _⟩
 have hd : decide (8 < (list.length : Int)) = false := decide_eq_false (by omega); have H8 := Lib.hid h8; clear h8; (go_enter Tryz.func57, Tryz.ntmps57); (go_wp2_with fail); go_loopw [14] (fun i wr => ∃ k : Nat, k ≤ list.length ∧ i = .int .i64 k ∧ Hid ((∀ m (h : m < list.length), m < k → condB list[m] = true) ∧ Below w.heap.size w wr)) (fun i _ => list.length - (intOf i).toNat)
 case atStart => exact ⟨0, Nat.zero_le _, rfl, fun m _ h => absurd h (by omega), Below.refl _ _⟩
 case round =>
  obtain ⟨k, hk, rfl, HW⟩ := hrel
  by_cases hlt : k < list.length
  case neg =>
   have hki : decide ((k : Int) < (list.length : Int)) = false := by simp; omega
   have HR : Hid (condsB list = decide (list.length ≤ 8)) := conds_yes (fun m h => HW.out.1 m h (by omega)); (go_wp2_with fail); go_ret; exact ⟨ret_b (by rw [HR.out]; have := H8.out; simp; omega), HW.out.2⟩
  have hki : (k : Int) < (list.length : Int) := by omega
  obtain ⟨b, off, rfl, -, hc⟩ := (HL.out _ HW.out.2).things k hlt; obtain ⟨u0, c0, r0⟩ := hc 0 (by omega); obtain rfl : u0 = .string ⟨list[k].col.toArray⟩ := r0; rw [Nat.add_zero] at c0; obtain ⟨u1, c1, r1⟩ := hc 1 (by omega); obtain rfl : u1 = .int .i64 list[k].fn := r1; obtain ⟨u2, c2, r2⟩ := hc 2 (by omega); replace r2 : Rd wr B (dAtomS list[k].val) u2 := r2; obtain ⟨va, vc, rfl⟩ := r2.lsSlice; have HR2 := Lib.hid r2; clear hc r2; have CO := Lib.hid (condOKi list[k] va vc wr.heap.size wr (le_cond HO.out hlt).1 (le_atoms (le_cond HO.out hlt).2).1 (le_atoms (le_cond HO.out hlt).2).2 (Nat.le_refl _) HR2.out.lt.ats); have HNO : Hid (condB list[k] = false → condsB list = false) := fun h => conds_no hlt h
  have HNX : Hid (condB list[k] = true → ∀ m (h : m < list.length), m < k + 1 → condB list[m] = true) := fun he m h hm => by
   by_cases e : m = k
   ·
    subst e; exact he
   ·
    exact HW.out.1 m h (by omega)
  clear HR2; generalize list[k] = x at *; (go_wp2_with fail); refine CO.out.mono ?_; rintro e w1 ⟨rfl, hB1⟩; have HB1 := Lib.hid (HW.out.2.trans (hB1.mono HW.out.2.size)); clear hB1 c0 c1 c2
  cases he : condB x
  case false =>
   have HR := Lib.hid (HNO.out he); clear HNO HNX he CO; (go_wp2_with fail); go_ret; exact ⟨ret_b HR.out.symm, HB1.out⟩
  have HN := Lib.hid (HNX.out he); clear HNO HNX he CO; (go_wp2_with fail); go_roundw
  case rel => exact ⟨k + 1, by omega, by go_num, HN.out, HB1.out⟩
  case measure => simp [intOf]; omega
set_option maxRecDepth 100000 in
set_option maxHeartbeats 6400000 in
theorem firstI (t : Tb) (ca : Option Addr) (cc : Nat) (ua : Option Addr) (uc : Nat) (A : Nat → Prop) (list : List CondV) (a : Option Addr) (c : Nat) (B : Nat → Prop) (w : World) (hto : t.ok) (ho : (dCondS list).le maxLen) (hT : t.Has w A ca ua) (hL : Rd w B (dCondS list) (.slice a list.length c)) :
  Calls Tryz.prog 40 #[.agg #[.string ⟨t.nm.toArray⟩, .slice ca t.cols.length cc, .slice ua t.uq.length uc, .bool t.rt], .slice a list.length c, .func (.func 41) #[] #[]] w fun e w' => e = .returned (.int .i64 (condsC t list)) ∧ Below w.heap.size w w' := by
 have HL : Hid (∀ W, Below w.heap.size w W → Rd W B (Ls 3 dCond list) (.slice a list.length c)) := fun W h => Rd.later hL h
 have HT : Hid (t.ok ∧ ∀ W, Below w.heap.size w W → t.Has W A ca ua) := ⟨hto, fun W h => hT.later h⟩; have HO := Lib.hid ho; have hll : list.length ≤ maxLen := (Ls_le.1 ho).2.1; unfold maxLen at hll; have HX := Lib.hid (boxD 48 w #[.string ⟨t.nm.toArray⟩, .slice ca t.cols.length cc, .slice ua t.uq.length uc, .bool t.rt]); clear ho hL hT hto; (go_enter Tryz.func40, Tryz.ntmps40); (go_wp2_with fail); go_loopw [11] (fun i wr => ∃ k : Nat, k ≤ list.length ∧ i = .int .i64 k ∧ Hid ((∀ m (h : m < list.length), m < k → condC t list[m] = 0) ∧ BoxD 48 w wr #[.string ⟨t.nm.toArray⟩, .slice ca t.cols.length cc, .slice ua t.uq.length uc, .bool t.rt])) (fun i _ => list.length - (intOf i).toNat)
 case atStart => exact ⟨0, Nat.zero_le _, rfl, fun m _ h => absurd h (by omega), HX.out⟩
 case round =>
  obtain ⟨k, hk, rfl, HW⟩ := hrel
  by_cases hlt : k < list.length
  case neg =>
   have hki : decide ((k : Int) < (list.length : Int)) = false := by simp; omega
   have HR : Hid (condsC t list = 0) := condsC_zero (fun m h => HW.out.1 m h (by omega)); (go_wp2_with fail); go_ret; exact ⟨ret_i HR.out.symm, HW.out.2.2⟩
  have hki : (k : Int) < (list.length : Int) := by omega
  obtain ⟨b, off, rfl, -, hc⟩ := (HL.out _ HW.out.2.2).things k hlt; obtain ⟨u0, c0, r0⟩ := hc 0 (by omega); obtain rfl : u0 = .string ⟨list[k].col.toArray⟩ := r0; rw [Nat.add_zero] at c0; obtain ⟨u1, c1, r1⟩ := hc 1 (by omega); obtain rfl : u1 = .int .i64 list[k].fn := r1; obtain ⟨u2, c2, r2⟩ := hc 2 (by omega); replace r2 : Rd wr B (dAtomS list[k].val) u2 := r2; obtain ⟨va, vc, rfl⟩ := r2.lsSlice; have HR2 := Lib.hid r2; clear hc r2; have KL := Lib.hid (le_atoms (le_cond HO.out hlt).2); have HNO : Hid (condC t list[k] ≠ 0 → condsC t list = condC t list[k]) := fun h => condsC_at hlt (fun m h hm => HW.out.1 m h hm) h
  have HNX : Hid (condC t list[k] = 0 → ∀ m (h : m < list.length), m < k + 1 → condC t list[m] = 0) := fun he m h hm => by
   by_cases e : m = k
   ·
    subst e; exact he
   ·
    exact HW.out.1 m h (by omega)
  generalize list[k] = x at *; have CC : Hid (∀ W, Below wr.heap.size wr W → Calls Tryz.prog 41 #[.agg #[.string ⟨t.nm.toArray⟩, .slice ca t.cols.length cc, .slice ua t.uq.length uc, .bool t.rt], .agg #[.string ⟨x.col.toArray⟩, .int .i64 x.fn, .slice va x.val.length vc]] W fun e w' => e = .returned (.int .i64 (condC t x)) ∧ Below W.heap.size W w') := fun W h => condCodeI t x ca cc ua uc va vc A W.heap.size W HT.out.1 KL.out.1 (HT.out.2 W (HW.out.2.2.trans (h.mono HW.out.2.2.size))) (Nat.le_refl _) (HR2.out.later h).lt.ats
  have CX : Hid (∀ W, Below wr.heap.size wr W → (W.cell? ⟨w.heap.size, 0, none⟩ = some (.string ⟨t.nm.toArray⟩) ∧ W.cell? ⟨w.heap.size, 1, none⟩ = some (.slice ca t.cols.length cc) ∧ W.cell? ⟨w.heap.size, 2, none⟩ = some (.slice ua t.uq.length uc) ∧ W.cell? ⟨w.heap.size, 3, none⟩ = some (.bool t.rt)) ∧ W.cell? ⟨b, off + k * 3, none⟩ = some (.string ⟨x.col.toArray⟩) ∧ W.cell? ⟨b, off + k * 3 + 1, none⟩ = some (.int .i64 x.fn) ∧ W.cell? ⟨b, off + k * 3 + 2, none⟩ = some (.slice va x.val.length vc)) := fun W h => ⟨⟨cell_at (o := 0) (HW.out.2.later h).1 rfl, cell_at (o := 1) (HW.out.2.later h).1 rfl, cell_at (o := 2) (HW.out.2.later h).1 rfl, cell_at (o := 3) (HW.out.2.later h).1 rfl⟩, (h.cell (p := ⟨b, off + k * 3, none⟩) (World.block_lt_of_cell? _ _ c0)).trans c0, (h.cell (p := ⟨b, off + k * 3 + 1, none⟩) (World.block_lt_of_cell? _ _ c1)).trans c1, (h.cell (p := ⟨b, off + k * 3 + 2, none⟩) (World.block_lt_of_cell? _ _ c2)).trans c2⟩
  clear c0 c1 c2; (go_wp2_with fail); refine wp_region_held_drew (S := (fun W => (W.cell? ⟨w.heap.size, 0, none⟩ = some (.string ⟨t.nm.toArray⟩) ∧ W.cell? ⟨w.heap.size, 1, none⟩ = some (.slice ca t.cols.length cc) ∧ W.cell? ⟨w.heap.size, 2, none⟩ = some (.slice ua t.uq.length uc) ∧ W.cell? ⟨w.heap.size, 3, none⟩ = some (.bool t.rt)) ∧ W.cell? ⟨b, off + k * 3, none⟩ = some (.string ⟨x.col.toArray⟩) ∧ W.cell? ⟨b, off + k * 3 + 1, none⟩ = some (.int .i64 x.fn) ∧ W.cell? ⟨b, off + k * 3 + 2, none⟩ = some (.slice va x.val.length vc))) (by kernel_rfl) ?_ (fun hHeld => ?_)
  ·
   (first | exact CX.out _ (Below.refl _ _) | exact CX.out _ (Below.refl _ _).drew | exact CX.out _ BW.out)
  refine tkB (i := 0) ?_; refine tkB (i := 1) ?_; refine tkB (i := 2) ?_; refine tkB (i := 3) ?_; refine tkB (i := 4) ?_; refine tkB (i := 5) ?_; refine tkR (i := 6) (fun K hK => ?_); go_simp; (go_at_call 41); refine (CC.out _ (Below.refl _ _).drew).mono ?_; rintro e w1 ⟨rfl, hB1⟩; have BW : Hid (Below wr.heap.size wr w1) := (Below.refl _ _).drew.trans hB1; clear hB1; refine hK.out _ _ ?_ (fun hHeld => ?_)
  ·
   (first | exact CX.out _ (Below.refl _ _) | exact CX.out _ (Below.refl _ _).drew | exact CX.out _ BW.out)
  clear hK K; (try simp only [Act.put, tkS]); refine tkB (i := 7) ?_; refine wpAnyH_done (by kernel_rfl) ?_ _; have HB1 := Lib.hid (HW.out.2.later BW.out)
  by_cases he : condC t x = 0
  case neg =>
   have HR := Lib.hid (HNO.out he); have hne : (condC t x != 0) = true := by simpa using he
   clear HNO HNX he; (go_wp2_with fail); go_ret; exact ⟨ret_i HR.out.symm, HB1.out.2⟩
  have HN := Lib.hid (HNX.out he); have hne : (condC t x != 0) = false := by simpa using he
  clear HNO HNX he; (go_wp2_with fail); go_roundw
  case rel => exact ⟨k + 1, by omega, by go_num, HN.out, HB1.out⟩
  case measure => simp [intOf]; omega
def orL : List Int → Int
 | [] => 0
 | n :: l => if n = 0 then orL l else n
theorem orL_at : ∀ {l : List Int} {k : Nat} (h : k < l.length), l[k] ≠ 0 → (∀ m (h : m < l.length), m < k → l[m] = 0) → orL l = l[k]
 | n :: l, 0, _, e, _ => by
  have e' : n ≠ 0 := e; simp [orL, e']
 | n :: l, k + 1, h, e, hn => by
  have h0 : n = 0 := hn 0 (by simp) (by omega); have ih := orL_at (l := l) (k := k) (by simpa using h) (by simpa using e) (fun m hm hk => by have := hn (m + 1) (by simpa using hm) (by omega); simpa using this); simp [orL, h0, ih]
theorem orL_none : ∀ {l : List Int}, (∀ m (h : m < l.length), l[m] = 0) → orL l = 0
 | [], _ => rfl
 | n :: l, hn => by
  have h0 : n = 0 := hn 0 (by simp); have ih := orL_none (l := l) (fun m hm => by have := hn (m + 1) (by simpa using hm); simpa using this); simp [orL, h0, ih]
set_option maxRecDepth 100000 in
set_option maxHeartbeats 3200000 in
theorem orI (l : List Int) (b : Nat) (w : World) (hl : l.length ≤ 1000) (hc : ∀ k (h : k < l.length), w.cell? ⟨b, k, none⟩ = some (.int .i64 l[k])) :
  Calls Tryz.prog 35 #[.slice (some ⟨b, 0, none⟩) l.length l.length] w fun e w' => e = .returned (.int .i64 (orL l)) ∧ w' = w := by
 have HC := Lib.hid hc; clear hc; (go_enter Tryz.func35, Tryz.ntmps35); (go_wp2_with fail); go_loopw [8] (fun i wr => ∃ k : Nat, k ≤ l.length ∧ i = .int .i64 k ∧ Hid ((∀ m (h : m < l.length), m < k → l[m] = 0) ∧ wr = w)) (fun i _ => l.length - (intOf i).toNat)
 case atStart => exact ⟨0, Nat.zero_le _, rfl, fun m _ h => absurd h (by omega), rfl⟩
 case round =>
  obtain ⟨k, hk, rfl, HW⟩ := hrel
  by_cases hlt : k < l.length
  case neg =>
   have HP : Hid (orL l = 0) := orL_none (fun m h => HW.out.1 m h (by omega)); have hki : decide ((k : Int) < (l.length : Int)) = false := by simp; omega
   (go_wp2_with fail); go_ret; exact ⟨ret_i HP.out.symm, HW.out.2⟩
  have hki : (k : Int) < (l.length : Int) := by omega
  have c0 : wr.cell? ⟨b, k, none⟩ = some (.int .i64 l[k]) := by rw [HW.out.2]; exact HC.out k hlt
  by_cases he : l[k] = 0
  case neg =>
   have HP : Hid (orL l = l[k]) := orL_at hlt he (fun j h hj => HW.out.1 j h hj); have hne : (l[k] != 0) = true := by simpa using he
   clear he; generalize l[k] = x at *; (go_wp2_with fail); go_ret; exact ⟨ret_i HP.out.symm, HW.out.2⟩
  have HN : Hid (∀ m (h : m < l.length), m < k + 1 → l[m] = 0) := fun m h hm => by
   by_cases e : m = k
   ·
    subst e; exact he
   ·
    exact HW.out.1 m h (by omega)
  rw [he] at c0; clear he; (go_wp2_with fail); go_roundw
  case rel => exact ⟨k + 1, by omega, by go_num, HN.out, HW.out.2⟩
  case measure => simp [intOf]; omega
def nmK (s : List UInt8) : Int := if s ≠ [] ∧ nameB s = false then 3 else 0
def lkK (s : List UInt8) : Int := if nameB s = false then 3 else 0
set_option maxRecDepth 100000 in
set_option maxHeartbeats 3200000 in
theorem rowNameI (s : List UInt8) (w : World) (hs : s.length ≤ maxLen) : Calls Tryz.prog 36 #[.string ⟨s.toArray⟩] w fun e w' => e = .returned (.int .i64 (nmK s)) ∧ w' = w := by
 have NI := Lib.hid (nameI s w hs); clear hs
 by_cases h0 : s = []
 ·
  subst h0; have HR : Hid (nmK [] = 0) := by show nmK [] = 0; simp [nmK]
  (go_enter Tryz.func36, Tryz.ntmps36); (go_wp2_with fail); go_ret; exact ⟨ret_i HR.out.symm, rfl⟩
 have hz : (s == []) = false := by simpa using h0
 cases hn : nameB s
 ·
  have HR : Hid (nmK s = 3) := by show nmK s = 3; unfold nmK; rw [if_pos ⟨h0, hn⟩]
  rw [hn] at NI; clear h0 hn; (go_enter Tryz.func36, Tryz.ntmps36); (go_wp2_with fail); refine NI.out.mono ?_; rintro e w1 ⟨rfl, rfl⟩; (go_wp2_with fail); go_ret; exact ⟨ret_i HR.out.symm, rfl⟩
 ·
  have HR : Hid (nmK s = 0) := by show nmK s = 0; unfold nmK; rw [if_neg (by simp [hn])]
  rw [hn] at NI; clear h0 hn; (go_enter Tryz.func36, Tryz.ntmps36); (go_wp2_with fail); refine NI.out.mono ?_; rintro e w1 ⟨rfl, rfl⟩; (go_wp2_with fail); go_ret; exact ⟨ret_i HR.out.symm, rfl⟩
set_option maxRecDepth 100000 in
set_option maxHeartbeats 3200000 in
theorem lockI (s : List UInt8) (w : World) (hs : s.length ≤ maxLen) : Calls Tryz.prog 44 #[.string ⟨s.toArray⟩] w fun e w' => e = .returned (.int .i64 (lkK s)) ∧ w' = w := by
 have NI := Lib.hid (nameI s w hs); clear hs
 cases hn : nameB s
 ·
  have HR : Hid (lkK s = 3) := by show lkK s = 3; unfold lkK; rw [if_pos hn]
  rw [hn] at NI; clear hn; (go_enter Tryz.func44, Tryz.ntmps44); (go_wp2_with fail); refine NI.out.mono ?_; rintro e w1 ⟨rfl, rfl⟩; (go_wp2_with fail); go_ret; exact ⟨ret_i HR.out.symm, rfl⟩
 ·
  have HR : Hid (lkK s = 0) := by show lkK s = 0; unfold lkK; rw [if_neg (by simp [hn])]
  rw [hn] at NI; clear hn; (go_enter Tryz.func44, Tryz.ntmps44); (go_wp2_with fail); refine NI.out.mono ?_; rintro e w1 ⟨rfl, rfl⟩; (go_wp2_with fail); go_ret; exact ⟨ret_i HR.out.symm, rfl⟩
end Go.Proofs.YtlbcaaodkggohaaGreatDoor
