import Derived.Test.YtlbcaaodkggohaaGreatDoorZak
import Derived.Deep.CutRange
import Derived.Deep.QuietTactic
import Derived.Test.YtlbcaaodkggohaaGreatDoorZae
import Derived.Test.YtlbcaaodkggohaaGreatDoorZbb
import Derived.WalkSpells
import Derived.WalkLawsBesides
import Derived.Test.YtlbcaaodkggohaaGreatDoorZaj
import Derived.Test.YtlbcaaodkggohaaGreatDoorZab
import Derived.Test.YtlbcaaodkggohaaGreatDoorZal
import Derived.Test.YtlbcaaodkggohaaGreatDoorZam
import Derived.Test.YtlbcaaodkggohaaGreatDoorZad
import Derived.Test.YtlbcaaodkggohaaGreatDoorZan
import Derived.Deep.RegionHeld3
import Derived.Test.YtlbcaaodkggohaaGreatDoorZaz
import Derived.Test.YtlbcaaodkggohaaGreatDoorZba
import Derived.Test.YtlbcaaodkggohaaGreatDoorZar
import Derived.Test.YtlbcaaodkggohaaGreatDoorZay
import Derived.Test.YtlbcaaodkggohaaGreatDoorZTk
namespace Go.Proofs.YtlbcaaodkggohaaGreatDoor
open Go.RowKit
set_option linter.unusedSimpArgs false
def condsB (list : List CondV) : Bool := list.all condB && decide (list.length ≤ 8)
noncomputable def condsC (t : Tb) : List CondV → Int
 | [] => 0
 | c :: l => if condC t c = 0 then condsC t l else condC t c
theorem conds_no {list : List CondV} {k : Nat} (hk : k < list.length) (h : condB list[k] = false) : condsB list = false := by
 unfold condsB; rw [List.all_eq_false.2 ⟨_, List.getElem_mem hk, by simp [h]⟩]; rfl
theorem conds_yes {list : List CondV} (h : ∀ k (hk : k < list.length), condB list[k] = true) : condsB list = decide (list.length ≤ 8) := by
 unfold condsB; rw [List.all_eq_true.2 (fun x hx => by obtain ⟨k, hk, rfl⟩ := List.mem_iff_getElem.1 hx; exact h k hk), Bool.true_and]
theorem condsC_at {t : Tb} : ∀ {list : List CondV} {k : Nat} (hk : k < list.length), (∀ m (h : m < list.length), m < k → condC t list[m] = 0) → condC t list[k] ≠ 0 → condsC t list = condC t list[k]
 | c :: l, 0, _, _, h => by
  simp only [List.getElem_cons_zero] at h ⊢; unfold condsC; rw [if_neg h]
 | c :: l, k + 1, hk, hb, h => by
  have h0 : condC t c = 0 := hb 0 (by simp) (by omega); have hk' : k < l.length := by simpa using hk
  simp only [List.getElem_cons_succ] at h ⊢; unfold condsC; rw [if_pos h0]; exact condsC_at hk' (fun m hm hmk => by have := hb (m + 1) (by simpa using hm) (by omega); simpa using this) h
theorem condsC_zero {t : Tb} : ∀ {list : List CondV}, (∀ m (h : m < list.length), condC t list[m] = 0) → condsC t list = 0
 | [], _ => rfl
 | c :: l, h => by
  have h0 : condC t c = 0 := h 0 (by simp); unfold condsC; rw [if_pos h0]; exact condsC_zero fun m hm => by have := h (m + 1) (by simpa using hm); simpa using this
theorem le_cond {list : List CondV} {K : Nat} (h : (dCondS list).le K) {k : Nat} (hk : k < list.length) : list[k].col.length ≤ K ∧ (dAtomS list[k].val).le K :=
 ⟨(Ls_le.1 h).2.2 k hk 0 (by omega), (Ls_le.1 h).2.2 k hk 2 (by omega)⟩
set_option maxRecDepth 100000 in
set_option maxHeartbeats 3200000 in
theorem listS (list : List CondV) (a : Option Addr) (c : Nat) (B : Nat → Prop) (w : World) (ho : (dCondS list).le maxLen) (hL : Rd w B (dCondS list) (.slice a list.length c)) :
  Calls Tryz.prog 48 #[.slice a list.length c] w fun e w' => e = .returned (.bool (condsB list)) ∧ Below w.heap.size w w' := by
 have HL : Hid (∀ W, Below w.heap.size w W → Rd W B (Ls 3 dCond list) (.slice a list.length c)) := fun W h => Rd.later hL h
 have HO := Lib.hid ho; have hll : list.length ≤ maxLen := (Ls_le.1 ho).2.1; unfold maxLen at hll; clear ho hL; (go_enter Tryz.func48, Tryz.ntmps48); (go_wp2_with fail); go_loopw [3] (fun i wr => ∃ k : Nat, k ≤ list.length ∧ i = .int .i64 k ∧ Hid ((∀ m (h : m < list.length), m < k → condB list[m] = true) ∧ Below w.heap.size w wr)) (fun i _ => list.length - (intOf i).toNat)
 case atStart => exact ⟨0, Nat.zero_le _, rfl, fun m _ h => absurd h (by omega), Below.refl _ _⟩
 case round =>
  obtain ⟨k, hk, rfl, HW⟩ := hrel
  by_cases hlt : k < list.length
  case neg =>
   have hki : decide ((k : Int) < (list.length : Int)) = false := by simp; omega
   have HR : Hid (condsB list = decide (list.length ≤ 8)) := conds_yes (fun m h => HW.out.1 m h (by omega)); (go_wp2_with fail); go_ret; exact ⟨ret_b (by rw [HR.out]; simp; omega), HW.out.2⟩
  have hki : (k : Int) < (list.length : Int) := by omega
  obtain ⟨b, off, rfl, -, hc⟩ := (HL.out _ HW.out.2).things k hlt; obtain ⟨u0, c0, r0⟩ := hc 0 (by omega); obtain rfl : u0 = .string ⟨list[k].col.toArray⟩ := r0; rw [Nat.add_zero] at c0; obtain ⟨u1, c1, r1⟩ := hc 1 (by omega); obtain rfl : u1 = .int .i64 list[k].fn := r1; obtain ⟨u2, c2, r2⟩ := hc 2 (by omega); replace r2 : Rd wr B (dAtomS list[k].val) u2 := r2; obtain ⟨va, vc, rfl⟩ := r2.lsSlice; have HR2 := Lib.hid r2; clear hc r2; have CO := Lib.hid (condOKs list[k] va vc wr.heap.size wr (le_cond HO.out hlt).1 (le_atoms (le_cond HO.out hlt).2).1 (le_atoms (le_cond HO.out hlt).2).2 (Nat.le_refl _) HR2.out.lt.ats); have HNO : Hid (condB list[k] = false → condsB list = false) := fun h => conds_no hlt h
  have HNX : Hid (condB list[k] = true → ∀ m (h : m < list.length), m < k + 1 → condB list[m] = true) := fun he m h hm => by
   by_cases e : m = k
   ·
    subst e; exact he
   ·
    exact HW.out.1 m h (by omega)
  clear HR2; generalize list[k] = x at *; (go_wp2_with fail); refine CO.out.mono ?_; rintro e w1 ⟨rfl, hB1⟩; have HB1 := Lib.hid (HW.out.2.trans (hB1.mono HW.out.2.size)); clear hB1 c0 c1 c2
  cases he : condB x
  case false =>
   have HR := Lib.hid (HNO.out he); clear HNO HNX he CO; (go_wp2_with fail); go_ret; exact ⟨ret_b HR.out.symm, HB1.out⟩
  have HN := Lib.hid (HNX.out he); clear HNO HNX he CO; (go_wp2_with fail); go_roundw
  case rel => exact ⟨k + 1, by omega, by go_num, HN.out, HB1.out⟩
  case measure => simp [intOf]; omega
set_option maxRecDepth 100000 in
set_option maxHeartbeats 6400000 in
theorem condsS (t : Tb) (ca : Option Addr) (cc : Nat) (ua : Option Addr) (uc : Nat) (A : Nat → Prop) (list : List CondV) (a : Option Addr) (c : Nat) (B : Nat → Prop) (w : World) (hto : t.ok) (ho : (dCondS list).le maxLen) (hT : t.Has w A ca ua) (hL : Rd w B (dCondS list) (.slice a list.length c)) :
  Calls Tryz.prog 53 #[.agg #[.string ⟨t.nm.toArray⟩, .slice ca t.cols.length cc, .slice ua t.uq.length uc, .bool t.rt], .slice a list.length c] w fun e w' => e = .returned (.int .i64 (condsC t list)) ∧ Below w.heap.size w w' := by
 have HL : Hid (∀ W, Below w.heap.size w W → Rd W B (Ls 3 dCond list) (.slice a list.length c)) := fun W h => Rd.later hL h
 have HT : Hid (t.ok ∧ ∀ W, Below w.heap.size w W → t.Has W A ca ua) := ⟨hto, fun W h => hT.later h⟩; have HO := Lib.hid ho; have hll : list.length ≤ maxLen := (Ls_le.1 ho).2.1; unfold maxLen at hll; have HX := Lib.hid (boxD 48 w #[.string ⟨t.nm.toArray⟩, .slice ca t.cols.length cc, .slice ua t.uq.length uc, .bool t.rt]); clear ho hL hT hto; (go_enter Tryz.func53, Tryz.ntmps53); (go_wp2_with fail); go_loopw [5] (fun i wr => ∃ k : Nat, k ≤ list.length ∧ i = .int .i64 k ∧ Hid ((∀ m (h : m < list.length), m < k → condC t list[m] = 0) ∧ BoxD 48 w wr #[.string ⟨t.nm.toArray⟩, .slice ca t.cols.length cc, .slice ua t.uq.length uc, .bool t.rt])) (fun i _ => list.length - (intOf i).toNat)
 case atStart => exact ⟨0, Nat.zero_le _, rfl, fun m _ h => absurd h (by omega), HX.out⟩
 case round =>
  obtain ⟨k, hk, rfl, HW⟩ := hrel
  by_cases hlt : k < list.length
  case neg =>
   have hki : decide ((k : Int) < (list.length : Int)) = false := by simp; omega
   have HR : Hid (condsC t list = 0) := condsC_zero (fun m h => HW.out.1 m h (by omega)); (go_wp2_with fail); go_ret; exact ⟨ret_i HR.out.symm, HW.out.2.2⟩
  have hki : (k : Int) < (list.length : Int) := by omega
  obtain ⟨b, off, rfl, -, hc⟩ := (HL.out _ HW.out.2.2).things k hlt; obtain ⟨u0, c0, r0⟩ := hc 0 (by omega); obtain rfl : u0 = .string ⟨list[k].col.toArray⟩ := r0; rw [Nat.add_zero] at c0; obtain ⟨u1, c1, r1⟩ := hc 1 (by omega); obtain rfl : u1 = .int .i64 list[k].fn := r1; obtain ⟨u2, c2, r2⟩ := hc 2 (by omega); replace r2 : Rd wr B (dAtomS list[k].val) u2 := r2; obtain ⟨va, vc, rfl⟩ := r2.lsSlice; have HR2 := Lib.hid r2; clear hc r2; have KL := Lib.hid (le_atoms (le_cond HO.out hlt).2); have HNO : Hid (condC t list[k] ≠ 0 → condsC t list = condC t list[k]) := fun h => condsC_at hlt (fun m h hm => HW.out.1 m h hm) h
  have HNX : Hid (condC t list[k] = 0 → ∀ m (h : m < list.length), m < k + 1 → condC t list[m] = 0) := fun he m h hm => by
   by_cases e : m = k
   ·
    subst e; exact he
   ·
    exact HW.out.1 m h (by omega)
  generalize list[k] = x at *; have CC : Hid (∀ W, Below wr.heap.size wr W → Calls Tryz.prog 90 #[.agg #[.string ⟨t.nm.toArray⟩, .slice ca t.cols.length cc, .slice ua t.uq.length uc, .bool t.rt], .agg #[.string ⟨x.col.toArray⟩, .int .i64 x.fn, .slice va x.val.length vc]] W fun e w' => e = .returned (.int .i64 (condC t x)) ∧ Below W.heap.size W w') := fun W h => condCodeS t x ca cc ua uc va vc A W.heap.size W HT.out.1 KL.out.1 (HT.out.2 W (HW.out.2.2.trans (h.mono HW.out.2.2.size))) (Nat.le_refl _) (HR2.out.later h).lt.ats
  have CX : Hid (∀ W, Below wr.heap.size wr W → (W.cell? ⟨w.heap.size, 0, none⟩ = some (.string ⟨t.nm.toArray⟩) ∧ W.cell? ⟨w.heap.size, 1, none⟩ = some (.slice ca t.cols.length cc) ∧ W.cell? ⟨w.heap.size, 2, none⟩ = some (.slice ua t.uq.length uc) ∧ W.cell? ⟨w.heap.size, 3, none⟩ = some (.bool t.rt)) ∧ W.cell? ⟨b, off + k * 3, none⟩ = some (.string ⟨x.col.toArray⟩) ∧ W.cell? ⟨b, off + k * 3 + 1, none⟩ = some (.int .i64 x.fn) ∧ W.cell? ⟨b, off + k * 3 + 2, none⟩ = some (.slice va x.val.length vc)) := fun W h => ⟨⟨cell_at (o := 0) (HW.out.2.later h).1 rfl, cell_at (o := 1) (HW.out.2.later h).1 rfl, cell_at (o := 2) (HW.out.2.later h).1 rfl, cell_at (o := 3) (HW.out.2.later h).1 rfl⟩, (h.cell (p := ⟨b, off + k * 3, none⟩) (World.block_lt_of_cell? _ _ c0)).trans c0, (h.cell (p := ⟨b, off + k * 3 + 1, none⟩) (World.block_lt_of_cell? _ _ c1)).trans c1, (h.cell (p := ⟨b, off + k * 3 + 2, none⟩) (World.block_lt_of_cell? _ _ c2)).trans c2⟩
  clear c0 c1 c2; (go_wp2_with fail); refine wp_region_held_drew (S := (fun W => (W.cell? ⟨w.heap.size, 0, none⟩ = some (.string ⟨t.nm.toArray⟩) ∧ W.cell? ⟨w.heap.size, 1, none⟩ = some (.slice ca t.cols.length cc) ∧ W.cell? ⟨w.heap.size, 2, none⟩ = some (.slice ua t.uq.length uc) ∧ W.cell? ⟨w.heap.size, 3, none⟩ = some (.bool t.rt)) ∧ W.cell? ⟨b, off + k * 3, none⟩ = some (.string ⟨x.col.toArray⟩) ∧ W.cell? ⟨b, off + k * 3 + 1, none⟩ = some (.int .i64 x.fn) ∧ W.cell? ⟨b, off + k * 3 + 2, none⟩ = some (.slice va x.val.length vc))) (by kernel_rfl) ?_ (fun hHeld => ?_)
  ·
   (first | exact CX.out _ (Below.refl _ _) | exact CX.out _ (Below.refl _ _).drew | exact CX.out _ BW.out)
  refine tkB (i := 0) ?_; refine tkB (i := 1) ?_; refine tkB (i := 2) ?_; refine tkB (i := 3) ?_; refine tkB (i := 4) ?_; refine tkR (i := 5) (fun K hK => ?_); go_simp; (go_at_call 90); refine (CC.out _ (Below.refl _ _).drew).mono ?_; rintro e w1 ⟨rfl, hB1⟩; have BW : Hid (Below wr.heap.size wr w1) := (Below.refl _ _).drew.trans hB1; clear hB1; refine hK.out _ _ ?_ (fun hHeld => ?_)
  ·
   (first | exact CX.out _ (Below.refl _ _) | exact CX.out _ (Below.refl _ _).drew | exact CX.out _ BW.out)
  clear hK K; (try simp only [Act.put, tkS]); refine tkB (i := 6) ?_; refine wpAnyH_done (by kernel_rfl) ?_ _; have HB1 := Lib.hid (HW.out.2.later BW.out)
  by_cases he : condC t x = 0
  case neg =>
   have HR := Lib.hid (HNO.out he); have hne : (condC t x != 0) = true := by simpa using he
   clear HNO HNX he; (go_wp2_with fail); go_ret; exact ⟨ret_i HR.out.symm, HB1.out.2⟩
  have HN := Lib.hid (HNX.out he); have hne : (condC t x != 0) = false := by simpa using he
  clear HNO HNX he; (go_wp2_with fail); go_roundw
  case rel => exact ⟨k + 1, by omega, by go_num, HN.out, HB1.out⟩
  case measure => simp [intOf]; omega
def rowsB (l : List SetV) : Bool := l.all setB
def colsB (l : List (List UInt8)) : Bool := l.all (fun t => decide (t.length ≤ 40))
def headB (o : OpV) : Bool := inB 1 o.kd 10 && (decide (o.tb.length ≤ 40) && (decide (o.nm.length ≤ 40) && (condsB o.wh && (mutsB o.mu && (decide (o.row.length ≤ 6) && decide (o.cs.length ≤ 6))))))
def useB (o : OpV) : Bool := (inB 1 o.kd 6 || decide (o.tb = [])) && ((inB 2 o.kd 6 || decide (o.wh.length = 0)) && (((o.kd == 1 || decide (9 ≤ o.kd)) || decide (o.nm = [])) && (((o.kd == 1 || (o.kd == 3 || o.kd == 6)) || decide (o.row.length = 0)) && ((o.kd == 4 || decide (o.mu.length = 0)) && ((o.kd == 2 || decide (o.cs.length = 0)) && (o.kd == 6 || !o.un))))))
def opB (o : OpV) : Bool := headB o && (rowsB o.row && (colsB o.cs && useB o))
theorem op_head {o : OpV} (h : headB o = false) : opB o = false := by unfold opB; rw [h]; rfl
theorem op_row {o : OpV} {k : Nat} (hk : k < o.row.length) (h : setB o.row[k] = false) : opB o = false := by
 unfold opB; rw [show rowsB o.row = false from List.all_eq_false.2 ⟨_, List.getElem_mem hk, by simp [h]⟩]; simp
theorem op_col {o : OpV} {k : Nat} (hk : k < o.cs.length) (h : ¬ o.cs[k].length ≤ 40) : opB o = false := by
 unfold opB; rw [show colsB o.cs = false from List.all_eq_false.2 ⟨_, List.getElem_mem hk, by simp; omega⟩]; simp
theorem op_all {o : OpV} (h0 : headB o = true) (h1 : ∀ k (h : k < o.row.length), setB o.row[k] = true) (h2 : ∀ k (h : k < o.cs.length), o.cs[k].length ≤ 40) : opB o = useB o := by
 unfold opB; rw [h0, show rowsB o.row = true from List.all_eq_true.2 (fun x hx => by obtain ⟨k, hk, rfl⟩ := List.mem_iff_getElem.1 hx; exact h1 k hk), show colsB o.cs = true from List.all_eq_true.2 (fun x hx => by obtain ⟨k, hk, rfl⟩ := List.mem_iff_getElem.1 hx; exact decide_eq_true (h2 k hk))]; rfl
variable {V W W' : World} {p S : Nat} {a : Option Addr} {l : List UInt8} {c m m' s : Nat}
theorem infoMutD : ∃ i, Tryz.prog.info? 114 = some i ∧ i.zero = some (.agg #[.string ⟨#[]⟩, .int .i64 0, .slice none 0 0]) ∧ i.size = 3 ∧ i.bytes = 48 := by
 have h : (Tryz.prog.info? 114).map (fun i => (i.zero, i.size, i.bytes)) = some (some (.agg #[.string ⟨#[]⟩, .int .i64 0, .slice none 0 0]), 3, 48) := by kernel_rfl
 obtain ⟨i, hi, hzz⟩ := Option.map_eq_some_iff.1 h; simp only [Prod.mk.injEq] at hzz; exact ⟨i, hi, hzz⟩
def OR (V W : World) (q : Nat) (v5 : Value) (b : Nat) : Prop := (V.heap.size ≤ b ∧ b ≠ q ∧ v5.ownBlock ≠ some b) ∧ b < W.heap.size
structure OX (V W : World) (p S : Nat) (a : Option Addr) (l : List UInt8) (c m q : Nat) (o : OpV) (a3 : Option Addr) (c3 : Nat) (a4 : Option Addr) (c4 : Nat) (a5 : Option Addr) (c5 : Nat) (a6 : Option Addr) (c6 : Nat) : Prop where
 src : ∃ s, Src W p S a l c m s
 fr : Frm (· = p) V W
 pl : p < V.heap.size
 ge : V.heap.size ≤ q
 bx : W.heap[q]? = some (.cells #[.int .i64 o.kd, .string ⟨o.tb.toArray⟩, .string ⟨o.nm.toArray⟩, .slice a3 o.wh.length c3, .slice a4 o.row.length c4, .slice a5 o.mu.length c5, .slice a6 o.cs.length c6, .bool o.un] 36)
 r3 : Rd W (OR V W q (.slice a5 o.mu.length c5)) (dCondS o.wh) (.slice a3 o.wh.length c3)
 r4 : Rd W (OR V W q (.slice a5 o.mu.length c5)) (dSetS o.row) (.slice a4 o.row.length c4)
 r6 : Rd W (OR V W q (.slice a5 o.mu.length c5)) (dStringS o.cs) (.slice a6 o.cs.length c6)
 sg : SG W V.heap.size (fun b => V.heap.size ≤ b ∧ b ≠ q) 114 3 (lsF dMut o.mu) o.mu.length (.slice a5 o.mu.length c5)
 no : ∀ g, Value.ownBlock (.slice a5 o.mu.length c5) = some g → g ≠ q
 cap : o.row.length ≤ c4
variable {q : Nat} {o : OpV} {a3 : Option Addr} {c3 : Nat} {a4 : Option Addr} {c4 : Nat} {a5 : Option Addr} {c5 : Nat} {a6 : Option Addr} {c6 : Nat}
theorem OX.lt (h : OX V W p S a l c m q o a3 c3 a4 c4 a5 c5 a6 c6) : q < W.heap.size := (Array.getElem?_eq_some_iff.1 h.bx).1
theorem OX.draw (h : OX V W p S a l c m q o a3 c3 a4 c4 a5 c5 a6 c6) (hF : Frm (· = p) W W') (hS : ∃ s, Src W' p S a l c m' s) : OX V W' p S a l c m' q o a3 c3 a4 c4 a5 c5 a6 c6 := by
 have hp := h.pl; have hg := h.ge; have k : ∀ d u, Rd W (OR V W q (.slice a5 o.mu.length c5)) d u → Rd W' (OR V W' q (.slice a5 o.mu.length c5)) d u := fun d u hr => (hr.frm hF (fun b hb e => by have e2 : b = p := e; have := hb.1.1; omega)).mono (fun b hb => ⟨hb.1, Nat.lt_of_lt_of_le hb.2 hF.size⟩)
 exact ⟨hS, h.fr.trans hF, hp, hg, keepF h.bx hF (by omega), k _ _ h.r3, k _ _ h.r4, k _ _ h.r6, h.sg.frmP hF (fun g hg' => by have := h.sg.low hg'; omega) (fun b hb => by omega), h.no, h.cap⟩
theorem OX.later (h : OX V W p S a l c m q o a3 c3 a4 c4 a5 c5 a6 c6) (hB : Below W.heap.size W W') : OX V W' p S a l c m q o a3 c3 a4 c4 a5 c5 a6 c6 := by
 obtain ⟨s, hs⟩ := h.src; exact h.draw (Frm.of_below hB) ⟨s, hs.on hB⟩
theorem OX.fresh (h : OX V W p S a l c m q o a3 c3 a4 c4 a5 c5 a6 c6) {w' : World} {d : D} {u : Value} (hr : Rd w' (fun b => W.heap.size ≤ b ∧ b < w'.heap.size) d u) : Rd w' (OR V w' q (.slice a5 o.mu.length c5)) d u := hr.mono (fun b hb => by
 have h1 := h.lt; have h2 := h.fr.size; exact ⟨⟨by omega, by omega, fun e => by have := (h.sg.low e).2; omega⟩, hb.2⟩)
theorem OX.put (h : OX V W p S a l c m q o a3 c3 a4 c4 a5 c5 a6 c6) (i : Nat) (u : Value) (kd : Int) (tb nm : List UInt8) (wh : List CondV) (row : List SetV) (cs : List (List UInt8)) (un : Bool) {b3 : Option Addr} {e3 : Nat} {b4 : Option Addr} {e4 : Nat} {b6 : Option Addr} {e6 : Nat}
  (hb : (W.setCell ⟨q, i, none⟩ u).heap[q]? = some (.cells #[.int .i64 kd, .string ⟨tb.toArray⟩, .string ⟨nm.toArray⟩, .slice b3 wh.length e3, .slice b4 row.length e4, .slice a5 o.mu.length c5, .slice b6 cs.length e6, .bool un] 36))
  (h3 : Rd W (OR V W q (.slice a5 o.mu.length c5)) (dCondS wh) (.slice b3 wh.length e3)) (h4 : Rd W (OR V W q (.slice a5 o.mu.length c5)) (dSetS row) (.slice b4 row.length e4)) (h6 : Rd W (OR V W q (.slice a5 o.mu.length c5)) (dStringS cs) (.slice b6 cs.length e6)) (hc : row.length ≤ e4) :
  OX V (W.setCell ⟨q, i, none⟩ u) p S a l c m q ⟨kd, tb, nm, wh, row, o.mu, cs, un⟩ b3 e3 b4 e4 a5 c5 b6 e6 := by
 obtain ⟨s, hs⟩ := h.src; have hp := h.pl; have hg := h.ge; have hF : Frm (· = q) W (W.setCell ⟨q, i, none⟩ u) := frm_set _ _ _ _; have sz : (W.setCell ⟨q, i, none⟩ u).heap.size = W.heap.size := by simp [World.setCell]
 have k : ∀ d v, Rd W (OR V W q (.slice a5 o.mu.length c5)) d v → Rd (W.setCell ⟨q, i, none⟩ u) (OR V (W.setCell ⟨q, i, none⟩ u) q (.slice a5 o.mu.length c5)) d v := fun d v hr => (hr.frm hF (fun b hb e => hb.1.2.1 e)).mono (fun b hb => ⟨hb.1, by rw [sz]; exact hb.2⟩)
 exact ⟨⟨s, hs.frm hF (by omega) (fun b hb e => by have := hs.le; have e' : b = q := e; omega)⟩, frm_over h.fr hg hF, hp, hg, hb, k _ _ h3, k _ _ h4, k _ _ h6, h.sg.frmP hF (fun g hg' => h.no g hg') (fun b hb => hb.2), h.no, hc⟩
theorem OX.mut {W1 : World} {x : MutV} {va : Option Addr} {vc : Nat} (h : OX V W p S a l c m q o a3 c3 a4 c4 a5 c5 a6 c6) (hF : Frm (· = p) W W1) (hs : ∃ s, Src W1 p S a l c m' s) (hr : Rd W1 (fun b => W.heap.size ≤ b ∧ b < W1.heap.size) (dAtomS x.val) (.slice va x.val.length vc)) (hL : o.mu.length ≤ 1000) :
  ∃ a' c' W2, (Builtin.append_ #[33, 33] 33 #[.slice a5 o.mu.length c5, .slice (some ⟨W1.heap.size, 0, none⟩) 1 1]).run Tryz.prog (W1.alloc (.cells #[.string ⟨x.col.toArray⟩, .int .i64 x.fn, .slice va x.val.length vc] 114)) = .ok (.slice a' (o.mu.length + 1) c') W2 ∧
   W2.heap[q]? = some (.cells #[.int .i64 o.kd, .string ⟨o.tb.toArray⟩, .string ⟨o.nm.toArray⟩, .slice a3 o.wh.length c3, .slice a4 o.row.length c4, .slice a5 o.mu.length c5, .slice a6 o.cs.length c6, .bool o.un] 36) ∧ OX V (W2.setCell ⟨q, 5, none⟩ (.slice a' (o.mu.length + 1) c')) p S a l c m' q ⟨o.kd, o.tb, o.nm, o.wh, o.row, o.mu ++ [x], o.cs, o.un⟩ a3 c3 a4 c4 a' c' a6 c6 := by
 obtain ⟨i, hi, hz, hsz, hby⟩ := infoMutD; have hA := below_allocD W1 (.cells #[.string ⟨x.col.toArray⟩, .int .i64 x.fn, .slice va x.val.length vc] 114); have hn := heap_newD W1 (.cells #[.string ⟨x.col.toArray⟩, .int .i64 x.fn, .slice va x.val.length vc] 114); have hx := (h.fresh hr).later hA; have h2 := (h.draw hF hs).later hA; have hsg : SG (W1.alloc (.cells #[.string ⟨x.col.toArray⟩, .int .i64 x.fn, .slice va x.val.length vc] 114)) V.heap.size (fun b => V.heap.size ≤ b ∧ b ≠ q) 114 3 (lsF dMut (o.mu ++ [x])) o.mu.length (.slice a5 o.mu.length c5) := h2.sg.conv lsF_snoc.1 (fun _ _ hh => hh); have W1s := hA.size
 obtain ⟨a', c', W2, hrun, hsg2, hgr, g, hg, hgg⟩ := hsg.push (P := Tryz.prog) _ 33 i _ 48 Tryz.underlying33 hi hz hsz hby rfl (by omega) ⟨W1.heap.size, 0, none⟩ 1 [.string ⟨x.col.toArray⟩, .int .i64 x.fn, .slice va x.val.length vc] rfl
  (by
   intro j u hj; have hj3 := (List.getElem?_eq_some_iff.1 hj).1; rcases (by simp at hj3; omega : j = 0 ∨ j = 1 ∨ j = 2) with rfl | rfl | rfl
   ·
    cases hj; exact cell_at (o := 0) hn rfl
   ·
    cases hj; exact cell_at (o := 1) hn rfl
   ·
    cases hj; exact cell_at (o := 2) hn rfl)
  (by
   intro u hu; simp only [List.mem_cons, List.not_mem_nil, or_false] at hu; rcases hu with rfl | rfl | rfl <;> rfl)
  (by unfold maxLen; omega) (by omega) h2.fr.size
  (by
   intro j hj; rw [lsF_snoc.2]; rcases (by omega : j = 0 ∨ j = 1 ∨ j = 2) with rfl | rfl | rfl
   ·
    exact ⟨_, rfl, rfl⟩
   ·
    exact ⟨_, rfl, rfl⟩
   ·
    exact ⟨_, rfl, hx.mono (fun b hb => ⟨⟨hb.1.2.2, Nat.lt_of_lt_of_le hb.2 hA.size⟩, hb.1.1, hb.1.2.1⟩)⟩)
 have hq : W2.heap[q]? = (W1.alloc (.cells #[.string ⟨x.col.toArray⟩, .int .i64 x.fn, .slice va x.val.length vc] 114)).heap[q]? := hgr.block q h2.lt (fun e => h2.no q e.symm rfl); have hbx : W2.heap[q]? = some (.cells #[.int .i64 o.kd, .string ⟨o.tb.toArray⟩, .string ⟨o.nm.toArray⟩, .slice a3 o.wh.length c3, .slice a4 o.row.length c4, .slice a5 o.mu.length c5, .slice a6 o.cs.length c6, .bool o.un] 36) := hq.trans h2.bx; have hFg : Frm (fun b => Value.ownBlock (.slice a5 o.mu.length c5) = some b) (W1.alloc (.cells #[.string ⟨x.col.toArray⟩, .int .i64 x.fn, .slice va x.val.length vc] 114)) W2 := ⟨hgr.os, hgr.tape, hgr.output, hgr.size, fun b hb hn => hgr.block b hb (fun e => hn e.symm)⟩; have hFq : Frm (· = q) W2 (W2.setCell ⟨q, 5, none⟩ (.slice a' (o.mu.length + 1) c')) := frm_set _ _ _ _; have sz : (W2.setCell ⟨q, 5, none⟩ (.slice a' (o.mu.length + 1) c')).heap.size = W2.heap.size := by simp [World.setCell]
 have hp := h.pl; have hge := h.ge; have hlq := h2.lt; obtain ⟨s, hs2⟩ := h2.src; have hs3 := hs2.frm hFg (fun e => by have := (h2.sg.low e).1; omega) (fun b hb e => by have := (h2.sg.low e).1; have := hs2.le; omega)
 have hgq : g ≠ q := by
  rcases hgg with e | e
  ·
   exact h2.no g e
  ·
   omega
 have k : ∀ d v, Rd (W1.alloc (.cells #[.string ⟨x.col.toArray⟩, .int .i64 x.fn, .slice va x.val.length vc] 114)) (OR V (W1.alloc (.cells #[.string ⟨x.col.toArray⟩, .int .i64 x.fn, .slice va x.val.length vc] 114)) q (.slice a5 o.mu.length c5)) d v → Rd (W2.setCell ⟨q, 5, none⟩ (.slice a' (o.mu.length + 1) c')) (OR V (W2.setCell ⟨q, 5, none⟩ (.slice a' (o.mu.length + 1) c')) q (.slice a' (o.mu.length + 1) c')) d v := fun d v hr =>
  ((hr.frm hFg (fun b hb e => hb.1.2.2 e)).frm hFq (fun b hb e => hb.1.2.1 e)).mono (fun b hb => ⟨⟨hb.1.1, hb.1.2.1, fun e => by
   rw [hg] at e; simp only [Option.some.injEq] at e; subst e; rcases hgg with e | e
   ·
    exact hb.1.2.2 e
   ·
    have := hb.2; omega⟩, by rw [sz]; exact Nat.lt_of_lt_of_le hb.2 hgr.size⟩)
 have frV : Frm (· = p) V W2 := ⟨hgr.os.trans h2.fr.os, hgr.tape.trans h2.fr.tape, hgr.output.trans h2.fr.output, Nat.le_trans h2.fr.size hgr.size, fun b hb hn => (hFg.block b (Nat.lt_of_lt_of_le hb h2.fr.size) (fun e => by have := (h2.sg.low e).1; omega)).trans (h2.fr.block b hb hn)⟩; refine ⟨a', c', W2, hrun, hbx, ⟨⟨s, hs3.frm hFq (by omega) (fun b hb e => by have := hs3.le; have e' : b = q := e; omega)⟩, frm_over frV hge hFq, hp, hge, ?_, ?_, ?_, ?_, ?_, ?_, h2.cap⟩⟩
 ·
  rw [heap_set 5 _ hbx, List.length_append]; rfl
 ·
  rw [List.length_append]; exact k _ _ h2.r3
 ·
  rw [List.length_append]; exact k _ _ h2.r4
 ·
  rw [List.length_append]; exact k _ _ h2.r6
 ·
  rw [List.length_append]; exact hsg2.frmP hFq (fun g' hg' e => by rw [hg] at hg'; simp only [Option.some.injEq] at hg'; omega) (fun b hb => hb.2)
 ·
  rw [List.length_append]; exact fun g' hg' e => by have hg2 : Value.ownBlock (.slice a' (o.mu.length + 1) c') = some g' := hg'; rw [hg] at hg2; simp only [Option.some.injEq] at hg2; omega
def OpR (o : OpV) : Prop := opB o = true ∧ ∀ j, j < 8 → (dOp o j).le 1048576
def OpA (W : World) (p S : Nat) (a : Option Addr) (l : List UInt8) (c m : Nat) (e : Ending) (W' : World) : Prop := ∃ (o : OpV) (a3 : Option Addr) (c3 : Nat) (a4 : Option Addr) (c4 : Nat) (a5 : Option Addr) (c5 : Nat) (a6 : Option Addr) (c6 m' s' : Nat), e = .returned (.agg #[.int .i64 o.kd, .string ⟨o.tb.toArray⟩, .string ⟨o.nm.toArray⟩, .slice a3 o.wh.length c3, .slice a4 o.row.length c4, .slice a5 o.mu.length c5, .slice a6 o.cs.length c6, .bool o.un]) ∧ OpR o ∧ o.row.length ≤ c4 ∧
 Rd W' (fun b => W.heap.size ≤ b ∧ b < W'.heap.size) (dCondS o.wh) (.slice a3 o.wh.length c3) ∧ Rd W' (fun b => W.heap.size ≤ b ∧ b < W'.heap.size) (dSetS o.row) (.slice a4 o.row.length c4) ∧ Rd W' (fun b => W.heap.size ≤ b ∧ b < W'.heap.size) (dMutS o.mu) (.slice a5 o.mu.length c5) ∧ Rd W' (fun b => W.heap.size ≤ b ∧ b < W'.heap.size) (dStringS o.cs) (.slice a6 o.cs.length c6) ∧ m' ≤ m + 200 ∧ Src W' p S a l c m' s' ∧ Frm (· = p) W W'
end Go.Proofs.YtlbcaaodkggohaaGreatDoor
