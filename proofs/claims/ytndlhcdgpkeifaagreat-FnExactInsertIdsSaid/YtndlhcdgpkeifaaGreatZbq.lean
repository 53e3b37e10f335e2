import Derived.Test.YtndlhcdgpkeifaaGreatZaf
import Derived.Test.YtndlhcdgpkeifaaGreatZbk
import Derived.Test.YtndlhcdgpkeifaaGreatZbo
import Derived.Test.YtndlhcdgpkeifaaGreatZbp
namespace Go.Proofs.YtndlhcdgpkeifaaGreat
open Go.RowKit
set_option linter.unusedSimpArgs false
def idsL : List OpV → Int → List Int
  | [], _ => []
  | o :: r, n => if o.kd = 1 then n :: idsL r (n + 1) else 0 :: idsL r n
def cntI : List OpV → Nat
  | [] => 0
  | o :: r => (if o.kd = 1 then 1 else 0) + cntI r
theorem idsL_len : ∀ (l : List OpV) (n : Int), (idsL l n).length = l.length
  | [], _ => rfl
  | o :: r, n => by
    unfold idsL
    split <;> simp [idsL_len r]
theorem cntI_le : ∀ l : List OpV, cntI l ≤ l.length
  | [] => Nat.le_refl _
  | o :: r => by
    have := cntI_le r
    unfold cntI
    split <;> simp <;> omega
theorem cntI_takeY : ∀ {l : List OpV} {k : Nat} (h : k < l.length), l[k].kd = 1 → cntI (l.take (k + 1)) = cntI (l.take k) + 1
  | o :: r, 0, _, e => by
    have e' : o.kd = 1 := e
    simp [cntI, e']
  | o :: r, k + 1, h, e => by
    have ih := cntI_takeY (l := r) (k := k) (by simpa using h) (by simpa using e)
    simp only [List.take_succ_cons, cntI] at ih ⊢
    omega
theorem cntI_takeN : ∀ {l : List OpV} {k : Nat} (h : k < l.length), ¬ l[k].kd = 1 → cntI (l.take (k + 1)) = cntI (l.take k)
  | o :: r, 0, _, e => by
    have e' : ¬ o.kd = 1 := e
    simp [cntI, e']
  | o :: r, k + 1, h, e => by
    have ih := cntI_takeN (l := r) (k := k) (by simpa using h) (by simpa using e)
    simp only [List.take_succ_cons, cntI] at ih ⊢
    omega
theorem idsL_atY : ∀ {l : List OpV} {k : Nat} {n : Int} (h : k < l.length), l[k].kd = 1 → (idsL l n).getD k 0 = n + cntI (l.take k)
  | o :: r, 0, n, _, e => by
    have e' : o.kd = 1 := e
    simp [idsL, cntI, e']
  | o :: r, k + 1, n, h, e => by
    have h' : k < r.length := by simpa using h
    have e' : r[k].kd = 1 := by simpa using e
    by_cases ho : o.kd = 1
    · have ih := idsL_atY (n := n + 1) h' e'
      simp only [idsL, if_pos ho, List.getD_cons_succ, ih, List.take_succ_cons, cntI]
      omega
    · have ih := idsL_atY (n := n) h' e'
      simp only [idsL, if_neg ho, List.getD_cons_succ, ih, List.take_succ_cons, cntI]
      omega
theorem idsL_atN : ∀ {l : List OpV} {k : Nat} {n : Int} (h : k < l.length), ¬ l[k].kd = 1 → (idsL l n).getD k 0 = 0
  | o :: r, 0, n, _, e => by
    have e' : ¬ o.kd = 1 := e
    simp [idsL, e']
  | o :: r, k + 1, n, h, e => by
    have h' : k < r.length := by simpa using h
    have e' : ¬ r[k].kd = 1 := by simpa using e
    by_cases ho : o.kd = 1
    · have ih := idsL_atN (n := n + 1) h' e'
      simp only [idsL, if_pos ho, List.getD_cons_succ, ih]
    · have ih := idsL_atN (n := n) h' e'
      simp only [idsL, if_neg ho, List.getD_cons_succ, ih]
noncomputable def opsC (l : List OpV) : Int := if 8 < l.length then 6 else if l.all opB = true then 0 else 1
theorem opsC_many {l : List OpV} (h : 8 < l.length) : opsC l = 6 := by unfold opsC; rw [if_pos h]
theorem opsC_bad {l : List OpV} (h : ¬ 8 < l.length) (hb : l.all opB = false) : opsC l = 1 := by unfold opsC; rw [if_neg h, hb]; rfl
theorem opsC_ok {l : List OpV} (h : ¬ 8 < l.length) (hb : l.all opB = true) : opsC l = 0 := by unfold opsC; rw [if_neg h, if_pos hb]
theorem all_noK {α : Type} {f : α → Bool} {l : List α} {k : Nat} (hk : k < l.length) (h : f l[k] = false) : l.all f = false := by
  cases hh : l.all f
  · rfl
  · rw [List.all_eq_true] at hh
    have := hh _ (List.getElem_mem hk)
    rw [h] at this; cases this
theorem all_yesK {α : Type} {f : α → Bool} {l : List α} (h : ∀ k (hk : k < l.length), f l[k] = true) : l.all f = true := by
  rw [List.all_eq_true]
  intro x hx
  obtain ⟨k, hk, rfl⟩ := List.mem_iff_getElem.1 hx
  exact h k hk
noncomputable def iiC (l : List OpV) (n : Int) : Int := if 4096 < l.length then 2 else if opsC l ≠ 0 then opsC l else if inB 1 n 1000000 = true then 0 else 4
noncomputable def iiR (l : List OpV) (n : Int) : List Int := if iiC l n = 0 then idsL l n else []
theorem ii_no {l : List OpV} {n : Int} {c : Int} (h : iiC l n = c) (h0 : c ≠ 0) : iiR l n = [] ∧ iiC l n = c := ⟨by unfold iiR; rw [h, if_neg h0], h⟩
theorem ii_long {l : List OpV} {n : Int} (h : 4096 < l.length) : iiC l n = 2 := by unfold iiC; rw [if_pos h]
theorem ii_ops {l : List OpV} {n : Int} (h : ¬ 4096 < l.length) (ho : opsC l ≠ 0) : iiC l n = opsC l := by unfold iiC; rw [if_neg h, if_pos ho]
theorem ii_range {l : List OpV} {n : Int} (h : ¬ 4096 < l.length) (ho : opsC l = 0) (hn : inB 1 n 1000000 = false) : iiC l n = 4 := by unfold iiC; rw [if_neg h, if_neg (by simp [ho]), hn]; rfl
theorem ii_ok {l : List OpV} {n : Int} (h : ¬ 4096 < l.length) (ho : opsC l = 0) (hn : inB 1 n 1000000 = true) : iiR l n = idsL l n ∧ iiC l n = 0 := by
  have e : iiC l n = 0 := by unfold iiC; rw [if_neg h, if_neg (by simp [ho]), if_pos hn]
  exact ⟨by unfold iiR; rw [if_pos e], e⟩
set_option maxRecDepth 100000 in
set_option maxHeartbeats 6400000 in
theorem opsS (ops : List OpV) (a : Option Addr) (c : Nat) (B : Nat → Prop) (w : World) (ho : (dOpS ops).le maxLen) (hL : Rd w B (dOpS ops) (.slice a ops.length c)) :
    Calls Tryz.prog 14 #[.slice a ops.length c] w fun e w' => e = .returned (.int .i64 (opsC ops)) ∧ Below w.heap.size w w' := by
  have HL : Hid (∀ W, Below w.heap.size w W → Rd W B (Ls 8 dOp ops) (.slice a ops.length c)) := fun W h => Rd.later hL h
  have HX : Hid (∀ i (h : i < ops.length) j, j < 8 → (dOp ops[i] j).le maxLen) := (Ls_le.1 ho).2.2
  have hll : ops.length ≤ maxLen := (Ls_le.1 ho).2.1
  unfold maxLen at hll
  clear ho hL
  by_cases h8 : 8 < ops.length
  case pos =>
    have HR := Lib.hid (opsC_many h8)
    have hd : decide (8 < (ops.length : Int)) = true := decide_eq_true (by omega)
    clear h8
    go_enter Tryz.func14, Tryz.ntmps14
    go_wp2_with fail
    go_ret
    exact ⟨ret_i HR.out.symm, Below.refl _ _⟩
  have hd : decide (8 < (ops.length : Int)) = false := decide_eq_false (by omega)
  have H8 := Lib.hid h8
  clear h8
  go_enter Tryz.func14, Tryz.ntmps14
  go_wp2_with fail
  go_loopw [3] (fun i wr => ∃ k : Nat, k ≤ ops.length ∧ i = .int .i64 k ∧ Hid ((∀ m (h : m < ops.length), m < k → opB ops[m] = true) ∧ Below w.heap.size w wr)) (fun i _ => ops.length - (intOf i).toNat)
  case atStart => exact ⟨0, Nat.zero_le _, rfl, fun m _ h => absurd h (by omega), Below.refl _ _⟩
  case round =>
    obtain ⟨k, hk, rfl, HW⟩ := hrel
    by_cases hlt : k < ops.length
    case neg =>
      have hki : decide ((k : Int) < (ops.length : Int)) = false := by simp; omega
      have HR := Lib.hid (opsC_ok H8.out (all_yesK (f := opB) (fun m h => HW.out.1 m h (by omega))))
      go_wp2_with fail
      go_ret
      exact ⟨ret_i HR.out.symm, HW.out.2⟩
    have hki : (k : Int) < (ops.length : Int) := by omega
    obtain ⟨b, off, rfl, -, hc⟩ := (HL.out _ HW.out.2).things k hlt
    obtain ⟨u0, c0, r0⟩ := hc 0 (by omega)
    obtain rfl : u0 = .int .i64 ops[k].kd := r0
    rw [Nat.add_zero] at c0
    obtain ⟨u1, c1, r1⟩ := hc 1 (by omega)
    obtain rfl : u1 = .string ⟨ops[k].tb.toArray⟩ := r1
    obtain ⟨u2, c2, r2⟩ := hc 2 (by omega)
    obtain rfl : u2 = .string ⟨ops[k].nm.toArray⟩ := r2
    obtain ⟨u3, c3, r3⟩ := hc 3 (by omega)
    replace r3 : Rd wr B (dCondS ops[k].wh) u3 := r3
    obtain ⟨a3, q3, rfl⟩ := r3.lsSlice
    obtain ⟨u4, c4, r4⟩ := hc 4 (by omega)
    replace r4 : Rd wr B (dSetS ops[k].row) u4 := r4
    obtain ⟨a4, q4, rfl⟩ := r4.lsSlice
    obtain ⟨u5, c5, r5⟩ := hc 5 (by omega)
    replace r5 : Rd wr B (dMutS ops[k].mu) u5 := r5
    obtain ⟨a5, q5, rfl⟩ := r5.lsSlice
    obtain ⟨u6, c6, r6⟩ := hc 6 (by omega)
    replace r6 : Rd wr B (dStringS ops[k].cs) u6 := r6
    obtain ⟨a6, q6, rfl⟩ := r6.lsSlice
    obtain ⟨u7, c7, r7⟩ := hc 7 (by omega)
    obtain rfl : u7 = .bool ops[k].un := r7
    clear hc
    have CO := Lib.hid (opOKs ops[k].kd ops[k].tb ops[k].nm ops[k].wh ops[k].row ops[k].mu ops[k].cs ops[k].un a3 q3 a4 q4 a5 q5 a6 q6 B wr (HX.out k hlt 1 (by omega)) (HX.out k hlt 2 (by omega)) (HX.out k hlt 3 (by omega)) (HX.out k hlt 4 (by omega)) (HX.out k hlt 5 (by omega)) (HX.out k hlt 6 (by omega)) r3 r4 r5 r6 : Calls Tryz.prog 31 #[.agg #[.int .i64 ops[k].kd, .string ⟨ops[k].tb.toArray⟩, .string ⟨ops[k].nm.toArray⟩, .slice a3 ops[k].wh.length q3, .slice a4 ops[k].row.length q4, .slice a5 ops[k].mu.length q5, .slice a6 ops[k].cs.length q6, .bool ops[k].un]] wr fun e w' => e = .returned (.bool (opB ops[k])) ∧ Below wr.heap.size wr w')
    have HNO : Hid (opB ops[k] = false → opsC ops = 1) := fun h => opsC_bad H8.out (all_noK hlt h)
    have HNX : Hid (opB ops[k] = true → ∀ m (h : m < ops.length), m < k + 1 → opB ops[m] = true) := fun he m h hm => by
      by_cases e : m = k
      · subst e; exact he
      · exact HW.out.1 m h (by omega)
    clear r3 r4 r5 r6
    generalize ops[k] = x at *
    go_wp2_with fail
    refine CO.out.mono ?_
    rintro e w1 ⟨rfl, hB1⟩
    have HB1 := Lib.hid (HW.out.2.trans (hB1.mono HW.out.2.size))
    clear hB1
    cases he : opB x
    case false =>
      have HR := Lib.hid (HNO.out he)
      clear HNO HNX he CO
      go_wp2_with fail
      go_ret
      exact ⟨ret_i HR.out.symm, HB1.out⟩
    have HN := Lib.hid (HNX.out he)
    clear HNO HNX he CO
    go_wp2_with fail
    go_roundw
    case rel => exact ⟨k + 1, by omega, by go_num, HN.out, HB1.out⟩
    case measure => simp [intOf]; omega
set_option maxRecDepth 100000 in
set_option maxHeartbeats 6400000 in
theorem fewOpsI (list : List OpV) (a : Option Addr) (c : Nat) (B : Nat → Prop) (w : World) (ho : (dOpS list).le maxLen) (hL : Rd w B (dOpS list) (.slice a list.length c)) :
    Calls Tryz.prog 36 #[.slice a list.length c, .int .i64 8, .func (.func 37) #[] #[]] w fun e w' => e = .returned (.bool (list.all opB && decide (list.length ≤ 8))) ∧ Below w.heap.size w w' := by
  have HL : Hid (∀ W, Below w.heap.size w W → Rd W B (dOpS list) (.slice a list.length c)) := fun W h => Rd.later hL h
  have HO := Lib.hid ho
  have hll : list.length ≤ maxLen := (Ls_le.1 ho).2.1
  unfold maxLen at hll
  clear ho hL
  by_cases h8 : 8 < list.length
  case pos =>
    have HR := Lib.hid (fewN_long (f := opB) h8)
    have hd : decide (8 < (list.length : Int)) = true := decide_eq_true (by omega)
    clear h8
    go_enter Tryz.func36, Tryz.ntmps36
    go_wp2_with fail
    go_ret
    exact ⟨ret_b HR.out.symm, Below.refl _ _⟩
  have hd : decide (8 < (list.length : Int)) = false := decide_eq_false (by omega)
  have H8 := Lib.hid h8
  clear h8
  go_enter Tryz.func36, Tryz.ntmps36
  go_wp2_with fail
  go_loopw [14] (fun i wr => ∃ k : Nat, k ≤ list.length ∧ i = .int .i64 k ∧ Hid ((∀ m (h : m < list.length), m < k → opB list[m] = true) ∧ Below w.heap.size w wr)) (fun i _ => list.length - (intOf i).toNat)
  case atStart => exact ⟨0, Nat.zero_le _, rfl, fun m _ h => absurd h (by omega), Below.refl _ _⟩
  case round =>
    obtain ⟨k, hk, rfl, HW⟩ := hrel
    by_cases hlt : k < list.length
    case neg =>
      have hki : decide ((k : Int) < (list.length : Int)) = false := by simp; omega
      have HR := Lib.hid (fewN_yes (f := opB) (M := 8) (fun m h => HW.out.1 m h (by omega)) (by have := H8.out; omega))
      go_wp2_with fail
      go_ret
      exact ⟨ret_b HR.out.symm, HW.out.2⟩
    have hki : (k : Int) < (list.length : Int) := by omega
    obtain ⟨b, off, rfl, -, hc⟩ := Rd.things (HL.out _ HW.out.2) k hlt
    obtain ⟨u0, c0, r0⟩ := hc 0 (by omega)
    obtain rfl : u0 = .int .i64 list[k].kd := r0
    rw [Nat.add_zero] at c0
    obtain ⟨u1, c1, r1⟩ := hc 1 (by omega)
    obtain rfl : u1 = .string ⟨list[k].tb.toArray⟩ := r1
    obtain ⟨u2, c2, r2⟩ := hc 2 (by omega)
    obtain rfl : u2 = .string ⟨list[k].nm.toArray⟩ := r2
    obtain ⟨u3, c3, r3⟩ := hc 3 (by omega)
    replace r3 : Rd wr B (dCondS list[k].wh) u3 := r3
    obtain ⟨a3, q3, rfl⟩ := r3.lsSlice
    obtain ⟨u4, c4, r4⟩ := hc 4 (by omega)
    replace r4 : Rd wr B (dSetS list[k].row) u4 := r4
    obtain ⟨a4, q4, rfl⟩ := r4.lsSlice
    obtain ⟨u5, c5, r5⟩ := hc 5 (by omega)
    replace r5 : Rd wr B (dMutS list[k].mu) u5 := r5
    obtain ⟨a5, q5, rfl⟩ := r5.lsSlice
    obtain ⟨u6, c6, r6⟩ := hc 6 (by omega)
    replace r6 : Rd wr B (dStringS list[k].cs) u6 := r6
    obtain ⟨a6, q6, rfl⟩ := r6.lsSlice
    obtain ⟨u7, c7, r7⟩ := hc 7 (by omega)
    obtain rfl : u7 = .bool list[k].un := r7
    clear hc
    have CO := Lib.hid ((opOKi list[k].kd list[k].tb list[k].nm list[k].wh list[k].row list[k].mu list[k].cs list[k].un a3 q3 a4 q4 a5 q5 a6 q6 B wr ((Ls_le.1 HO.out).2.2 k hlt 1 (by omega)) ((Ls_le.1 HO.out).2.2 k hlt 2 (by omega)) ((Ls_le.1 HO.out).2.2 k hlt 3 (by omega)) ((Ls_le.1 HO.out).2.2 k hlt 4 (by omega)) ((Ls_le.1 HO.out).2.2 k hlt 5 (by omega)) ((Ls_le.1 HO.out).2.2 k hlt 6 (by omega)) r3 r4 r5 r6 : Calls Tryz.prog 37 #[.agg #[.int .i64 list[k].kd, .string ⟨list[k].tb.toArray⟩, .string ⟨list[k].nm.toArray⟩, .slice a3 list[k].wh.length q3, .slice a4 list[k].row.length q4, .slice a5 list[k].mu.length q5, .slice a6 list[k].cs.length q6, .bool list[k].un]] wr fun e w' => e = .returned (.bool (opB list[k])) ∧ Below wr.heap.size wr w'))
    have HNO : Hid (opB list[k] = false → (list.all opB && decide (list.length ≤ 8)) = false) := fun h => fewN_no hlt h
    have HNX : Hid (opB list[k] = true → ∀ m (h : m < list.length), m < k + 1 → opB list[m] = true) := fun he m h hm => by
      by_cases e : m = k
      · subst e; exact he
      · exact HW.out.1 m h (by omega)
    clear r3 r4 r5 r6
    generalize list[k] = x at *
    go_wp2_with fail
    refine CO.out.mono ?_
    rintro e w1 ⟨rfl, hB1⟩
    have HB1 := Lib.hid (HW.out.2.trans (hB1.mono HW.out.2.size))
    clear hB1
    cases he : opB x
    case false =>
      have HR := Lib.hid (HNO.out he)
      clear HNO HNX he CO
      go_wp2_with fail
      go_ret
      exact ⟨ret_b HR.out.symm, HB1.out⟩
    have HN := Lib.hid (HNX.out he)
    clear HNO HNX he CO
    go_wp2_with fail
    go_roundw
    case rel => exact ⟨k + 1, by omega, by go_num, HN.out, HB1.out⟩
    case measure => simp [intOf]; omega
set_option maxRecDepth 100000 in
set_option maxHeartbeats 6400000 in
theorem opsI (ops : List OpV) (a : Option Addr) (c : Nat) (B : Nat → Prop) (w : World) (ho : (dOpS ops).le maxLen) (hL : Rd w B (dOpS ops) (.slice a ops.length c)) :
    Calls Tryz.prog 18 #[.slice a ops.length c] w fun e w' => e = .returned (.int .i64 (opsC ops)) ∧ Below w.heap.size w w' := by
  have FE := Lib.hid (fewOpsI ops a c B w ho hL)
  have hll : ops.length ≤ maxLen := (Ls_le.1 ho).2.1
  unfold maxLen at hll
  clear ho hL
  by_cases h8 : 8 < ops.length
  case pos =>
    have HR := Lib.hid (opsC_many h8)
    have hd : decide (8 < (ops.length : Int)) = true := decide_eq_true (by omega)
    clear h8 FE
    go_enter Tryz.func18, Tryz.ntmps18
    go_wp2_with fail
    go_ret
    exact ⟨ret_i HR.out.symm, Below.refl _ _⟩
  have hd : decide (8 < (ops.length : Int)) = false := decide_eq_false (by omega)
  have H8 := Lib.hid h8
  have hd8 : decide (ops.length ≤ 8) = true := decide_eq_true (by omega)
  rw [hd8, Bool.and_true] at FE
  clear h8 hd8
  cases he : ops.all opB
  case false =>
    have HR := Lib.hid (opsC_bad H8.out he)
    rw [he] at FE
    clear he
    go_enter Tryz.func18, Tryz.ntmps18
    go_wp2_with fail
    refine FE.out.mono ?_
    rintro e w1 ⟨rfl, hB⟩
    have HB := Lib.hid hB
    clear hB
    go_wp2_with fail
    go_ret
    exact ⟨ret_i HR.out.symm, HB.out⟩
  have HR := Lib.hid (opsC_ok H8.out he)
  rw [he] at FE
  clear he
  go_enter Tryz.func18, Tryz.ntmps18
  go_wp2_with fail
  refine FE.out.mono ?_
  rintro e w1 ⟨rfl, hB⟩
  have HB := Lib.hid hB
  clear hB
  go_wp2_with fail
  go_ret
  exact ⟨ret_i HR.out.symm, HB.out⟩
set_option maxRecDepth 100000 in
set_option maxHeartbeats 6400000 in
theorem idsS (ops : List OpV) (a : Option Addr) (c : Nat) (B : Nat → Prop) (w : World) (ho : (dOpS ops).le maxLen) (hL : Rd w B (dOpS ops) (.slice a ops.length c)) (n : Int) (h4 : ops.length ≤ 4096) (hn : 1 ≤ n ∧ n ≤ 1000000) :
    Calls Tryz.prog 16 #[.slice a ops.length c, .int .i64 n] w (IntAns w (idsL ops n)) := by
  have HL : Hid (∀ W, Below w.heap.size w W → Rd W B (Ls 8 dOp ops) (.slice a ops.length c)) := fun W h => Rd.later hL h
  have HX : Hid (∀ i (h : i < ops.length) j, j < 8 → (dOp ops[i] j).le maxLen) := (Ls_le.1 ho).2.2
  have hll : ops.length ≤ maxLen := (Ls_le.1 ho).2.1
  unfold maxLen at hll
  clear ho hL
  have HF : ∃ F : List Int, Hid (idsL ops n = F) := ⟨_, rfl⟩
  obtain ⟨F, HF⟩ := HF
  rw [HF.out]
  have HFL : Hid (F.length = ops.length) := by rw [← HF.out]; exact idsL_len _ _
  have HI := Lib.hid (IG.firstA w F)
  obtain ⟨iI, hiI⟩ := infoIntN
  have HII := Lib.hid hiI
  have HN := Lib.hid hn
  clear hiI hn
  go_enter Tryz.func16, Tryz.ntmps16
  go_wp2_with fail
  go_loopw [1, 5, 6] (fun nx v i wr => ∃ k : Nat, k ≤ ops.length ∧ i = .int .i64 k ∧ ∃ (m : Int) (va : Option Addr) (vq : Nat), nx = .int .i64 m ∧ v = .slice va k vq ∧ Hid (m = n + cntI (ops.take k) ∧ IG w wr F k v)) (fun _ _ i _ => ops.length - (intOf i).toNat)
  case atStart => exact ⟨0, Nat.zero_le _, rfl, n, _, _, rfl, rfl, by simp [cntI], HI.out⟩
  case round =>
    obtain ⟨k, hk, rfl, m, va, vq, rfl, rfl, HW⟩ := hrel
    by_cases hlt : k < ops.length
    case neg =>
      have hki : decide ((k : Int) < (ops.length : Int)) = false := by simp; omega
      have HE : Hid (k = F.length) := by
        have := HFL.out
        show k = F.length
        omega
      go_wp2_with fail
      go_ret
      exact ⟨va, vq, by rw [← HE.out]; rfl, by rw [← HE.out]; exact HW.out.2⟩
    have hki : (k : Int) < (ops.length : Int) := by omega
    obtain ⟨b, off, rfl, -, hc⟩ := (HL.out _ HW.out.2.bel).things k hlt
    obtain ⟨u0, c0, r0⟩ := hc 0 (by omega)
    obtain rfl : u0 = .int .i64 ops[k].kd := r0
    rw [Nat.add_zero] at c0
    clear hc
    have HY1 : Hid (ops[k].kd = 1 → F.getD k 0 = m ∧ m + 1 = n + cntI (ops.take (k + 1))) := fun h => ⟨by rw [← HF.out, idsL_atY hlt h, HW.out.1], by rw [cntI_takeY hlt h, HW.out.1]; omega⟩
    have HN1 : Hid (¬ ops[k].kd = 1 → F.getD k 0 = 0 ∧ m = n + cntI (ops.take (k + 1))) := fun h => ⟨by rw [← HF.out, idsL_atN hlt h], by rw [cntI_takeN hlt h, HW.out.1]⟩
    have hmw : IntKind.i64.wrap (m + 1) = m + 1 := by
      have h1 := HW.out.1
      have h2 := cntI_le (ops.take k)
      have h3 := HN.out
      have h5 : (ops.take k).length ≤ ops.length := List.length_take_le' _ _
      rw [IntKind.wrap_i64]; omega
    generalize ops[k] = x at *
    cases he : (x.kd == 1)
    case true =>
      have HE := Lib.hid (HY1.out (by simpa using he))
      clear HY1 HN1
      have SG2 := Lib.hid ((HW.out.2.later (below_allocD wr (.cells #[.int .i64 m] 3))))
      have NEW : Hid ((wr.alloc (.cells #[.int .i64 m] 3)).cell? ⟨wr.heap.size, 0, none⟩ = some (.int .i64 m)) := cell_at (o := 0) (heap_newD _ _) rfl
      go_wp2_with (at_builtin; go_must (refine wpList_grow rfl (.tmp 20) (.tmp 22) 24 rfl rfl SG2.out.gr iI (.int .i64 0) 8 Tryz.underlying24 HII.out.1 HII.out.2.1 HII.out.2.2.1 HII.out.2.2.2 rfl (Nat.lt_succ_self 0) ⟨wr.heap.size, 0, none⟩ 1 rfl [.int .i64 m] rfl ?news ?one ?h63 ?hby ?hba ?hrd ?go))
      case news =>
        intro j u hj
        have : j = 0 := by
          have := (List.getElem?_eq_some_iff.1 hj).1
          simpa using this
        subst this
        simp only [List.getElem?_cons_zero, Option.some.injEq] at hj
        subst hj
        rw [Addr.add_mid]
        exact NEW.out
      case one => intro u hu; simp only [List.mem_singleton] at hu; subst hu; rfl
      case h63 => unfold maxLen; omega
      case hby => omega
      case hba => exact SG2.out.bel.size
      case hrd =>
        intro j hj
        obtain rfl : j = 0 := by omega
        exact ⟨_, rfl, by rw [HE.out.1]; rfl⟩
      case go =>
        intro a' c' w3 hsg hgr gg hg1 hg2
        have HST := Lib.hid (SG2.out.push hsg hgr)
        clear hsg hgr hg1 hg2
        go_wp2_with fail
        go_roundw
        case rel => exact ⟨k + 1, by omega, by go_num, m + 1, a', c', rfl, rfl, HE.out.2, HST.out⟩
        case measure => simp [intOf]; omega
    have HE := Lib.hid (HN1.out (by simpa using he))
    clear HY1 HN1
    have SG2 := Lib.hid ((HW.out.2.later (below_allocD wr (.cells #[.int .i64 0] 3))))
    have NEW : Hid ((wr.alloc (.cells #[.int .i64 0] 3)).cell? ⟨wr.heap.size, 0, none⟩ = some (.int .i64 0)) := cell_at (o := 0) (heap_newD _ _) rfl
    go_wp2_with (at_builtin; go_must (refine wpList_grow rfl (.tmp 26) (.tmp 27) 24 rfl rfl SG2.out.gr iI (.int .i64 0) 8 Tryz.underlying24 HII.out.1 HII.out.2.1 HII.out.2.2.1 HII.out.2.2.2 rfl (Nat.lt_succ_self 0) ⟨wr.heap.size, 0, none⟩ 1 rfl [.int .i64 0] rfl ?news ?one ?h63 ?hby ?hba ?hrd ?go))
    case news =>
      intro j u hj
      have : j = 0 := by
        have := (List.getElem?_eq_some_iff.1 hj).1
        simpa using this
      subst this
      simp only [List.getElem?_cons_zero, Option.some.injEq] at hj
      subst hj
      rw [Addr.add_mid]
      exact NEW.out
    case one => intro u hu; simp only [List.mem_singleton] at hu; subst hu; rfl
    case h63 => unfold maxLen; omega
    case hby => omega
    case hba => exact SG2.out.bel.size
    case hrd =>
      intro j hj
      obtain rfl : j = 0 := by omega
      exact ⟨_, rfl, by rw [HE.out.1]; rfl⟩
    case go =>
      intro a' c' w3 hsg hgr gg hg1 hg2
      have HST := Lib.hid (SG2.out.push hsg hgr)
      clear hsg hgr hg1 hg2
      go_wp2_with fail
      go_roundw
      case rel => exact ⟨k + 1, by omega, by go_num, m, a', c', rfl, rfl, HE.out.2, HST.out⟩
      case measure => simp [intOf]; omega
theorem atI_take {F : List Int} {k : Nat} (h : F.getD k 0 = 0) : atI (F.take k) = atI (F.take (k + 1)) := by
  funext j
  unfold atI
  by_cases hj : j = k
  · subst hj
    have e1 : (F.take j).getD j 0 = 0 := by rw [List.getD_eq_getElem?_getD, List.getElem?_take_eq_none (Nat.le_refl _)]; rfl
    have e2 : (F.take (j + 1)).getD j 0 = 0 := by
      rw [List.getD_eq_getElem?_getD, List.getElem?_take_of_lt (by omega), ← List.getD_eq_getElem?_getD]; exact h
    rw [e1, e2]
  · have e : (F.take k).getD j 0 = (F.take (k + 1)).getD j 0 := by
      rcases Nat.lt_or_ge j k with h' | h'
      · rw [List.getD_eq_getElem?_getD, List.getD_eq_getElem?_getD, List.getElem?_take_of_lt h', List.getElem?_take_of_lt (by omega)]
      · rw [List.getD_eq_getElem?_getD, List.getD_eq_getElem?_getD, List.getElem?_take_eq_none h', List.getElem?_take_eq_none (by omega)]
    rw [e]
theorem atI_put {F : List Int} {k : Nat} {m : Int} (hk : k < F.length) (h : F.getD k 0 = m) : (fun j => if j = k then Value.int .i64 m else atI (F.take k) j) = atI (F.take (k + 1)) := by
  funext j
  unfold atI
  by_cases hj : j = k
  · subst hj
    rw [if_pos rfl]
    have e2 : (F.take (j + 1)).getD j 0 = m := by
      rw [List.getD_eq_getElem?_getD, List.getElem?_take_of_lt (by omega), ← List.getD_eq_getElem?_getD]; exact h
    rw [e2]
  · rw [if_neg hj]
    have e : (F.take k).getD j 0 = (F.take (k + 1)).getD j 0 := by
      rcases Nat.lt_or_ge j k with h' | h'
      · rw [List.getD_eq_getElem?_getD, List.getD_eq_getElem?_getD, List.getElem?_take_of_lt h', List.getElem?_take_of_lt (by omega)]
      · rw [List.getD_eq_getElem?_getD, List.getD_eq_getElem?_getD, List.getElem?_take_eq_none h', List.getElem?_take_eq_none (by omega)]
    rw [e]
set_option maxRecDepth 100000 in
set_option maxHeartbeats 6400000 in
theorem idsI (ops : List OpV) (a : Option Addr) (c : Nat) (B : Nat → Prop) (w : World) (ho : (dOpS ops).le maxLen) (hL : Rd w B (dOpS ops) (.slice a ops.length c)) (n : Int) (h4 : ops.length ≤ 4096) (hn : 1 ≤ n ∧ n ≤ 1000000) :
    Calls Tryz.prog 20 #[.slice a ops.length c, .int .i64 n] w fun e w' => ∃ b, e = .returned (.tuple #[.slice (some ⟨b, 0, none⟩) (idsL ops n).length (idsL ops n).length, .int .i64 (n + cntI ops)]) ∧ (w.heap.size ≤ b ∧ w'.rowIs b 3 (idsL ops n).length (atI (idsL ops n))) ∧ Below w.heap.size w w' := by
  have HL : Hid (∀ W, Below w.heap.size w W → Rd W B (Ls 8 dOp ops) (.slice a ops.length c)) := fun W h => Rd.later hL h
  have HX : Hid (∀ i (h : i < ops.length) j, j < 8 → (dOp ops[i] j).le maxLen) := (Ls_le.1 ho).2.2
  have hll : ops.length ≤ maxLen := (Ls_le.1 ho).2.1
  unfold maxLen at hll
  clear ho hL
  have HF : ∃ F : List Int, Hid (idsL ops n = F) := ⟨_, rfl⟩
  obtain ⟨F, HF⟩ := HF
  rw [HF.out]
  have HFL : Hid (F.length = ops.length) := by rw [← HF.out]; exact idsL_len _ _
  have hmk := run_mkIntS ops.length (by omega)
  have HZ : Hid ((w.alloc (.cells (madeCells #[.int .i64 0] ops.length) 3)).rowIs w.heap.size 3 ops.length (atI (F.take 0))) := by
    have h := World.rowIs_made w (.int .i64 0) ops.length 3
    exact h.congr (fun i _ => by simp [atI])
  have HN := Lib.hid hn
  clear hn
  go_enter Tryz.func20, Tryz.ntmps20
  go_wp2_with fail
  clear hmk
  go_loopw [1, 13] (fun nx i wr => ∃ k : Nat, k ≤ ops.length ∧ i = .int .i64 k ∧ ∃ m : Int, nx = .int .i64 m ∧ Hid (m = n + cntI (ops.take k) ∧ wr.rowIs w.heap.size 3 ops.length (atI (F.take k)) ∧ Below w.heap.size w wr)) (fun _ i _ => ops.length - (intOf i).toNat)
  case atStart => exact ⟨0, Nat.zero_le _, rfl, n, rfl, by simp [cntI], HZ.out, (Below.refl _ _).alloc (Nat.le_refl _) _⟩
  case round =>
    obtain ⟨k, hk, rfl, m, rfl, HW⟩ := hrel
    by_cases hlt : k < ops.length
    case neg =>
      have hki : decide ((k : Int) < (ops.length : Int)) = false := by simp; omega
      have HE : Hid (m = n + cntI ops ∧ ops.length = F.length ∧ wr.rowIs w.heap.size 3 F.length (atI F)) := by
        obtain rfl : k = ops.length := by omega
        have h1 := HW.out.1
        have h2 := HW.out.2.1
        rw [List.take_of_length_le (Nat.le_refl _)] at h1
        rw [← HFL.out, List.take_of_length_le (Nat.le_refl _)] at h2
        exact ⟨h1, HFL.out.symm, h2⟩
      go_wp2_with fail
      go_ret2
      exact ⟨w.heap.size, by rw [HE.out.1, HE.out.2.1]; rfl, ⟨Nat.le_refl _, HE.out.2.2⟩, HW.out.2.2⟩
    have hki : (k : Int) < (ops.length : Int) := by omega
    obtain ⟨b, off, rfl, -, hc⟩ := (HL.out _ HW.out.2.2).things k hlt
    obtain ⟨u0, c0, r0⟩ := hc 0 (by omega)
    obtain rfl : u0 = .int .i64 ops[k].kd := r0
    rw [Nat.add_zero] at c0
    clear hc
    have HY1 : Hid (ops[k].kd = 1 → F.getD k 0 = m ∧ m + 1 = n + cntI (ops.take (k + 1))) := fun h => ⟨by rw [← HF.out, idsL_atY hlt h, HW.out.1], by rw [cntI_takeY hlt h, HW.out.1]; omega⟩
    have HN1 : Hid (¬ ops[k].kd = 1 → F.getD k 0 = 0 ∧ m = n + cntI (ops.take (k + 1))) := fun h => ⟨by rw [← HF.out, idsL_atN hlt h], by rw [cntI_takeN hlt h, HW.out.1]⟩
    have hmw : IntKind.i64.wrap (m + 1) = m + 1 := by
      have h1 := HW.out.1
      have h2 := cntI_le (ops.take k)
      have h3 := HN.out
      have h5 : (ops.take k).length ≤ ops.length := List.length_take_le' _ _
      rw [IntKind.wrap_i64]; omega
    have HKF : Hid (k < F.length) := by
      have := HFL.out
      show k < F.length
      omega
    generalize ops[k] = x at *
    cases he : (x.kd == 1)
    case true =>
      have HE := Lib.hid (HY1.out (by simpa using he))
      clear HY1 HN1
      have HR : Hid ((wr.setCell ⟨w.heap.size, k, none⟩ (.int .i64 m)).rowIs w.heap.size 3 ops.length (atI (F.take (k + 1)))) := by
        have h := HW.out.2.1.set k (.int .i64 m)
        rw [atI_put HKF.out HE.out.1] at h
        exact h
      have e0 := HW.out.2.1.cell (i := k) hlt
      have z0 := HW.out.2.1.frozen k
      go_wp2_with fail
      go_roundw
      case rel => exact ⟨k + 1, by omega, by go_num, m + 1, rfl, HE.out.2, HR.out, HW.out.2.2.setCell (Nat.le_refl _) _⟩
      case measure => simp [intOf]; omega
    have HE := Lib.hid (HN1.out (by simpa using he))
    clear HY1 HN1
    go_wp2_with fail
    go_roundw
    case rel => exact ⟨k + 1, by omega, by go_num, m, rfl, HE.out.2, by rw [← atI_take HE.out.1]; exact HW.out.2.1, HW.out.2.2⟩
    case measure => simp [intOf]; omega
end Go.Proofs.YtndlhcdgpkeifaaGreat
