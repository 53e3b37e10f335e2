import Derived.Test.YtndlhcdgpkeifaaDoorRe2
import Derived.Test.YtndlhcdgpkeifaaDoorDRsA
namespace Go.Proofs.YtndlhcdgpkeifaaDoor
open Go.RowKit
set_option linter.unusedSimpArgs false
/-- the last one has a code -/
def lastB (l : List ResV) : Bool := if h : 0 < l.length then (l[l.length - 1].code != 0) else false
theorem last_no {l : List ResV} (h : ¬ 0 < l.length) : lastB l = false := by unfold lastB; rw [dif_neg h]
theorem last_at {l : List ResV} {m : Nat} (h : m < l.length) (e : m + 1 = l.length) : lastB l = (l[m].code != 0) := by
  unfold lastB
  rw [dif_pos (by omega)]
  have : l.length - 1 = m := by omega
  simp only [this]
noncomputable def faR (l : List ResV) : Bool × Int := if 4096 < l.length then (false, 2) else if l.all resB = true then (lastB l, 0) else (false, 1)
theorem fa_long {l : List ResV} (h : 4096 < l.length) : faR l = (false, 2) := by unfold faR; rw [if_pos h]
theorem fa_bad {l : List ResV} (h : ¬ 4096 < l.length) (hb : l.all resB = false) : faR l = (false, 1) := by unfold faR; rw [if_neg h, hb]; rfl
theorem fa_ok {l : List ResV} (h : ¬ 4096 < l.length) (hb : l.all resB = true) : faR l = (lastB l, 0) := by unfold faR; rw [if_neg h, if_pos hb]
theorem all_noF {α : Type} {f : α → Bool} {l : List α} {k : Nat} (hk : k < l.length) (h : f l[k] = false) : l.all f = false := by
  cases hh : l.all f
  · rfl
  · rw [List.all_eq_true] at hh
    have := hh _ (List.getElem_mem hk)
    rw [h] at this; cases this
theorem all_yesF {α : Type} {f : α → Bool} {l : List α} (h : ∀ k (hk : k < l.length), f l[k] = true) : l.all f = true := by
  rw [List.all_eq_true]
  intro x hx
  obtain ⟨k, hk, rfl⟩ := List.mem_iff_getElem.1 hx
  exact h k hk
set_option maxRecDepth 100000 in
set_option maxHeartbeats 6400000 in
theorem failedS (list : List ResV) (a : Option Addr) (c : Nat) (B : Nat → Prop) (w : World) (ho : (dResultS list).le maxLen) (hL : Rd w B (dResultS list) (.slice a list.length c)) :
    Calls Tryd.prog 5 #[.slice a list.length c] w fun e w' => e = .returned (.tuple #[.bool (faR list).1, .int .i64 (faR list).2]) ∧ Below w.heap.size w w' := by
  have HL : Hid (∀ W, Below w.heap.size w W → Rd W B (Ls 5 dResult list) (.slice a list.length c)) := fun W h => Rd.later hL h
  have HX : Hid (∀ i (h : i < list.length) j, j < 5 → (dResult list[i] j).le maxLen) := (Ls_le.1 ho).2.2
  have hll : list.length ≤ maxLen := (Ls_le.1 ho).2.1
  unfold maxLen at hll
  clear ho hL
  by_cases h8 : 4096 < list.length
  case pos =>
    have HR := Lib.hid (fa_long h8)
    have hd : decide (4096 < (list.length : Int)) = true := decide_eq_true (by omega)
    clear h8
    go_enter Tryd.func5, Tryd.ntmps5
    go_wp2_with fail
    go_ret2
    exact ⟨by rw [HR.out]; rfl, Below.refl _ _⟩
  have hd : decide (4096 < (list.length : Int)) = false := decide_eq_false (by omega)
  have H8 := Lib.hid h8
  clear h8
  go_enter Tryd.func5, Tryd.ntmps5
  go_wp2_with fail
  go_loopw [4] (fun i wr => ∃ k : Nat, k ≤ list.length ∧ i = .int .i64 k ∧ Hid ((∀ m (h : m < list.length), m < k → resB list[m] = true) ∧ Below w.heap.size w wr)) (fun i _ => list.length - (intOf i).toNat)
  case atStart => exact ⟨0, Nat.zero_le _, rfl, fun m _ h => absurd h (by omega), Below.refl _ _⟩
  case round =>
    obtain ⟨k, hk, rfl, HW⟩ := hrel
    by_cases hlt : k < list.length
    case neg =>
      have hki : decide ((k : Int) < (list.length : Int)) = false := by simp; omega
      have HR := Lib.hid (fa_ok H8.out (all_yesF (f := resB) (fun m h => HW.out.1 m h (by omega))))
      by_cases hz : 0 < list.length
      case neg =>
        have HE := Lib.hid (last_no hz)
        have dz : decide (0 < list.length) = false := decide_eq_false hz
        clear hz
        go_wp2_with fail
        go_ret2
        exact ⟨by rw [HR.out, HE.out]; rfl, HW.out.2⟩
      obtain ⟨m, hm⟩ : ∃ m, m + 1 = list.length := ⟨list.length - 1, by omega⟩
      have hml : m < list.length := by omega
      have HE := Lib.hid (last_at hml hm)
      have dz : decide (0 < list.length) = true := decide_eq_true hz
      have hm1 : (list.length : Int) - 1 = (m : Int) := by omega
      have hmw : IntKind.i64.wrap (m : Int) = (m : Int) := by rw [IntKind.wrap_i64]; omega
      have hmi : (m : Int) < (list.length : Int) := by omega
      obtain ⟨b, off, rfl, -, hc⟩ := (HL.out _ HW.out.2).things m hml
      obtain ⟨u0, c0, r0⟩ := hc 0 (by omega)
      obtain rfl : u0 = .int .i64 list[m].code := r0
      rw [Nat.add_zero] at c0
      clear hc hz hm
      generalize list[m].code = cd at *
      clear hml
      go_wp2_with fail
      go_ret2
      exact ⟨by rw [HR.out, HE.out]; rfl, HW.out.2⟩
    have hki : (k : Int) < (list.length : Int) := by omega
    obtain ⟨b, off, rfl, -, hc⟩ := (HL.out _ HW.out.2).things k hlt
    obtain ⟨u0, c0, r0⟩ := hc 0 (by omega)
    obtain rfl : u0 = .int .i64 list[k].code := r0
    rw [Nat.add_zero] at c0
    obtain ⟨u1, c1, r1⟩ := hc 1 (by omega)
    obtain rfl : u1 = .int .i64 list[k].cnt := r1
    obtain ⟨u2, c2, r2⟩ := hc 2 (by omega)
    obtain rfl : u2 = .int .i64 list[k].id := r2
    obtain ⟨u3, c3, r3⟩ := hc 3 (by omega)
    replace r3 : Rd wr B (dStringS list[k].cols) u3 := r3
    obtain ⟨a3, q3, rfl⟩ := r3.lsSlice
    obtain ⟨u4, c4, r4⟩ := hc 4 (by omega)
    replace r4 : Rd wr B (dRowS list[k].rows) u4 := r4
    obtain ⟨a4, q4, rfl⟩ := r4.lsSlice
    clear hc
    have CO := Lib.hid (resS list[k] a3 q3 a4 q4 B wr (HX.out k hlt 3 (by omega)) (HX.out k hlt 4 (by omega)) r3 r4)
    have HNO : Hid (resB list[k] = false → faR list = (false, 1)) := fun h => fa_bad H8.out (all_noF hlt h)
    have HNX : Hid (resB list[k] = true → ∀ m (h : m < list.length), m < k + 1 → resB list[m] = true) := fun he m h hm => by
      by_cases e : m = k
      · subst e; exact he
      · exact HW.out.1 m h (by omega)
    clear r3 r4
    generalize list[k] = x at *
    go_wp2_with fail
    refine CO.out.mono ?_
    rintro e w1 ⟨rfl, hB1⟩
    have HB1 := Lib.hid (HW.out.2.trans (hB1.mono HW.out.2.size))
    clear hB1
    cases he : resB x
    case false =>
      have HR := Lib.hid (HNO.out he)
      clear HNO HNX he CO
      go_wp2_with fail
      go_ret2
      exact ⟨by rw [HR.out]; rfl, HB1.out⟩
    have HN := Lib.hid (HNX.out he)
    clear HNO HNX he CO
    go_wp2_with fail
    go_roundw
    case rel => exact ⟨k + 1, by omega, by go_num, HN.out, HB1.out⟩
    case measure => simp [intOf]; omega
set_option maxRecDepth 100000 in
set_option maxHeartbeats 6400000 in
theorem hasFailedI (list : List ResV) (a : Option Addr) (c : Nat) (B : Nat → Prop) (w : World) (ho : (dResultS list).le maxLen) (hL : Rd w B (dResultS list) (.slice a list.length c)) :
    Calls Tryd.prog 14 #[.slice a list.length c] w fun e w' => e = .returned (.bool (lastB list)) ∧ w' = w := by
  have HL : Hid (Rd w B (Ls 5 dResult list) (.slice a list.length c)) := hL
  have hll : list.length ≤ maxLen := (Ls_le.1 ho).2.1
  unfold maxLen at hll
  clear ho hL
  by_cases hz : 0 < list.length
  case neg =>
    have HE := Lib.hid (last_no hz)
    have dz : decide (0 < list.length) = false := decide_eq_false hz
    clear hz
    go_enter Tryd.func14, Tryd.ntmps14
    go_wp2_with fail
    go_ret
    exact ⟨ret_b HE.out.symm, rfl⟩
  obtain ⟨m, hm⟩ : ∃ m, m + 1 = list.length := ⟨list.length - 1, by omega⟩
  have hml : m < list.length := by omega
  have HE := Lib.hid (last_at hml hm)
  have dz : decide (0 < list.length) = true := decide_eq_true hz
  have hm1 : (list.length : Int) - 1 = (m : Int) := by omega
  have hmw : IntKind.i64.wrap (m : Int) = (m : Int) := by rw [IntKind.wrap_i64]; omega
  have hmi : (m : Int) < (list.length : Int) := by omega
  obtain ⟨b, off, rfl, -, hc⟩ := HL.out.things m hml
  obtain ⟨u0, c0, r0⟩ := hc 0 (by omega)
  obtain rfl : u0 = .int .i64 list[m].code := r0
  rw [Nat.add_zero] at c0
  clear hc hz hm
  generalize list[m].code = cd at *
  clear hml
  go_enter Tryd.func14, Tryd.ntmps14
  go_wp2_with fail
  go_ret
  exact ⟨ret_b HE.out.symm, rfl⟩
set_option maxRecDepth 100000 in
set_option maxHeartbeats 6400000 in
theorem fewResI (list : List ResV) (a : Option Addr) (c : Nat) (B : Nat → Prop) (w : World) (ho : (dResultS list).le maxLen) (hTab : TabW w) (h0w : 0 < w.heap.size) (hL : Rd w B (dResultS list) (.slice a list.length c)) :
    Calls Tryd.prog 12 #[.slice a list.length c, .int .i64 4096, .func (.func 13) #[] #[]] w fun e w' => e = .returned (.bool (list.all resB && decide (list.length ≤ 4096))) ∧ Below w.heap.size w w' := by
  have HL : Hid (∀ W, Below w.heap.size w W → Rd W B (dResultS list) (.slice a list.length c)) := fun W h => Rd.later hL h
  have HO := Lib.hid ho
  have HTW : Hid (∀ W, Below w.heap.size w W → TabW W ∧ 0 < W.heap.size) := fun W h => ⟨hTab.later h0w h, Nat.lt_of_lt_of_le h0w h.size⟩
  have hll : list.length ≤ maxLen := (Ls_le.1 ho).2.1
  unfold maxLen at hll
  clear ho hL hTab h0w
  by_cases h8 : 4096 < list.length
  case pos =>
    have HR := Lib.hid (fewN_long (f := resB) h8)
    have hd : decide (4096 < (list.length : Int)) = true := decide_eq_true (by omega)
    clear h8
    go_enter Tryd.func12, Tryd.ntmps12
    go_wp2_with fail
    go_ret
    exact ⟨ret_b HR.out.symm, Below.refl _ _⟩
  have hd : decide (4096 < (list.length : Int)) = false := decide_eq_false (by omega)
  have H8 := Lib.hid h8
  clear h8
  go_enter Tryd.func12, Tryd.ntmps12
  go_wp2_with fail
  go_loopw [14] (fun i wr => ∃ k : Nat, k ≤ list.length ∧ i = .int .i64 k ∧ Hid ((∀ m (h : m < list.length), m < k → resB list[m] = true) ∧ Below w.heap.size w wr)) (fun i _ => list.length - (intOf i).toNat)
  case atStart => exact ⟨0, Nat.zero_le _, rfl, fun m _ h => absurd h (by omega), Below.refl _ _⟩
  case round =>
    obtain ⟨k, hk, rfl, HW⟩ := hrel
    by_cases hlt : k < list.length
    case neg =>
      have hki : decide ((k : Int) < (list.length : Int)) = false := by simp; omega
      have HR := Lib.hid (fewN_yes (f := resB) (M := 4096) (fun m h => HW.out.1 m h (by omega)) (by have := H8.out; omega))
      go_wp2_with fail
      go_ret
      exact ⟨ret_b HR.out.symm, HW.out.2⟩
    have hki : (k : Int) < (list.length : Int) := by omega
    obtain ⟨b, off, rfl, -, hc⟩ := Rd.things (HL.out _ HW.out.2) k hlt
    obtain ⟨u0, c0, r0⟩ := hc 0 (by omega)
    obtain rfl : u0 = .int .i64 list[k].code := r0
    rw [Nat.add_zero] at c0
    obtain ⟨u1, c1, r1⟩ := hc 1 (by omega)
    obtain rfl : u1 = .int .i64 list[k].cnt := r1
    obtain ⟨u2, c2, r2⟩ := hc 2 (by omega)
    obtain rfl : u2 = .int .i64 list[k].id := r2
    obtain ⟨u3, c3, r3⟩ := hc 3 (by omega)
    replace r3 : Rd wr B (dStringS list[k].cols) u3 := r3
    obtain ⟨a3, q3, rfl⟩ := r3.lsSlice
    obtain ⟨u4, c4, r4⟩ := hc 4 (by omega)
    replace r4 : Rd wr B (dRowS list[k].rows) u4 := r4
    obtain ⟨a4, q4, rfl⟩ := r4.lsSlice
    clear hc
    have CO := Lib.hid ((resI list[k] a3 q3 a4 q4 B wr ((Ls_le.1 HO.out).2.2 k hlt 3 (by omega)) ((Ls_le.1 HO.out).2.2 k hlt 4 (by omega)) (HTW.out _ HW.out.2).1 (HTW.out _ HW.out.2).2 r3 r4))
    have HNO : Hid (resB list[k] = false → (list.all resB && decide (list.length ≤ 4096)) = false) := fun h => fewN_no hlt h
    have HNX : Hid (resB list[k] = true → ∀ m (h : m < list.length), m < k + 1 → resB list[m] = true) := fun he m h hm => by
      by_cases e : m = k
      · subst e; exact he
      · exact HW.out.1 m h (by omega)
    clear r3 r4
    generalize list[k] = x at *
    go_wp2_with fail
    refine CO.out.mono ?_
    rintro e w1 ⟨rfl, hB1⟩
    have HB1 := Lib.hid (HW.out.2.trans (hB1.mono HW.out.2.size))
    clear hB1
    cases he : resB x
    case false =>
      have HR := Lib.hid (HNO.out he)
      clear HNO HNX he CO
      go_wp2_with fail
      go_ret
      exact ⟨ret_b HR.out.symm, HB1.out⟩
    have HN := Lib.hid (HNX.out he)
    clear HNO HNX he CO
    go_wp2_with fail
    go_roundw
    case rel => exact ⟨k + 1, by omega, by go_num, HN.out, HB1.out⟩
    case measure => simp [intOf]; omega
set_option maxRecDepth 100000 in
set_option maxHeartbeats 6400000 in
theorem failedI (list : List ResV) (a : Option Addr) (c : Nat) (B : Nat → Prop) (w : World) (ho : (dResultS list).le maxLen) (hTab : TabW w) (h0w : 0 < w.heap.size) (hL : Rd w B (dResultS list) (.slice a list.length c)) :
    Calls Tryd.prog 7 #[.slice a list.length c] w fun e w' => e = .returned (.tuple #[.bool (faR list).1, .int .i64 (faR list).2]) ∧ Below w.heap.size w w' := by
  have FE := Lib.hid (fewResI list a c B w ho hTab h0w hL)
  have HF : Hid (∀ W, Below w.heap.size w W → Calls Tryd.prog 14 #[.slice a list.length c] W fun e w' => e = .returned (.bool (lastB list)) ∧ w' = W) := fun W h => hasFailedI list a c B W ho (hL.later h)
  have hll : list.length ≤ maxLen := (Ls_le.1 ho).2.1
  unfold maxLen at hll
  clear ho hL hTab h0w
  by_cases h8 : 4096 < list.length
  case pos =>
    have HR := Lib.hid (fa_long h8)
    have hd : decide (4096 < (list.length : Int)) = true := decide_eq_true (by omega)
    clear h8 FE
    go_enter Tryd.func7, Tryd.ntmps7
    go_wp2_with fail
    go_ret2
    exact ⟨by rw [HR.out]; rfl, Below.refl _ _⟩
  have hd : decide (4096 < (list.length : Int)) = false := decide_eq_false (by omega)
  have H8 := Lib.hid h8
  have hd8 : decide (list.length ≤ 4096) = true := decide_eq_true (by omega)
  rw [hd8, Bool.and_true] at FE
  clear h8 hd8
  cases he : list.all resB
  case false =>
    have HR := Lib.hid (fa_bad H8.out he)
    rw [he] at FE
    clear he
    go_enter Tryd.func7, Tryd.ntmps7
    go_wp2_with fail
    refine FE.out.mono ?_
    rintro e w1 ⟨rfl, hB⟩
    have HB := Lib.hid hB
    clear hB
    go_wp2_with fail
    go_ret2
    exact ⟨by rw [HR.out]; rfl, HB.out⟩
  have HR := Lib.hid (fa_ok H8.out he)
  rw [he] at FE
  clear he
  go_enter Tryd.func7, Tryd.ntmps7
  go_wp2_with fail
  refine FE.out.mono ?_
  rintro e w1 ⟨rfl, hB⟩
  have HB := Lib.hid hB
  clear hB
  go_wp2_with fail
  refine (HF.out _ HB.out).mono ?_
  rintro e w2 ⟨rfl, rfl⟩
  generalize lastB list = lb at *
  go_wp2_with fail
  go_ret2
  exact ⟨by rw [HR.out]; rfl, HB.out⟩
end Go.Proofs.YtndlhcdgpkeifaaDoor
