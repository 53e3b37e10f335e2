import Derived.Test.YtlddhbamcndggaaGreatDoorZad
import Derived.Test.YtlddhbamcndggaaGreatDoorZai
import Derived.Test.YtlddhbamcndggaaGreatDoorZaq
import Derived.Test.YtlddhbamcndggaaGreatDoorZao
namespace Go.Proofs.YtlddhbamcndggaaGreatDoor
open Go.RowKit
set_option linter.unusedSimpArgs false
theorem le_text {l : List (List UInt8)} {K : Nat} (h : (dStringS l).le K) {k : Nat} (hk : k < l.length) : l[k].length ≤ K := (Ls_le.1 h).2.2 k hk 0 (by omega)
theorem fewN_no {α : Type} {f : α → Bool} {l : List α} {M k : Nat} (hk : k < l.length) (h : f l[k] = false) : (l.all f && decide (l.length ≤ M)) = false := by
 rw [List.all_eq_false.2 ⟨_, List.getElem_mem hk, by simp [h]⟩]; rfl
theorem fewN_yes {α : Type} {f : α → Bool} {l : List α} {M : Nat} (h : ∀ k (hk : k < l.length), f l[k] = true) (hl : l.length ≤ M) : (l.all f && decide (l.length ≤ M)) = true := by
 rw [List.all_eq_true.2 (fun x hx => by obtain ⟨k, hk, rfl⟩ := List.mem_iff_getElem.1 hx; exact h k hk), decide_eq_true hl]; rfl
theorem fewN_long {α : Type} {f : α → Bool} {l : List α} {M : Nat} (h : M < l.length) : (l.all f && decide (l.length ≤ M)) = false := by rw [decide_eq_false (by omega), Bool.and_false]
def shortB (s : List UInt8) : Bool := decide (s.length ≤ 40)
set_option maxRecDepth 100000 in
theorem shortI (s : List UInt8) (w : World) (hs : s.length ≤ maxLen) : Calls Tryz.prog 70 #[.string ⟨s.toArray⟩] w fun e w' => e = .returned (.bool (shortB s)) ∧ w' = w := by
 unfold maxLen at hs
 by_cases h : s.length ≤ 40
 ·
  have d1 : decide ((s.length : Int) ≤ 40) = true := decide_eq_true (by omega)
  have HR : Hid (shortB s = true) := by show shortB s = true; unfold shortB; exact decide_eq_true h
  clear h
  go_enter Tryz.func70, Tryz.ntmps70
  go_wp2_with fail
  go_ret
  exact ⟨ret_b HR.out.symm, rfl⟩
 ·
  have d1 : decide ((s.length : Int) ≤ 40) = false := decide_eq_false (by omega)
  have HR : Hid (shortB s = false) := by show shortB s = false; unfold shortB; exact decide_eq_false h
  clear h
  go_enter Tryz.func70, Tryz.ntmps70
  go_wp2_with fail
  go_ret
  exact ⟨ret_b HR.out.symm, rfl⟩
set_option maxRecDepth 100000 in
set_option maxHeartbeats 6400000 in
theorem fewNamesI (list : List (List UInt8)) (a : Option Addr) (c : Nat) (B : Nat → Prop) (w : World) (ho : (dStringS list).le maxLen) (hL : Rd w B (dStringS list) (.slice a list.length c)) :
  Calls Tryz.prog 71 #[.slice a list.length c, .int .i64 8, .func (.func 69) #[] #[]] w fun e w' => e = .returned (.bool (list.all nameB && decide (list.length ≤ 8))) ∧ Below w.heap.size w w' := by
 have HL : Hid (∀ W, Below w.heap.size w W → Rd W B (dStringS list) (.slice a list.length c)) := fun W h => Rd.later hL h
 have HO := Lib.hid ho
 have hll : list.length ≤ maxLen := (Ls_le.1 ho).2.1
 unfold maxLen at hll
 clear ho hL
 by_cases h8 : 8 < list.length
 case pos =>
  have HR := Lib.hid (fewN_long (f := nameB) h8)
  have hd : decide (8 < (list.length : Int)) = true := decide_eq_true (by omega)
  clear h8
  go_enter Tryz.func71, Tryz.ntmps71
  go_wp2_with fail
  go_ret
  exact ⟨ret_b HR.out.symm, Below.refl _ _⟩
 have hd : decide (8 < (list.length : Int)) = false := decide_eq_false (by omega)
 have H8 := Lib.hid h8
 clear h8
 go_enter Tryz.func71, Tryz.ntmps71
 go_wp2_with fail
 go_loopw [14] (fun i wr => ∃ k : Nat, k ≤ list.length ∧ i = .int .i64 k ∧ Hid ((∀ m (h : m < list.length), m < k → nameB list[m] = true) ∧ Below w.heap.size w wr)) (fun i _ => list.length - (intOf i).toNat)
 case atStart => exact ⟨0, Nat.zero_le _, rfl, fun m _ h => absurd h (by omega), Below.refl _ _⟩
 case round =>
  obtain ⟨k, hk, rfl, HW⟩ := hrel
  by_cases hlt : k < list.length
  case neg =>
   have hki : decide ((k : Int) < (list.length : Int)) = false := by simp; omega
   have HR := Lib.hid (fewN_yes (f := nameB) (M := 8) (fun m h => HW.out.1 m h (by omega)) (by have := H8.out; omega))
   go_wp2_with fail
   go_ret
   exact ⟨ret_b HR.out.symm, HW.out.2⟩
  have hki : (k : Int) < (list.length : Int) := by omega
  obtain ⟨b, off, rfl, -, hc⟩ := Rd.things (HL.out _ HW.out.2) k hlt
  obtain ⟨u0, c0, r0⟩ := hc 0 (by omega)
  obtain rfl : u0 = .string ⟨list[k].toArray⟩ := r0
  rw [Nat.mul_one, Nat.add_zero] at c0
  clear hc
  have CO := Lib.hid (nameI list[k] wr (le_text HO.out hlt))
  have HNO : Hid (nameB list[k] = false → (list.all nameB && decide (list.length ≤ 8)) = false) := fun h => fewN_no hlt h
  have HNX : Hid (nameB list[k] = true → ∀ m (h : m < list.length), m < k + 1 → nameB list[m] = true) := fun he m h hm => by
   by_cases e : m = k
   ·
    subst e; exact he
   ·
    exact HW.out.1 m h (by omega)
  generalize list[k] = x at *
  go_wp2_with fail
  refine CO.out.mono ?_
  rintro e w1 ⟨rfl, rfl⟩
  cases he : nameB x
  case false =>
   have HR := Lib.hid (HNO.out he)
   clear HNO HNX he CO
   go_wp2_with fail
   go_ret
   exact ⟨ret_b HR.out.symm, HW.out.2⟩
  have HN := Lib.hid (HNX.out he)
  clear HNO HNX he CO
  go_wp2_with fail
  go_roundw
  case rel => exact ⟨k + 1, by omega, by go_num, HN.out, HW.out.2⟩
  case measure => simp [intOf]; omega
set_option maxRecDepth 100000 in
set_option maxHeartbeats 6400000 in
theorem fewShortI (list : List (List UInt8)) (a : Option Addr) (c : Nat) (B : Nat → Prop) (w : World) (ho : (dStringS list).le maxLen) (hL : Rd w B (dStringS list) (.slice a list.length c)) :
  Calls Tryz.prog 71 #[.slice a list.length c, .int .i64 6, .func (.func 70) #[] #[]] w fun e w' => e = .returned (.bool (list.all shortB && decide (list.length ≤ 6))) ∧ Below w.heap.size w w' := by
 have HL : Hid (∀ W, Below w.heap.size w W → Rd W B (dStringS list) (.slice a list.length c)) := fun W h => Rd.later hL h
 have HO := Lib.hid ho
 have hll : list.length ≤ maxLen := (Ls_le.1 ho).2.1
 unfold maxLen at hll
 clear ho hL
 by_cases h8 : 6 < list.length
 case pos =>
  have HR := Lib.hid (fewN_long (f := shortB) h8)
  have hd : decide (6 < (list.length : Int)) = true := decide_eq_true (by omega)
  clear h8
  go_enter Tryz.func71, Tryz.ntmps71
  go_wp2_with fail
  go_ret
  exact ⟨ret_b HR.out.symm, Below.refl _ _⟩
 have hd : decide (6 < (list.length : Int)) = false := decide_eq_false (by omega)
 have H8 := Lib.hid h8
 clear h8
 go_enter Tryz.func71, Tryz.ntmps71
 go_wp2_with fail
 go_loopw [14] (fun i wr => ∃ k : Nat, k ≤ list.length ∧ i = .int .i64 k ∧ Hid ((∀ m (h : m < list.length), m < k → shortB list[m] = true) ∧ Below w.heap.size w wr)) (fun i _ => list.length - (intOf i).toNat)
 case atStart => exact ⟨0, Nat.zero_le _, rfl, fun m _ h => absurd h (by omega), Below.refl _ _⟩
 case round =>
  obtain ⟨k, hk, rfl, HW⟩ := hrel
  by_cases hlt : k < list.length
  case neg =>
   have hki : decide ((k : Int) < (list.length : Int)) = false := by simp; omega
   have HR := Lib.hid (fewN_yes (f := shortB) (M := 6) (fun m h => HW.out.1 m h (by omega)) (by have := H8.out; omega))
   go_wp2_with fail
   go_ret
   exact ⟨ret_b HR.out.symm, HW.out.2⟩
  have hki : (k : Int) < (list.length : Int) := by omega
  obtain ⟨b, off, rfl, -, hc⟩ := Rd.things (HL.out _ HW.out.2) k hlt
  obtain ⟨u0, c0, r0⟩ := hc 0 (by omega)
  obtain rfl : u0 = .string ⟨list[k].toArray⟩ := r0
  rw [Nat.mul_one, Nat.add_zero] at c0
  clear hc
  have CO := Lib.hid (shortI list[k] wr (le_text HO.out hlt))
  have HNO : Hid (shortB list[k] = false → (list.all shortB && decide (list.length ≤ 6)) = false) := fun h => fewN_no hlt h
  have HNX : Hid (shortB list[k] = true → ∀ m (h : m < list.length), m < k + 1 → shortB list[m] = true) := fun he m h hm => by
   by_cases e : m = k
   ·
    subst e; exact he
   ·
    exact HW.out.1 m h (by omega)
  generalize list[k] = x at *
  go_wp2_with fail
  refine CO.out.mono ?_
  rintro e w1 ⟨rfl, rfl⟩
  cases he : shortB x
  case false =>
   have HR := Lib.hid (HNO.out he)
   clear HNO HNX he CO
   go_wp2_with fail
   go_ret
   exact ⟨ret_b HR.out.symm, HW.out.2⟩
  have HN := Lib.hid (HNX.out he)
  clear HNO HNX he CO
  go_wp2_with fail
  go_roundw
  case rel => exact ⟨k + 1, by omega, by go_num, HN.out, HW.out.2⟩
  case measure => simp [intOf]; omega
end Go.Proofs.YtlddhbamcndggaaGreatDoor
