import Derived.Test.YtndlhcdgpkeifaaGreatZax
namespace Go.Proofs.YtndlhcdgpkeifaaGreat
open Go.RowKit
set_option linter.unusedSimpArgs false
def mutsB (list : List MutV) : Bool := list.all mutB && decide (list.length ≤ 8)
theorem muts_no {list : List MutV} {k : Nat} (hk : k < list.length) (h : mutB list[k] = false) : mutsB list = false := by
  unfold mutsB
  rw [List.all_eq_false.2 ⟨_, List.getElem_mem hk, by simp [h]⟩]; rfl
theorem muts_yes {list : List MutV} (h : ∀ k (hk : k < list.length), mutB list[k] = true) : mutsB list = decide (list.length ≤ 8) := by
  unfold mutsB
  rw [List.all_eq_true.2 (fun x hx => by obtain ⟨k, hk, rfl⟩ := List.mem_iff_getElem.1 hx; exact h k hk), Bool.true_and]
theorem le_mut {list : List MutV} {K : Nat} (h : (dMutS list).le K) {k : Nat} (hk : k < list.length) : list[k].col.length ≤ K ∧ (dAtomS list[k].val).le K :=
  ⟨(Ls_le.1 h).2.2 k hk 0 (by omega), (Ls_le.1 h).2.2 k hk 2 (by omega)⟩
set_option maxRecDepth 100000 in
set_option maxHeartbeats 3200000 in
theorem mlistS (list : List MutV) (a : Option Addr) (c : Nat) (B : Nat → Prop) (w : World) (ho : (dMutS list).le maxLen) (hL : Rd w B (dMutS list) (.slice a list.length c)) :
    Calls Tryz.prog 47 #[.slice a list.length c] w fun e w' => e = .returned (.bool (mutsB list)) ∧ Below w.heap.size w w' := by
  have HL : Hid (∀ W, Below w.heap.size w W → Rd W B (Ls 3 dMut list) (.slice a list.length c)) := fun W h => Rd.later hL h
  have HO := Lib.hid ho
  have hll : list.length ≤ maxLen := (Ls_le.1 ho).2.1
  unfold maxLen at hll
  clear ho hL
  go_enter Tryz.func47, Tryz.ntmps47
  go_wp2_with fail
  go_loopw [3] (fun i wr => ∃ k : Nat, k ≤ list.length ∧ i = .int .i64 k ∧ Hid ((∀ m (h : m < list.length), m < k → mutB list[m] = true) ∧ Below w.heap.size w wr)) (fun i _ => list.length - (intOf i).toNat)
  case atStart => exact ⟨0, Nat.zero_le _, rfl, fun m _ h => absurd h (by omega), Below.refl _ _⟩
  case round =>
    obtain ⟨k, hk, rfl, HW⟩ := hrel
    by_cases hlt : k < list.length
    case neg =>
      have hki : decide ((k : Int) < (list.length : Int)) = false := by simp; omega
      have HR : Hid (mutsB list = decide (list.length ≤ 8)) := muts_yes (fun m h => HW.out.1 m h (by omega))
      go_wp2_with fail
      go_ret
      exact ⟨ret_b (by rw [HR.out]; simp; omega), HW.out.2⟩
    have hki : (k : Int) < (list.length : Int) := by omega
    obtain ⟨b, off, rfl, -, hc⟩ := (HL.out _ HW.out.2).things k hlt
    obtain ⟨u0, c0, r0⟩ := hc 0 (by omega)
    obtain rfl : u0 = .string ⟨list[k].col.toArray⟩ := r0
    rw [Nat.add_zero] at c0
    obtain ⟨u1, c1, r1⟩ := hc 1 (by omega)
    obtain rfl : u1 = .int .i64 list[k].fn := r1
    obtain ⟨u2, c2, r2⟩ := hc 2 (by omega)
    replace r2 : Rd wr B (dAtomS list[k].val) u2 := r2
    obtain ⟨va, vc, rfl⟩ := r2.lsSlice
    have HR2 := Lib.hid r2
    clear hc r2
    have CO := Lib.hid (mutOKs list[k] va vc wr.heap.size wr (le_mut HO.out hlt).1 (le_atoms (le_mut HO.out hlt).2).1 (le_atoms (le_mut HO.out hlt).2).2 (Nat.le_refl _) HR2.out.lt.ats)
    have HNO : Hid (mutB list[k] = false → mutsB list = false) := fun h => muts_no hlt h
    have HNX : Hid (mutB list[k] = true → ∀ m (h : m < list.length), m < k + 1 → mutB list[m] = true) := fun he m h hm => by
      by_cases e : m = k
      · subst e; exact he
      · exact HW.out.1 m h (by omega)
    clear HR2
    generalize list[k] = x at *
    go_wp2_with fail
    refine CO.out.mono ?_
    rintro e w1 ⟨rfl, hB1⟩
    have HB1 := Lib.hid (HW.out.2.trans (hB1.mono HW.out.2.size))
    clear hB1 c0 c1 c2
    cases he : mutB x
    case false =>
      have HR := Lib.hid (HNO.out he)
      clear HNO HNX he CO
      go_wp2_with fail
      go_ret
      exact ⟨ret_b HR.out.symm, HB1.out⟩
    have HN := Lib.hid (HNX.out he)
    clear HNO HNX he CO
    go_wp2_with fail
    go_roundw
    case rel => exact ⟨k + 1, by omega, by go_num, HN.out, HB1.out⟩
    case measure => simp [intOf]; omega
set_option maxRecDepth 100000 in
set_option maxHeartbeats 3200000 in
theorem mfewI (list : List MutV) (a : Option Addr) (c : Nat) (B : Nat → Prop) (w : World) (ho : (dMutS list).le maxLen) (hL : Rd w B (dMutS list) (.slice a list.length c)) :
    Calls Tryz.prog 69 #[.slice a list.length c, .int .i64 8, .func (.func 70) #[] #[]] w fun e w' => e = .returned (.bool (mutsB list)) ∧ Below w.heap.size w w' := by
  have HL : Hid (∀ W, Below w.heap.size w W → Rd W B (Ls 3 dMut list) (.slice a list.length c)) := fun W h => Rd.later hL h
  have HO := Lib.hid ho
  have hll : list.length ≤ maxLen := (Ls_le.1 ho).2.1
  unfold maxLen at hll
  clear ho hL
  by_cases h8 : 8 < list.length
  case pos =>
    have HR : Hid (mutsB list = false) := by show mutsB list = false; unfold mutsB; rw [decide_eq_false (by omega), Bool.and_false]
    have hd : decide (8 < (list.length : Int)) = true := decide_eq_true (by omega)
    clear h8
    go_enter Tryz.func69, Tryz.ntmps69
    go_wp2_with fail
    go_ret
    exact ⟨ret_b HR.out.symm, Below.refl _ _⟩
  have hd : decide (8 < (list.length : Int)) = false := decide_eq_false (by omega)
  have H8 := Lib.hid h8
  clear h8
  go_enter Tryz.func69, Tryz.ntmps69
  go_wp2_with fail
  go_loopw [14] (fun i wr => ∃ k : Nat, k ≤ list.length ∧ i = .int .i64 k ∧ Hid ((∀ m (h : m < list.length), m < k → mutB list[m] = true) ∧ Below w.heap.size w wr)) (fun i _ => list.length - (intOf i).toNat)
  case atStart => exact ⟨0, Nat.zero_le _, rfl, fun m _ h => absurd h (by omega), Below.refl _ _⟩
  case round =>
    obtain ⟨k, hk, rfl, HW⟩ := hrel
    by_cases hlt : k < list.length
    case neg =>
      have hki : decide ((k : Int) < (list.length : Int)) = false := by simp; omega
      have HR : Hid (mutsB list = decide (list.length ≤ 8)) := muts_yes (fun m h => HW.out.1 m h (by omega))
      go_wp2_with fail
      go_ret
      exact ⟨ret_b (by rw [HR.out]; have := H8.out; simp; omega), HW.out.2⟩
    have hki : (k : Int) < (list.length : Int) := by omega
    obtain ⟨b, off, rfl, -, hc⟩ := (HL.out _ HW.out.2).things k hlt
    obtain ⟨u0, c0, r0⟩ := hc 0 (by omega)
    obtain rfl : u0 = .string ⟨list[k].col.toArray⟩ := r0
    rw [Nat.add_zero] at c0
    obtain ⟨u1, c1, r1⟩ := hc 1 (by omega)
    obtain rfl : u1 = .int .i64 list[k].fn := r1
    obtain ⟨u2, c2, r2⟩ := hc 2 (by omega)
    replace r2 : Rd wr B (dAtomS list[k].val) u2 := r2
    obtain ⟨va, vc, rfl⟩ := r2.lsSlice
    have HR2 := Lib.hid r2
    clear hc r2
    have CO := Lib.hid (mutOKi list[k] va vc wr.heap.size wr (le_mut HO.out hlt).1 (le_atoms (le_mut HO.out hlt).2).1 (le_atoms (le_mut HO.out hlt).2).2 (Nat.le_refl _) HR2.out.lt.ats)
    have HNO : Hid (mutB list[k] = false → mutsB list = false) := fun h => muts_no hlt h
    have HNX : Hid (mutB list[k] = true → ∀ m (h : m < list.length), m < k + 1 → mutB list[m] = true) := fun he m h hm => by
      by_cases e : m = k
      · subst e; exact he
      · exact HW.out.1 m h (by omega)
    clear HR2
    generalize list[k] = x at *
    go_wp2_with fail
    refine CO.out.mono ?_
    rintro e w1 ⟨rfl, hB1⟩
    have HB1 := Lib.hid (HW.out.2.trans (hB1.mono HW.out.2.size))
    clear hB1 c0 c1 c2
    cases he : mutB x
    case false =>
      have HR := Lib.hid (HNO.out he)
      clear HNO HNX he CO
      go_wp2_with fail
      go_ret
      exact ⟨ret_b HR.out.symm, HB1.out⟩
    have HN := Lib.hid (HNX.out he)
    clear HNO HNX he CO
    go_wp2_with fail
    go_roundw
    case rel => exact ⟨k + 1, by omega, by go_num, HN.out, HB1.out⟩
    case measure => simp [intOf]; omega
end Go.Proofs.YtndlhcdgpkeifaaGreat
