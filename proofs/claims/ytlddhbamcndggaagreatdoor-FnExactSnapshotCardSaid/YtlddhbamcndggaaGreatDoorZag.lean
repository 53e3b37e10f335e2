import Derived.Test.YtlddhbamcndggaaGreatDoorZaf
import Derived.Deep.CutRange
import Derived.Deep.QuietTactic
import Derived.Test.YtlddhbamcndggaaGreatDoorZab
import Derived.BigQuiet
import Derived.Deep.RegionWith
import Derived.Test.YtlddhbamcndggaaGreatDoorZaa
namespace Go.Proofs.YtlddhbamcndggaaGreatDoor
open Go.RowKit
set_option linter.unusedSimpArgs false
noncomputable def eqB {α : Type} (a b : α) : Bool := @decide (a = b) (Classical.propDecidable _)
theorem eqB_yes {α : Type} {a b : α} (h : a = b) : eqB a b = true := @decide_eq_true _ (Classical.propDecidable _) h
theorem eqB_no {α : Type} {a b : α} (h : ¬ a = b) : eqB a b = false := @decide_eq_false _ (Classical.propDecidable _) h
theorem eqB_at {α : Type} {a b : List α} {k : Nat} (h : k < a.length) (h' : k < b.length) (hne : ¬ a[k] = b[k]) : eqB a b = false := eqB_no (fun e => by subst e; exact hne rfl)
theorem eqB_all {α : Type} {a b : List α} (hl : a.length = b.length) (h : ∀ m (h : m < a.length) (h' : m < b.length), m < a.length → a[m] = b[m]) : eqB a b = true := eqB_yes (List.ext_getElem hl (fun i h1 h2 => h i h1 h2 h1))
theorem differD {x y : At} (h : ¬ x = y) : ¬ x.k = y.k ∨ (x.k = y.k ∧ ¬ x.n = y.n) ∨ (x.k = y.k ∧ x.n = y.n ∧ ¬ x.t = y.t) := by
  by_cases h1 : x.k = y.k
  · by_cases h2 : x.n = y.n
    · by_cases h3 : x.t = y.t
      · exact absurd (At.ext' h1 h2 h3) h
      · exact .inr (.inr ⟨h1, h2, h3⟩)
    · exact .inr (.inl ⟨h1, h2⟩)
  · exact .inl h1
set_option maxRecDepth 100000 in
set_option maxHeartbeats 3200000 in
theorem same03S (la lb : List At) (a : Option Addr) (c : Nat) (a' : Option Addr) (c' : Nat) (A B : Nat → Prop) (w : World) (ho : (dAtomS la).le maxLen) (ho' : (dAtomS lb).le maxLen) (hA : Rd w A (dAtomS la) (.slice a la.length c)) (hB : Rd w B (dAtomS lb) (.slice a' lb.length c')) :
  Calls Tryz.prog 162 #[.slice a la.length c, .slice a' lb.length c'] w fun e w' => e = .returned (.bool (eqB la lb)) ∧ Below w.heap.size w w' := by
 have hl : la.length ≤ maxLen := (Ls_le.1 ho).2.1
 unfold maxLen at hl
 have HX : Hid (∀ i (h : i < la.length) j, j < 3 → (dAtom la[i] j).le maxLen) := (Ls_le.1 ho).2.2
 have HX' : Hid (∀ i (h : i < lb.length) j, j < 3 → (dAtom lb[i] j).le maxLen) := (Ls_le.1 ho').2.2
 have HA : Hid (∀ W, Below w.heap.size w W → Rd W A (Ls 3 dAtom la) (.slice a la.length c)) := fun W h => Rd.later hA h
 have HB : Hid (∀ W, Below w.heap.size w W → Rd W B (Ls 3 dAtom lb) (.slice a' lb.length c')) := fun W h => Rd.later hB h
 clear hA hB ho ho'
 by_cases hn : la.length = lb.length
 case neg =>
  have HR : Hid (eqB la lb = false) := eqB_no (fun e => hn (by rw [e]))
  have hd : ((la.length : Int) != (lb.length : Int)) = true := by simp; omega
  go_enter Tryz.func162, Tryz.ntmps162
  go_wp2_with fail
  go_ret
  exact ⟨ret_b HR.out.symm, Below.refl _ _⟩
 have hd : ((la.length : Int) != (lb.length : Int)) = false := by simp; omega
 have HN := Lib.hid hn
 clear hn
 go_enter Tryz.func162, Tryz.ntmps162
 go_wp2_with fail
 go_loopw [5] (fun i wr => ∃ k : Nat, k ≤ la.length ∧ i = .int .i64 k ∧ Hid ((∀ m (h : m < la.length) (h' : m < lb.length), m < k → la[m] = lb[m]) ∧ Below w.heap.size w wr)) (fun i _ => la.length - (intOf i).toNat)
 case atStart => exact ⟨0, Nat.zero_le _, rfl, fun m _ _ h => absurd h (by omega), Below.refl _ _⟩
 case round =>
  obtain ⟨k, hk, rfl, HW⟩ := hrel
  by_cases hlt : k < la.length
  case neg =>
   have hki : decide ((k : Int) < (la.length : Int)) = false := by simp; omega
   have HR : Hid (eqB la lb = true) := eqB_all HN.out (fun m h h' _ => HW.out.1 m h h' (by omega))
   go_wp2_with fail
   go_ret
   exact ⟨ret_b HR.out.symm, HW.out.2⟩
  have hlt' : k < lb.length := by have := HN.out; omega
  have hki : (k : Int) < (la.length : Int) := by omega
  have hkj : (k : Int) < (lb.length : Int) := by omega
  obtain ⟨b, off, rfl, -, hc⟩ := (HA.out _ HW.out.2).things k hlt
  obtain ⟨mb, moff, rfl, -, hd⟩ := (HB.out _ HW.out.2).things k hlt'
  obtain ⟨u0, c0, r0⟩ := hc 0 (by omega)
  obtain rfl : u0 = .int .i64 la[k].k := r0
  obtain ⟨u1, c1, r1⟩ := hc 1 (by omega)
  obtain rfl : u1 = .int .i64 la[k].n := r1
  obtain ⟨u2, c2, r2⟩ := hc 2 (by omega)
  obtain rfl : u2 = .string ⟨la[k].t.toArray⟩ := r2
  replace c0 : wr.cell? ⟨b, off + k * 3, none⟩ = _ := c0
  obtain ⟨v0, d0, s0⟩ := hd 0 (by omega)
  obtain rfl : v0 = .int .i64 lb[k].k := s0
  obtain ⟨v1, d1, s1⟩ := hd 1 (by omega)
  obtain rfl : v1 = .int .i64 lb[k].n := s1
  obtain ⟨v2, d2, s2⟩ := hd 2 (by omega)
  obtain rfl : v2 = .string ⟨lb[k].t.toArray⟩ := s2
  replace d0 : wr.cell? ⟨mb, moff + k * 3, none⟩ = _ := d0
  clear hc hd
  by_cases he : la[k] = lb[k]
  case pos =>
   have HG : Hid (∀ m (h : m < la.length) (h' : m < lb.length), m < k + 1 → la[m] = lb[m]) := fun m h h' hm => by
    by_cases e : m = k
    ·
     subst e; exact he
    ·
     exact HW.out.1 m h h' (by omega)
   rw [he] at c0 c1 c2
   clear he
   generalize lb[k] = y at *
   go_wp2_with fail
   go_quiet (fail)
   go_wp2_with fail
   go_roundw
   case rel => exact ⟨k + 1, by omega, by go_num, HG.out, HW.out.2.trans (below_drewN (Below.refl _ _) _)⟩
   case measure => simp [intOf]; omega
  have HR : Hid (eqB la lb = false) := eqB_at hlt hlt' he
  rcases differD he with hd | ⟨hd, hd2⟩ | ⟨hd, hd2, hd3⟩
  ·
   skip
   clear he
   go_wp2_with fail
   go_quiet (fail)
   go_wp2_with fail
   go_ret
   exact ⟨ret_b HR.out.symm, HW.out.2.trans (below_drewN (Below.refl _ _) _)⟩
  ·
   rw [← hd] at d0
   clear he hd
   go_wp2_with fail
   go_quiet (fail)
   go_wp2_with fail
   go_ret
   exact ⟨ret_b HR.out.symm, HW.out.2.trans (below_drewN (Below.refl _ _) _)⟩
  ·
   rw [← hd] at d0
   rw [← hd2] at d1
   clear he hd hd2
   go_wp2_with fail
   go_quiet (fail)
   go_wp2_with fail
   go_ret
   exact ⟨ret_b HR.out.symm, HW.out.2.trans (below_drewN (Below.refl _ _) _)⟩
set_option maxRecDepth 100000 in
set_option maxHeartbeats 3200000 in
theorem equalI (la lb : List At) (a : Option Addr) (c : Nat) (a' : Option Addr) (c' : Nat) (A B : Nat → Prop) (w : World) (ho : (dAtomS la).le maxLen) (ho' : (dAtomS lb).le maxLen) (hA : Rd w A (dAtomS la) (.slice a la.length c)) (hB : Rd w B (dAtomS lb) (.slice a' lb.length c')) :
  Calls Tryz.prog 171 #[.slice a la.length c, .slice a' lb.length c'] w fun e w' => e = .returned (.bool (eqB la lb)) ∧ Below w.heap.size w w' := by
 have hl : la.length ≤ maxLen := (Ls_le.1 ho).2.1
 unfold maxLen at hl
 have HX : Hid (∀ i (h : i < la.length) j, j < 3 → (dAtom la[i] j).le maxLen) := (Ls_le.1 ho).2.2
 have HX' : Hid (∀ i (h : i < lb.length) j, j < 3 → (dAtom lb[i] j).le maxLen) := (Ls_le.1 ho').2.2
 have HA : Hid (∀ W, Below w.heap.size w W → Rd W A (Ls 3 dAtom la) (.slice a la.length c)) := fun W h => Rd.later hA h
 have HB : Hid (∀ W, Below w.heap.size w W → Rd W B (Ls 3 dAtom lb) (.slice a' lb.length c')) := fun W h => Rd.later hB h
 clear hA hB ho ho'
 by_cases hn : la.length = lb.length
 case neg =>
  have HR : Hid (eqB la lb = false) := eqB_no (fun e => hn (by rw [e]))
  have hd : ((la.length : Int) != (lb.length : Int)) = true := by simp; omega
  go_enter Tryz.func171, Tryz.ntmps171
  go_wp2_with fail
  go_ret
  exact ⟨ret_b HR.out.symm, Below.refl _ _⟩
 have hd : ((la.length : Int) != (lb.length : Int)) = false := by simp; omega
 have HN := Lib.hid hn
 clear hn
 go_enter Tryz.func171, Tryz.ntmps171
 go_wp2_with fail
 go_loopw [13] (fun i wr => ∃ k : Nat, k ≤ la.length ∧ i = .int .i64 k ∧ Hid ((∀ m (h : m < la.length) (h' : m < lb.length), m < k → la[m] = lb[m]) ∧ Below w.heap.size w wr)) (fun i _ => la.length - (intOf i).toNat)
 case atStart => exact ⟨0, Nat.zero_le _, rfl, fun m _ _ h => absurd h (by omega), Below.refl _ _⟩
 case round =>
  obtain ⟨k, hk, rfl, HW⟩ := hrel
  by_cases hlt : k < la.length
  case neg =>
   have hki : decide ((k : Int) < (la.length : Int)) = false := by simp; omega
   have HR : Hid (eqB la lb = true) := eqB_all HN.out (fun m h h' _ => HW.out.1 m h h' (by omega))
   go_wp2_with fail
   go_ret
   exact ⟨ret_b HR.out.symm, HW.out.2⟩
  have hlt' : k < lb.length := by have := HN.out; omega
  have hki : (k : Int) < (la.length : Int) := by omega
  have hkj : (k : Int) < (lb.length : Int) := by omega
  obtain ⟨b, off, rfl, -, hc⟩ := (HA.out _ HW.out.2).things k hlt
  obtain ⟨mb, moff, rfl, -, hd⟩ := (HB.out _ HW.out.2).things k hlt'
  obtain ⟨u0, c0, r0⟩ := hc 0 (by omega)
  obtain rfl : u0 = .int .i64 la[k].k := r0
  obtain ⟨u1, c1, r1⟩ := hc 1 (by omega)
  obtain rfl : u1 = .int .i64 la[k].n := r1
  obtain ⟨u2, c2, r2⟩ := hc 2 (by omega)
  obtain rfl : u2 = .string ⟨la[k].t.toArray⟩ := r2
  replace c0 : wr.cell? ⟨b, off + k * 3, none⟩ = _ := c0
  obtain ⟨v0, d0, s0⟩ := hd 0 (by omega)
  obtain rfl : v0 = .int .i64 lb[k].k := s0
  obtain ⟨v1, d1, s1⟩ := hd 1 (by omega)
  obtain rfl : v1 = .int .i64 lb[k].n := s1
  obtain ⟨v2, d2, s2⟩ := hd 2 (by omega)
  obtain rfl : v2 = .string ⟨lb[k].t.toArray⟩ := s2
  replace d0 : wr.cell? ⟨mb, moff + k * 3, none⟩ = _ := d0
  clear hc hd
  by_cases he : la[k] = lb[k]
  case pos =>
   have HG : Hid (∀ m (h : m < la.length) (h' : m < lb.length), m < k + 1 → la[m] = lb[m]) := fun m h h' hm => by
    by_cases e : m = k
    ·
     subst e; exact he
    ·
     exact HW.out.1 m h h' (by omega)
   rw [he] at c0 c1 c2
   clear he
   generalize lb[k] = y at *
   go_wp2_with fail
   go_quiet (fail)
   go_wp2_with fail
   go_roundw
   case rel => exact ⟨k + 1, by omega, by go_num, HG.out, HW.out.2.trans (below_drewN (Below.refl _ _) _)⟩
   case measure => simp [intOf]; omega
  have HR : Hid (eqB la lb = false) := eqB_at hlt hlt' he
  rcases differD he with hd | ⟨hd, hd2⟩ | ⟨hd, hd2, hd3⟩
  ·
   skip
   clear he
   go_wp2_with fail
   go_quiet (fail)
   go_wp2_with fail
   go_ret
   exact ⟨ret_b HR.out.symm, HW.out.2.trans (below_drewN (Below.refl _ _) _)⟩
  ·
   rw [← hd] at d0
   clear he hd
   go_wp2_with fail
   go_quiet (fail)
   go_wp2_with fail
   go_ret
   exact ⟨ret_b HR.out.symm, HW.out.2.trans (below_drewN (Below.refl _ _) _)⟩
  ·
   rw [← hd] at d0
   rw [← hd2] at d1
   clear he hd hd2
   go_wp2_with fail
   go_quiet (fail)
   go_wp2_with fail
   go_ret
   exact ⟨ret_b HR.out.symm, HW.out.2.trans (below_drewN (Below.refl _ _) _)⟩
set_option maxHeartbeats 1600000 in
theorem sameSetI (la lb : List At) (a : Option Addr) (c : Nat) (a' : Option Addr) (c' : Nat) (A B : Nat → Prop) (w : World) (ho : (dAtomS la).le maxLen) (ho' : (dAtomS lb).le maxLen) (hA : Rd w A (dAtomS la) (.slice a la.length c)) (hB : Rd w B (dAtomS lb) (.slice a' lb.length c')) :
  Calls Tryz.prog 149 #[.slice a la.length c, .slice a' lb.length c'] w fun e w' => e = .returned (.bool (eqB la lb)) ∧ Below w.heap.size w w' := by
 have CC := Lib.hid (equalI la lb a c a' c' A B w ho ho' hA hB)
 clear ho ho' hA hB
 go_enter Tryz.func149, Tryz.ntmps149
 go_wp2_with (go_at_call 171; refine CC.out.mono ?_; rintro e w1 ⟨rfl, hB1⟩)
 go_ret
 exact ⟨rfl, hB1⟩
end Go.Proofs.YtlddhbamcndggaaGreatDoor
namespace Go.Proofs.YtlddhbamcndggaaGreatDoor
open Go.RowKit
theorem at_l (s : ByteArray) (k : Nat) (h : k < s.size) : s.data.toList[k]'(by simpa using h) = s[k] := rfl
theorem text_long {s : ByteArray} (h : 200 < s.size) : textB s.data.toList = false := by
 unfold textB
 have e : s.data.toList.length = s.size := rfl
 rw [e, decide_eq_false (by omega)]; rfl
theorem text_char {s : ByteArray} (k : Nat) (h : k < s.size) (hc : charB s[k] = false) : textB s.data.toList = false := by
 unfold textB
 have : s.data.toList.all charB = false := by
  rw [List.all_eq_false]; exact ⟨s[k], by rw [← at_l s k h]; exact List.getElem_mem _, by simp [hc]⟩
 rw [this]; simp
theorem text_all {s : ByteArray} (h : s.size ≤ 200) (ha : ∀ j (hj : j < s.size), charB s[j] = true) : textB s.data.toList = true := by
 unfold textB
 have e : s.data.toList.length = s.size := rfl
 have : s.data.toList.all charB = true := by
  rw [List.all_eq_true]; intro c hc
  obtain ⟨j, hj, rfl⟩ := List.mem_iff_getElem.1 hc
  rw [at_l s j (by simpa using hj)]; exact ha j _
 rw [this, e, decide_eq_true (by omega)]; rfl
theorem char_true {c : UInt8} (h : charB c = true) : 32 ≤ (c.toNat : Int) ∧ (c.toNat : Int) ≤ 126 := by unfold charB at h; exact of_decide_eq_true h
theorem char_false {c : UInt8} (h : charB c = false) : (c.toNat : Int) < 32 ∨ 126 < (c.toNat : Int) := by unfold charB at h; have := of_decide_eq_false h; omega
set_option maxHeartbeats 800000 in
theorem textOKs (s : ByteArray) (w : World) (hs : s.size ≤ maxLen) : Calls Tryz.prog 175 #[.string s] w fun e w' => e = .returned (.bool (textB s.data.toList)) ∧ w' = w := by
 unfold maxLen at hs
 by_cases hz : 200 < s.size
 ·
  have HN : Hid (textB s.data.toList = false) := text_long hz
  go_enter Tryz.func175, Tryz.ntmps175
  go_wp2_with fail
  go_ret
  exact ⟨ret_b HN.out.symm, rfl⟩
 ·
  have b2 : decide (200 < (s.size : Int)) = false := by simp; omega
  go_enter Tryz.func175, Tryz.ntmps175
  go_wp2_with fail
  go_loop [9] (fun t => ∃ k : Nat, k ≤ s.size ∧ t = .int .i64 k ∧ Hid (∀ j (hj : j < s.size), j < k → charB s[j] = true)) (fun t => s.size - (intOf t).toNat)
  case atStart => exact ⟨0, Nat.zero_le _, rfl, fun j hj h => absurd h (by omega)⟩
  case round =>
   obtain ⟨k, hk, rfl, hall⟩ := hrel
   by_cases hlt : k < s.size
   ·
    cases hc : charB s[k]
    ·
     have HN : Hid (textB s.data.toList = false) := text_char k hlt hc
     rcases char_false hc with h1 | h1
     ·
      clear hc
      go_wp2_with fail
      go_ret
      exact ⟨ret_b HN.out.symm, rfl⟩
     ·
      have h2 : decide ((s[k].toNat : Int) < 32) = false := by simp; omega
      clear hc
      go_wp2_with fail
      go_ret
      exact ⟨ret_b HN.out.symm, rfl⟩
    ·
     have HC : Hid (charB s[k] = true) := hc
     obtain ⟨h1, h2⟩ := char_true hc
     clear hc
     go_wp2_with fail
     go_round
     case rel => exact ⟨k + 1, by omega, by go_num, fun j hj h => by rcases Nat.lt_succ_iff_lt_or_eq.1 h with h | rfl; exact hall.out j hj h; exact HC.out⟩
     case measure => simp [intOf]; omega
   ·
    have HN : Hid (textB s.data.toList = true) := text_all (by omega) (fun j hj => hall.out j hj (by omega))
    go_wp2_with fail
    go_ret
    exact ⟨ret_b HN.out.symm, rfl⟩
theorem textOK (t : List UInt8) (w : World) (hs : t.length ≤ maxLen) : Calls Tryz.prog 175 #[.string ⟨t.toArray⟩] w fun e w' => e = .returned (.bool (textB t)) ∧ w' = w :=
 textOKs ⟨t.toArray⟩ w (by show t.toArray.size ≤ maxLen; simpa using hs)
end Go.Proofs.YtlddhbamcndggaaGreatDoor
namespace Go.Proofs.YtlddhbamcndggaaGreatDoor
open Go.RowKit
set_option linter.unusedSimpArgs false
set_option maxHeartbeats 400000 in
theorem numberOK (n : Int) (w : World) : Calls Tryz.prog 164 #[.int .i64 n] w fun e w' => e = .returned (.bool (inB (-1000000000) n 1000000000)) ∧ w' = w := by
 go_enter Tryz.func164, Tryz.ntmps164
 go_wp2
 all_goals
  go_ret
  refine ⟨ret_b ?_, rfl⟩
  rw [Bool.eq_iff_iff]; simp [inB]; try omega
set_option maxHeartbeats 400000 in
theorem inS (n lo hi : Int) (w : World) : Calls Tryz.prog 54 #[.int .i64 n, .int .i64 lo, .int .i64 hi] w fun e w' => e = .returned (.bool (inB lo n hi)) ∧ w' = w := by
 go_enter Tryz.func54, Tryz.ntmps54
 go_wp2
 all_goals
  go_ret
  refine ⟨ret_b ?_, rfl⟩
  rw [Bool.eq_iff_iff]; simp [inB]; try omega
theorem text_end {s : ByteArray} (ha : ∀ j (hj : j < s.size), charB s[j] = true) : textB s.data.toList = decide ((s.size : Int) ≤ 200) := by
  by_cases h : s.size ≤ 200
  · rw [text_all h ha, decide_eq_true (by omega)]
  · rw [text_long (by omega), decide_eq_false (by omega)]
set_option maxHeartbeats 800000 in
theorem textSs (s : ByteArray) (w : World) (hs : s.size ≤ maxLen) : Calls Tryz.prog 160 #[.string s] w fun e w' => e = .returned (.bool (textB s.data.toList)) ∧ w' = w := by
 unfold maxLen at hs
 go_enter Tryz.func160, Tryz.ntmps160
 go_wp2_with fail
 go_loop [3] (fun t => ∃ k : Nat, k ≤ s.size ∧ t = .int .i64 k ∧ Hid (∀ j (hj : j < s.size), j < k → charB s[j] = true)) (fun t => s.size - (intOf t).toNat)
 case atStart => exact ⟨0, Nat.zero_le _, rfl, fun j hj h => absurd h (by omega)⟩
 case round =>
  obtain ⟨k, hk, rfl, hall⟩ := hrel
  by_cases hlt : k < s.size
  ·
   cases hc : charB s[k]
   ·
    have HN : Hid (textB s.data.toList = false) := text_char k hlt hc
    rcases char_false hc with h1 | h1
    ·
     clear hc
     go_wp2_with fail
     go_ret
     exact ⟨ret_b HN.out.symm, rfl⟩
    ·
     have h2 : decide ((s[k].toNat : Int) < 32) = false := by simp; omega
     clear hc
     go_wp2_with fail
     go_ret
     exact ⟨ret_b HN.out.symm, rfl⟩
   ·
    have HC : Hid (charB s[k] = true) := hc
    obtain ⟨h1, h2⟩ := char_true hc
    clear hc
    go_wp2_with fail
    go_round
    case rel => exact ⟨k + 1, by omega, by go_num, fun j hj h => by rcases Nat.lt_succ_iff_lt_or_eq.1 h with h | rfl; exact hall.out j hj h; exact HC.out⟩
    case measure => simp [intOf]; omega
  ·
   have HN : Hid (textB s.data.toList = decide ((s.size : Int) ≤ 200)) := text_end (fun j hj => hall.out j hj (by omega))
   go_wp2_with fail
   all_goals
    go_ret
    exact ⟨ret_b HN.out.symm, rfl⟩
theorem textS (t : List UInt8) (w : World) (hs : t.length ≤ maxLen) : Calls Tryz.prog 160 #[.string ⟨t.toArray⟩] w fun e w' => e = .returned (.bool (textB t)) ∧ w' = w :=
 textSs ⟨t.toArray⟩ w (by show t.toArray.size ≤ maxLen; simpa using hs)
def atZ : At := ⟨0, 0, []⟩
def atF (l : List At) (m : Nat) : Value := if m % 3 = 0 then .int .i64 (l.getD (m / 3) atZ).k else if m % 3 = 1 then .int .i64 (l.getD (m / 3) atZ).n else .string ⟨(l.getD (m / 3) atZ).t.toArray⟩
theorem at_getD {l : List At} {i : Nat} (h : i < l.length) : l.getD i atZ = l[i] := by rw [List.getD_eq_getElem?_getD, List.getElem?_eq_getElem h]; rfl
theorem atF0 {l : List At} {i : Nat} (h : i < l.length) : atF l (i * 3) = .int .i64 l[i].k := by
 unfold atF
 rw [if_pos (by omega), show i * 3 / 3 = i by omega, at_getD h]
theorem atF1 {l : List At} {i : Nat} (h : i < l.length) : atF l (i * 3 + 1) = .int .i64 l[i].n := by
 unfold atF
 rw [if_neg (by omega), if_pos (by omega), show (i * 3 + 1) / 3 = i by omega, at_getD h]
theorem atF2 {l : List At} {i : Nat} (h : i < l.length) : atF l (i * 3 + 2) = .string ⟨l[i].t.toArray⟩ := by
 unfold atF
 rw [if_neg (by omega), if_neg (by omega), show (i * 3 + 2) / 3 = i by omega, at_getD h]
def Ats (w : World) (B : Nat → Prop) (a : Option Addr) (l : List At) : Prop :=
 l.length = 0 ∨ ∃ b off, a = some ⟨b, off, none⟩ ∧ B b ∧ ∀ m, m < l.length * 3 → w.cell? ⟨b, off + m, none⟩ = some (atF l m)
def OwnAts (w : World) (B : Nat → Prop) (a : Option Addr) (l : List At) : Prop :=
 l.length = 0 ∨ ∃ b off, a = some ⟨b, off, none⟩ ∧ B b ∧ ∀ m, m < l.length * 3 → w.cell? ⟨b, off + m, none⟩ = some (atF l m) ∧ w.frozen? ⟨b, off + m, none⟩ = false
theorem Ats.same {w w' : World} {B B' : Nat → Prop} {a : Option Addr} {l : List At} (h : Ats w B a l) (hs : ∀ b, B b → w'.heap[b]? = w.heap[b]?) (hB : ∀ b, B b → B' b) : Ats w' B' a l := by
  rcases h with h | ⟨b, off, ha, hb, hc⟩
  · exact .inl h
  · exact .inr ⟨b, off, ha, hB b hb, fun m hm => by rw [World.cell?_of_block (w := w) (a := ⟨b, off + m, none⟩) (hs b hb)]; exact hc m hm⟩
theorem OwnAts.same {w w' : World} {B B' : Nat → Prop} {a : Option Addr} {l : List At} (h : OwnAts w B a l) (hs : ∀ b, B b → w'.heap[b]? = w.heap[b]?) (hB : ∀ b, B b → B' b) : OwnAts w' B' a l := by
 rcases h with h | ⟨b, off, ha, hb, hc⟩
 ·
  exact .inl h
 ·
  exact .inr ⟨b, off, ha, hB b hb, fun m hm => by
   rw [World.cell?_of_block (w := w) (a := ⟨b, off + m, none⟩) (hs b hb), World.frozen?_of_block (w := w) (a := ⟨b, off + m, none⟩) (hs b hb)]; exact hc m hm⟩
theorem Ats.below {w w' : World} {S : Nat} {a : Option Addr} {l : List At} (h : Ats w (· < S) a l) (hb : Below S w w') : Ats w' (· < S) a l := h.same (fun b hb' => hb.block b hb') (fun _ h => h)
theorem Ats.inside {w : World} {B : Nat → Prop} {a : Option Addr} {l : List At} (h : Ats w B a l) : Ats w (fun b => B b ∧ b < w.heap.size) a l := by
  rcases h with h | ⟨b, off, ha, hb, hc⟩
  · exact .inl h
  · by_cases h0 : l.length = 0
    · exact .inl h0
    · exact .inr ⟨b, off, ha, ⟨hb, World.block_lt_of_cell? _ _ (hc 0 (by omega))⟩, hc⟩
theorem Ats.later {w w' : World} {B : Nat → Prop} {a : Option Addr} {l : List At} (h : Ats w B a l) (hb : Below w.heap.size w w') : Ats w' B a l := h.inside.same (fun b hb' => hb.block b hb'.2) (fun _ h => h.1)
theorem Ats.item {w : World} {B : Nat → Prop} {a : Option Addr} {l : List At} (h : Ats w B a l) (k : Nat) (hk : k < l.length) :
  ∃ b off, a = some ⟨b, off, none⟩ ∧ B b ∧ w.cell? ⟨b, off + k * 3, none⟩ = some (.int .i64 l[k].k) ∧ w.cell? ⟨b, off + k * 3 + 1, none⟩ = some (.int .i64 l[k].n) ∧ w.cell? ⟨b, off + k * 3 + 2, none⟩ = some (.string ⟨l[k].t.toArray⟩) := by
 rcases h with h | ⟨b, off, ha, hb, hc⟩
 ·
  omega
 ·
  exact ⟨b, off, ha, hb, by rw [hc _ (by omega), atF0 hk], by rw [Nat.add_assoc, hc _ (by omega), atF1 hk], by rw [Nat.add_assoc, hc _ (by omega), atF2 hk]⟩
theorem heap_newA (w : World) (o : Obj) : (w.alloc o).heap[w.heap.size]? = some o := by
 show (w.heap.push o)[w.heap.size]? = _
 simp
theorem heap_keptA {w w' : World} {b : Nat} {o : Obj} (h : w.heap[b]? = some o) (hB : Below w.heap.size w w') : w'.heap[b]? = some o := by
 rw [hB.block b (Array.getElem?_eq_some_iff.1 h).1]; exact h
theorem infoAt : (Tryz.prog.info? 165).map (fun i => (i.zero, i.size, i.bytes)) = some (some (.agg #[.int .i64 0, .int .i64 0, .string ⟨#[]⟩]), 3, 32) := by kernel_rfl
def zeroAt : Array Value := #[.int .i64 0, .int .i64 0, .string ⟨#[]⟩]
theorem infoAt' : ∃ i, Tryz.prog.info? 165 = some i ∧ i.zero = some (.agg zeroAt) ∧ i.size = 3 ∧ i.bytes = 32 := by
 obtain ⟨i, hi, hzz⟩ := Option.map_eq_some_iff.1 infoAt
 simp only [Prod.mk.injEq] at hzz
 exact ⟨i, hi, hzz⟩
end Go.Proofs.YtlddhbamcndggaaGreatDoor
