import Derived.Test.YtdioppekeekilaaGreatDoorMac
import Derived.Deep.CutRange
import Derived.Deep.QuietTactic
import Derived.Test.YtdioppekeekilaaGreatDoorMab
import Derived.BigQuiet
import Derived.Deep.RegionWith
import Derived.Test.YtdioppekeekilaaGreatDoorMaa
namespace Go.Proofs.YtdioppekeekilaaGreatDoor
open Go.RowKit
set_option linter.unusedSimpArgs false
noncomputable def eqB {α : Type} (a b : α) : Bool := @decide (a = b) (Classical.propDecidable _)
theorem eqB_yes {α : Type} {a b : α} (h : a = b) : eqB a b = true := @decide_eq_true _ (Classical.propDecidable _) h
theorem eqB_no {α : Type} {a b : α} (h : ¬ a = b) : eqB a b = false := @decide_eq_false _ (Classical.propDecidable _) h
theorem eqB_iff {α : Type} {a b : α} : eqB a b = true ↔ a = b := ⟨fun h => @of_decide_eq_true _ (Classical.propDecidable _) h, eqB_yes⟩
theorem eqB_at {α : Type} {a b : List α} {k : Nat} (h : k < a.length) (h' : k < b.length) (hne : ¬ a[k] = b[k]) : eqB a b = false := eqB_no (fun e => by subst e; exact hne rfl)
theorem eqB_all {α : Type} {a b : List α} (hl : a.length = b.length) (h : ∀ m (h : m < a.length) (h' : m < b.length), m < a.length → a[m] = b[m]) : eqB a b = true := eqB_yes (List.ext_getElem hl (fun i h1 h2 => h i h1 h2 h1))
/-- three ways in which two atoms differ -/
theorem differD {x y : At} (h : ¬ x = y) : ¬ x.k = y.k ∨ (x.k = y.k ∧ ¬ x.n = y.n) ∨ (x.k = y.k ∧ x.n = y.n ∧ ¬ x.t = y.t) := by
  by_cases h1 : x.k = y.k
  · by_cases h2 : x.n = y.n
    · by_cases h3 : x.t = y.t
      · exact absurd (At.ext' h1 h2 h3) h
      · exact .inr (.inr ⟨h1, h2, h3⟩)
    · exact .inr (.inl ⟨h1, h2⟩)
  · exact .inl h1
set_option maxRecDepth 100000 in
set_option maxHeartbeats 3200000 in
theorem same03S (la lb : List At) (a : Option Addr) (c : Nat) (a' : Option Addr) (c' : Nat) (A B : Nat → Prop) (w : World) (ho : (dAtomS la).le maxLen) (ho' : (dAtomS lb).le maxLen) (hA : Rd w A (dAtomS la) (.slice a la.length c)) (hB : Rd w B (dAtomS lb) (.slice a' lb.length c')) :
    Calls Tryz.prog 52 #[.slice a la.length c, .slice a' lb.length c'] w fun e w' => e = .returned (.bool (eqB la lb)) ∧ Below w.heap.size w w' := by
  have hl : la.length ≤ maxLen := (Ls_le.1 ho).2.1
  unfold maxLen at hl
  have HX : Hid (∀ i (h : i < la.length) j, j < 3 → (dAtom la[i] j).le maxLen) := (Ls_le.1 ho).2.2
  have HX' : Hid (∀ i (h : i < lb.length) j, j < 3 → (dAtom lb[i] j).le maxLen) := (Ls_le.1 ho').2.2
  have HA : Hid (∀ W, Below w.heap.size w W → Rd W A (Ls 3 dAtom la) (.slice a la.length c)) := fun W h => Rd.later hA h
  have HB : Hid (∀ W, Below w.heap.size w W → Rd W B (Ls 3 dAtom lb) (.slice a' lb.length c')) := fun W h => Rd.later hB h
  clear hA hB ho ho'
  by_cases hn : la.length = lb.length
  case neg =>
    have HR : Hid (eqB la lb = false) := eqB_no (fun e => hn (by rw [e]))
    have hd : ((la.length : Int) != (lb.length : Int)) = true := by simp; omega
    go_enter Tryz.func52, Tryz.ntmps52
    go_wp2_with fail
    go_ret
    exact ⟨ret_b HR.out.symm, Below.refl _ _⟩
  have hd : ((la.length : Int) != (lb.length : Int)) = false := by simp; omega
  have HN := Lib.hid hn
  clear hn
  go_enter Tryz.func52, Tryz.ntmps52
  go_wp2_with fail
  go_loopw [5] (fun i wr => ∃ k : Nat, k ≤ la.length ∧ i = .int .i64 k ∧ Hid ((∀ m (h : m < la.length) (h' : m < lb.length), m < k → la[m] = lb[m]) ∧ Below w.heap.size w wr)) (fun i _ => la.length - (intOf i).toNat)
  case atStart => exact ⟨0, Nat.zero_le _, rfl, fun m _ _ h => absurd h (by omega), Below.refl _ _⟩
  case round =>
    obtain ⟨k, hk, rfl, HW⟩ := hrel
    by_cases hlt : k < la.length
    case neg =>
      have hki : decide ((k : Int) < (la.length : Int)) = false := by simp; omega
      have HR : Hid (eqB la lb = true) := eqB_all HN.out (fun m h h' _ => HW.out.1 m h h' (by omega))
      go_wp2_with fail
      go_ret
      exact ⟨ret_b HR.out.symm, HW.out.2⟩
    have hlt' : k < lb.length := by have := HN.out; omega
    have hki : (k : Int) < (la.length : Int) := by omega
    have hkj : (k : Int) < (lb.length : Int) := by omega
    obtain ⟨b, off, rfl, -, hc⟩ := (HA.out _ HW.out.2).things k hlt
    obtain ⟨mb, moff, rfl, -, hd⟩ := (HB.out _ HW.out.2).things k hlt'
    obtain ⟨u0, c0, r0⟩ := hc 0 (by omega)
    obtain rfl : u0 = .int .i64 la[k].k := r0
    obtain ⟨u1, c1, r1⟩ := hc 1 (by omega)
    obtain rfl : u1 = .int .i64 la[k].n := r1
    obtain ⟨u2, c2, r2⟩ := hc 2 (by omega)
    obtain rfl : u2 = .string ⟨la[k].t.toArray⟩ := r2
    replace c0 : wr.cell? ⟨b, off + k * 3, none⟩ = _ := c0
    obtain ⟨v0, d0, s0⟩ := hd 0 (by omega)
    obtain rfl : v0 = .int .i64 lb[k].k := s0
    obtain ⟨v1, d1, s1⟩ := hd 1 (by omega)
    obtain rfl : v1 = .int .i64 lb[k].n := s1
    obtain ⟨v2, d2, s2⟩ := hd 2 (by omega)
    obtain rfl : v2 = .string ⟨lb[k].t.toArray⟩ := s2
    replace d0 : wr.cell? ⟨mb, moff + k * 3, none⟩ = _ := d0
    clear hc hd
    by_cases he : la[k] = lb[k]
    case pos =>
      have HG : Hid (∀ m (h : m < la.length) (h' : m < lb.length), m < k + 1 → la[m] = lb[m]) := fun m h h' hm => by
        by_cases e : m = k
        · subst e; exact he
        · exact HW.out.1 m h h' (by omega)
      rw [he] at c0 c1 c2
      clear he
      generalize lb[k] = y at *
      go_wp2_with fail
      go_quiet (fail)
      go_wp2_with fail
      go_roundw
      case rel => exact ⟨k + 1, by omega, by go_num, HG.out, HW.out.2.trans (below_drewN (Below.refl _ _) _)⟩
      case measure => simp [intOf]; omega
    have HR : Hid (eqB la lb = false) := eqB_at hlt hlt' he
    rcases differD he with hd | ⟨hd, hd2⟩ | ⟨hd, hd2, hd3⟩
    · skip
      clear he
      go_wp2_with fail
      go_quiet (fail)
      go_wp2_with fail
      go_ret
      exact ⟨ret_b HR.out.symm, HW.out.2.trans (below_drewN (Below.refl _ _) _)⟩
    · rw [← hd] at d0
      clear he hd
      go_wp2_with fail
      go_quiet (fail)
      go_wp2_with fail
      go_ret
      exact ⟨ret_b HR.out.symm, HW.out.2.trans (below_drewN (Below.refl _ _) _)⟩
    · rw [← hd] at d0
      rw [← hd2] at d1
      clear he hd hd2
      go_wp2_with fail
      go_quiet (fail)
      go_wp2_with fail
      go_ret
      exact ⟨ret_b HR.out.symm, HW.out.2.trans (below_drewN (Below.refl _ _) _)⟩
set_option maxRecDepth 100000 in
set_option maxHeartbeats 3200000 in
theorem equalI (la lb : List At) (a : Option Addr) (c : Nat) (a' : Option Addr) (c' : Nat) (A B : Nat → Prop) (w : World) (ho : (dAtomS la).le maxLen) (ho' : (dAtomS lb).le maxLen) (hA : Rd w A (dAtomS la) (.slice a la.length c)) (hB : Rd w B (dAtomS lb) (.slice a' lb.length c')) :
    Calls Tryz.prog 102 #[.slice a la.length c, .slice a' lb.length c'] w fun e w' => e = .returned (.bool (eqB la lb)) ∧ Below w.heap.size w w' := by
  have hl : la.length ≤ maxLen := (Ls_le.1 ho).2.1
  unfold maxLen at hl
  have HX : Hid (∀ i (h : i < la.length) j, j < 3 → (dAtom la[i] j).le maxLen) := (Ls_le.1 ho).2.2
  have HX' : Hid (∀ i (h : i < lb.length) j, j < 3 → (dAtom lb[i] j).le maxLen) := (Ls_le.1 ho').2.2
  have HA : Hid (∀ W, Below w.heap.size w W → Rd W A (Ls 3 dAtom la) (.slice a la.length c)) := fun W h => Rd.later hA h
  have HB : Hid (∀ W, Below w.heap.size w W → Rd W B (Ls 3 dAtom lb) (.slice a' lb.length c')) := fun W h => Rd.later hB h
  clear hA hB ho ho'
  by_cases hn : la.length = lb.length
  case neg =>
    have HR : Hid (eqB la lb = false) := eqB_no (fun e => hn (by rw [e]))
    have hd : ((la.length : Int) != (lb.length : Int)) = true := by simp; omega
    go_enter Tryz.func102, Tryz.ntmps102
    go_wp2_with fail
    go_ret
    exact ⟨ret_b HR.out.symm, Below.refl _ _⟩
  have hd : ((la.length : Int) != (lb.length : Int)) = false := by simp; omega
  have HN := Lib.hid hn
  clear hn
  go_enter Tryz.func102, Tryz.ntmps102
  go_wp2_with fail
  go_loopw [13] (fun i wr => ∃ k : Nat, k ≤ la.length ∧ i = .int .i64 k ∧ Hid ((∀ m (h : m < la.length) (h' : m < lb.length), m < k → la[m] = lb[m]) ∧ Below w.heap.size w wr)) (fun i _ => la.length - (intOf i).toNat)
  case atStart => exact ⟨0, Nat.zero_le _, rfl, fun m _ _ h => absurd h (by omega), Below.refl _ _⟩
  case round =>
    obtain ⟨k, hk, rfl, HW⟩ := hrel
    by_cases hlt : k < la.length
    case neg =>
      have hki : decide ((k : Int) < (la.length : Int)) = false := by simp; omega
      have HR : Hid (eqB la lb = true) := eqB_all HN.out (fun m h h' _ => HW.out.1 m h h' (by omega))
      go_wp2_with fail
      go_ret
      exact ⟨ret_b HR.out.symm, HW.out.2⟩
    have hlt' : k < lb.length := by have := HN.out; omega
    have hki : (k : Int) < (la.length : Int) := by omega
    have hkj : (k : Int) < (lb.length : Int) := by omega
    obtain ⟨b, off, rfl, -, hc⟩ := (HA.out _ HW.out.2).things k hlt
    obtain ⟨mb, moff, rfl, -, hd⟩ := (HB.out _ HW.out.2).things k hlt'
    obtain ⟨u0, c0, r0⟩ := hc 0 (by omega)
    obtain rfl : u0 = .int .i64 la[k].k := r0
    obtain ⟨u1, c1, r1⟩ := hc 1 (by omega)
    obtain rfl : u1 = .int .i64 la[k].n := r1
    obtain ⟨u2, c2, r2⟩ := hc 2 (by omega)
    obtain rfl : u2 = .string ⟨la[k].t.toArray⟩ := r2
    replace c0 : wr.cell? ⟨b, off + k * 3, none⟩ = _ := c0
    obtain ⟨v0, d0, s0⟩ := hd 0 (by omega)
    obtain rfl : v0 = .int .i64 lb[k].k := s0
    obtain ⟨v1, d1, s1⟩ := hd 1 (by omega)
    obtain rfl : v1 = .int .i64 lb[k].n := s1
    obtain ⟨v2, d2, s2⟩ := hd 2 (by omega)
    obtain rfl : v2 = .string ⟨lb[k].t.toArray⟩ := s2
    replace d0 : wr.cell? ⟨mb, moff + k * 3, none⟩ = _ := d0
    clear hc hd
    by_cases he : la[k] = lb[k]
    case pos =>
      have HG : Hid (∀ m (h : m < la.length) (h' : m < lb.length), m < k + 1 → la[m] = lb[m]) := fun m h h' hm => by
        by_cases e : m = k
        · subst e; exact he
        · exact HW.out.1 m h h' (by omega)
      rw [he] at c0 c1 c2
      clear he
      generalize lb[k] = y at *
      go_wp2_with fail
      go_quiet (fail)
      go_wp2_with fail
      go_roundw
      case rel => exact ⟨k + 1, by omega, by go_num, HG.out, HW.out.2.trans (below_drewN (Below.refl _ _) _)⟩
      case measure => simp [intOf]; omega
    have HR : Hid (eqB la lb = false) := eqB_at hlt hlt' he
    rcases differD he with hd | ⟨hd, hd2⟩ | ⟨hd, hd2, hd3⟩
    · skip
      clear he
      go_wp2_with fail
      go_quiet (fail)
      go_wp2_with fail
      go_ret
      exact ⟨ret_b HR.out.symm, HW.out.2.trans (below_drewN (Below.refl _ _) _)⟩
    · rw [← hd] at d0
      clear he hd
      go_wp2_with fail
      go_quiet (fail)
      go_wp2_with fail
      go_ret
      exact ⟨ret_b HR.out.symm, HW.out.2.trans (below_drewN (Below.refl _ _) _)⟩
    · rw [← hd] at d0
      rw [← hd2] at d1
      clear he hd hd2
      go_wp2_with fail
      go_quiet (fail)
      go_wp2_with fail
      go_ret
      exact ⟨ret_b HR.out.symm, HW.out.2.trans (below_drewN (Below.refl _ _) _)⟩
set_option maxHeartbeats 1600000 in
theorem sameSetI (la lb : List At) (a : Option Addr) (c : Nat) (a' : Option Addr) (c' : Nat) (A B : Nat → Prop) (w : World) (ho : (dAtomS la).le maxLen) (ho' : (dAtomS lb).le maxLen) (hA : Rd w A (dAtomS la) (.slice a la.length c)) (hB : Rd w B (dAtomS lb) (.slice a' lb.length c')) :
    Calls Tryz.prog 80 #[.slice a la.length c, .slice a' lb.length c'] w fun e w' => e = .returned (.bool (eqB la lb)) ∧ Below w.heap.size w w' := by
  have CC := Lib.hid (equalI la lb a c a' c' A B w ho ho' hA hB)
  clear ho ho' hA hB
  go_enter Tryz.func80, Tryz.ntmps80
  go_wp2_with (go_at_call 102; refine CC.out.mono ?_; rintro e w1 ⟨rfl, hB1⟩)
  go_ret
  exact ⟨rfl, hB1⟩
end Go.Proofs.YtdioppekeekilaaGreatDoor
namespace Go.Proofs.YtdioppekeekilaaGreatDoor
open Go.RowKit

end Go.Proofs.YtdioppekeekilaaGreatDoor
namespace Go.Proofs.YtdioppekeekilaaGreatDoor
open Go.RowKit

theorem at_l (s : ByteArray) (k : Nat) (h : k < s.size) : s.data.toList[k]'(by simpa using h) = s[k] := rfl
theorem text_long {s : ByteArray} (h : 200 < s.size) : textB s.data.toList = false := by
  unfold textB
  have e : s.data.toList.length = s.size := rfl
  rw [e, decide_eq_false (by omega)]; rfl
theorem text_char {s : ByteArray} (k : Nat) (h : k < s.size) (hc : charB s[k] = false) : textB s.data.toList = false := by
  unfold textB
  have : s.data.toList.all charB = false := by
    rw [List.all_eq_false]; exact ⟨s[k], by rw [← at_l s k h]; exact List.getElem_mem _, by simp [hc]⟩
  rw [this]; simp
theorem text_all {s : ByteArray} (h : s.size ≤ 200) (ha : ∀ j (hj : j < s.size), charB s[j] = true) : textB s.data.toList = true := by
  unfold textB
  have e : s.data.toList.length = s.size := rfl
  have : s.data.toList.all charB = true := by
    rw [List.all_eq_true]; intro c hc
    obtain ⟨j, hj, rfl⟩ := List.mem_iff_getElem.1 hc
    rw [at_l s j (by simpa using hj)]; exact ha j _
  rw [this, e, decide_eq_true (by omega)]; rfl
theorem char_true {c : UInt8} (h : charB c = true) : 32 ≤ (c.toNat : Int) ∧ (c.toNat : Int) ≤ 126 := by unfold charB at h; exact of_decide_eq_true h
theorem char_false {c : UInt8} (h : charB c = false) : (c.toNat : Int) < 32 ∨ 126 < (c.toNat : Int) := by unfold charB at h; have := of_decide_eq_false h; omega

set_option maxHeartbeats 800000 in
theorem textOKs (s : ByteArray) (w : World) (hs : s.size ≤ maxLen) : Calls Tryz.prog 111 #[.string s] w fun e w' => e = .returned (.bool (textB s.data.toList)) ∧ w' = w := by
  unfold maxLen at hs
  by_cases hz : 200 < s.size
  · have HN : Hid (textB s.data.toList = false) := text_long hz
    go_enter Tryz.func111, Tryz.ntmps111
    go_wp2_with fail
    go_ret
    exact ⟨ret_b HN.out.symm, rfl⟩
  · have b2 : decide (200 < (s.size : Int)) = false := by simp; omega
    go_enter Tryz.func111, Tryz.ntmps111
    go_wp2_with fail
    go_loop [9] (fun t => ∃ k : Nat, k ≤ s.size ∧ t = .int .i64 k ∧ Hid (∀ j (hj : j < s.size), j < k → charB s[j] = true)) (fun t => s.size - (intOf t).toNat)
    case atStart => exact ⟨0, Nat.zero_le _, rfl, fun j hj h => absurd h (by omega)⟩
    case round =>
      obtain ⟨k, hk, rfl, hall⟩ := hrel
      by_cases hlt : k < s.size
      · cases hc : charB s[k]
        · have HN : Hid (textB s.data.toList = false) := text_char k hlt hc
          rcases char_false hc with h1 | h1
          · clear hc
            go_wp2_with fail
            go_ret
            exact ⟨ret_b HN.out.symm, rfl⟩
          · have h2 : decide ((s[k].toNat : Int) < 32) = false := by simp; omega
            clear hc
            go_wp2_with fail
            go_ret
            exact ⟨ret_b HN.out.symm, rfl⟩
        · have HC : Hid (charB s[k] = true) := hc
          obtain ⟨h1, h2⟩ := char_true hc
          clear hc
          go_wp2_with fail
          go_round
          case rel => exact ⟨k + 1, by omega, by go_num, fun j hj h => by rcases Nat.lt_succ_iff_lt_or_eq.1 h with h | rfl; exact hall.out j hj h; exact HC.out⟩
          case measure => simp [intOf]; omega
      · have HN : Hid (textB s.data.toList = true) := text_all (by omega) (fun j hj => hall.out j hj (by omega))
        go_wp2_with fail
        go_ret
        exact ⟨ret_b HN.out.symm, rfl⟩
theorem textOK (t : List UInt8) (w : World) (hs : t.length ≤ maxLen) : Calls Tryz.prog 111 #[.string ⟨t.toArray⟩] w fun e w' => e = .returned (.bool (textB t)) ∧ w' = w :=
  textOKs ⟨t.toArray⟩ w (by show t.toArray.size ≤ maxLen; simpa using hs)

theorem key_text {keys : List (List UInt8)} {k : Nat} (hk : k < keys.length) (h : textB keys[k] = false) : keyB keys k = false := by
  unfold keyB; rw [List.getD_eq_getElem?_getD, List.getElem?_eq_getElem hk]; simp [h]
theorem key_less {keys : List (List UInt8)} {k : Nat} (hk : k + 1 < keys.length) (h : Op.bytesLess keys[k] keys[k + 1] = false) : keyB keys (k + 1) = false := by
  unfold keyB
  rw [List.getD_eq_getElem?_getD, List.getElem?_eq_getElem hk, Nat.add_sub_cancel, List.getD_eq_getElem?_getD, List.getElem?_eq_getElem (by omega)]; simp [h]
theorem key_first {keys : List (List UInt8)} (hk : 0 < keys.length) (h : textB keys[0] = true) : keyB keys 0 = true := by
  unfold keyB; rw [List.getD_eq_getElem?_getD, List.getElem?_eq_getElem hk]; simp [h]
theorem key_next {keys : List (List UInt8)} {k : Nat} (hk : k + 1 < keys.length) (ht : textB keys[k + 1] = true) (h : Op.bytesLess keys[k] keys[k + 1] = true) : keyB keys (k + 1) = true := by
  unfold keyB
  rw [List.getD_eq_getElem?_getD, List.getElem?_eq_getElem hk, Nat.add_sub_cancel, List.getD_eq_getElem?_getD, List.getElem?_eq_getElem (by omega)]; simp [h, ht]

end Go.Proofs.YtdioppekeekilaaGreatDoor
namespace Go.Proofs.YtdioppekeekilaaGreatDoor
open Go.RowKit
set_option linter.unusedSimpArgs false
theorem in_true {lo n hi : Int} (h : lo ≤ n ∧ n ≤ hi) : inB lo n hi = true := by unfold inB; exact decide_eq_true h
theorem in_false {lo n hi : Int} (h : ¬ (lo ≤ n ∧ n ≤ hi)) : inB lo n hi = false := by unfold inB; exact decide_eq_false h
set_option maxHeartbeats 400000 in
theorem numberOK (n : Int) (w : World) : Calls Tryz.prog 94 #[.int .i64 n] w fun e w' => e = .returned (.bool (inB (-1000000000) n 1000000000)) ∧ w' = w := by
  go_enter Tryz.func94, Tryz.ntmps94
  go_wp2
  all_goals
    go_ret
    refine ⟨ret_b ?_, rfl⟩
    rw [Bool.eq_iff_iff]; simp [inB]; try omega

/-- the answer of partOK at the end of a walk -/
theorem part_end {j : J} {x : Bool} (HP : Hid (partB j = x)) {y : Bool} (h : y = x) : y = partB j := by rw [HP.out]; exact h


end Go.Proofs.YtdioppekeekilaaGreatDoor
namespace Go.Proofs.YtdioppekeekilaaGreatDoor
open Go.RowKit
theorem ret_ii {a b c d : Int} (h : a = c) (h' : b = d) : Ending.returned (.tuple #[.int .i64 a, .int .i64 b]) = .returned (.tuple #[.int .i64 c, .int .i64 d]) := by rw [h, h']
end Go.Proofs.YtdioppekeekilaaGreatDoor
namespace Go.Proofs.YtdioppekeekilaaGreatDoor
open Go.RowKit
set_option linter.unusedSimpArgs false
set_option maxHeartbeats 400000 in
theorem inS (n lo hi : Int) (w : World) : Calls Tryz.prog 48 #[.int .i64 n, .int .i64 lo, .int .i64 hi] w fun e w' => e = .returned (.bool (inB lo n hi)) ∧ w' = w := by
  go_enter Tryz.func48, Tryz.ntmps48
  go_wp2
  all_goals
    go_ret
    refine ⟨ret_b ?_, rfl⟩
    rw [Bool.eq_iff_iff]; simp [inB]; try omega

theorem text_end {s : ByteArray} (ha : ∀ j (hj : j < s.size), charB s[j] = true) : textB s.data.toList = decide ((s.size : Int) ≤ 200) := by
  by_cases h : s.size ≤ 200
  · rw [text_all h ha, decide_eq_true (by omega)]
  · rw [text_long (by omega), decide_eq_false (by omega)]

set_option maxHeartbeats 800000 in
theorem textSs (s : ByteArray) (w : World) (hs : s.size ≤ maxLen) : Calls Tryz.prog 90 #[.string s] w fun e w' => e = .returned (.bool (textB s.data.toList)) ∧ w' = w := by
  unfold maxLen at hs
  go_enter Tryz.func90, Tryz.ntmps90
  go_wp2_with fail
  go_loop [3] (fun t => ∃ k : Nat, k ≤ s.size ∧ t = .int .i64 k ∧ Hid (∀ j (hj : j < s.size), j < k → charB s[j] = true)) (fun t => s.size - (intOf t).toNat)
  case atStart => exact ⟨0, Nat.zero_le _, rfl, fun j hj h => absurd h (by omega)⟩
  case round =>
    obtain ⟨k, hk, rfl, hall⟩ := hrel
    by_cases hlt : k < s.size
    · cases hc : charB s[k]
      · have HN : Hid (textB s.data.toList = false) := text_char k hlt hc
        rcases char_false hc with h1 | h1
        · clear hc
          go_wp2_with fail
          go_ret
          exact ⟨ret_b HN.out.symm, rfl⟩
        · have h2 : decide ((s[k].toNat : Int) < 32) = false := by simp; omega
          clear hc
          go_wp2_with fail
          go_ret
          exact ⟨ret_b HN.out.symm, rfl⟩
      · have HC : Hid (charB s[k] = true) := hc
        obtain ⟨h1, h2⟩ := char_true hc
        clear hc
        go_wp2_with fail
        go_round
        case rel => exact ⟨k + 1, by omega, by go_num, fun j hj h => by rcases Nat.lt_succ_iff_lt_or_eq.1 h with h | rfl; exact hall.out j hj h; exact HC.out⟩
        case measure => simp [intOf]; omega
    · have HN : Hid (textB s.data.toList = decide ((s.size : Int) ≤ 200)) := text_end (fun j hj => hall.out j hj (by omega))
      go_wp2_with fail
      all_goals
        go_ret
        exact ⟨ret_b HN.out.symm, rfl⟩
theorem textS (t : List UInt8) (w : World) (hs : t.length ≤ maxLen) : Calls Tryz.prog 90 #[.string ⟨t.toArray⟩] w fun e w' => e = .returned (.bool (textB t)) ∧ w' = w :=
  textSs ⟨t.toArray⟩ w (by show t.toArray.size ≤ maxLen; simpa using hs)

/-! the plain side -/
end Go.Proofs.YtdioppekeekilaaGreatDoor
namespace Go.Proofs.YtdioppekeekilaaGreatDoor
open Go.RowKit
set_option linter.unusedSimpArgs false
def atC (x : At) : List Value := [.int .i64 x.k, .int .i64 x.n, .string ⟨x.t.toArray⟩]
def atZ : At := ⟨0, 0, []⟩
/-- the cells of a list of atoms -/
def atF (l : List At) (m : Nat) : Value := if m % 3 = 0 then .int .i64 (l.getD (m / 3) atZ).k else if m % 3 = 1 then .int .i64 (l.getD (m / 3) atZ).n else .string ⟨(l.getD (m / 3) atZ).t.toArray⟩
theorem at_getD {l : List At} {i : Nat} (h : i < l.length) : l.getD i atZ = l[i] := by rw [List.getD_eq_getElem?_getD, List.getElem?_eq_getElem h]; rfl
theorem atF0 {l : List At} {i : Nat} (h : i < l.length) : atF l (i * 3) = .int .i64 l[i].k := by
  unfold atF
  rw [if_pos (by omega), show i * 3 / 3 = i by omega, at_getD h]
theorem atF1 {l : List At} {i : Nat} (h : i < l.length) : atF l (i * 3 + 1) = .int .i64 l[i].n := by
  unfold atF
  rw [if_neg (by omega), if_pos (by omega), show (i * 3 + 1) / 3 = i by omega, at_getD h]
theorem atF2 {l : List At} {i : Nat} (h : i < l.length) : atF l (i * 3 + 2) = .string ⟨l[i].t.toArray⟩ := by
  unfold atF
  rw [if_neg (by omega), if_neg (by omega), show (i * 3 + 2) / 3 = i by omega, at_getD h]
/-- atoms that can be read, in a block of which B holds -/
def Ats (w : World) (B : Nat → Prop) (a : Option Addr) (l : List At) : Prop :=
  l.length = 0 ∨ ∃ b off, a = some ⟨b, off, none⟩ ∧ B b ∧ ∀ m, m < l.length * 3 → w.cell? ⟨b, off + m, none⟩ = some (atF l m)
/-- and written -/
def OwnAts (w : World) (B : Nat → Prop) (a : Option Addr) (l : List At) : Prop :=
  l.length = 0 ∨ ∃ b off, a = some ⟨b, off, none⟩ ∧ B b ∧ ∀ m, m < l.length * 3 → w.cell? ⟨b, off + m, none⟩ = some (atF l m) ∧ w.frozen? ⟨b, off + m, none⟩ = false
theorem OwnAts.ats {w : World} {B : Nat → Prop} {a : Option Addr} {l : List At} (h : OwnAts w B a l) : Ats w B a l := by
  rcases h with h | ⟨b, off, ha, hb, hc⟩
  · exact .inl h
  · exact .inr ⟨b, off, ha, hb, fun m hm => (hc m hm).1⟩
theorem Ats.same {w w' : World} {B B' : Nat → Prop} {a : Option Addr} {l : List At} (h : Ats w B a l) (hs : ∀ b, B b → w'.heap[b]? = w.heap[b]?) (hB : ∀ b, B b → B' b) : Ats w' B' a l := by
  rcases h with h | ⟨b, off, ha, hb, hc⟩
  · exact .inl h
  · exact .inr ⟨b, off, ha, hB b hb, fun m hm => by rw [World.cell?_of_block (w := w) (a := ⟨b, off + m, none⟩) (hs b hb)]; exact hc m hm⟩
theorem OwnAts.same {w w' : World} {B B' : Nat → Prop} {a : Option Addr} {l : List At} (h : OwnAts w B a l) (hs : ∀ b, B b → w'.heap[b]? = w.heap[b]?) (hB : ∀ b, B b → B' b) : OwnAts w' B' a l := by
  rcases h with h | ⟨b, off, ha, hb, hc⟩
  · exact .inl h
  · exact .inr ⟨b, off, ha, hB b hb, fun m hm => by
      rw [World.cell?_of_block (w := w) (a := ⟨b, off + m, none⟩) (hs b hb), World.frozen?_of_block (w := w) (a := ⟨b, off + m, none⟩) (hs b hb)]; exact hc m hm⟩
theorem Ats.any {w : World} {B : Nat → Prop} {a : Option Addr} {l : List At} (h : Ats w B a l) : Ats w (fun _ => True) a l := h.same (fun _ _ => rfl) (fun _ _ => trivial)
theorem Ats.below {w w' : World} {S : Nat} {a : Option Addr} {l : List At} (h : Ats w (· < S) a l) (hb : Below S w w') : Ats w' (· < S) a l := h.same (fun b hb' => hb.block b hb') (fun _ h => h)
theorem Ats.inside {w : World} {B : Nat → Prop} {a : Option Addr} {l : List At} (h : Ats w B a l) : Ats w (fun b => B b ∧ b < w.heap.size) a l := by
  rcases h with h | ⟨b, off, ha, hb, hc⟩
  · exact .inl h
  · by_cases h0 : l.length = 0
    · exact .inl h0
    · exact .inr ⟨b, off, ha, ⟨hb, World.block_lt_of_cell? _ _ (hc 0 (by omega))⟩, hc⟩
theorem OwnAts.inside {w : World} {B : Nat → Prop} {a : Option Addr} {l : List At} (h : OwnAts w B a l) : OwnAts w (fun b => B b ∧ b < w.heap.size) a l := by
  rcases h with h | ⟨b, off, ha, hb, hc⟩
  · exact .inl h
  · by_cases h0 : l.length = 0
    · exact .inl h0
    · exact .inr ⟨b, off, ha, ⟨hb, World.block_lt_of_cell? _ _ (hc 0 (by omega)).1⟩, hc⟩
theorem Ats.later {w w' : World} {B : Nat → Prop} {a : Option Addr} {l : List At} (h : Ats w B a l) (hb : Below w.heap.size w w') : Ats w' B a l := h.inside.same (fun b hb' => hb.block b hb'.2) (fun _ h => h.1)
theorem OwnAts.later {w w' : World} {B : Nat → Prop} {a : Option Addr} {l : List At} (h : OwnAts w B a l) (hb : Below w.heap.size w w') : OwnAts w' B a l := h.inside.same (fun b hb' => hb.block b hb'.2) (fun _ h => h.1)
/-- an atom's three cells, as a walk reads them -/
theorem Ats.item {w : World} {B : Nat → Prop} {a : Option Addr} {l : List At} (h : Ats w B a l) (k : Nat) (hk : k < l.length) :
    ∃ b off, a = some ⟨b, off, none⟩ ∧ B b ∧ w.cell? ⟨b, off + k * 3, none⟩ = some (.int .i64 l[k].k) ∧ w.cell? ⟨b, off + k * 3 + 1, none⟩ = some (.int .i64 l[k].n) ∧ w.cell? ⟨b, off + k * 3 + 2, none⟩ = some (.string ⟨l[k].t.toArray⟩) := by
  rcases h with h | ⟨b, off, ha, hb, hc⟩
  · omega
  · exact ⟨b, off, ha, hb, by rw [hc _ (by omega), atF0 hk], by rw [Nat.add_assoc, hc _ (by omega), atF1 hk], by rw [Nat.add_assoc, hc _ (by omega), atF2 hk]⟩
theorem heap_newA (w : World) (o : Obj) : (w.alloc o).heap[w.heap.size]? = some o := by
  show (w.heap.push o)[w.heap.size]? = _
  simp
theorem heap_keptA {w w' : World} {b : Nat} {o : Obj} (h : w.heap[b]? = some o) (hB : Below w.heap.size w w') : w'.heap[b]? = some o := by
  rw [hB.block b (Array.getElem?_eq_some_iff.1 h).1]; exact h
def szA (l : List At) : Nat := l.length + (l.map (fun x => x.t.length)).sum
set_option maxHeartbeats 800000 in
theorem szAtom (x : At) (L : Int) (w : World) (h0 : 0 ≤ L) (h1 : L ≤ 1048576) (ht : x.t.length ≤ maxLen) :
    Calls Tryz.prog 45 #[.agg #[.int .i64 x.k, .int .i64 x.n, .string ⟨x.t.toArray⟩], .int .i64 L] w fun e w' => e = .returned (.int .i64 (lessI L x.t.length)) ∧ Below w.heap.size w w' := by
  unfold maxLen at ht
  by_cases hn : L - (x.t.length : Int) < 0
  · have HR : Hid (lessI L x.t.length = -1) := less_no hn
    go_enter Tryz.func45, Tryz.ntmps45
    go_wp2_with fail
    go_ret
    exact ⟨ret_i HR.out.symm, (Below.refl _ _).alloc (Nat.le_refl _) _⟩
  · have HR : Hid (lessI L x.t.length = L - x.t.length) := less_yes (by omega)
    go_enter Tryz.func45, Tryz.ntmps45
    go_wp2_with fail
    go_ret
    exact ⟨ret_i HR.out.symm, (Below.refl _ _).alloc (Nat.le_refl _) _⟩
set_option maxHeartbeats 1600000 in
theorem szAtoms (l : List At) (a : Option Addr) (c : Nat) (L : Int) (S : Nat) (w : World) (h0 : 0 ≤ L) (h1 : L ≤ 1048576) (hl : l.length ≤ maxLen) (hx : ∀ x ∈ l, x.t.length ≤ maxLen) (hw : S ≤ w.heap.size) (hS : Ats w (· < S) a l) :
    Calls Tryz.prog 24 #[.slice a l.length c, .int .i64 L] w fun e w' => e = .returned (.int .i64 (lessI L (szA l))) ∧ Below w.heap.size w w' := by
  unfold maxLen at hl
  have HX : Hid (∀ x ∈ l, x.t.length ≤ maxLen) := hx
  have HS : Hid (Ats w (· < S) a l) := hS
  clear hx hS
  by_cases hn : L - (l.length : Int) < 0
  · have HR : Hid (lessI L (szA l) = -1) := by show lessI L (szA l) = -1; unfold lessI szA; rw [if_neg (by omega)]
    go_enter Tryz.func24, Tryz.ntmps24
    go_wp2_with fail
    go_ret
    exact ⟨ret_i HR.out.symm, Below.refl _ _⟩
  · go_enter Tryz.func24, Tryz.ntmps24
    go_wp2_with fail
    go_loopw [1, 5] (fun t i wr => ∃ k : Nat, k ≤ l.length ∧ i = .int .i64 k ∧ ∃ m : Int, t = .int .i64 m ∧ 0 ≤ m ∧ m ≤ L ∧ Hid (m = L - (l.length + sumTo (fun x => x.t.length) l k : Nat) ∧ Below w.heap.size w wr)) (fun _ i _ => l.length - (intOf i).toNat)
    case atStart => exact ⟨0, Nat.zero_le _, rfl, L - l.length, rfl, by omega, by omega, by show _ = _; rw [sumTo_zero]; omega, Below.refl _ _⟩
    case round =>
      obtain ⟨k, hk, rfl, m, rfl, hm0, hmL, HM⟩ := hrel
      by_cases hlt : k < l.length
      · obtain ⟨b, off, rfl, -, c0, c1, c2⟩ := (HS.out.below (HM.out.2.mono hw)).item k hlt
        have HLX : Hid (l[k].t.length ≤ maxLen) := HX.out _ (List.getElem_mem hlt)
        have HSU : Hid (sumTo (fun x : At => x.t.length) l (k + 1) = sumTo (fun x => x.t.length) l k + l[k].t.length) := sumTo_succ _ _ _ hlt
        have HLE : Hid (sumTo (fun x : At => x.t.length) l (k + 1) ≤ (l.map (fun x => x.t.length)).sum) := sumTo_le _ _ _
        generalize l[k] = x at *
        by_cases hz : m - (x.t.length : Int) < 0
        · have HR : Hid (lessI L (szA l) = -1) := by
            have h1 := HM.out.1; have h2 := HSU.out; have h3 := HLE.out
            show lessI L (szA l) = -1
            unfold lessI szA; rw [if_neg (by omega)]
          have HQ : Hid (lessI m x.t.length = -1) := less_no hz
          go_wp2_with (go_at_call 45; refine (szAtom x m _ hm0 (by omega) HLX.out).mono ?_; rintro e w1 ⟨rfl, hB1⟩; rw [HQ.out])
          go_ret
          exact ⟨ret_i HR.out.symm, HM.out.2.trans (hB1.mono HM.out.2.size)⟩
        · have HQ : Hid (lessI m x.t.length = m - x.t.length) := less_yes (by omega)
          obtain ⟨m', hm'⟩ : ∃ m' : Int, m' = m - x.t.length := ⟨_, rfl⟩
          have hm'0 : 0 ≤ m' := by omega
          have hd : decide (m' < 0) = false := by simp; omega
          have HM' : Hid (m' = m - x.t.length) := hm'
          clear hm'
          go_wp2_with (go_at_call 45; refine (szAtom x m _ hm0 (by omega) HLX.out).mono ?_; rintro e w1 ⟨rfl, hB1⟩; rw [HQ.out, ← HM'.out])
          go_roundw
          case rel =>
            have h1 := HM.out.1; have h2 := HSU.out; have h3 := HM'.out
            exact ⟨k + 1, by omega, by go_num, m', rfl, by omega, by omega, by show _ = _; omega, HM.out.2.trans (hB1.mono HM.out.2.size)⟩
          case measure => simp [intOf]; omega
      · have HR : Hid (lessI L (szA l) = m) := by
          have h1 := HM.out.1
          have hk' : k = l.length := by omega
          rw [hk', sumTo_all] at h1
          show lessI L (szA l) = m
          unfold lessI szA; rw [if_pos (by omega)]; omega
        go_wp2_with fail
        go_ret
        exact ⟨ret_i HR.out.symm, HM.out.2⟩
end Go.Proofs.YtdioppekeekilaaGreatDoor
namespace Go.Proofs.YtdioppekeekilaaGreatDoor
open Go.RowKit
set_option linter.unusedSimpArgs false
set_option maxHeartbeats 800000 in
theorem toAtom (x : At) (w : World) :
    Calls Tryz.prog 55 #[.agg #[.int .i64 x.k, .int .i64 x.n, .string ⟨x.t.toArray⟩]] w fun e w' => e = .returned (.agg #[.int .i64 x.k, .int .i64 x.n, .string ⟨x.t.toArray⟩]) ∧ Below w.heap.size w w' := by
  go_enter Tryz.func55, Tryz.ntmps55
  go_wp2_with fail
  exact bodyPost_ret (v := .agg #[.int .i64 x.k, .int .i64 x.n, .string ⟨x.t.toArray⟩]) (by simp [results, Tryz.results55, go_sem]) rfl ⟨rfl, (((Below.refl _ _).alloc (Nat.le_refl _) _).alloc (by simp) _).alloc (by simp; omega) _⟩
theorem infoAt : (Tryz.prog.info? 92).map (fun i => (i.zero, i.size, i.bytes)) = some (some (.agg #[.int .i64 0, .int .i64 0, .string ⟨#[]⟩]), 3, 32) := by kernel_rfl
def zeroAt : Array Value := #[.int .i64 0, .int .i64 0, .string ⟨#[]⟩]
theorem infoAt' : ∃ i, Tryz.prog.info? 92 = some i ∧ i.zero = some (.agg zeroAt) ∧ i.size = 3 ∧ i.bytes = 32 := by
  obtain ⟨i, hi, hzz⟩ := Option.map_eq_some_iff.1 infoAt
  simp only [Prod.mk.injEq] at hzz
  exact ⟨i, hi, hzz⟩
theorem run_makeAt (n : Nat) (hn : n ≤ 1048576) (w : World) :
    (Instr.makeSlice 45 (.int .i64 (n : Int)) (.int .i64 (n : Int))).run Tryz.prog w = .ok (.slice (some ⟨w.heap.size, 0, none⟩) n n) (w.alloc (.cells (madeCells zeroAt (n * 3)) 92)) := by
  obtain ⟨i, hi, hz, hs, hb⟩ := infoAt'
  have hr := run_make (P := Tryz.prog) w 45 92 i _ Tryz.underlying45 hi hz .i64 .i64 n n (by omega) (Int.le_refl _) (by rw [hb]; omega) (by omega)
  rw [hr, hs]
  simp only [Int.toNat_natCast]
  rfl
theorem rowIs_madeAt (w : World) (n : Nat) (t : TypeId) : ∃ f, (w.alloc (.cells (madeCells zeroAt (n * 3)) t)).rowIs w.heap.size t (n * 3) f :=
  ⟨fun i => (madeCells zeroAt (n * 3)).getD i default, by
    have := World.rowIs_alloc w (madeCells zeroAt (n * 3)) t (fun i => (madeCells zeroAt (n * 3)).getD i default) (fun i h => by rw [Array.getElem?_eq_getElem h]; simp [Array.getD, h])
    rwa [size_madeCells] at this⟩
/-- the first k of l are done -/
def DoneA (wr : World) (b k : Nat) (l : List At) : Prop := ∃ f, wr.rowIs b 92 (l.length * 3) f ∧ ∀ m, m < k * 3 → f m = atF l m
theorem DoneA.step {w1 : World} {b k : Nat} {l : List At} {f : Nat → Value} (hf : w1.rowIs b 92 (l.length * 3) f) (hd : ∀ m, m < k * 3 → f m = atF l m) (hk : k < l.length) :
    DoneA (((w1.setCell ⟨b, k * 3, none⟩ (.int .i64 l[k].k)).setCell ⟨b, k * 3 + 1, none⟩ (.int .i64 l[k].n)).setCell ⟨b, k * 3 + 2, none⟩ (.string ⟨l[k].t.toArray⟩)) b (k + 1) l := by
  refine ⟨_, ((hf.set (k * 3) _).set (k * 3 + 1) _).set (k * 3 + 2) _, fun m hm => ?_⟩
  rcases (by omega : m < k * 3 ∨ m = k * 3 ∨ m = k * 3 + 1 ∨ m = k * 3 + 2) with h | rfl | rfl | rfl
  · simp only [show ¬ m = k * 3 + 2 by omega, show ¬ m = k * 3 + 1 by omega, show ¬ m = k * 3 by omega, if_false]
    exact hd m h
  · simp [atF0 hk]
  · simp [atF1 hk]
  · simp [atF2 hk]
set_option maxHeartbeats 800000 in
theorem toAtoms (l : List At) (a : Option Addr) (c : Nat) (S : Nat) (w : World) (hw : S ≤ w.heap.size) (hl : l.length ≤ 1048576) (hS : Ats w (· < S) a l) :
    Calls Tryz.prog 32 #[.slice a l.length c] w fun e w' => e = .returned (.slice (some ⟨w.heap.size, 0, none⟩) l.length l.length) ∧ OwnAts w' (fun b => w.heap.size ≤ b ∧ b < w'.heap.size) (some ⟨w.heap.size, 0, none⟩) l ∧ Below w.heap.size w w' := by
  have HS : Hid (Ats w (· < S) a l) := hS
  clear hS
  have hmk := run_makeAt l.length hl
  go_enter Tryz.func32, Tryz.ntmps32
  go_wp2_with fail
  clear hmk
  go_loopw [4] (fun i wr => ∃ k : Nat, k ≤ l.length ∧ i = .int .i64 k ∧ Below w.heap.size w wr ∧ Hid (DoneA wr w.heap.size k l)) (fun i _ => l.length - (intOf i).toNat)
  case atStart =>
    refine ⟨0, Nat.zero_le _, rfl, (Below.refl _ _).alloc (Nat.le_refl _) _, ?_⟩
    obtain ⟨f, hf⟩ := rowIs_madeAt w l.length 92
    exact ⟨f, hf, fun m h => absurd h (by omega)⟩
  case round =>
    obtain ⟨k, hk, rfl, hB, HD⟩ := hrel
    by_cases hlt : k < l.length
    · obtain ⟨b, off, rfl, -, c0, c1, c2⟩ := (HS.out.below (hB.mono hw)).item k hlt
      obtain ⟨f, hf, hd⟩ := HD.out
      have HF : Hid (wr.rowIs w.heap.size 92 (l.length * 3) f ∧ ∀ m, m < k * 3 → f m = atF l m) := ⟨hf, hd⟩
      have HST : Hid (∀ w1, Below wr.heap.size wr w1 → DoneA (((w1.setCell ⟨w.heap.size, k * 3, none⟩ (.int .i64 l[k].k)).setCell ⟨w.heap.size, k * 3 + 1, none⟩ (.int .i64 l[k].n)).setCell ⟨w.heap.size, k * 3 + 2, none⟩ (.string ⟨l[k].t.toArray⟩)) w.heap.size (k + 1) l) := fun w1 hB1 => DoneA.step (hf.of_block (hB1.block _ hf.lt)) hd hlt
      clear hf hd
      generalize l[k] = x at *
      go_wp2_with (go_at_call 55; refine (toAtom x _).mono ?_; rintro e w1 ⟨rfl, hB1⟩; have hf1 := HF.out.1.of_block (hB1.block _ HF.out.1.lt); have e0 := hf1.cell (i := k * 3) (by omega); have e1 := hf1.cell (i := k * 3 + 1) (by omega); have e2 := hf1.cell (i := k * 3 + 2) (by omega); have z0 := hf1.frozen (k * 3); have z1 := hf1.frozen (k * 3 + 1); have z2 := hf1.frozen (k * 3 + 2); have HW : Hid (Below w.heap.size w w1 ∧ DoneA _ _ _ _) := ⟨hB.trans (hB1.mono hB.size), HST.out w1 hB1⟩; clear hB1 hf1)
      go_roundw
      case rel => exact ⟨k + 1, by omega, by go_num, ((HW.out.1.setCell (Nat.le_refl _) _).setCell (Nat.le_refl _) _).setCell (Nat.le_refl _) _, HW.out.2⟩
      case measure => simp [intOf]; omega
    · have hk' : k = l.length := by omega
      go_wp2_with fail
      go_ret
      refine ⟨rfl, ?_, hB⟩
      obtain ⟨f, hf, hd⟩ := HD.out
      refine .inr ⟨_, 0, rfl, ⟨Nat.le_refl _, hf.lt⟩, fun m hm => ⟨?_, by rw [Nat.zero_add]; exact hf.frozen m⟩⟩
      rw [Nat.zero_add, hf.cell hm, hd m (by omega)]
set_option maxHeartbeats 800000 in
theorem eqAtom (x : At) (w : World) :
    Calls Tryz.prog 57 #[.agg #[.int .i64 x.k, .int .i64 x.n, .string ⟨x.t.toArray⟩], .agg #[.int .i64 x.k, .int .i64 x.n, .string ⟨x.t.toArray⟩]] w fun e w' => e = .returned (.bool true) ∧ Below w.heap.size w w' := by
  go_enter Tryz.func57, Tryz.ntmps57
  go_wp2_with fail
  go_ret
  exact ⟨rfl, ((Below.refl _ _).alloc (Nat.le_refl _) _).alloc (by simp) _⟩
set_option maxHeartbeats 1600000 in
theorem eqAtoms (l : List At) (a a' : Option Addr) (c c' : Nat) (A B : Nat → Prop) (w : World) (hl : l.length ≤ maxLen) (hA : Ats w A a l) (hB : Ats w B a' l) :
    Calls Tryz.prog 36 #[.slice a l.length c, .slice a' l.length c'] w fun e w' => e = .returned (.bool true) ∧ Below w.heap.size w w' := by
  unfold maxLen at hl
  have HA : Hid (Ats w A a l) := hA
  have HB : Hid (Ats w B a' l) := hB
  clear hA hB
  go_enter Tryz.func36, Tryz.ntmps36
  go_wp2_with fail
  go_loopw [5] (fun i wr => ∃ k : Nat, k ≤ l.length ∧ i = .int .i64 k ∧ Hid (Below w.heap.size w wr)) (fun i _ => l.length - (intOf i).toNat)
  case atStart => exact ⟨0, Nat.zero_le _, rfl, Below.refl _ _⟩
  case round =>
    obtain ⟨k, hk, rfl, HW⟩ := hrel
    by_cases hlt : k < l.length
    · obtain ⟨b, off, rfl, -, c0, c1, c2⟩ := (HA.out.later HW.out).item k hlt
      obtain ⟨b', off', rfl, -, d0, d1, d2⟩ := (HB.out.later HW.out).item k hlt
      generalize l[k] = x at *
      have hki : (k : Int) < (l.length : Int) := by omega
      go_wp2_with fail
      go_region_with (go_at_call 57; refine (eqAtom x _).mono ?_; rintro e w1 ⟨rfl, hB1⟩)
      all_goals
        go_wp2_with fail
        go_roundw
        case rel => exact ⟨k + 1, by omega, by go_num, HW.out.trans ((Below.refl _ _).drew.trans (hB1.mono (by first | exact HW.out.size | (have := HW.out.size; simpa using this))))⟩
        case measure => simp [intOf]; omega
    · have hki : decide ((k : Int) < (l.length : Int)) = false := by simp; omega
      go_wp2_with fail
      go_ret
      exact ⟨rfl, HW.out⟩
end Go.Proofs.YtdioppekeekilaaGreatDoor
