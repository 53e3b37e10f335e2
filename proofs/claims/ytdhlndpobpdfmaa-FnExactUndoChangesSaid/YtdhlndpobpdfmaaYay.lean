import Derived.Test.YtdhlndpobpdfmaaYah
import Derived.Deep.CutRange
import Derived.Deep.QuietTactic
namespace Go.Proofs.Ytdhlndpobpdfmaa
open Go.RowKit
set_option linter.unusedSimpArgs false
noncomputable def eqB {α : Type} (a b : α) : Bool := @decide (a = b) (Classical.propDecidable _)
theorem eqB_yes {α : Type} {a b : α} (h : a = b) : eqB a b = true := @decide_eq_true _ (Classical.propDecidable _) h
theorem eqB_no {α : Type} {a b : α} (h : ¬ a = b) : eqB a b = false := @decide_eq_false _ (Classical.propDecidable _) h
theorem eqB_iff {α : Type} {a b : α} : eqB a b = true ↔ a = b := ⟨fun h => @of_decide_eq_true _ (Classical.propDecidable _) h, eqB_yes⟩
theorem eqB_at {α : Type} {a b : List α} {k : Nat} (h : k < a.length) (h' : k < b.length) (hne : ¬ a[k] = b[k]) : eqB a b = false := eqB_no (fun e => by subst e; exact hne rfl)
theorem eqB_all {α : Type} {a b : List α} (hl : a.length = b.length) (h : ∀ m (h : m < a.length) (h' : m < b.length), m < a.length → a[m] = b[m]) : eqB a b = true := eqB_yes (List.ext_getElem hl (fun i h1 h2 => h i h1 h2 h1))
theorem differD {x y : At} (h : ¬ x = y) : ¬ x.k = y.k ∨ (x.k = y.k ∧ ¬ x.n = y.n) ∨ (x.k = y.k ∧ x.n = y.n ∧ ¬ x.t = y.t) := by
  by_cases h1 : x.k = y.k
  · by_cases h2 : x.n = y.n
    · by_cases h3 : x.t = y.t
      · exact absurd (At.ext' h1 h2 h3) h
      · exact .inr (.inr ⟨h1, h2, h3⟩)
    · exact .inr (.inl ⟨h1, h2⟩)
  · exact .inl h1
set_option maxRecDepth 100000 in
set_option maxHeartbeats 3200000 in
theorem same03S (la lb : List At) (a : Option Addr) (c : Nat) (a' : Option Addr) (c' : Nat) (A B : Nat → Prop) (w : World) (ho : (dAtomS la).le maxLen) (ho' : (dAtomS lb).le maxLen) (hA : Rd w A (dAtomS la) (.slice a la.length c)) (hB : Rd w B (dAtomS lb) (.slice a' lb.length c')) :
    Calls Try.prog 59 #[.slice a la.length c, .slice a' lb.length c'] w fun e w' => e = .returned (.bool (eqB la lb)) ∧ Below w.heap.size w w' := by
  have hl : la.length ≤ maxLen := (Ls_le.1 ho).2.1
  unfold maxLen at hl
  have HX : Hid (∀ i (h : i < la.length) j, j < 3 → (dAtom la[i] j).le maxLen) := (Ls_le.1 ho).2.2
  have HX' : Hid (∀ i (h : i < lb.length) j, j < 3 → (dAtom lb[i] j).le maxLen) := (Ls_le.1 ho').2.2
  have HA : Hid (∀ W, Below w.heap.size w W → Rd W A (Ls 3 dAtom la) (.slice a la.length c)) := fun W h => Rd.later hA h
  have HB : Hid (∀ W, Below w.heap.size w W → Rd W B (Ls 3 dAtom lb) (.slice a' lb.length c')) := fun W h => Rd.later hB h
  clear hA hB ho ho'
  by_cases hn : la.length = lb.length
  case neg =>
    have HR : Hid (eqB la lb = false) := eqB_no (fun e => hn (by rw [e]))
    have hd : ((la.length : Int) != (lb.length : Int)) = true := by simp; omega
    go_enter Try.func59, Try.ntmps59
    go_wp2_with fail
    go_ret
    exact ⟨ret_b HR.out.symm, Below.refl _ _⟩
  have hd : ((la.length : Int) != (lb.length : Int)) = false := by simp; omega
  have HN := Lib.hid hn
  clear hn
  go_enter Try.func59, Try.ntmps59
  go_wp2_with fail
  go_loopw [5] (fun i wr => ∃ k : Nat, k ≤ la.length ∧ i = .int .i64 k ∧ Hid ((∀ m (h : m < la.length) (h' : m < lb.length), m < k → la[m] = lb[m]) ∧ Below w.heap.size w wr)) (fun i _ => la.length - (intOf i).toNat)
  case atStart => exact ⟨0, Nat.zero_le _, rfl, fun m _ _ h => absurd h (by omega), Below.refl _ _⟩
  case round =>
    obtain ⟨k, hk, rfl, HW⟩ := hrel
    by_cases hlt : k < la.length
    case neg =>
      have hki : decide ((k : Int) < (la.length : Int)) = false := by simp; omega
      have HR : Hid (eqB la lb = true) := eqB_all HN.out (fun m h h' _ => HW.out.1 m h h' (by omega))
      go_wp2_with fail
      go_ret
      exact ⟨ret_b HR.out.symm, HW.out.2⟩
    have hlt' : k < lb.length := by have := HN.out; omega
    have hki : (k : Int) < (la.length : Int) := by omega
    have hkj : (k : Int) < (lb.length : Int) := by omega
    obtain ⟨b, off, rfl, -, hc⟩ := (HA.out _ HW.out.2).things k hlt
    obtain ⟨mb, moff, rfl, -, hd⟩ := (HB.out _ HW.out.2).things k hlt'
    obtain ⟨u0, c0, r0⟩ := hc 0 (by omega)
    obtain rfl : u0 = .int .i64 la[k].k := r0
    obtain ⟨u1, c1, r1⟩ := hc 1 (by omega)
    obtain rfl : u1 = .int .i64 la[k].n := r1
    obtain ⟨u2, c2, r2⟩ := hc 2 (by omega)
    obtain rfl : u2 = .string ⟨la[k].t.toArray⟩ := r2
    replace c0 : wr.cell? ⟨b, off + k * 3, none⟩ = _ := c0
    obtain ⟨v0, d0, s0⟩ := hd 0 (by omega)
    obtain rfl : v0 = .int .i64 lb[k].k := s0
    obtain ⟨v1, d1, s1⟩ := hd 1 (by omega)
    obtain rfl : v1 = .int .i64 lb[k].n := s1
    obtain ⟨v2, d2, s2⟩ := hd 2 (by omega)
    obtain rfl : v2 = .string ⟨lb[k].t.toArray⟩ := s2
    replace d0 : wr.cell? ⟨mb, moff + k * 3, none⟩ = _ := d0
    clear hc hd
    by_cases he : la[k] = lb[k]
    case pos =>
      have HG : Hid (∀ m (h : m < la.length) (h' : m < lb.length), m < k + 1 → la[m] = lb[m]) := fun m h h' hm => by
        by_cases e : m = k
        · subst e; exact he
        · exact HW.out.1 m h h' (by omega)
      rw [he] at c0 c1 c2
      clear he
      generalize lb[k] = y at *
      go_wp2_with fail
      go_quiet (fail)
      go_wp2_with fail
      go_roundw
      case rel => exact ⟨k + 1, by omega, by go_num, HG.out, HW.out.2.trans (below_drewN (Below.refl _ _) _)⟩
      case measure => simp [intOf]; omega
    have HR : Hid (eqB la lb = false) := eqB_at hlt hlt' he
    rcases differD he with hd | ⟨hd, hd2⟩ | ⟨hd, hd2, hd3⟩
    · skip
      clear he
      go_wp2_with fail
      go_quiet (fail)
      go_wp2_with fail
      go_ret
      exact ⟨ret_b HR.out.symm, HW.out.2.trans (below_drewN (Below.refl _ _) _)⟩
    · rw [← hd] at d0
      clear he hd
      go_wp2_with fail
      go_quiet (fail)
      go_wp2_with fail
      go_ret
      exact ⟨ret_b HR.out.symm, HW.out.2.trans (below_drewN (Below.refl _ _) _)⟩
    · rw [← hd] at d0
      rw [← hd2] at d1
      clear he hd hd2
      go_wp2_with fail
      go_quiet (fail)
      go_wp2_with fail
      go_ret
      exact ⟨ret_b HR.out.symm, HW.out.2.trans (below_drewN (Below.refl _ _) _)⟩
set_option maxRecDepth 100000 in
set_option maxHeartbeats 3200000 in
theorem equalI (la lb : List At) (a : Option Addr) (c : Nat) (a' : Option Addr) (c' : Nat) (A B : Nat → Prop) (w : World) (ho : (dAtomS la).le maxLen) (ho' : (dAtomS lb).le maxLen) (hA : Rd w A (dAtomS la) (.slice a la.length c)) (hB : Rd w B (dAtomS lb) (.slice a' lb.length c')) :
    Calls Try.prog 83 #[.slice a la.length c, .slice a' lb.length c'] w fun e w' => e = .returned (.bool (eqB la lb)) ∧ Below w.heap.size w w' := by
  have hl : la.length ≤ maxLen := (Ls_le.1 ho).2.1
  unfold maxLen at hl
  have HX : Hid (∀ i (h : i < la.length) j, j < 3 → (dAtom la[i] j).le maxLen) := (Ls_le.1 ho).2.2
  have HX' : Hid (∀ i (h : i < lb.length) j, j < 3 → (dAtom lb[i] j).le maxLen) := (Ls_le.1 ho').2.2
  have HA : Hid (∀ W, Below w.heap.size w W → Rd W A (Ls 3 dAtom la) (.slice a la.length c)) := fun W h => Rd.later hA h
  have HB : Hid (∀ W, Below w.heap.size w W → Rd W B (Ls 3 dAtom lb) (.slice a' lb.length c')) := fun W h => Rd.later hB h
  clear hA hB ho ho'
  by_cases hn : la.length = lb.length
  case neg =>
    have HR : Hid (eqB la lb = false) := eqB_no (fun e => hn (by rw [e]))
    have hd : ((la.length : Int) != (lb.length : Int)) = true := by simp; omega
    go_enter Try.func83, Try.ntmps83
    go_wp2_with fail
    go_ret
    exact ⟨ret_b HR.out.symm, Below.refl _ _⟩
  have hd : ((la.length : Int) != (lb.length : Int)) = false := by simp; omega
  have HN := Lib.hid hn
  clear hn
  go_enter Try.func83, Try.ntmps83
  go_wp2_with fail
  go_loopw [13] (fun i wr => ∃ k : Nat, k ≤ la.length ∧ i = .int .i64 k ∧ Hid ((∀ m (h : m < la.length) (h' : m < lb.length), m < k → la[m] = lb[m]) ∧ Below w.heap.size w wr)) (fun i _ => la.length - (intOf i).toNat)
  case atStart => exact ⟨0, Nat.zero_le _, rfl, fun m _ _ h => absurd h (by omega), Below.refl _ _⟩
  case round =>
    obtain ⟨k, hk, rfl, HW⟩ := hrel
    by_cases hlt : k < la.length
    case neg =>
      have hki : decide ((k : Int) < (la.length : Int)) = false := by simp; omega
      have HR : Hid (eqB la lb = true) := eqB_all HN.out (fun m h h' _ => HW.out.1 m h h' (by omega))
      go_wp2_with fail
      go_ret
      exact ⟨ret_b HR.out.symm, HW.out.2⟩
    have hlt' : k < lb.length := by have := HN.out; omega
    have hki : (k : Int) < (la.length : Int) := by omega
    have hkj : (k : Int) < (lb.length : Int) := by omega
    obtain ⟨b, off, rfl, -, hc⟩ := (HA.out _ HW.out.2).things k hlt
    obtain ⟨mb, moff, rfl, -, hd⟩ := (HB.out _ HW.out.2).things k hlt'
    obtain ⟨u0, c0, r0⟩ := hc 0 (by omega)
    obtain rfl : u0 = .int .i64 la[k].k := r0
    obtain ⟨u1, c1, r1⟩ := hc 1 (by omega)
    obtain rfl : u1 = .int .i64 la[k].n := r1
    obtain ⟨u2, c2, r2⟩ := hc 2 (by omega)
    obtain rfl : u2 = .string ⟨la[k].t.toArray⟩ := r2
    replace c0 : wr.cell? ⟨b, off + k * 3, none⟩ = _ := c0
    obtain ⟨v0, d0, s0⟩ := hd 0 (by omega)
    obtain rfl : v0 = .int .i64 lb[k].k := s0
    obtain ⟨v1, d1, s1⟩ := hd 1 (by omega)
    obtain rfl : v1 = .int .i64 lb[k].n := s1
    obtain ⟨v2, d2, s2⟩ := hd 2 (by omega)
    obtain rfl : v2 = .string ⟨lb[k].t.toArray⟩ := s2
    replace d0 : wr.cell? ⟨mb, moff + k * 3, none⟩ = _ := d0
    clear hc hd
    by_cases he : la[k] = lb[k]
    case pos =>
      have HG : Hid (∀ m (h : m < la.length) (h' : m < lb.length), m < k + 1 → la[m] = lb[m]) := fun m h h' hm => by
        by_cases e : m = k
        · subst e; exact he
        · exact HW.out.1 m h h' (by omega)
      rw [he] at c0 c1 c2
      clear he
      generalize lb[k] = y at *
      go_wp2_with fail
      go_quiet (fail)
      go_wp2_with fail
      go_roundw
      case rel => exact ⟨k + 1, by omega, by go_num, HG.out, HW.out.2.trans (below_drewN (Below.refl _ _) _)⟩
      case measure => simp [intOf]; omega
    have HR : Hid (eqB la lb = false) := eqB_at hlt hlt' he
    rcases differD he with hd | ⟨hd, hd2⟩ | ⟨hd, hd2, hd3⟩
    · skip
      clear he
      go_wp2_with fail
      go_quiet (fail)
      go_wp2_with fail
      go_ret
      exact ⟨ret_b HR.out.symm, HW.out.2.trans (below_drewN (Below.refl _ _) _)⟩
    · rw [← hd] at d0
      clear he hd
      go_wp2_with fail
      go_quiet (fail)
      go_wp2_with fail
      go_ret
      exact ⟨ret_b HR.out.symm, HW.out.2.trans (below_drewN (Below.refl _ _) _)⟩
    · rw [← hd] at d0
      rw [← hd2] at d1
      clear he hd hd2
      go_wp2_with fail
      go_quiet (fail)
      go_wp2_with fail
      go_ret
      exact ⟨ret_b HR.out.symm, HW.out.2.trans (below_drewN (Below.refl _ _) _)⟩
set_option maxHeartbeats 1600000 in
theorem sameSetI (la lb : List At) (a : Option Addr) (c : Nat) (a' : Option Addr) (c' : Nat) (A B : Nat → Prop) (w : World) (ho : (dAtomS la).le maxLen) (ho' : (dAtomS lb).le maxLen) (hA : Rd w A (dAtomS la) (.slice a la.length c)) (hB : Rd w B (dAtomS lb) (.slice a' lb.length c')) :
    Calls Try.prog 75 #[.slice a la.length c, .slice a' lb.length c'] w fun e w' => e = .returned (.bool (eqB la lb)) ∧ Below w.heap.size w w' := by
  have CC := Lib.hid (equalI la lb a c a' c' A B w ho ho' hA hB)
  clear ho ho' hA hB
  go_enter Try.func75, Try.ntmps75
  go_wp2_with (go_at_call 83; refine CC.out.mono ?_; rintro e w1 ⟨rfl, hB1⟩)
  go_ret
  exact ⟨rfl, hB1⟩
set_option maxRecDepth 100000 in
set_option maxHeartbeats 3200000 in
theorem eqFAtomsI (la lb : List (List At)) (a : Option Addr) (c : Nat) (a' : Option Addr) (c' : Nat) (A B : Nat → Prop) (w : World) (ho : (dAtomSS la).le maxLen) (ho' : (dAtomSS lb).le maxLen) (hA : Rd w A (dAtomSS la) (.slice a la.length c)) (hB : Rd w B (dAtomSS lb) (.slice a' lb.length c')) :
    Calls Try.prog 74 #[.slice a la.length c, .slice a' lb.length c', .func (.func 75) #[] #[]] w fun e w' => e = .returned (.bool (eqB la lb)) ∧ Below w.heap.size w w' := by
  have hl : la.length ≤ maxLen := (Ls_le.1 ho).2.1
  unfold maxLen at hl
  have HX : Hid (∀ i (h : i < la.length) j, j < 1 → (cAtomS la[i] j).le maxLen) := (Ls_le.1 ho).2.2
  have HX' : Hid (∀ i (h : i < lb.length) j, j < 1 → (cAtomS lb[i] j).le maxLen) := (Ls_le.1 ho').2.2
  have HA : Hid (∀ W, Below w.heap.size w W → Rd W A (Ls 1 cAtomS la) (.slice a la.length c)) := fun W h => Rd.later hA h
  have HB : Hid (∀ W, Below w.heap.size w W → Rd W B (Ls 1 cAtomS lb) (.slice a' lb.length c')) := fun W h => Rd.later hB h
  clear hA hB ho ho'
  by_cases hn : la.length = lb.length
  case neg =>
    have HR : Hid (eqB la lb = false) := eqB_no (fun e => hn (by rw [e]))
    have hd : ((la.length : Int) != (lb.length : Int)) = true := by simp; omega
    go_enter Try.func74, Try.ntmps74
    go_wp2_with fail
    go_ret
    exact ⟨ret_b HR.out.symm, Below.refl _ _⟩
  have hd : ((la.length : Int) != (lb.length : Int)) = false := by simp; omega
  have HN := Lib.hid hn
  clear hn
  go_enter Try.func74, Try.ntmps74
  go_wp2_with fail
  go_loopw [17] (fun i wr => ∃ k : Nat, k ≤ la.length ∧ i = .int .i64 k ∧ Hid ((∀ m (h : m < la.length) (h' : m < lb.length), m < k → la[m] = lb[m]) ∧ Below w.heap.size w wr)) (fun i _ => la.length - (intOf i).toNat)
  case atStart => exact ⟨0, Nat.zero_le _, rfl, fun m _ _ h => absurd h (by omega), Below.refl _ _⟩
  case round =>
    obtain ⟨k, hk, rfl, HW⟩ := hrel
    by_cases hlt : k < la.length
    case neg =>
      have hki : decide ((k : Int) < (la.length : Int)) = false := by simp; omega
      have HR : Hid (eqB la lb = true) := eqB_all HN.out (fun m h h' _ => HW.out.1 m h h' (by omega))
      go_wp2_with fail
      go_ret
      exact ⟨ret_b HR.out.symm, HW.out.2⟩
    have hlt' : k < lb.length := by have := HN.out; omega
    have hki : (k : Int) < (la.length : Int) := by omega
    have hkj : (k : Int) < (lb.length : Int) := by omega
    obtain ⟨b, off, rfl, -, hc⟩ := (HA.out _ HW.out.2).things k hlt
    obtain ⟨mb, moff, rfl, -, hd⟩ := (HB.out _ HW.out.2).things k hlt'
    obtain ⟨u0, c0, r0⟩ := hc 0 (by omega)
    replace r0 : Rd wr A (dAtomS la[k]) u0 := r0
    obtain ⟨ea, eq, rfl⟩ := r0.lsSlice
    rw [Nat.mul_one] at c0
    replace c0 : wr.cell? ⟨b, off + k, none⟩ = _ := c0
    obtain ⟨v0, d0, s0⟩ := hd 0 (by omega)
    replace s0 : Rd wr B (dAtomS lb[k]) v0 := s0
    obtain ⟨fa, fq, rfl⟩ := s0.lsSlice
    rw [Nat.mul_one] at d0
    replace d0 : wr.cell? ⟨mb, moff + k, none⟩ = _ := d0
    clear hc hd
    have CC := Lib.hid (sameSetI la[k] lb[k] ea eq fa fq A B wr (HX.out k hlt 0 (by omega)) (HX'.out k hlt' 0 (by omega)) r0 s0)
    clear r0 s0
    by_cases he : la[k] = lb[k]
    case pos =>
      have HG : Hid (∀ m (h : m < la.length) (h' : m < lb.length), m < k + 1 → la[m] = lb[m]) := fun m h h' hm => by
        by_cases e : m = k
        · subst e; exact he
        · exact HW.out.1 m h h' (by omega)
      rw [eqB_yes he] at CC
      clear he
      generalize la[k] = x at *
      generalize lb[k] = y at *
      go_wp2_with (go_at_call 75; refine CC.out.mono ?_; rintro e w1 ⟨rfl, hB1⟩)
      go_roundw
      case rel => exact ⟨k + 1, by omega, by go_num, HG.out, HW.out.2.trans (hB1.mono HW.out.2.size)⟩
      case measure => simp [intOf]; omega
    have HR : Hid (eqB la lb = false) := eqB_at hlt hlt' he
    rw [eqB_no he] at CC
    clear he
    generalize la[k] = x at *
    generalize lb[k] = y at *
    go_wp2_with (go_at_call 75; refine CC.out.mono ?_; rintro e w1 ⟨rfl, hB1⟩)
    go_ret
    exact ⟨ret_b HR.out.symm, HW.out.2.trans (hB1.mono HW.out.2.size)⟩
set_option maxRecDepth 100000 in
set_option maxHeartbeats 3200000 in
theorem sameRowI (x y : RowV) (a : Option Addr) (c : Nat) (a' : Option Addr) (c' : Nat) (A B : Nat → Prop) (w : World) (ho : (dAtomSS x.cells).le maxLen) (ho' : (dAtomSS y.cells).le maxLen) (hA : Rd w A (dAtomSS x.cells) (.slice a x.cells.length c)) (hB : Rd w B (dAtomSS y.cells) (.slice a' y.cells.length c')) :
    Calls Try.prog 65 #[.agg #[.int .i64 x.id, .slice a x.cells.length c], .agg #[.int .i64 y.id, .slice a' y.cells.length c']] w fun e w' => e = .returned (.bool (eqB x y)) ∧ Below w.heap.size w w' := by
  have hb := box2D 53 w #[.int .i64 x.id, .slice a x.cells.length c] #[.int .i64 y.id, .slice a' y.cells.length c']
  have CC := Lib.hid (eqFAtomsI x.cells y.cells a c a' c' A B _ ho ho' (hA.later hb.bel) (hB.later hb.bel))
  clear ho ho' hA hB
  have x0 := cell_at (o := 0) hb.a rfl
  have x1 := cell_at (o := 1) hb.a rfl
  have y0 := cell_at (o := 0) hb.b rfl
  have y1 := cell_at (o := 1) hb.b rfl
  by_cases hi : x.id = y.id
  · have HR : Hid (eqB x y = eqB x.cells y.cells) := by
      by_cases h : x.cells = y.cells
      · show eqB x y = _; rw [eqB_yes h, eqB_yes (by cases x; cases y; simp_all)]
      · show eqB x y = _; rw [eqB_no h, eqB_no (fun e => h (by rw [e]))]
    have hie : (x.id == y.id) = true := by simpa using hi
    generalize eqB x.cells y.cells = r at *
    clear hi
    go_enter Try.func65, Try.ntmps65
    go_wp2_with (go_at_call 74; refine CC.out.mono ?_; rintro e w1 ⟨rfl, hB1⟩)
    go_ret
    exact ⟨ret_b HR.out.symm, (hb.later hB1).bel⟩
  · have HR : Hid (eqB x y = false) := eqB_no (fun e => hi (by rw [e]))
    have hie : (x.id == y.id) = false := by simpa using hi
    clear hi CC
    go_enter Try.func65, Try.ntmps65
    go_wp2_with fail
    go_ret
    exact ⟨ret_b HR.out.symm, hb.bel⟩
end Go.Proofs.Ytdhlndpobpdfmaa
