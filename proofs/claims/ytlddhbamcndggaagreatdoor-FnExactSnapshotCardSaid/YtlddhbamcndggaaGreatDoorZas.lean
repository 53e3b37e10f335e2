import Derived.Test.YtlddhbamcndggaaGreatDoorZag
import Derived.Test.YtlddhbamcndggaaGreatDoorZah
import Derived.Test.YtlddhbamcndggaaGreatDoorZar
import Derived.WalkSpells
import Derived.WalkLawsBesides
import Derived.Test.YtlddhbamcndggaaGreatDoorZTk
namespace Go.Proofs.YtlddhbamcndggaaGreatDoor
open Go.RowKit
set_option linter.unusedSimpArgs false
def allB (cell val : List At) : Bool := val.all (hasB cell)
def noneB (cell val : List At) : Bool := val.all (fun x => !hasB cell x)
def cmpB (fn a b : Int) : Bool := if fn = 3 then decide (a < b) else if fn = 4 then decide (a ≤ b) else if fn = 5 then decide (b < a) else decide (b ≤ a)
def ncmpB (fn : Int) (cell val : List At) : Bool := match cell, val with
 | x :: _, y :: _ => cmpB fn x.n y.n
 | _, _ => false
noncomputable def matchP (fn : Int) (cell val : List At) : Bool := if fn = 1 then eqB cell val else if fn = 2 then !eqB cell val else if fn = 7 then allB cell val else if fn = 8 then noneB cell val else ncmpB fn cell val
theorem all_no {cell val : List At} {k : Nat} (hk : k < val.length) (h : hasB cell val[k] = false) : allB cell val = false := by
 unfold allB
 rw [List.all_eq_false]
 exact ⟨_, List.getElem_mem hk, by simp [h]⟩
theorem all_yes {cell val : List At} (h : ∀ k (hk : k < val.length), hasB cell val[k] = true) : allB cell val = true := by
 unfold allB
 rw [List.all_eq_true]
 intro x hx
 obtain ⟨k, hk, rfl⟩ := List.mem_iff_getElem.1 hx
 exact h k hk
theorem none_no {cell val : List At} {k : Nat} (hk : k < val.length) (h : hasB cell val[k] = true) : noneB cell val = false := by
 unfold noneB
 rw [List.all_eq_false]
 exact ⟨_, List.getElem_mem hk, by simp [h]⟩
theorem none_yes {cell val : List At} (h : ∀ k (hk : k < val.length), hasB cell val[k] = false) : noneB cell val = true := by
 unfold noneB
 rw [List.all_eq_true]
 intro x hx
 obtain ⟨k, hk, rfl⟩ := List.mem_iff_getElem.1 hx
 rw [h k hk]; rfl
theorem minus_all (cell val : List At) : decide ((minusA val cell).length = 0) = allB cell val := by
 unfold minusA allB
 rw [Bool.eq_iff_iff]
 simp [List.filter_eq_nil_iff]
theorem minus_none (cell val : List At) : decide ((minusA val cell).length = val.length) = noneB cell val := by
 unfold minusA noneB
 rw [Bool.eq_iff_iff]
 simp [List.length_filter_eq_length_iff]
set_option maxRecDepth 100000 in
set_option maxHeartbeats 3200000 in
theorem hasAllI (cell val : List At) (a : Option Addr) (c : Nat) (a' : Option Addr) (c' : Nat) (A B : Nat → Prop) (w : World) (ho : (dAtomS cell).le maxLen) (ho' : (dAtomS val).le maxLen) (hA : Rd w A (dAtomS cell) (.slice a cell.length c)) (hB : Rd w B (dAtomS val) (.slice a' val.length c')) :
  Calls Tryz.prog 156 #[.slice a cell.length c, .slice a' val.length c'] w fun e w' => e = .returned (.bool (allB cell val)) ∧ Below w.heap.size w w' := by
 have hl : val.length ≤ maxLen := (Ls_le.1 ho').2.1
 unfold maxLen at hl
 have CT : Hid (∀ x W, Below w.heap.size w W → Calls Tryz.prog 173 #[.slice a cell.length c, .agg #[.int .i64 x.k, .int .i64 x.n, .string ⟨x.t.toArray⟩]] W fun e w' => e = .returned (.bool (hasB cell x)) ∧ Below w.heap.size w w') := fun x W h => (containsI cell x a c A W (le_atoms ho).1 (hA.later h).ats).mono (fun e w' ⟨he, hB⟩ => ⟨he, h.trans (hB.mono h.size)⟩)
 have HA : Hid (∀ W, Below w.heap.size w W → Ats W B a' val) := fun W h => (hB.later h).ats
 clear hA hB ho ho'
 go_enter Tryz.func156, Tryz.ntmps156
 go_wp2_with fail
 go_loopw [9] (fun i wr => ∃ k : Nat, k ≤ val.length ∧ i = .int .i64 k ∧ Hid ((∀ m (h : m < val.length), m < k → hasB cell val[m] = true) ∧ Below w.heap.size w wr)) (fun i _ => val.length - (intOf i).toNat)
 case atStart => exact ⟨0, Nat.zero_le _, rfl, fun m _ h => absurd h (by omega), Below.refl _ _⟩
 case round =>
  obtain ⟨k, hk, rfl, HW⟩ := hrel
  by_cases hlt : k < val.length
  case neg =>
   have hki : decide ((k : Int) < (val.length : Int)) = false := by simp; omega
   have HR : Hid (allB cell val = true) := all_yes (fun m h => HW.out.1 m h (by omega))
   go_wp2_with fail
   go_ret
   exact ⟨ret_b HR.out.symm, HW.out.2⟩
  have hki : (k : Int) < (val.length : Int) := by omega
  obtain ⟨b, off, rfl, -, c0, c1, c2⟩ := (HA.out _ HW.out.2).item k hlt
  have z0 := cell_at (o := 0) (heap_newD wr (.cells #[.int .i64 val[k].k, .int .i64 val[k].n, .string ⟨val[k].t.toArray⟩] 165)) rfl
  have z1 := cell_at (o := 1) (heap_newD wr (.cells #[.int .i64 val[k].k, .int .i64 val[k].n, .string ⟨val[k].t.toArray⟩] 165)) rfl
  have z2 := cell_at (o := 2) (heap_newD wr (.cells #[.int .i64 val[k].k, .int .i64 val[k].n, .string ⟨val[k].t.toArray⟩] 165)) rfl
  have CC := Lib.hid (CT.out val[k] _ (HW.out.2.alloc HW.out.2.size (.cells #[.int .i64 val[k].k, .int .i64 val[k].n, .string ⟨val[k].t.toArray⟩] 165)))
  have HNO : Hid (hasB cell val[k] = false → allB cell val = false) := fun h => all_no hlt h
  have HNX : Hid (hasB cell val[k] = true → ∀ m (h : m < val.length), m < k + 1 → hasB cell val[m] = true) := fun he m h hm => by
   by_cases e : m = k
   ·
    subst e; exact he
   ·
    exact HW.out.1 m h (by omega)
  generalize val[k] = x at *
  go_wp2_with fail
  refine CC.out.mono ?_
  rintro e w1 ⟨rfl, hB1⟩
  have HB1 := Lib.hid hB1
  clear hB1 c0 c1 c2 z0 z1 z2
  cases he : hasB cell x
  case false =>
   have HR := Lib.hid (HNO.out he)
   clear HNO HNX he CC
   go_wp2_with fail
   go_ret
   exact ⟨ret_b HR.out.symm, HB1.out⟩
  have HN := Lib.hid (HNX.out he)
  clear HNO HNX he CC
  go_wp2_with fail
  go_roundw
  case rel => exact ⟨k + 1, by omega, by go_num, HN.out, HB1.out⟩
  case measure => simp [intOf]; omega
set_option maxRecDepth 100000 in
set_option maxHeartbeats 3200000 in
theorem hasNoneI (cell val : List At) (a : Option Addr) (c : Nat) (a' : Option Addr) (c' : Nat) (A B : Nat → Prop) (w : World) (ho : (dAtomS cell).le maxLen) (ho' : (dAtomS val).le maxLen) (hA : Rd w A (dAtomS cell) (.slice a cell.length c)) (hB : Rd w B (dAtomS val) (.slice a' val.length c')) :
  Calls Tryz.prog 157 #[.slice a cell.length c, .slice a' val.length c'] w fun e w' => e = .returned (.bool (noneB cell val)) ∧ Below w.heap.size w w' := by
 have hl : val.length ≤ maxLen := (Ls_le.1 ho').2.1
 unfold maxLen at hl
 have CT : Hid (∀ x W, Below w.heap.size w W → Calls Tryz.prog 173 #[.slice a cell.length c, .agg #[.int .i64 x.k, .int .i64 x.n, .string ⟨x.t.toArray⟩]] W fun e w' => e = .returned (.bool (hasB cell x)) ∧ Below w.heap.size w w') := fun x W h => (containsI cell x a c A W (le_atoms ho).1 (hA.later h).ats).mono (fun e w' ⟨he, hB⟩ => ⟨he, h.trans (hB.mono h.size)⟩)
 have HA : Hid (∀ W, Below w.heap.size w W → Ats W B a' val) := fun W h => (hB.later h).ats
 clear hA hB ho ho'
 go_enter Tryz.func157, Tryz.ntmps157
 go_wp2_with fail
 go_loopw [9] (fun i wr => ∃ k : Nat, k ≤ val.length ∧ i = .int .i64 k ∧ Hid ((∀ m (h : m < val.length), m < k → hasB cell val[m] = false) ∧ Below w.heap.size w wr)) (fun i _ => val.length - (intOf i).toNat)
 case atStart => exact ⟨0, Nat.zero_le _, rfl, fun m _ h => absurd h (by omega), Below.refl _ _⟩
 case round =>
  obtain ⟨k, hk, rfl, HW⟩ := hrel
  by_cases hlt : k < val.length
  case neg =>
   have hki : decide ((k : Int) < (val.length : Int)) = false := by simp; omega
   have HR : Hid (noneB cell val = true) := none_yes (fun m h => HW.out.1 m h (by omega))
   go_wp2_with fail
   go_ret
   exact ⟨ret_b HR.out.symm, HW.out.2⟩
  have hki : (k : Int) < (val.length : Int) := by omega
  obtain ⟨b, off, rfl, -, c0, c1, c2⟩ := (HA.out _ HW.out.2).item k hlt
  have z0 := cell_at (o := 0) (heap_newD wr (.cells #[.int .i64 val[k].k, .int .i64 val[k].n, .string ⟨val[k].t.toArray⟩] 165)) rfl
  have z1 := cell_at (o := 1) (heap_newD wr (.cells #[.int .i64 val[k].k, .int .i64 val[k].n, .string ⟨val[k].t.toArray⟩] 165)) rfl
  have z2 := cell_at (o := 2) (heap_newD wr (.cells #[.int .i64 val[k].k, .int .i64 val[k].n, .string ⟨val[k].t.toArray⟩] 165)) rfl
  have CC := Lib.hid (CT.out val[k] _ (HW.out.2.alloc HW.out.2.size (.cells #[.int .i64 val[k].k, .int .i64 val[k].n, .string ⟨val[k].t.toArray⟩] 165)))
  have HNO : Hid (hasB cell val[k] = true → noneB cell val = false) := fun h => none_no hlt h
  have HNX : Hid (hasB cell val[k] = false → ∀ m (h : m < val.length), m < k + 1 → hasB cell val[m] = false) := fun he m h hm => by
   by_cases e : m = k
   ·
    subst e; exact he
   ·
    exact HW.out.1 m h (by omega)
  generalize val[k] = x at *
  go_wp2_with fail
  refine CC.out.mono ?_
  rintro e w1 ⟨rfl, hB1⟩
  have HB1 := Lib.hid hB1
  clear hB1 c0 c1 c2 z0 z1 z2
  cases he : hasB cell x
  case true =>
   have HR := Lib.hid (HNO.out he)
   clear HNO HNX he CC
   go_wp2_with fail
   go_ret
   exact ⟨ret_b HR.out.symm, HB1.out⟩
  have HN := Lib.hid (HNX.out he)
  clear HNO HNX he CC
  go_wp2_with fail
  go_roundw
  case rel => exact ⟨k + 1, by omega, by go_num, HN.out, HB1.out⟩
  case measure => simp [intOf]; omega
set_option maxHeartbeats 1600000 in
theorem unlikeI (la lb : List At) (a : Option Addr) (c : Nat) (a' : Option Addr) (c' : Nat) (A B : Nat → Prop) (w : World) (ho : (dAtomS la).le maxLen) (ho' : (dAtomS lb).le maxLen) (hA : Rd w A (dAtomS la) (.slice a la.length c)) (hB : Rd w B (dAtomS lb) (.slice a' lb.length c')) :
  Calls Tryz.prog 150 #[.slice a la.length c, .slice a' lb.length c'] w fun e w' => e = .returned (.bool (!eqB la lb)) ∧ Below w.heap.size w w' := by
 have CC := Lib.hid (sameSetI la lb a c a' c' A B w ho ho' hA hB)
 clear ho ho' hA hB
 go_enter Tryz.func150, Tryz.ntmps150
 go_wp2_with (go_at_call 149; refine CC.out.mono ?_; rintro e w1 ⟨rfl, hB1⟩)
 go_ret
 exact ⟨rfl, hB1⟩
theorem Ats.num {w : World} {B : Nat → Prop} {a : Option Addr} {l : List At} (h : Ats w B a l) (h1 : l.length = 1) : ∃ b off q, ∃ x : At, l = [x] ∧ x.n = q ∧ a = some ⟨b, off, none⟩ ∧ w.cell? ⟨b, off + 1, none⟩ = some (.int .i64 q) := by
 obtain ⟨b, off, e, -, -, h2, -⟩ := h.item 0 (by omega)
 rw [Nat.zero_mul, Nat.add_zero] at h2
 match l, h1 with
 | [x], _ => exact ⟨b, off, x.n, x, rfl, rfl, e, h2⟩
theorem cmp3I (a b : Int) (w : World) : Calls Tryz.prog 152 #[.int .i64 a, .int .i64 b] w fun e w' => e = .returned (.bool (cmpB 3 a b)) ∧ w' = w := by
 have HR : Hid (cmpB 3 a b = decide (a < b)) := by show cmpB 3 a b = _; simp [cmpB]
 go_enter Tryz.func152, Tryz.ntmps152
 go_wp2_with fail
 go_ret
 exact ⟨ret_b HR.out.symm, rfl⟩
set_option maxRecDepth 100000 in
set_option maxHeartbeats 6400000 in
theorem num3I (cell val : List At) (a : Option Addr) (c : Nat) (a' : Option Addr) (c' : Nat) (A B : Nat → Prop) (pb : Nat) (w : World) (hp : w.cell? ⟨pb, 0, none⟩ = some (.func (.func 152) #[] #[])) (h1 : val.length = 1) (h2 : cell.length ≤ 1) (hA : Rd w A (dAtomS cell) (.slice a cell.length c)) (hB : Rd w B (dAtomS val) (.slice a' val.length c')) :
  Calls Tryz.prog 172 #[.slice a cell.length c, .slice a' val.length c', .pointer (some ⟨pb, 0, none⟩)] w fun e w' => e = .returned (.bool (ncmpB 3 cell val)) ∧ Below w.heap.size w w' := by
 obtain ⟨b, off, q, y, rfl, rfl, rfl, c1⟩ := hB.ats.num h1
 have hh := hA.ats
 clear hA hB h1
 by_cases h0 : cell.length = 0
 ·
  obtain rfl := List.length_eq_zero_iff.1 h0
  have HR : Hid (ncmpB 3 [] [y] = false) := rfl
  clear h0 h2 hh
  simp only [List.length_nil, List.length_cons, Nat.zero_add]
  go_enter Tryz.func172, Tryz.ntmps172
  go_wp2_with fail
  go_quiet (fail)
  go_wp2_with fail
  go_ret
  exact ⟨ret_b HR.out.symm, by first | exact Below.refl _ _ | exact (Below.refl _ _).drew | exact below_drewN (Below.refl _ _) _⟩
 ·
  obtain ⟨b2, off2, q2, x, rfl, rfl, rfl, c2⟩ := hh.num (by omega)
  have HR : Hid (ncmpB 3 [x] [y] = cmpB 3 x.n y.n) := rfl
  have CC := Lib.hid (fun W => cmp3I x.n y.n W)
  clear h0 h2 hh
  simp only [List.length_nil, List.length_cons, Nat.zero_add]
  generalize x.n = m at *
  generalize y.n = n at *
  go_enter Tryz.func172, Tryz.ntmps172
  go_wp2_with fail
  refine wp_region_held_drew (S := (fun W => W.cell? ⟨pb, 0, none⟩ = some (.func (.func 152) #[] #[]) ∧ W.cell? ⟨b, off + 1, none⟩ = some (.int .i64 n) ∧ W.cell? ⟨b2, off2 + 1, none⟩ = some (.int .i64 m))) (by kernel_rfl) ?_ (fun hHeld => ?_)
  ·
   (first | exact ⟨hp, c1, c2⟩ | exact ⟨by simpa using hp, by simpa using c1, by simpa using c2⟩)
  refine tkB (i := 0) ?_
  refine tkB (i := 1) ?_
  refine tkB (i := 2) ?_
  refine tkB (i := 3) ?_
  refine tkB (i := 4) ?_
  refine tkB (i := 5) ?_
  refine tkB (i := 6) ?_
  refine tkB (i := 7) ?_
  refine tkB (i := 8) ?_
  refine tkB (i := 9) ?_
  refine tkB (i := 10) ?_
  refine tkB (i := 11) ?_
  refine tkB (i := 12) ?_
  refine tkB (i := 13) ?_
  refine tkB (i := 14) ?_
  refine tkB (i := 15) ?_
  refine tkB (i := 16) ?_
  refine tkB (i := 17) ?_
  refine tkR (i := 18) (fun K hK => ?_)
  go_simp
  go_at_call 152
  refine (CC.out _).mono ?_
  rintro e w1 ⟨rfl, rfl⟩
  refine hK.out _ _ ?_ (fun hHeld => ?_)
  ·
   (first | exact ⟨hp, c1, c2⟩ | exact ⟨by simpa using hp, by simpa using c1, by simpa using c2⟩)
  clear hK K
  try simp only [Act.put, tkS]
  refine tkB (i := 19) ?_
  refine tkB (i := 20) ?_
  refine wpAnyH_done (by kernel_rfl) ?_ _
  go_wp2_with fail
  go_ret
  exact ⟨ret_b HR.out.symm, by first | exact Below.refl _ _ | exact (Below.refl _ _).drew | exact below_drewN (Below.refl _ _) _⟩
theorem cmp4I (a b : Int) (w : World) : Calls Tryz.prog 153 #[.int .i64 a, .int .i64 b] w fun e w' => e = .returned (.bool (cmpB 4 a b)) ∧ w' = w := by
 have HR : Hid (cmpB 4 a b = decide (a ≤ b)) := by show cmpB 4 a b = _; simp [cmpB]
 go_enter Tryz.func153, Tryz.ntmps153
 go_wp2_with fail
 go_ret
 exact ⟨ret_b HR.out.symm, rfl⟩
set_option maxRecDepth 100000 in
set_option maxHeartbeats 6400000 in
theorem num4I (cell val : List At) (a : Option Addr) (c : Nat) (a' : Option Addr) (c' : Nat) (A B : Nat → Prop) (pb : Nat) (w : World) (hp : w.cell? ⟨pb, 0, none⟩ = some (.func (.func 153) #[] #[])) (h1 : val.length = 1) (h2 : cell.length ≤ 1) (hA : Rd w A (dAtomS cell) (.slice a cell.length c)) (hB : Rd w B (dAtomS val) (.slice a' val.length c')) :
  Calls Tryz.prog 172 #[.slice a cell.length c, .slice a' val.length c', .pointer (some ⟨pb, 0, none⟩)] w fun e w' => e = .returned (.bool (ncmpB 4 cell val)) ∧ Below w.heap.size w w' := by
 obtain ⟨b, off, q, y, rfl, rfl, rfl, c1⟩ := hB.ats.num h1
 have hh := hA.ats
 clear hA hB h1
 by_cases h0 : cell.length = 0
 ·
  obtain rfl := List.length_eq_zero_iff.1 h0
  have HR : Hid (ncmpB 4 [] [y] = false) := rfl
  clear h0 h2 hh
  simp only [List.length_nil, List.length_cons, Nat.zero_add]
  go_enter Tryz.func172, Tryz.ntmps172
  go_wp2_with fail
  go_quiet (fail)
  go_wp2_with fail
  go_ret
  exact ⟨ret_b HR.out.symm, by first | exact Below.refl _ _ | exact (Below.refl _ _).drew | exact below_drewN (Below.refl _ _) _⟩
 ·
  obtain ⟨b2, off2, q2, x, rfl, rfl, rfl, c2⟩ := hh.num (by omega)
  have HR : Hid (ncmpB 4 [x] [y] = cmpB 4 x.n y.n) := rfl
  have CC := Lib.hid (fun W => cmp4I x.n y.n W)
  clear h0 h2 hh
  simp only [List.length_nil, List.length_cons, Nat.zero_add]
  generalize x.n = m at *
  generalize y.n = n at *
  go_enter Tryz.func172, Tryz.ntmps172
  go_wp2_with fail
  refine wp_region_held_drew (S := (fun W => W.cell? ⟨pb, 0, none⟩ = some (.func (.func 153) #[] #[]) ∧ W.cell? ⟨b, off + 1, none⟩ = some (.int .i64 n) ∧ W.cell? ⟨b2, off2 + 1, none⟩ = some (.int .i64 m))) (by kernel_rfl) ?_ (fun hHeld => ?_)
  ·
   (first | exact ⟨hp, c1, c2⟩ | exact ⟨by simpa using hp, by simpa using c1, by simpa using c2⟩)
  refine tkB (i := 0) ?_
  refine tkB (i := 1) ?_
  refine tkB (i := 2) ?_
  refine tkB (i := 3) ?_
  refine tkB (i := 4) ?_
  refine tkB (i := 5) ?_
  refine tkB (i := 6) ?_
  refine tkB (i := 7) ?_
  refine tkB (i := 8) ?_
  refine tkB (i := 9) ?_
  refine tkB (i := 10) ?_
  refine tkB (i := 11) ?_
  refine tkB (i := 12) ?_
  refine tkB (i := 13) ?_
  refine tkB (i := 14) ?_
  refine tkB (i := 15) ?_
  refine tkB (i := 16) ?_
  refine tkB (i := 17) ?_
  refine tkR (i := 18) (fun K hK => ?_)
  go_simp
  go_at_call 153
  refine (CC.out _).mono ?_
  rintro e w1 ⟨rfl, rfl⟩
  refine hK.out _ _ ?_ (fun hHeld => ?_)
  ·
   (first | exact ⟨hp, c1, c2⟩ | exact ⟨by simpa using hp, by simpa using c1, by simpa using c2⟩)
  clear hK K
  try simp only [Act.put, tkS]
  refine tkB (i := 19) ?_
  refine tkB (i := 20) ?_
  refine wpAnyH_done (by kernel_rfl) ?_ _
  go_wp2_with fail
  go_ret
  exact ⟨ret_b HR.out.symm, by first | exact Below.refl _ _ | exact (Below.refl _ _).drew | exact below_drewN (Below.refl _ _) _⟩
theorem cmp5I (a b : Int) (w : World) : Calls Tryz.prog 154 #[.int .i64 a, .int .i64 b] w fun e w' => e = .returned (.bool (cmpB 5 a b)) ∧ w' = w := by
 have HR : Hid (cmpB 5 a b = decide (b < a)) := by show cmpB 5 a b = _; simp [cmpB]
 go_enter Tryz.func154, Tryz.ntmps154
 go_wp2_with fail
 go_ret
 exact ⟨ret_b HR.out.symm, rfl⟩
set_option maxRecDepth 100000 in
set_option maxHeartbeats 6400000 in
theorem num5I (cell val : List At) (a : Option Addr) (c : Nat) (a' : Option Addr) (c' : Nat) (A B : Nat → Prop) (pb : Nat) (w : World) (hp : w.cell? ⟨pb, 0, none⟩ = some (.func (.func 154) #[] #[])) (h1 : val.length = 1) (h2 : cell.length ≤ 1) (hA : Rd w A (dAtomS cell) (.slice a cell.length c)) (hB : Rd w B (dAtomS val) (.slice a' val.length c')) :
  Calls Tryz.prog 172 #[.slice a cell.length c, .slice a' val.length c', .pointer (some ⟨pb, 0, none⟩)] w fun e w' => e = .returned (.bool (ncmpB 5 cell val)) ∧ Below w.heap.size w w' := by
 obtain ⟨b, off, q, y, rfl, rfl, rfl, c1⟩ := hB.ats.num h1
 have hh := hA.ats
 clear hA hB h1
 by_cases h0 : cell.length = 0
 ·
  obtain rfl := List.length_eq_zero_iff.1 h0
  have HR : Hid (ncmpB 5 [] [y] = false) := rfl
  clear h0 h2 hh
  simp only [List.length_nil, List.length_cons, Nat.zero_add]
  go_enter Tryz.func172, Tryz.ntmps172
  go_wp2_with fail
  go_quiet (fail)
  go_wp2_with fail
  go_ret
  exact ⟨ret_b HR.out.symm, by first | exact Below.refl _ _ | exact (Below.refl _ _).drew | exact below_drewN (Below.refl _ _) _⟩
 ·
  obtain ⟨b2, off2, q2, x, rfl, rfl, rfl, c2⟩ := hh.num (by omega)
  have HR : Hid (ncmpB 5 [x] [y] = cmpB 5 x.n y.n) := rfl
  have CC := Lib.hid (fun W => cmp5I x.n y.n W)
  clear h0 h2 hh
  simp only [List.length_nil, List.length_cons, Nat.zero_add]
  generalize x.n = m at *
  generalize y.n = n at *
  go_enter Tryz.func172, Tryz.ntmps172
  go_wp2_with fail
  refine wp_region_held_drew (S := (fun W => W.cell? ⟨pb, 0, none⟩ = some (.func (.func 154) #[] #[]) ∧ W.cell? ⟨b, off + 1, none⟩ = some (.int .i64 n) ∧ W.cell? ⟨b2, off2 + 1, none⟩ = some (.int .i64 m))) (by kernel_rfl) ?_ (fun hHeld => ?_)
  ·
   (first | exact ⟨hp, c1, c2⟩ | exact ⟨by simpa using hp, by simpa using c1, by simpa using c2⟩)
  refine tkB (i := 0) ?_
  refine tkB (i := 1) ?_
  refine tkB (i := 2) ?_
  refine tkB (i := 3) ?_
  refine tkB (i := 4) ?_
  refine tkB (i := 5) ?_
  refine tkB (i := 6) ?_
  refine tkB (i := 7) ?_
  refine tkB (i := 8) ?_
  refine tkB (i := 9) ?_
  refine tkB (i := 10) ?_
  refine tkB (i := 11) ?_
  refine tkB (i := 12) ?_
  refine tkB (i := 13) ?_
  refine tkB (i := 14) ?_
  refine tkB (i := 15) ?_
  refine tkB (i := 16) ?_
  refine tkB (i := 17) ?_
  refine tkR (i := 18) (fun K hK => ?_)
  go_simp
  go_at_call 154
  refine (CC.out _).mono ?_
  rintro e w1 ⟨rfl, rfl⟩
  refine hK.out _ _ ?_ (fun hHeld => ?_)
  ·
   (first | exact ⟨hp, c1, c2⟩ | exact ⟨by simpa using hp, by simpa using c1, by simpa using c2⟩)
  clear hK K
  try simp only [Act.put, tkS]
  refine tkB (i := 19) ?_
  refine tkB (i := 20) ?_
  refine wpAnyH_done (by kernel_rfl) ?_ _
  go_wp2_with fail
  go_ret
  exact ⟨ret_b HR.out.symm, by first | exact Below.refl _ _ | exact (Below.refl _ _).drew | exact below_drewN (Below.refl _ _) _⟩
theorem cmp6I (a b : Int) (w : World) : Calls Tryz.prog 155 #[.int .i64 a, .int .i64 b] w fun e w' => e = .returned (.bool (cmpB 6 a b)) ∧ w' = w := by
 have HR : Hid (cmpB 6 a b = decide (b ≤ a)) := by show cmpB 6 a b = _; simp [cmpB]
 go_enter Tryz.func155, Tryz.ntmps155
 go_wp2_with fail
 go_ret
 exact ⟨ret_b HR.out.symm, rfl⟩
set_option maxRecDepth 100000 in
set_option maxHeartbeats 6400000 in
theorem num6I (cell val : List At) (a : Option Addr) (c : Nat) (a' : Option Addr) (c' : Nat) (A B : Nat → Prop) (pb : Nat) (w : World) (hp : w.cell? ⟨pb, 0, none⟩ = some (.func (.func 155) #[] #[])) (h1 : val.length = 1) (h2 : cell.length ≤ 1) (hA : Rd w A (dAtomS cell) (.slice a cell.length c)) (hB : Rd w B (dAtomS val) (.slice a' val.length c')) :
  Calls Tryz.prog 172 #[.slice a cell.length c, .slice a' val.length c', .pointer (some ⟨pb, 0, none⟩)] w fun e w' => e = .returned (.bool (ncmpB 6 cell val)) ∧ Below w.heap.size w w' := by
 obtain ⟨b, off, q, y, rfl, rfl, rfl, c1⟩ := hB.ats.num h1
 have hh := hA.ats
 clear hA hB h1
 by_cases h0 : cell.length = 0
 ·
  obtain rfl := List.length_eq_zero_iff.1 h0
  have HR : Hid (ncmpB 6 [] [y] = false) := rfl
  clear h0 h2 hh
  simp only [List.length_nil, List.length_cons, Nat.zero_add]
  go_enter Tryz.func172, Tryz.ntmps172
  go_wp2_with fail
  go_quiet (fail)
  go_wp2_with fail
  go_ret
  exact ⟨ret_b HR.out.symm, by first | exact Below.refl _ _ | exact (Below.refl _ _).drew | exact below_drewN (Below.refl _ _) _⟩
 ·
  obtain ⟨b2, off2, q2, x, rfl, rfl, rfl, c2⟩ := hh.num (by omega)
  have HR : Hid (ncmpB 6 [x] [y] = cmpB 6 x.n y.n) := rfl
  have CC := Lib.hid (fun W => cmp6I x.n y.n W)
  clear h0 h2 hh
  simp only [List.length_nil, List.length_cons, Nat.zero_add]
  generalize x.n = m at *
  generalize y.n = n at *
  go_enter Tryz.func172, Tryz.ntmps172
  go_wp2_with fail
  refine wp_region_held_drew (S := (fun W => W.cell? ⟨pb, 0, none⟩ = some (.func (.func 155) #[] #[]) ∧ W.cell? ⟨b, off + 1, none⟩ = some (.int .i64 n) ∧ W.cell? ⟨b2, off2 + 1, none⟩ = some (.int .i64 m))) (by kernel_rfl) ?_ (fun hHeld => ?_)
  ·
   (first | exact ⟨hp, c1, c2⟩ | exact ⟨by simpa using hp, by simpa using c1, by simpa using c2⟩)
  refine tkB (i := 0) ?_
  refine tkB (i := 1) ?_
  refine tkB (i := 2) ?_
  refine tkB (i := 3) ?_
  refine tkB (i := 4) ?_
  refine tkB (i := 5) ?_
  refine tkB (i := 6) ?_
  refine tkB (i := 7) ?_
  refine tkB (i := 8) ?_
  refine tkB (i := 9) ?_
  refine tkB (i := 10) ?_
  refine tkB (i := 11) ?_
  refine tkB (i := 12) ?_
  refine tkB (i := 13) ?_
  refine tkB (i := 14) ?_
  refine tkB (i := 15) ?_
  refine tkB (i := 16) ?_
  refine tkB (i := 17) ?_
  refine tkR (i := 18) (fun K hK => ?_)
  go_simp
  go_at_call 155
  refine (CC.out _).mono ?_
  rintro e w1 ⟨rfl, rfl⟩
  refine hK.out _ _ ?_ (fun hHeld => ?_)
  ·
   (first | exact ⟨hp, c1, c2⟩ | exact ⟨by simpa using hp, by simpa using c1, by simpa using c2⟩)
  clear hK K
  try simp only [Act.put, tkS]
  refine tkB (i := 19) ?_
  refine tkB (i := 20) ?_
  refine wpAnyH_done (by kernel_rfl) ?_ _
  go_wp2_with fail
  go_ret
  exact ⟨ret_b HR.out.symm, by first | exact Below.refl _ _ | exact (Below.refl _ _).drew | exact below_drewN (Below.refl _ _) _⟩
set_option maxHeartbeats 1600000 in
theorem test1I (w : World) : Calls Tryz.prog 119 #[.string ⟨#[61, 61]⟩] w fun e w' => e = .returned (.func (.func 149) #[] #[]) ∧ w' = w := by
 go_enter Tryz.func119, Tryz.ntmps119
 go_wp2_with fail
 go_ret
 exact ⟨rfl, rfl⟩
set_option maxHeartbeats 1600000 in
theorem test2I (w : World) : Calls Tryz.prog 119 #[.string ⟨#[33, 61]⟩] w fun e w' => e = .returned (.func (.func 150) #[] #[]) ∧ w' = w := by
 go_enter Tryz.func119, Tryz.ntmps119
 go_wp2_with fail
 go_ret
 exact ⟨rfl, rfl⟩
set_option maxHeartbeats 1600000 in
theorem test3I (w : World) : Calls Tryz.prog 119 #[.string ⟨#[60]⟩] w fun e w' => e = .returned (.func (.func 172) #[] #[.pointer (some ⟨w.heap.size, 0, none⟩)]) ∧ Below w.heap.size w w' ∧ w'.cell? ⟨w.heap.size, 0, none⟩ = some (.func (.func 152) #[] #[]) := by
 have CN : Hid (∀ W : World, Calls Tryz.prog 151 #[.func (.func 152) #[] #[]] W fun e w' => e = .returned (.func (.func 172) #[] #[.pointer (some ⟨W.heap.size, 0, none⟩)]) ∧ Below W.heap.size W w' ∧ w'.cell? ⟨W.heap.size, 0, none⟩ = some (.func (.func 152) #[] #[])) := fun W => by
  go_enter Tryz.func151, Tryz.ntmps151
  go_wp2_with fail
  go_ret
  exact ⟨rfl, below_allocD _ _, cell_at (o := 0) (heap_newD _ _) rfl⟩
 go_enter Tryz.func119, Tryz.ntmps119
 go_wp2_with fail
 refine (CN.out _).mono ?_
 rintro e w1 ⟨rfl, h1, h2⟩
 have H := Lib.hid (And.intro h1 h2)
 clear h1 h2
 go_wp2_with fail
 go_ret
 exact ⟨rfl, H.out⟩
set_option maxHeartbeats 1600000 in
theorem test4I (w : World) : Calls Tryz.prog 119 #[.string ⟨#[60, 61]⟩] w fun e w' => e = .returned (.func (.func 172) #[] #[.pointer (some ⟨w.heap.size, 0, none⟩)]) ∧ Below w.heap.size w w' ∧ w'.cell? ⟨w.heap.size, 0, none⟩ = some (.func (.func 153) #[] #[]) := by
 have CN : Hid (∀ W : World, Calls Tryz.prog 151 #[.func (.func 153) #[] #[]] W fun e w' => e = .returned (.func (.func 172) #[] #[.pointer (some ⟨W.heap.size, 0, none⟩)]) ∧ Below W.heap.size W w' ∧ w'.cell? ⟨W.heap.size, 0, none⟩ = some (.func (.func 153) #[] #[])) := fun W => by
  go_enter Tryz.func151, Tryz.ntmps151
  go_wp2_with fail
  go_ret
  exact ⟨rfl, below_allocD _ _, cell_at (o := 0) (heap_newD _ _) rfl⟩
 go_enter Tryz.func119, Tryz.ntmps119
 go_wp2_with fail
 refine (CN.out _).mono ?_
 rintro e w1 ⟨rfl, h1, h2⟩
 have H := Lib.hid (And.intro h1 h2)
 clear h1 h2
 go_wp2_with fail
 go_ret
 exact ⟨rfl, H.out⟩
set_option maxHeartbeats 1600000 in
theorem test5I (w : World) : Calls Tryz.prog 119 #[.string ⟨#[62]⟩] w fun e w' => e = .returned (.func (.func 172) #[] #[.pointer (some ⟨w.heap.size, 0, none⟩)]) ∧ Below w.heap.size w w' ∧ w'.cell? ⟨w.heap.size, 0, none⟩ = some (.func (.func 154) #[] #[]) := by
 have CN : Hid (∀ W : World, Calls Tryz.prog 151 #[.func (.func 154) #[] #[]] W fun e w' => e = .returned (.func (.func 172) #[] #[.pointer (some ⟨W.heap.size, 0, none⟩)]) ∧ Below W.heap.size W w' ∧ w'.cell? ⟨W.heap.size, 0, none⟩ = some (.func (.func 154) #[] #[])) := fun W => by
  go_enter Tryz.func151, Tryz.ntmps151
  go_wp2_with fail
  go_ret
  exact ⟨rfl, below_allocD _ _, cell_at (o := 0) (heap_newD _ _) rfl⟩
 go_enter Tryz.func119, Tryz.ntmps119
 go_wp2_with fail
 refine (CN.out _).mono ?_
 rintro e w1 ⟨rfl, h1, h2⟩
 have H := Lib.hid (And.intro h1 h2)
 clear h1 h2
 go_wp2_with fail
 go_ret
 exact ⟨rfl, H.out⟩
set_option maxHeartbeats 1600000 in
theorem test6I (w : World) : Calls Tryz.prog 119 #[.string ⟨#[62, 61]⟩] w fun e w' => e = .returned (.func (.func 172) #[] #[.pointer (some ⟨w.heap.size, 0, none⟩)]) ∧ Below w.heap.size w w' ∧ w'.cell? ⟨w.heap.size, 0, none⟩ = some (.func (.func 155) #[] #[]) := by
 have CN : Hid (∀ W : World, Calls Tryz.prog 151 #[.func (.func 155) #[] #[]] W fun e w' => e = .returned (.func (.func 172) #[] #[.pointer (some ⟨W.heap.size, 0, none⟩)]) ∧ Below W.heap.size W w' ∧ w'.cell? ⟨W.heap.size, 0, none⟩ = some (.func (.func 155) #[] #[])) := fun W => by
  go_enter Tryz.func151, Tryz.ntmps151
  go_wp2_with fail
  go_ret
  exact ⟨rfl, below_allocD _ _, cell_at (o := 0) (heap_newD _ _) rfl⟩
 go_enter Tryz.func119, Tryz.ntmps119
 go_wp2_with fail
 refine (CN.out _).mono ?_
 rintro e w1 ⟨rfl, h1, h2⟩
 have H := Lib.hid (And.intro h1 h2)
 clear h1 h2
 go_wp2_with fail
 go_ret
 exact ⟨rfl, H.out⟩
set_option maxHeartbeats 1600000 in
theorem test7I (w : World) : Calls Tryz.prog 119 #[.string ⟨#[105, 110, 99, 108, 117, 100, 101, 115]⟩] w fun e w' => e = .returned (.func (.func 156) #[] #[]) ∧ w' = w := by
 go_enter Tryz.func119, Tryz.ntmps119
 go_wp2_with fail
 go_ret
 exact ⟨rfl, rfl⟩
set_option maxHeartbeats 1600000 in
theorem test8I (w : World) : Calls Tryz.prog 119 #[.string ⟨#[101, 120, 99, 108, 117, 100, 101, 115]⟩] w fun e w' => e = .returned (.func (.func 157) #[] #[]) ∧ w' = w := by
 go_enter Tryz.func119, Tryz.ntmps119
 go_wp2_with fail
 go_ret
 exact ⟨rfl, rfl⟩
end Go.Proofs.YtlddhbamcndggaaGreatDoor
