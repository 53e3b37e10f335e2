import Derived.Test.YtlbcaaodkggohaaGreatDoorZad
import Derived.Test.YtlbcaaodkggohaaGreatDoorZaa
import Derived.BigQuiet
import Derived.Deep.RegionWith
import Derived.Test.YtlbcaaodkggohaaGreatDoorZab
import Derived.ArgAppend
import Derived.OwnWalk
import Derived.Test.YtlbcaaodkggohaaGreatDoorZac
namespace Go.Proofs.YtlbcaaodkggohaaGreatDoor
open Go.RowKit
def errAt (l : List At) (i : Nat) : Int := if atOK (l.getD i atZ) = false then 1 else if (l.getD i atZ).k ≠ (l.getD 0 atZ).k then 9 else 0
def errFrom (l : List At) : Nat → Nat → Int
 | 0, _ => 0
 | n + 1, i => if errAt l i = 0 then errFrom l n (i + 1) else errAt l i
def errOf (l : List At) : Int := errFrom l l.length 0
theorem errFrom_succ (l : List At) (k : Nat) (h : k < l.length) : errFrom l (l.length - k) k = if errAt l k = 0 then errFrom l (l.length - (k + 1)) (k + 1) else errAt l k := by
 rw [show l.length - k = (l.length - (k + 1)) + 1 by omega, errFrom]
end Go.Proofs.YtlbcaaodkggohaaGreatDoor
namespace Go.Proofs.YtlbcaaodkggohaaGreatDoor
open Go.RowKit
set_option linter.unusedSimpArgs false
theorem nanI (x : Int) (w : World) : Calls Tryz.prog 110 #[.int .i64 x] w fun e w' => e = .returned (.bool false) ∧ w' = w := by
 (go_enter Tryz.func110, Tryz.ntmps110); (go_wp2_with fail); go_ret; exact ⟨by simp, rfl⟩
set_option maxHeartbeats 1600000 in
theorem cmpInt (x y : Int) (w : World) : Calls Tryz.prog 101 #[.int .i64 x, .int .i64 y] w fun e w' => e = .returned (.int .i64 (if x < y then -1 else if y < x then 1 else 0)) ∧ w' = w := by
 by_cases h1 : x < y
 ·
  rw [if_pos h1]; have d1 : decide (x < y) = true := decide_eq_true h1; clear h1; (go_enter Tryz.func101, Tryz.ntmps101); (go_wp2_with (go_at_call 110; refine (nanI _ _).mono ?_; rintro e w' ⟨rfl, rfl⟩)); go_ret; exact ⟨rfl, rfl⟩
 ·
  rw [if_neg h1]; have d1 : decide (x < y) = false := decide_eq_false h1; clear h1
  by_cases h2 : y < x
  ·
   rw [if_pos h2]; have d2 : decide (y < x) = true := decide_eq_true h2; clear h2; (go_enter Tryz.func101, Tryz.ntmps101); (go_wp2_with (go_at_call 110; refine (nanI _ _).mono ?_; rintro e w' ⟨rfl, rfl⟩)); go_ret; exact ⟨rfl, rfl⟩
  ·
   rw [if_neg h2]; have d2 : decide (y < x) = false := decide_eq_false h2; clear h2; (go_enter Tryz.func101, Tryz.ntmps101); (go_wp2_with (go_at_call 110; refine (nanI _ _).mono ?_; rintro e w' ⟨rfl, rfl⟩)); go_ret; exact ⟨rfl, rfl⟩
set_option maxHeartbeats 400000 in
theorem idOKi (n : Int) (w : World) : Calls Tryz.prog 114 #[.int .i64 n] w fun e w' => e = .returned (.bool (inB 1 n 1000000)) ∧ w' = w := by
 (go_enter Tryz.func114, Tryz.ntmps114); go_wp2
 all_goals
  go_ret; refine ⟨ret_b ?_, rfl⟩; rw [Bool.eq_iff_iff]; simp [inB]; try omega
theorem in01 (n : Int) : inB 0 n 1 = (n == 0 || n == 1) := by
 unfold inB; rw [Bool.eq_iff_iff]; simp; omega
set_option maxHeartbeats 1600000 in
theorem atomOKi (x : At) (w : World) (ht : x.t.length ≤ maxLen) :
  Calls Tryz.prog 108 #[.agg #[.int .i64 x.k, .int .i64 x.n, .string ⟨x.t.toArray⟩]] w fun e w' => e = .returned (.bool (atOK x)) ∧ Below w.heap.size w w' := by
 have HTL : Hid (x.t.length ≤ maxLen) := ht; clear ht; rcases (by omega : x.k = 1 ∨ x.k = 2 ∨ x.k = 3 ∨ x.k = 4 ∨ (x.k < 1 ∨ 4 < x.k)) with k | k | k | k | k
 ·
  have HP : Hid (atOK x = _) := atOK1 k; rw [k]; (go_enter Tryz.func108, Tryz.ntmps108); go_wp2_with (go_at_call 97; refine (numberOK _ _).mono ?_; rintro e w' ⟨rfl, rfl⟩)
  all_goals
   go_ret; exact ⟨ret_b (end_b HP (by simp [*])), (Below.refl _ _).alloc (Nat.le_refl _) _⟩
 ·
  have HP : Hid (atOK x = _) := atOK2 k; rw [k]; (go_enter Tryz.func108, Tryz.ntmps108); go_wp2_with (go_at_call 113; refine (textOK _ _ HTL.out).mono ?_; rintro e w' ⟨rfl, rfl⟩)
  all_goals
   go_ret; exact ⟨ret_b (end_b HP (by simp [*])), (Below.refl _ _).alloc (Nat.le_refl _) _⟩
 ·
  have HP : Hid (atOK x = _) := atOK3 k; rw [in01] at HP; rw [k]; (go_enter Tryz.func108, Tryz.ntmps108); go_wp2_with fail
  all_goals
   go_ret; exact ⟨ret_b (end_b HP (by simp [*])), (Below.refl _ _).alloc (Nat.le_refl _) _⟩
 ·
  have HP : Hid (atOK x = _) := atOK4 k; rw [k]; (go_enter Tryz.func108, Tryz.ntmps108); go_wp2_with (go_at_call 114; refine (idOKi _ _).mono ?_; rintro e w' ⟨rfl, rfl⟩)
  all_goals
   go_ret; exact ⟨ret_b (end_b HP (by simp [*])), (Below.refl _ _).alloc (Nat.le_refl _) _⟩
 ·
  have HP : Hid (atOK x = false) := atOKN k; have k1 : (x.k == 1) = false := by simp; omega
  have k2 : (x.k == 2) = false := by simp; omega
  have k3 : (x.k == 3) = false := by simp; omega
  have k4 : (x.k == 4) = false := by simp; omega
  (go_enter Tryz.func108, Tryz.ntmps108); (go_wp2_with fail); go_ret; exact ⟨ret_b (end_b HP rfl), (Below.refl _ _).alloc (Nat.le_refl _) _⟩
theorem nanS (x : ByteArray) (w : World) : Calls Tryz.prog 102 #[.string x] w fun e w' => e = .returned (.bool false) ∧ w' = w := by
 (go_enter Tryz.func102, Tryz.ntmps102); (go_wp2_with fail); go_ret; exact ⟨by simp, rfl⟩
theorem bl_self : ∀ t : List UInt8, Op.bytesLess t t = false
 | [] => rfl
 | a :: r => by unfold Op.bytesLess; simp [bl_self r]
set_option maxHeartbeats 1600000 in
theorem cmpStr (x y : List UInt8) (w : World) : Calls Tryz.prog 76 #[.string ⟨x.toArray⟩, .string ⟨y.toArray⟩] w fun e w' => e = .returned (.int .i64 (if x = y then 0 else if Op.bytesLess x y then -1 else 1)) ∧ w' = w := by
 by_cases h1 : x = y
 ·
  rw [if_pos h1]; subst h1; have d1 := bl_self x; (go_enter Tryz.func76, Tryz.ntmps76); (go_wp2_with (go_at_call 102; refine (nanS _ _).mono ?_; rintro e w' ⟨rfl, rfl⟩)); go_ret; exact ⟨rfl, rfl⟩
 ·
  rw [if_neg h1]; have e1 : (x == y) = false := by simpa using h1
  clear h1
  cases d1 : Op.bytesLess x y
  ·
   (go_enter Tryz.func76, Tryz.ntmps76); (go_wp2_with (go_at_call 102; refine (nanS _ _).mono ?_; rintro e w' ⟨rfl, rfl⟩)); go_ret; exact ⟨rfl, rfl⟩
  ·
   (go_enter Tryz.func76, Tryz.ntmps76); (go_wp2_with (go_at_call 102; refine (nanS _ _).mono ?_; rintro e w' ⟨rfl, rfl⟩)); go_ret; exact ⟨rfl, rfl⟩
set_option maxHeartbeats 1600000 in
theorem compareI (a b : At) (w : World) :
  Calls Tryz.prog 94 #[.agg #[.int .i64 a.k, .int .i64 a.n, .string ⟨a.t.toArray⟩], .agg #[.int .i64 b.k, .int .i64 b.n, .string ⟨b.t.toArray⟩]] w fun e w' => e = .returned (.int .i64 (cmpA a b)) ∧ Below w.heap.size w w' := by
 by_cases h : a.k = b.k
 case neg =>
  have HC : Hid (cmpA a b = (if a.k < b.k then -1 else if b.k < a.k then 1 else 0)) := by
   show cmpA a b = _
   unfold cmpA; rw [if_pos h]
   by_cases hl : a.k < b.k
   ·
    rw [if_pos hl, if_pos hl]
   ·
    rw [if_neg hl, if_neg hl, if_pos (by omega)]
  have hk : (a.k != b.k) = true := by simpa using h
  clear h; (go_enter Tryz.func94, Tryz.ntmps94); (go_wp2_with (go_at_call 101; refine (cmpInt _ _ _).mono ?_; rintro e w' ⟨rfl, rfl⟩; rw [← HC.out])); go_ret; exact ⟨rfl, below2 _ _ _⟩
 by_cases h2 : a.n = b.n
 case neg =>
  have HC : Hid (cmpA a b = (if a.n < b.n then -1 else if b.n < a.n then 1 else 0)) := by
   show cmpA a b = _
   unfold cmpA; rw [if_neg (by simp [h]), if_pos h2]
   by_cases hl : a.n < b.n
   ·
    rw [if_pos hl, if_pos hl]
   ·
    rw [if_neg hl, if_neg hl, if_pos (by omega)]
  have hk : (a.n != b.n) = true := by simpa using h2
  rw [h]; clear h h2; (go_enter Tryz.func94, Tryz.ntmps94); (go_wp2_with (go_at_call 101; refine (cmpInt _ _ _).mono ?_; rintro e w' ⟨rfl, rfl⟩; rw [← HC.out])); go_ret; exact ⟨rfl, below2 _ _ _⟩
 have HC : Hid (cmpA a b = (if a.t = b.t then 0 else if Op.bytesLess a.t b.t then -1 else 1)) := by
  show cmpA a b = _
  unfold cmpA; rw [if_neg (by simp [h]), if_neg (by simp [h2])]
  by_cases hl : a.t = b.t
  ·
   rw [if_neg (by simp [hl]), if_pos hl]
  ·
   rw [if_pos hl, if_neg hl]
 rw [h, h2]; clear h h2; (go_enter Tryz.func94, Tryz.ntmps94); (go_wp2_with (go_at_call 76; refine (cmpStr _ _ _).mono ?_; rintro e w' ⟨rfl, rfl⟩; rw [← HC.out])); go_ret; exact ⟨rfl, below2 _ _ _⟩
set_option maxRecDepth 100000 in
set_option maxHeartbeats 3200000 in
theorem atomsCodeI (l : List At) (a : Option Addr) (c : Nat) (S : Nat) (w : World) (hl : l.length ≤ maxLen) (hx : ∀ x ∈ l, x.t.length ≤ maxLen) (hw : S ≤ w.heap.size) (hA : Ats w (· < S) a l) :
  Calls Tryz.prog 92 #[.slice a l.length c] w fun e w' => e = .returned (.int .i64 (errOf l)) ∧ Below w.heap.size w w' := by
 unfold maxLen at hl; have HA : Hid (Ats w (· < S) a l) := hA; have HX : Hid (∀ x ∈ l, x.t.length ≤ maxLen) := hx; clear hA hx; (go_enter Tryz.func92, Tryz.ntmps92); (go_wp2_with fail); go_loopw [6] (fun i wr => ∃ k : Nat, k ≤ l.length ∧ i = .int .i64 k ∧ Hid (errFrom l (l.length - k) k = errOf l ∧ Below w.heap.size w wr)) (fun i _ => l.length - (intOf i).toNat)
 case atStart => exact ⟨0, Nat.zero_le _, rfl, rfl, Below.refl _ _⟩
 case round =>
  obtain ⟨k, hk, rfl, HW⟩ := hrel
  by_cases hlt : k < l.length
  ·
   have hki : (k : Int) < (l.length : Int) := by omega
   have hln : 0 < l.length := by omega
   have hki0 : (0 : Int) < (l.length : Int) := by omega
   obtain ⟨b, off, rfl, -⟩ := (HA.out.item k hlt); have HTX : Hid (l[k].t.length ≤ maxLen) := HX.out _ (List.getElem_mem hlt)
   have CE : Hid (∀ W, Below w.heap.size w W → W.cell? ⟨b, off + k * 3, none⟩ = some (.int .i64 l[k].k) ∧ W.cell? ⟨b, off + k * 3 + 1, none⟩ = some (.int .i64 l[k].n) ∧ W.cell? ⟨b, off + k * 3 + 2, none⟩ = some (.string ⟨l[k].t.toArray⟩) ∧ W.cell? ⟨b, off, none⟩ = some (.int .i64 l[0].k)) := fun W hb => by
    have f := (HA.out.below (hb.mono hw)).three 0 hln; rw [Nat.zero_mul, Nat.add_zero] at f; obtain ⟨h0, h1, h2⟩ := (HA.out.below (hb.mono hw)).three k hlt; exact ⟨h0, h1, h2, f.1⟩
   have AO : Hid (∀ W, Below w.heap.size w W → Calls Tryz.prog 108 #[.agg #[.int .i64 l[k].k, .int .i64 l[k].n, .string ⟨l[k].t.toArray⟩]] W fun e w' => e = .returned (.bool (atOK l[k])) ∧ Below w.heap.size w w') := fun W h => (atomOKi l[k] W HTX.out).mono (fun e w' ⟨he, hB⟩ => ⟨he, h.trans (hB.mono h.size)⟩)
   have HSU := errFrom_succ l k hlt; rw [HW.out.1] at HSU; have HEA : errAt l k = if atOK l[k] = false then 1 else if l[k].k ≠ l[0].k then 9 else 0 := by unfold errAt; rw [at_getD hlt, at_getD hln]
   have hx := HW.out.2; have c0 := (CE.out _ hx).1; have c1 := (CE.out _ hx).2.1; have c2 := (CE.out _ hx).2.2.1
   cases hok : atOK l[k]
   ·
    rw [hok, if_pos rfl] at HEA; rw [HEA, if_neg (by omega)] at HSU; have HC : Hid (errOf l = 1) := HSU; rw [hok] at AO; clear hok HEA HSU HW CE; generalize l[k] = x at *; (go_wp2_with (go_at_call 108; refine (AO.out _ hx).mono ?_; rintro e w1 ⟨rfl, hx⟩)); go_ret; exact ⟨ret_i HC.out.symm, hx⟩
   ·
    rw [hok, if_neg (by simp)] at HEA; rw [hok] at AO
    by_cases hkd : l[k].k = l[0].k
    ·
     rw [if_neg (by simp [hkd])] at HEA; rw [HEA, if_pos rfl] at HSU; have HN : Hid (errFrom l (l.length - (k + 1)) (k + 1) = errOf l) := HSU.symm; have hkn : (l[k].k != l[0].k) = false := by simpa using hkd
     clear hok HEA HSU HW hkd; generalize l[k] = x at *; generalize l[0] = z at *; (go_wp2_with (go_at_call 108; refine (AO.out _ hx).mono ?_; rintro e w1 ⟨rfl, hx⟩; have f0 := (CE.out _ hx).1; have f1 := (CE.out _ hx).2.2.2)); (go_quiet (fail)); (go_wp2_with fail); go_roundw
     case rel => exact ⟨k + 1, by omega, by go_num, HN.out, below_drewN hx _⟩
     case measure => simp [intOf]; omega
    ·
     rw [if_pos hkd] at HEA; rw [HEA, if_neg (by omega)] at HSU; have HC : Hid (errOf l = 9) := HSU; have hkn : (l[k].k != l[0].k) = true := by simpa using hkd
     clear hok HEA HSU HW hkd; generalize l[k] = x at *; generalize l[0] = z at *; (go_wp2_with (go_at_call 108; refine (AO.out _ hx).mono ?_; rintro e w1 ⟨rfl, hx⟩; have f0 := (CE.out _ hx).1; have f1 := (CE.out _ hx).2.2.2)); (go_quiet (fail)); (go_wp2_with fail); go_ret; exact ⟨ret_i HC.out.symm, below_drewN hx _⟩
  ·
   have he : Hid (errOf l = 0) := by show errOf l = 0; rw [← HW.out.1, show l.length - k = 0 by omega]; rfl
   have hmi : decide ((k : Int) < (l.length : Int)) = false := by simp; omega
   have hx := HW.out.2; (go_wp2_with fail); go_ret; exact ⟨ret_i he.out.symm, hx⟩
def riseB (l : List At) : Bool := (List.range l.length).all (fun i => decide (i = 0) || decide (cmpA (l.getD (i - 1) atZ) (l.getD i atZ) < 0))
theorem rise_no {l : List At} {i : Nat} (hi : i + 1 < l.length) (h : ¬ cmpA l[i] l[i + 1] < 0) : riseB l = false := by
 unfold riseB; rw [List.all_eq_false]; exact ⟨i + 1, List.mem_range.2 hi, by rw [Nat.add_sub_cancel, at_getD hi, at_getD (show i < l.length by omega)]; simp; omega⟩
theorem rise_yes {l : List At} (h : ∀ i (hi : i + 1 < l.length), cmpA l[i] l[i + 1] < 0) : riseB l = true := by
 unfold riseB; rw [List.all_eq_true]; intro i hi; have hi := List.mem_range.1 hi
 cases i with
 | zero => rfl
 | succ i => rw [Nat.add_sub_cancel, at_getD hi, at_getD (show i < l.length by omega)]; simp [h i hi]
set_option maxRecDepth 100000 in
set_option maxHeartbeats 3200000 in
theorem risesI (l : List At) (a : Option Addr) (c : Nat) (S : Nat) (w : World) (hl : l.length ≤ maxLen) (hw : S ≤ w.heap.size) (hA : Ats w (· < S) a l) :
  Calls Tryz.prog 93 #[.slice a l.length c, .func (.func 94) #[] #[]] w fun e w' => e = .returned (.bool (riseB l)) ∧ Below w.heap.size w w' := by
 unfold maxLen at hl; have HA : Hid (Ats w (· < S) a l) := hA; clear hA; (go_enter Tryz.func93, Tryz.ntmps93); (go_wp2_with fail); go_loopw [5] (fun i wr => ∃ k : Nat, 1 ≤ k ∧ k ≤ maxLen + 1 ∧ i = .int .i64 k ∧ Hid ((∀ m (h : m + 1 < l.length), m + 1 < k → cmpA l[m] l[m + 1] < 0) ∧ Below w.heap.size w wr)) (fun i _ => l.length - (intOf i).toNat)
 case atStart => exact ⟨1, by omega, by unfold maxLen; omega, rfl, fun m _ h => absurd h (by omega), Below.refl _ _⟩
 case round =>
  obtain ⟨k, hk1, hk, rfl, HW⟩ := hrel
  by_cases hlt : k < l.length
  ·
   obtain ⟨m, rfl⟩ : ∃ m, k = m + 1 := ⟨k - 1, by omega⟩; obtain ⟨b, off, rfl, -⟩ := (HA.out.item m (by omega)); have hx := HW.out.2
   have CE : Hid (∀ W, Below w.heap.size w W → (W.cell? ⟨b, off + m * 3, none⟩ = some (.int .i64 l[m].k) ∧ W.cell? ⟨b, off + m * 3 + 1, none⟩ = some (.int .i64 l[m].n) ∧ W.cell? ⟨b, off + m * 3 + 2, none⟩ = some (.string ⟨l[m].t.toArray⟩)) ∧ W.cell? ⟨b, off + (m + 1) * 3, none⟩ = some (.int .i64 l[m + 1].k) ∧ W.cell? ⟨b, off + (m + 1) * 3 + 1, none⟩ = some (.int .i64 l[m + 1].n) ∧ W.cell? ⟨b, off + (m + 1) * 3 + 2, none⟩ = some (.string ⟨l[m + 1].t.toArray⟩)) := fun W hb =>
    ⟨(HA.out.below (hb.mono hw)).three m (by omega), (HA.out.below (hb.mono hw)).three (m + 1) hlt⟩
   have CP : Hid (∀ W, Below w.heap.size w W → Calls Tryz.prog 94 #[.agg #[.int .i64 l[m].k, .int .i64 l[m].n, .string ⟨l[m].t.toArray⟩], .agg #[.int .i64 l[m + 1].k, .int .i64 l[m + 1].n, .string ⟨l[m + 1].t.toArray⟩]] W fun e w' => e = .returned (.int .i64 (cmpA l[m] l[m + 1])) ∧ Below w.heap.size w w') := fun W h => (compareI l[m] l[m + 1] W).mono (fun e w' ⟨he, hB⟩ => ⟨he, h.trans (hB.mono h.size)⟩)
   have hm1 : (m : Int) < (l.length : Int) := by omega
   have hm2 : (m : Int) + 1 < (l.length : Int) := by omega
   have hm0 : (0 : Int) ≤ (m : Int) := by omega
   have hm3 : (0 : Int) ≤ (m : Int) + 1 := by omega
   have hsb : ((m + 1 : Nat) : Int) - 1 = (m : Int) := by omega
   have hwm : IntKind.i64.wrap (m : Int) = (m : Int) := by rw [IntKind.wrap_i64]; omega
   have g0 := (CE.out _ hx).1.1; have g1 := (CE.out _ hx).1.2.1; have g2 := (CE.out _ hx).1.2.2; have f0 := (CE.out _ hx).2.1; have f1 := (CE.out _ hx).2.2.1; have f2 := (CE.out _ hx).2.2.2
   by_cases hr : cmpA l[m] l[m + 1] < 0
   ·
    have HN : Hid (∀ q (h : q + 1 < l.length), q + 1 < m + 1 + 1 → cmpA l[q] l[q + 1] < 0) := fun q h hq => by
     by_cases e : q = m
     ·
      subst e; exact hr
     ·
      exact HW.out.1 q h (by omega)
    have hd : decide (cmpA l[m] l[m + 1] ≥ 0) = false := by simp; omega
    have hd2 : decide (0 ≤ cmpA l[m] l[m + 1]) = false := by simp; omega
    clear hr HW; generalize cmpA l[m] l[m + 1] = q at *; generalize l[m] = x at *; generalize l[m + 1] = y at *; (go_wp2_with fail); go_region_with (go_at_call 94; refine (CP.out _ ?_).mono ?_; first | exact hx | exact hx.drew; rintro e w1 ⟨rfl, hx1⟩)
    all_goals
     (go_wp2_with fail); go_roundw
     case rel => exact ⟨m + 1 + 1, by omega, by unfold maxLen; omega, by go_num, HN.out, hx1⟩
     case measure => simp [intOf]; omega
   ·
    have HR : Hid (riseB l = false) := rise_no hlt hr; have hd : decide (cmpA l[m] l[m + 1] ≥ 0) = true := by simp; omega
    have hd2 : decide (0 ≤ cmpA l[m] l[m + 1]) = true := by simp; omega
    clear hr HW; generalize cmpA l[m] l[m + 1] = q at *; generalize l[m] = x at *; generalize l[m + 1] = y at *; (go_wp2_with fail); go_region_with (go_at_call 94; refine (CP.out _ ?_).mono ?_; first | exact hx | exact hx.drew; rintro e w1 ⟨rfl, hx1⟩)
    all_goals
     (go_wp2_with fail); go_ret; exact ⟨ret_b HR.out.symm, hx1⟩
  ·
   have HR : Hid (riseB l = true) := rise_yes (fun m h => HW.out.1 m h (by omega)); have hmi : decide ((k : Int) < (l.length : Int)) = false := by simp; omega
   have hx := HW.out.2; (go_wp2_with fail); go_ret; exact ⟨ret_b HR.out.symm, hx⟩
theorem errFrom_zero (l : List At) : ∀ n i, errFrom l n i = 0 ↔ ∀ j, i ≤ j → j < i + n → errAt l j = 0
 | 0, i => ⟨fun _ j h h' => by omega, fun _ => rfl⟩
 | n + 1, i => by
  rw [errFrom]; constructor
  ·
   intro h j h1 h2
   split at h
   ·
    rename_i e
    by_cases hj : j = i
    ·
     rw [hj]; exact e
    ·
     exact (errFrom_zero l n (i + 1)).1 h j (by omega) (by omega)
   ·
    rename_i e
    exact absurd h e
  ·
   intro h; rw [if_pos (h i (by omega) (by omega))]; exact (errFrom_zero l n (i + 1)).2 (fun j h1 h2 => h j (by omega) (by omega))
theorem errOf_zero (l : List At) : errOf l = 0 ↔ ∀ j, j < l.length → errAt l j = 0 := by
 unfold errOf; rw [errFrom_zero]; exact ⟨fun h j hj => h j (by omega) (by omega), fun h j _ hj => h j (by omega)⟩
theorem errAt_zero {l : List At} {i : Nat} : errAt l i = 0 ↔ atOK (l.getD i atZ) = true ∧ (l.getD i atZ).k = (l.getD 0 atZ).k := by
 unfold errAt
 split
 ·
  rename_i h
  exact ⟨fun h => by omega, fun h' => by rw [h] at h'; exact absurd h'.1 (by simp)⟩
 ·
  rename_i h
  split
  ·
   rename_i h2
   exact ⟨fun h => by omega, fun h' => absurd h'.2 h2⟩
  ·
   rename_i h2
   exact ⟨fun _ => ⟨by simpa using h, by simpa using h2⟩, fun _ => rfl⟩
theorem datumB_eq (l : List At) : datumB l = (decide (l.length ≤ 8) && (decide (errOf l = 0) && riseB l)) := by
 unfold datumB
 congr 1
 rw [Bool.eq_iff_iff, List.all_eq_true, Bool.and_eq_true, decide_eq_true_iff, errOf_zero]; unfold riseB; rw [List.all_eq_true]; unfold stepB; constructor
 ·
  intro h; refine ⟨fun j hj => ?_, fun j hj => ?_⟩
  ·
   have := h j (List.mem_range.2 hj); rw [Bool.and_eq_true, Bool.and_eq_true, beq_iff_eq] at this; exact errAt_zero.2 ⟨this.1, this.2.1⟩
  ·
   have := h j hj; rw [Bool.and_eq_true, Bool.and_eq_true] at this; exact this.2.2
 ·
  intro h j hj; have h1 := errAt_zero.1 (h.1 j (List.mem_range.1 hj)); rw [Bool.and_eq_true, Bool.and_eq_true, beq_iff_eq]; exact ⟨h1.1, h1.2, h.2 j hj⟩
set_option maxRecDepth 100000 in
set_option maxHeartbeats 3200000 in
theorem datumOKi (l : List At) (a : Option Addr) (c : Nat) (S : Nat) (w : World) (hl : l.length ≤ maxLen) (hx : ∀ x ∈ l, x.t.length ≤ maxLen) (hw : S ≤ w.heap.size) (hA : Ats w (· < S) a l) :
  Calls Tryz.prog 65 #[.slice a l.length c] w fun e w' => e = .returned (.bool (datumB l)) ∧ Below w.heap.size w w' := by
 have AC : Hid (∀ W, Below w.heap.size w W → Calls Tryz.prog 92 #[.slice a l.length c] W fun e w' => e = .returned (.int .i64 (errOf l)) ∧ Below w.heap.size w w') := fun W h => (atomsCodeI l a c S W hl hx (Nat.le_trans hw h.size) (hA.below (h.mono hw))).mono (fun e w' ⟨he, hB⟩ => ⟨he, h.trans (hB.mono h.size)⟩)
 have RI : Hid (∀ W, Below w.heap.size w W → Calls Tryz.prog 93 #[.slice a l.length c, .func (.func 94) #[] #[]] W fun e w' => e = .returned (.bool (riseB l)) ∧ Below w.heap.size w w') := fun W h => (risesI l a c S W hl (Nat.le_trans hw h.size) (hA.below (h.mono hw))).mono (fun e w' ⟨he, hB⟩ => ⟨he, h.trans (hB.mono h.size)⟩)
 have HD : Hid (datumB l = _) := datumB_eq l; have hr := Below.refl w.heap.size w; unfold maxLen at hl; clear hA hx hw
 by_cases h8 : l.length ≤ 8
 case neg =>
  have d8 : decide ((l.length : Int) ≤ 8) = false := by simp; omega
  have HR : Hid (datumB l = false) := datumB_long (by omega); clear h8 HD; (go_enter Tryz.func65, Tryz.ntmps65); (go_wp2_with fail); go_ret; exact ⟨ret_b HR.out.symm, hr⟩
 have d8 : decide ((l.length : Int) ≤ 8) = true := by simp; omega
 by_cases he : errOf l = 0
 case neg =>
  have HR : Hid (datumB l = false) := by show datumB l = false; rw [HD.out, decide_eq_false he]; simp
  have d9 : (errOf l == 0) = false := by simpa using he
  clear h8 HD he; generalize errOf l = q at *; (go_enter Tryz.func65, Tryz.ntmps65); (go_wp2_with (go_at_call 92; refine (AC.out _ hr).mono ?_; rintro e w1 ⟨rfl, hr⟩)); go_ret; exact ⟨ret_b HR.out.symm, hr⟩
 have HR : Hid (datumB l = riseB l) := by show datumB l = riseB l; rw [HD.out, decide_eq_true he, decide_eq_true h8]; simp
 rw [he] at AC; clear h8 HD he; generalize riseB l = q at *; (go_enter Tryz.func65, Tryz.ntmps65); (go_wp2_with (first | (go_at_call 92; refine (AC.out _ hr).mono ?_; rintro e w1 ⟨rfl, hr⟩) | (go_at_call 93; refine (RI.out _ hr).mono ?_; rintro e w2 ⟨rfl, hr⟩))); go_ret; exact ⟨ret_b HR.out.symm, hr⟩
def atCs (l : List At) : List Value := (List.range (l.length * 3)).map (atF l)
theorem atCs_len (l : List At) : (atCs l).length = l.length * 3 := by simp [atCs]
theorem atCs_at {l : List At} {m : Nat} (h : m < l.length * 3) : (atCs l)[m]? = some (atF l m) := by simp [atCs, h]
theorem atF_left {l l' : List At} {m : Nat} (h : m < l.length * 3) : atF (l ++ l') m = atF l m := by
 have hi : m / 3 < l.length := by omega
 unfold atF; rw [at_getD hi, at_getD (l := l ++ l') (by rw [List.length_append]; omega), List.getElem_append_left hi]
theorem atF_right {l l' : List At} {m : Nat} (h : m < l'.length * 3) : atF (l ++ l') (l.length * 3 + m) = atF l' m := by
 have hi : m / 3 < l'.length := by omega
 have e : (l.length * 3 + m) / 3 = l.length + m / 3 := by omega
 have e2 : (l.length * 3 + m) % 3 = m % 3 := by omega
 unfold atF; rw [e, e2, at_getD hi, at_getD (l := l ++ l') (by rw [List.length_append]; omega), List.getElem_append_right (by omega)]; simp
theorem atCs_app (l l' : List At) : atCs (l ++ l') = atCs l ++ atCs l' := by
 apply List.ext_getElem?; intro m
 by_cases h : m < l.length * 3
 ·
  rw [List.getElem?_append_left (by rw [atCs_len]; exact h), atCs_at h, atCs_at (by rw [List.length_append]; omega), atF_left h]
 ·
  by_cases h2 : m < (l ++ l').length * 3
  ·
   obtain ⟨m', rfl⟩ : ∃ m', m = l.length * 3 + m' := ⟨m - l.length * 3, by omega⟩; rw [List.length_append] at h2; rw [List.getElem?_append_right (by rw [atCs_len]; omega), atCs_len, Nat.add_sub_cancel_left, atCs_at (l := l') (by omega), atCs_at (by rw [List.length_append]; omega), atF_right (by omega)]
  ·
   rw [List.getElem?_eq_none (by rw [atCs_len]; omega), List.getElem?_eq_none (by rw [List.length_append, atCs_len, atCs_len]; rw [List.length_append] at h2; omega)]
def ABuf (w : World) (B : Nat) (v : Value) (l : List At) : Prop := w.ownsRow B 132 3 v l.length (atCs l)
structure AppA (w : World) (v : Value) (w' : World) (v' : Value) : Prop where
 os : w'.os = w.os
 tape : w'.tape = w.tape
 output : w'.output = w.output
 size : w.heap.size ≤ w'.heap.size
 block : ∀ k, k < w.heap.size → v.ownBlock ≠ some k → w'.heap[k]? = w.heap[k]?
 place : ∀ g, v'.ownBlock = some g → v.ownBlock = some g ∨ w.heap.size ≤ g
theorem ABuf.lt {w : World} {B : Nat} {v : Value} {l : List At} (h : ABuf w B v l) {g : Nat} (hg : v.ownBlock = some g) : B ≤ g ∧ g < w.heap.size := World.ownsRow.lt h g hg
theorem ABuf.on {w w' : World} {B : Nat} {v : Value} {l : List At} (h : ABuf w B v l) (hb : Below w.heap.size w w') : ABuf w' B v l := by
  refine ⟨h.1, ?_⟩; rcases h.2 with h0 | ⟨g, cap, cur, e1, hg1, hb1, rest⟩
  · exact .inl h0
  · exact .inr ⟨g, cap, cur, e1, hg1, by rw [hb.block _ (Array.getElem?_eq_some_iff.1 hb1).1]; exact hb1, rest⟩
theorem AppA.below {w w' : World} {B : Nat} {v v' : Value} {l : List At} (h : AppA w v w' v') (hb : ABuf w B v l) (hB : B ≤ w.heap.size) : Below B w w' :=
 ⟨h.os, h.tape, h.output, h.size, fun k hk => h.block k (by omega) (fun e => by have := (hb.lt e).1; omega)⟩
theorem ABuf.own {w : World} {B : Nat} {v : Value} {l : List At} (h : ABuf w B v l) : ∃ a c, v = .slice a l.length c ∧ OwnAts w (fun b => B ≤ b ∧ b < w.heap.size) a l := by
 rcases h.2 with ⟨rfl, h0⟩ | ⟨g, cap, cur, rfl, hg, hb, hn, hcap, hcs, hx⟩
 ·
  exact ⟨none, 0, by rw [h0], .inl h0⟩
 ·
  refine ⟨_, _, rfl, .inr ⟨g, 0, rfl, ⟨hg, (Array.getElem?_eq_some_iff.1 hb).1⟩, fun m hm => ⟨?_, by simp [World.frozen?, hb]⟩⟩⟩; have h1 := congrArg (·[m]?) hx; rw [atCs_at hm, List.getElem?_take_of_lt hm, Array.getElem?_toList] at h1; rw [Nat.zero_add]; simp [World.cell?, hb, h1]
theorem ABuf.empty (w : World) : ABuf (w.alloc (.cells #[] 132)) w.heap.size (.slice (some ⟨w.heap.size, 0, none⟩) 0 0) [] :=
 ⟨rfl, .inr ⟨w.heap.size, 0, #[], rfl, Nat.le_refl _, heap_newA _ _, Nat.le_refl _, by unfold maxLen; omega, by simp, by simp [atCs]⟩⟩
theorem run_apush {w : World} {B : Nat} {v : Value} {l : List At} (hb : ABuf w B v l) (hB : B ≤ w.heap.size) (l' : List At) (hl : l.length + l'.length ≤ 1000000000) (ad : Addr) (cp : Nat) (ty : TypeId)
  (hv : v ≠ .slice none 0 0) (hnews : ∀ j u, (atCs l')[j]? = some u → w.cell? (ad.add j) = some u) :
  ∃ v' w', (Builtin.append_ #[74, 74] ty #[v, .slice (some ad) l'.length cp]).run Tryz.prog w = .ok v' w' ∧ ABuf w' B v' (l ++ l') ∧ AppA w v w' v' ∧ v' ≠ .slice none 0 0 := by
 obtain ⟨i, hi, hz, hs, hby⟩ := infoAt'
 have h1 : ∀ u ∈ atCs l', u.oneCell' = true := fun u hu => by
  obtain ⟨m, -, rfl⟩ := List.mem_map.1 hu; unfold atF
  split
  ·
   rfl
  ·
   split <;> rfl
 have hll : (atCs l').length = l'.length * 3 := atCs_len l'; obtain ⟨v', w', hr, h2, h3, h4⟩ := run_append_own (P := Tryz.prog) w B 74 ty 132 i (.agg zeroAt) 3 32 Tryz.underlying74 hi hz hs hby rfl (by omega) v l.length (atCs l) hb ad l'.length cp (atCs l') hll hnews h1 (by unfold maxLen; omega) (by omega) hB; refine ⟨v', w', hr, ?_, ⟨h3.os, h3.tape, h3.output, h3.size, fun k hk hn => h3.block k hk (fun e => hn e.symm), ?_⟩, fun e => hv (h4.1 e).1⟩
 ·
  unfold ABuf; rw [atCs_app, List.length_append]; exact h2
 ·
  intro p hp; rcases hb.2 with ⟨rfl, h0'⟩ | ⟨q, cap, cur, rfl, hg, hbq, hn, hcap, hcs, hx⟩
  ·
   exact absurd rfl hv
  ·
   by_cases hroom : l.length + l'.length ≤ cap
   ·
    have hr2 := run_append_room_cells (P := Tryz.prog) w 74 ty 132 i Tryz.underlying74 hi q 0 l.length cap ad l'.length cp (atCs l') (by rw [hs]; exact hll) hnews h1 hroom (fun j hj => by
     have hlt : l.length * i.size + j < cur.size := by
      rw [hs]; rw [hll] at hj
      omega
     simp [World.cell?, hbq, hlt]) (fun j hj => by simp [World.frozen?, hbq])
    rw [hr] at hr2
    injection hr2 with e1 e2
    subst e1; exact .inl hp
   ·
    obtain ⟨v2, w2, hr2, h22, -⟩ := run_append_arg_grows (P := Tryz.prog) w 74 ty 132 i (.agg zeroAt) 3 32 Tryz.underlying74 hi hz hs hby rfl (by omega) ⟨q, 0, none⟩ l.length cap (atCs l) hb.1 (World.ownsRow.cells hb (g := q) rfl) ad l'.length cp (atCs l') hll hnews (by omega) (by unfold maxLen; omega) (by omega); rw [hr] at hr2
    injection hr2 with e1 e2
    subst e1; exact .inr (World.ownsRow.lt h22 p hp).1
structure AI (w : World) (B : Nat) (W : World) (v : Value) (l : List At) : Prop where
 buf : ABuf W B v l
 bel : Below w.heap.size w W
 le : B ≤ W.heap.size
 old : w.heap.size ≤ B
 no : v ≠ .slice none 0 0
theorem AI.on {w W W' : World} {B : Nat} {v : Value} {l : List At} (h : AI w B W v l) (hb : Below W.heap.size W W') : AI w B W' v l := ⟨h.buf.on hb, h.bel.trans (hb.mono h.bel.size), Nat.le_trans h.le hb.size, h.old, h.no⟩
theorem AI.push {w W W' : World} {B : Nat} {v v' : Value} {l l' : List At} (h : AI w B W v l) (hb : ABuf W' B v' l') (ha : AppA W v W' v') (hn : v' ≠ .slice none 0 0) : AI w B W' v' l' :=
 ⟨hb, h.bel.trans ((ha.below h.buf h.le).mono h.old), Nat.le_trans h.le ha.size, h.old, hn⟩
theorem AI.cast {w W : World} {B : Nat} {v : Value} {l l' : List At} (h : AI w B W v l) (e : l = l') : AI w B W v l' := by rw [← e]; exact h
end Go.Proofs.YtlbcaaodkggohaaGreatDoor
