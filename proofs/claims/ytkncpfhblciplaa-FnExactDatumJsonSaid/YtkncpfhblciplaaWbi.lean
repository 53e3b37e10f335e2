import Derived.Test.YtkncpfhblciplaaWbf
namespace Go.Proofs.Ytkncpfhblciplaa
open Go.RowKit
set_option linter.unusedSimpArgs false
set_option maxRecDepth 100000 in
set_option maxHeartbeats 3200000 in
theorem atomsCodeI (l : List At) (a : Option Addr) (c : Nat) (S : Nat) (w : World) (hl : l.length ≤ maxLen) (hx : ∀ x ∈ l, x.t.length ≤ maxLen) (hw : S ≤ w.heap.size) (hA : Ats w (· < S) a l) :
    Calls Try.prog 88 #[.slice a l.length c] w fun e w' => e = .returned (.int .i64 (errOf l)) ∧ Below w.heap.size w w' := by
  unfold maxLen at hl
  have HA : Hid (Ats w (· < S) a l) := hA
  have HX : Hid (∀ x ∈ l, x.t.length ≤ maxLen) := hx
  clear hA hx
  go_enter Try.func88, Try.ntmps88
  go_wp2_with fail
  go_loopw [6] (fun i wr => ∃ k : Nat, k ≤ l.length ∧ i = .int .i64 k ∧ Hid (errFrom l (l.length - k) k = errOf l ∧ Below w.heap.size w wr)) (fun i _ => l.length - (intOf i).toNat)
  case atStart => exact ⟨0, Nat.zero_le _, rfl, rfl, Below.refl _ _⟩
  case round =>
    obtain ⟨k, hk, rfl, HW⟩ := hrel
    by_cases hlt : k < l.length
    · have hki : (k : Int) < (l.length : Int) := by omega
      have hln : 0 < l.length := by omega
      have hki0 : (0 : Int) < (l.length : Int) := by omega
      obtain ⟨b, off, rfl, -⟩ := (HA.out.item k hlt)
      have HTX : Hid (l[k].t.length ≤ maxLen) := HX.out _ (List.getElem_mem hlt)
      have CE : Hid (∀ W, Below w.heap.size w W → W.cell? ⟨b, off + k * 3, none⟩ = some (.int .i64 l[k].k) ∧ W.cell? ⟨b, off + k * 3 + 1, none⟩ = some (.int .i64 l[k].n) ∧ W.cell? ⟨b, off + k * 3 + 2, none⟩ = some (.string ⟨l[k].t.toArray⟩) ∧ W.cell? ⟨b, off, none⟩ = some (.int .i64 l[0].k)) := fun W hb => by
        have f := (HA.out.below (hb.mono hw)).three 0 hln
        rw [Nat.zero_mul, Nat.add_zero] at f
        obtain ⟨h0, h1, h2⟩ := (HA.out.below (hb.mono hw)).three k hlt
        exact ⟨h0, h1, h2, f.1⟩
      have AO : Hid (∀ W, Below w.heap.size w W → Calls Try.prog 42 #[.agg #[.int .i64 l[k].k, .int .i64 l[k].n, .string ⟨l[k].t.toArray⟩]] W fun e w' => e = .returned (.bool (atOK l[k])) ∧ Below w.heap.size w w') := fun W h => (atomOKi l[k] W HTX.out).mono (fun e w' ⟨he, hB⟩ => ⟨he, h.trans (hB.mono h.size)⟩)
      have HSU := errFrom_succ l k hlt
      rw [HW.out.1] at HSU
      have HEA : errAt l k = if atOK l[k] = false then 1 else if l[k].k ≠ l[0].k then 9 else 0 := by unfold errAt; rw [at_getD hlt, at_getD hln]
      have hx := HW.out.2
      have c0 := (CE.out _ hx).1
      have c1 := (CE.out _ hx).2.1
      have c2 := (CE.out _ hx).2.2.1
      cases hok : atOK l[k]
      · rw [hok, if_pos rfl] at HEA
        rw [HEA, if_neg (by omega)] at HSU
        have HC : Hid (errOf l = 1) := HSU
        rw [hok] at AO
        clear hok HEA HSU HW CE
        generalize l[k] = x at *
        go_wp2_with (go_at_call 42; refine (AO.out _ hx).mono ?_; rintro e w1 ⟨rfl, hx⟩)
        go_ret
        exact ⟨ret_i HC.out.symm, hx⟩
      · rw [hok, if_neg (by simp)] at HEA
        rw [hok] at AO
        by_cases hkd : l[k].k = l[0].k
        · rw [if_neg (by simp [hkd])] at HEA
          rw [HEA, if_pos rfl] at HSU
          have HN : Hid (errFrom l (l.length - (k + 1)) (k + 1) = errOf l) := HSU.symm
          have hkn : (l[k].k != l[0].k) = false := by simpa using hkd
          clear hok HEA HSU HW hkd
          generalize l[k] = x at *
          generalize l[0] = z at *
          go_wp2_with (go_at_call 42; refine (AO.out _ hx).mono ?_; rintro e w1 ⟨rfl, hx⟩; have f0 := (CE.out _ hx).1; have f1 := (CE.out _ hx).2.2.2)
          go_quiet (fail)
          go_wp2_with fail
          go_roundw
          case rel => exact ⟨k + 1, by omega, by go_num, HN.out, below_drewN hx _⟩
          case measure => simp [intOf]; omega
        · rw [if_pos hkd] at HEA
          rw [HEA, if_neg (by omega)] at HSU
          have HC : Hid (errOf l = 9) := HSU
          have hkn : (l[k].k != l[0].k) = true := by simpa using hkd
          clear hok HEA HSU HW hkd
          generalize l[k] = x at *
          generalize l[0] = z at *
          go_wp2_with (go_at_call 42; refine (AO.out _ hx).mono ?_; rintro e w1 ⟨rfl, hx⟩; have f0 := (CE.out _ hx).1; have f1 := (CE.out _ hx).2.2.2)
          go_quiet (fail)
          go_wp2_with fail
          go_ret
          exact ⟨ret_i HC.out.symm, below_drewN hx _⟩
    · have he : Hid (errOf l = 0) := by show errOf l = 0; rw [← HW.out.1, show l.length - k = 0 by omega]; rfl
      have hmi : decide ((k : Int) < (l.length : Int)) = false := by simp; omega
      have hx := HW.out.2
      go_wp2_with fail
      go_ret
      exact ⟨ret_i he.out.symm, hx⟩
def riseB (l : List At) : Bool := (List.range l.length).all (fun i => decide (i = 0) || decide (cmpA (l.getD (i - 1) atZ) (l.getD i atZ) < 0))
theorem rise_no {l : List At} {i : Nat} (hi : i + 1 < l.length) (h : ¬ cmpA l[i] l[i + 1] < 0) : riseB l = false := by
  unfold riseB
  rw [List.all_eq_false]
  exact ⟨i + 1, List.mem_range.2 hi, by rw [Nat.add_sub_cancel, at_getD hi, at_getD (show i < l.length by omega)]; simp; omega⟩
theorem rise_yes {l : List At} (h : ∀ i (hi : i + 1 < l.length), cmpA l[i] l[i + 1] < 0) : riseB l = true := by
  unfold riseB
  rw [List.all_eq_true]
  intro i hi
  have hi := List.mem_range.1 hi
  cases i with
  | zero => rfl
  | succ i => rw [Nat.add_sub_cancel, at_getD hi, at_getD (show i < l.length by omega)]; simp [h i hi]
set_option maxRecDepth 100000 in
set_option maxHeartbeats 3200000 in
theorem risesI (l : List At) (a : Option Addr) (c : Nat) (S : Nat) (w : World) (hl : l.length ≤ maxLen) (hw : S ≤ w.heap.size) (hA : Ats w (· < S) a l) :
    Calls Try.prog 89 #[.slice a l.length c, .func (.func 90) #[] #[]] w fun e w' => e = .returned (.bool (riseB l)) ∧ Below w.heap.size w w' := by
  unfold maxLen at hl
  have HA : Hid (Ats w (· < S) a l) := hA
  clear hA
  go_enter Try.func89, Try.ntmps89
  go_wp2_with fail
  go_loopw [5] (fun i wr => ∃ k : Nat, 1 ≤ k ∧ k ≤ maxLen + 1 ∧ i = .int .i64 k ∧ Hid ((∀ m (h : m + 1 < l.length), m + 1 < k → cmpA l[m] l[m + 1] < 0) ∧ Below w.heap.size w wr)) (fun i _ => l.length - (intOf i).toNat)
  case atStart => exact ⟨1, by omega, by unfold maxLen; omega, rfl, fun m _ h => absurd h (by omega), Below.refl _ _⟩
  case round =>
    obtain ⟨k, hk1, hk, rfl, HW⟩ := hrel
    by_cases hlt : k < l.length
    · obtain ⟨m, rfl⟩ : ∃ m, k = m + 1 := ⟨k - 1, by omega⟩
      obtain ⟨b, off, rfl, -⟩ := (HA.out.item m (by omega))
      have hx := HW.out.2
      have CE : Hid (∀ W, Below w.heap.size w W → (W.cell? ⟨b, off + m * 3, none⟩ = some (.int .i64 l[m].k) ∧ W.cell? ⟨b, off + m * 3 + 1, none⟩ = some (.int .i64 l[m].n) ∧ W.cell? ⟨b, off + m * 3 + 2, none⟩ = some (.string ⟨l[m].t.toArray⟩)) ∧ W.cell? ⟨b, off + (m + 1) * 3, none⟩ = some (.int .i64 l[m + 1].k) ∧ W.cell? ⟨b, off + (m + 1) * 3 + 1, none⟩ = some (.int .i64 l[m + 1].n) ∧ W.cell? ⟨b, off + (m + 1) * 3 + 2, none⟩ = some (.string ⟨l[m + 1].t.toArray⟩)) := fun W hb =>
        ⟨(HA.out.below (hb.mono hw)).three m (by omega), (HA.out.below (hb.mono hw)).three (m + 1) hlt⟩
      have CP : Hid (∀ W, Below w.heap.size w W → Calls Try.prog 90 #[.agg #[.int .i64 l[m].k, .int .i64 l[m].n, .string ⟨l[m].t.toArray⟩], .agg #[.int .i64 l[m + 1].k, .int .i64 l[m + 1].n, .string ⟨l[m + 1].t.toArray⟩]] W fun e w' => e = .returned (.int .i64 (cmpA l[m] l[m + 1])) ∧ Below w.heap.size w w') := fun W h => (compareI l[m] l[m + 1] W).mono (fun e w' ⟨he, hB⟩ => ⟨he, h.trans (hB.mono h.size)⟩)
      have hm1 : (m : Int) < (l.length : Int) := by omega
      have hm2 : (m : Int) + 1 < (l.length : Int) := by omega
      have hm0 : (0 : Int) ≤ (m : Int) := by omega
      have hm3 : (0 : Int) ≤ (m : Int) + 1 := by omega
      have hsb : ((m + 1 : Nat) : Int) - 1 = (m : Int) := by omega
      have hwm : IntKind.i64.wrap (m : Int) = (m : Int) := by rw [IntKind.wrap_i64]; omega
      have g0 := (CE.out _ hx).1.1; have g1 := (CE.out _ hx).1.2.1; have g2 := (CE.out _ hx).1.2.2
      have f0 := (CE.out _ hx).2.1; have f1 := (CE.out _ hx).2.2.1; have f2 := (CE.out _ hx).2.2.2
      by_cases hr : cmpA l[m] l[m + 1] < 0
      · have HN : Hid (∀ q (h : q + 1 < l.length), q + 1 < m + 1 + 1 → cmpA l[q] l[q + 1] < 0) := fun q h hq => by
          by_cases e : q = m
          · subst e; exact hr
          · exact HW.out.1 q h (by omega)
        have hd : decide (cmpA l[m] l[m + 1] ≥ 0) = false := by simp; omega
        have hd2 : decide (0 ≤ cmpA l[m] l[m + 1]) = false := by simp; omega
        clear hr HW
        generalize cmpA l[m] l[m + 1] = q at *
        generalize l[m] = x at *
        generalize l[m + 1] = y at *
        go_wp2_with fail
        go_region_with (go_at_call 90; refine (CP.out _ ?_).mono ?_; first | exact hx | exact hx.drew; rintro e w1 ⟨rfl, hx1⟩)
        all_goals
          go_wp2_with fail
          go_roundw
          case rel => exact ⟨m + 1 + 1, by omega, by unfold maxLen; omega, by go_num, HN.out, hx1⟩
          case measure => simp [intOf]; omega
      · have HR : Hid (riseB l = false) := rise_no hlt hr
        have hd : decide (cmpA l[m] l[m + 1] ≥ 0) = true := by simp; omega
        have hd2 : decide (0 ≤ cmpA l[m] l[m + 1]) = true := by simp; omega
        clear hr HW
        generalize cmpA l[m] l[m + 1] = q at *
        generalize l[m] = x at *
        generalize l[m + 1] = y at *
        go_wp2_with fail
        go_region_with (go_at_call 90; refine (CP.out _ ?_).mono ?_; first | exact hx | exact hx.drew; rintro e w1 ⟨rfl, hx1⟩)
        all_goals
          go_wp2_with fail
          go_ret
          exact ⟨ret_b HR.out.symm, hx1⟩
    · have HR : Hid (riseB l = true) := rise_yes (fun m h => HW.out.1 m h (by omega))
      have hmi : decide ((k : Int) < (l.length : Int)) = false := by simp; omega
      have hx := HW.out.2
      go_wp2_with fail
      go_ret
      exact ⟨ret_b HR.out.symm, hx⟩
end Go.Proofs.Ytkncpfhblciplaa
