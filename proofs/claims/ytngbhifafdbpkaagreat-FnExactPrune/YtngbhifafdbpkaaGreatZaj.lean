import Derived.Test.YtngbhifafdbpkaaGreatZah
namespace Go.Proofs.YtngbhifafdbpkaaGreat
open Go.RowKit
set_option linter.unusedSimpArgs false
set_option maxRecDepth 100000 in
set_option maxHeartbeats 3200000 in
theorem atomsCodeI (l : List At) (a : Option Addr) (c : Nat) (S : Nat) (w : World) (hl : l.length ≤ maxLen) (hx : ∀ x ∈ l, x.t.length ≤ maxLen) (hw : S ≤ w.heap.size) (hA : Ats w (· < S) a l) :
    Calls Tryz.prog 120 #[.slice a l.length c] w fun e w' => e = .returned (.int .i64 (errOf l)) ∧ Below w.heap.size w w' := by
  unfold maxLen at hl
  have HA : Hid (Ats w (· < S) a l) := hA
  have HX : Hid (∀ x ∈ l, x.t.length ≤ maxLen) := hx
  clear hA hx
  go_enter Tryz.func120, Tryz.ntmps120
  go_wp2_with fail
  go_loopw [6] (fun i wr => ∃ k : Nat, k ≤ l.length ∧ i = .int .i64 k ∧ Hid (errFrom l (l.length - k) k = errOf l ∧ Below w.heap.size w wr)) (fun i _ => l.length - (intOf i).toNat)
  case atStart => exact ⟨0, Nat.zero_le _, rfl, rfl, Below.refl _ _⟩
  case round =>
    obtain ⟨k, hk, rfl, HW⟩ := hrel
    by_cases hlt : k < l.length
    · have hki : (k : Int) < (l.length : Int) := by omega
      have hln : 0 < l.length := by omega
      have hki0 : (0 : Int) < (l.length : Int) := by omega
      obtain ⟨b, off, rfl, -⟩ := (HA.out.item k hlt)
      have HTX : Hid (l[k].t.length ≤ maxLen) := HX.out _ (List.getElem_mem hlt)
      have CE : Hid (∀ W, Below w.heap.size w W → W.cell? ⟨b, off + k * 3, none⟩ = some (.int .i64 l[k].k) ∧ W.cell? ⟨b, off + k * 3 + 1, none⟩ = some (.int .i64 l[k].n) ∧ W.cell? ⟨b, off + k * 3 + 2, none⟩ = some (.string ⟨l[k].t.toArray⟩) ∧ W.cell? ⟨b, off, none⟩ = some (.int .i64 l[0].k)) := fun W hb => by
        have f := (HA.out.below (hb.mono hw)).three 0 hln
        rw [Nat.zero_mul, Nat.add_zero] at f
        obtain ⟨h0, h1, h2⟩ := (HA.out.below (hb.mono hw)).three k hlt
        exact ⟨h0, h1, h2, f.1⟩
      have AO : Hid (∀ W, Below w.heap.size w W → Calls Tryz.prog 127 #[.agg #[.int .i64 l[k].k, .int .i64 l[k].n, .string ⟨l[k].t.toArray⟩]] W fun e w' => e = .returned (.bool (atOK l[k])) ∧ Below w.heap.size w w') := fun W h => (atomOKi l[k] W HTX.out).mono (fun e w' ⟨he, hB⟩ => ⟨he, h.trans (hB.mono h.size)⟩)
      have HSU := errFrom_succ l k hlt
      rw [HW.out.1] at HSU
      have HEA : errAt l k = if atOK l[k] = false then 1 else if l[k].k ≠ l[0].k then 9 else 0 := by unfold errAt; rw [at_getD hlt, at_getD hln]
      have hx := HW.out.2
      have c0 := (CE.out _ hx).1
      have c1 := (CE.out _ hx).2.1
      have c2 := (CE.out _ hx).2.2.1
      cases hok : atOK l[k]
      · rw [hok, if_pos rfl] at HEA
        rw [HEA, if_neg (by omega)] at HSU
        have HC : Hid (errOf l = 1) := HSU
        rw [hok] at AO
        clear hok HEA HSU HW CE
        generalize l[k] = x at *
        go_wp2_with (go_at_call 127; refine (AO.out _ hx).mono ?_; rintro e w1 ⟨rfl, hx⟩)
        go_ret
        exact ⟨ret_i HC.out.symm, hx⟩
      · rw [hok, if_neg (by simp)] at HEA
        rw [hok] at AO
        by_cases hkd : l[k].k = l[0].k
        · rw [if_neg (by simp [hkd])] at HEA
          rw [HEA, if_pos rfl] at HSU
          have HN : Hid (errFrom l (l.length - (k + 1)) (k + 1) = errOf l) := HSU.symm
          have hkn : (l[k].k != l[0].k) = false := by simpa using hkd
          clear hok HEA HSU HW hkd
          generalize l[k] = x at *
          generalize l[0] = z at *
          go_wp2_with (go_at_call 127; refine (AO.out _ hx).mono ?_; rintro e w1 ⟨rfl, hx⟩; have f0 := (CE.out _ hx).1; have f1 := (CE.out _ hx).2.2.2)
          go_quiet (fail)
          go_wp2_with fail
          go_roundw
          case rel => exact ⟨k + 1, by omega, by go_num, HN.out, below_drewN hx _⟩
          case measure => simp [intOf]; omega
        · rw [if_pos hkd] at HEA
          rw [HEA, if_neg (by omega)] at HSU
          have HC : Hid (errOf l = 9) := HSU
          have hkn : (l[k].k != l[0].k) = true := by simpa using hkd
          clear hok HEA HSU HW hkd
          generalize l[k] = x at *
          generalize l[0] = z at *
          go_wp2_with (go_at_call 127; refine (AO.out _ hx).mono ?_; rintro e w1 ⟨rfl, hx⟩; have f0 := (CE.out _ hx).1; have f1 := (CE.out _ hx).2.2.2)
          go_quiet (fail)
          go_wp2_with fail
          go_ret
          exact ⟨ret_i HC.out.symm, below_drewN hx _⟩
    · have he : Hid (errOf l = 0) := by show errOf l = 0; rw [← HW.out.1, show l.length - k = 0 by omega]; rfl
      have hmi : decide ((k : Int) < (l.length : Int)) = false := by simp; omega
      have hx := HW.out.2
      go_wp2_with fail
      go_ret
      exact ⟨ret_i he.out.symm, hx⟩
def riseB (l : List At) : Bool := (List.range l.length).all (fun i => decide (i = 0) || decide (cmpA (l.getD (i - 1) atZ) (l.getD i atZ) < 0))
theorem rise_no {l : List At} {i : Nat} (hi : i + 1 < l.length) (h : ¬ cmpA l[i] l[i + 1] < 0) : riseB l = false := by
  unfold riseB
  rw [List.all_eq_false]
  exact ⟨i + 1, List.mem_range.2 hi, by rw [Nat.add_sub_cancel, at_getD hi, at_getD (show i < l.length by omega)]; simp; omega⟩
theorem rise_yes {l : List At} (h : ∀ i (hi : i + 1 < l.length), cmpA l[i] l[i + 1] < 0) : riseB l = true := by
  unfold riseB
  rw [List.all_eq_true]
  intro i hi
  have hi := List.mem_range.1 hi
  cases i with
  | zero => rfl
  | succ i => rw [Nat.add_sub_cancel, at_getD hi, at_getD (show i < l.length by omega)]; simp [h i hi]
set_option maxRecDepth 100000 in
set_option maxHeartbeats 3200000 in
theorem risesI (l : List At) (a : Option Addr) (c : Nat) (S : Nat) (w : World) (hl : l.length ≤ maxLen) (hw : S ≤ w.heap.size) (hA : Ats w (· < S) a l) :
    Calls Tryz.prog 121 #[.slice a l.length c, .func (.func 122) #[] #[]] w fun e w' => e = .returned (.bool (riseB l)) ∧ Below w.heap.size w w' := by
  unfold maxLen at hl
  have HA : Hid (Ats w (· < S) a l) := hA
  clear hA
  go_enter Tryz.func121, Tryz.ntmps121
  go_wp2_with fail
  go_loopw [5] (fun i wr => ∃ k : Nat, 1 ≤ k ∧ k ≤ maxLen + 1 ∧ i = .int .i64 k ∧ Hid ((∀ m (h : m + 1 < l.length), m + 1 < k → cmpA l[m] l[m + 1] < 0) ∧ Below w.heap.size w wr)) (fun i _ => l.length - (intOf i).toNat)
  case atStart => exact ⟨1, by omega, by unfold maxLen; omega, rfl, fun m _ h => absurd h (by omega), Below.refl _ _⟩
  case round =>
    obtain ⟨k, hk1, hk, rfl, HW⟩ := hrel
    by_cases hlt : k < l.length
    · obtain ⟨m, rfl⟩ : ∃ m, k = m + 1 := ⟨k - 1, by omega⟩
      obtain ⟨b, off, rfl, -⟩ := (HA.out.item m (by omega))
      have hx := HW.out.2
      have CE : Hid (∀ W, Below w.heap.size w W → (W.cell? ⟨b, off + m * 3, none⟩ = some (.int .i64 l[m].k) ∧ W.cell? ⟨b, off + m * 3 + 1, none⟩ = some (.int .i64 l[m].n) ∧ W.cell? ⟨b, off + m * 3 + 2, none⟩ = some (.string ⟨l[m].t.toArray⟩)) ∧ W.cell? ⟨b, off + (m + 1) * 3, none⟩ = some (.int .i64 l[m + 1].k) ∧ W.cell? ⟨b, off + (m + 1) * 3 + 1, none⟩ = some (.int .i64 l[m + 1].n) ∧ W.cell? ⟨b, off + (m + 1) * 3 + 2, none⟩ = some (.string ⟨l[m + 1].t.toArray⟩)) := fun W hb =>
        ⟨(HA.out.below (hb.mono hw)).three m (by omega), (HA.out.below (hb.mono hw)).three (m + 1) hlt⟩
      have CP : Hid (∀ W, Below w.heap.size w W → Calls Tryz.prog 122 #[.agg #[.int .i64 l[m].k, .int .i64 l[m].n, .string ⟨l[m].t.toArray⟩], .agg #[.int .i64 l[m + 1].k, .int .i64 l[m + 1].n, .string ⟨l[m + 1].t.toArray⟩]] W fun e w' => e = .returned (.int .i64 (cmpA l[m] l[m + 1])) ∧ Below w.heap.size w w') := fun W h => (compareI l[m] l[m + 1] W).mono (fun e w' ⟨he, hB⟩ => ⟨he, h.trans (hB.mono h.size)⟩)
      have hm1 : (m : Int) < (l.length : Int) := by omega
      have hm2 : (m : Int) + 1 < (l.length : Int) := by omega
      have hm0 : (0 : Int) ≤ (m : Int) := by omega
      have hm3 : (0 : Int) ≤ (m : Int) + 1 := by omega
      have hsb : ((m + 1 : Nat) : Int) - 1 = (m : Int) := by omega
      have hwm : IntKind.i64.wrap (m : Int) = (m : Int) := by rw [IntKind.wrap_i64]; omega
      have g0 := (CE.out _ hx).1.1; have g1 := (CE.out _ hx).1.2.1; have g2 := (CE.out _ hx).1.2.2
      have f0 := (CE.out _ hx).2.1; have f1 := (CE.out _ hx).2.2.1; have f2 := (CE.out _ hx).2.2.2
      by_cases hr : cmpA l[m] l[m + 1] < 0
      · have HN : Hid (∀ q (h : q + 1 < l.length), q + 1 < m + 1 + 1 → cmpA l[q] l[q + 1] < 0) := fun q h hq => by
          by_cases e : q = m
          · subst e; exact hr
          · exact HW.out.1 q h (by omega)
        have hd : decide (cmpA l[m] l[m + 1] ≥ 0) = false := by simp; omega
        have hd2 : decide (0 ≤ cmpA l[m] l[m + 1]) = false := by simp; omega
        clear hr HW
        generalize cmpA l[m] l[m + 1] = q at *
        generalize l[m] = x at *
        generalize l[m + 1] = y at *
        go_wp2_with fail
        go_region_with (go_at_call 122; refine (CP.out _ ?_).mono ?_; first | exact hx | exact hx.drew; rintro e w1 ⟨rfl, hx1⟩)
        all_goals
          go_wp2_with fail
          go_roundw
          case rel => exact ⟨m + 1 + 1, by omega, by unfold maxLen; omega, by go_num, HN.out, hx1⟩
          case measure => simp [intOf]; omega
      · have HR : Hid (riseB l = false) := rise_no hlt hr
        have hd : decide (cmpA l[m] l[m + 1] ≥ 0) = true := by simp; omega
        have hd2 : decide (0 ≤ cmpA l[m] l[m + 1]) = true := by simp; omega
        clear hr HW
        generalize cmpA l[m] l[m + 1] = q at *
        generalize l[m] = x at *
        generalize l[m + 1] = y at *
        go_wp2_with fail
        go_region_with (go_at_call 122; refine (CP.out _ ?_).mono ?_; first | exact hx | exact hx.drew; rintro e w1 ⟨rfl, hx1⟩)
        all_goals
          go_wp2_with fail
          go_ret
          exact ⟨ret_b HR.out.symm, hx1⟩
    · have HR : Hid (riseB l = true) := rise_yes (fun m h => HW.out.1 m h (by omega))
      have hmi : decide ((k : Int) < (l.length : Int)) = false := by simp; omega
      have hx := HW.out.2
      go_wp2_with fail
      go_ret
      exact ⟨ret_b HR.out.symm, hx⟩
end Go.Proofs.YtngbhifafdbpkaaGreat
namespace Go.Proofs.YtngbhifafdbpkaaGreat
open Go.RowKit
set_option linter.unusedSimpArgs false
theorem errFrom_zero (l : List At) : ∀ n i, errFrom l n i = 0 ↔ ∀ j, i ≤ j → j < i + n → errAt l j = 0
  | 0, i => ⟨fun _ j h h' => by omega, fun _ => rfl⟩
  | n + 1, i => by
    rw [errFrom]
    constructor
    · intro h j h1 h2
      split at h
      · rename_i e
        by_cases hj : j = i
        · rw [hj]; exact e
        · exact (errFrom_zero l n (i + 1)).1 h j (by omega) (by omega)
      · rename_i e
        exact absurd h e
    · intro h
      rw [if_pos (h i (by omega) (by omega))]
      exact (errFrom_zero l n (i + 1)).2 (fun j h1 h2 => h j (by omega) (by omega))
theorem errOf_zero (l : List At) : errOf l = 0 ↔ ∀ j, j < l.length → errAt l j = 0 := by
  unfold errOf
  rw [errFrom_zero]
  exact ⟨fun h j hj => h j (by omega) (by omega), fun h j _ hj => h j (by omega)⟩
theorem errAt_zero {l : List At} {i : Nat} : errAt l i = 0 ↔ atOK (l.getD i atZ) = true ∧ (l.getD i atZ).k = (l.getD 0 atZ).k := by
  unfold errAt
  split
  · rename_i h
    exact ⟨fun h => by omega, fun h' => by rw [h] at h'; exact absurd h'.1 (by simp)⟩
  · rename_i h
    split
    · rename_i h2
      exact ⟨fun h => by omega, fun h' => absurd h'.2 h2⟩
    · rename_i h2
      exact ⟨fun _ => ⟨by simpa using h, by simpa using h2⟩, fun _ => rfl⟩
theorem datumB_eq (l : List At) : datumB l = (decide (l.length ≤ 8) && (decide (errOf l = 0) && riseB l)) := by
  unfold datumB
  congr 1
  rw [Bool.eq_iff_iff, List.all_eq_true, Bool.and_eq_true, decide_eq_true_iff, errOf_zero]
  unfold riseB
  rw [List.all_eq_true]
  unfold stepB
  constructor
  · intro h
    refine ⟨fun j hj => ?_, fun j hj => ?_⟩
    · have := h j (List.mem_range.2 hj)
      rw [Bool.and_eq_true, Bool.and_eq_true, beq_iff_eq] at this
      exact errAt_zero.2 ⟨this.1, this.2.1⟩
    · have := h j hj
      rw [Bool.and_eq_true, Bool.and_eq_true] at this
      exact this.2.2
  · intro h j hj
    have h1 := errAt_zero.1 (h.1 j (List.mem_range.1 hj))
    rw [Bool.and_eq_true, Bool.and_eq_true, beq_iff_eq]
    exact ⟨h1.1, h1.2, h.2 j hj⟩
set_option maxRecDepth 100000 in
set_option maxHeartbeats 3200000 in
theorem datumOKi (l : List At) (a : Option Addr) (c : Nat) (S : Nat) (w : World) (hl : l.length ≤ maxLen) (hx : ∀ x ∈ l, x.t.length ≤ maxLen) (hw : S ≤ w.heap.size) (hA : Ats w (· < S) a l) :
    Calls Tryz.prog 99 #[.slice a l.length c] w fun e w' => e = .returned (.bool (datumB l)) ∧ Below w.heap.size w w' := by
  have AC : Hid (∀ W, Below w.heap.size w W → Calls Tryz.prog 120 #[.slice a l.length c] W fun e w' => e = .returned (.int .i64 (errOf l)) ∧ Below w.heap.size w w') := fun W h => (atomsCodeI l a c S W hl hx (Nat.le_trans hw h.size) (hA.below (h.mono hw))).mono (fun e w' ⟨he, hB⟩ => ⟨he, h.trans (hB.mono h.size)⟩)
  have RI : Hid (∀ W, Below w.heap.size w W → Calls Tryz.prog 121 #[.slice a l.length c, .func (.func 122) #[] #[]] W fun e w' => e = .returned (.bool (riseB l)) ∧ Below w.heap.size w w') := fun W h => (risesI l a c S W hl (Nat.le_trans hw h.size) (hA.below (h.mono hw))).mono (fun e w' ⟨he, hB⟩ => ⟨he, h.trans (hB.mono h.size)⟩)
  have HD : Hid (datumB l = _) := datumB_eq l
  have hr := Below.refl w.heap.size w
  unfold maxLen at hl
  clear hA hx hw
  by_cases h8 : l.length ≤ 8
  case neg =>
    have d8 : decide ((l.length : Int) ≤ 8) = false := by simp; omega
    have HR : Hid (datumB l = false) := datumB_long (by omega)
    clear h8 HD
    go_enter Tryz.func99, Tryz.ntmps99
    go_wp2_with fail
    go_ret
    exact ⟨ret_b HR.out.symm, hr⟩
  have d8 : decide ((l.length : Int) ≤ 8) = true := by simp; omega
  by_cases he : errOf l = 0
  case neg =>
    have HR : Hid (datumB l = false) := by show datumB l = false; rw [HD.out, decide_eq_false he]; simp
    have d9 : (errOf l == 0) = false := by simpa using he
    clear h8 HD he
    generalize errOf l = q at *
    go_enter Tryz.func99, Tryz.ntmps99
    go_wp2_with (go_at_call 120; refine (AC.out _ hr).mono ?_; rintro e w1 ⟨rfl, hr⟩)
    go_ret
    exact ⟨ret_b HR.out.symm, hr⟩
  have HR : Hid (datumB l = riseB l) := by show datumB l = riseB l; rw [HD.out, decide_eq_true he, decide_eq_true h8]; simp
  rw [he] at AC
  clear h8 HD he
  generalize riseB l = q at *
  go_enter Tryz.func99, Tryz.ntmps99
  go_wp2_with (first | (go_at_call 120; refine (AC.out _ hr).mono ?_; rintro e w1 ⟨rfl, hr⟩) | (go_at_call 121; refine (RI.out _ hr).mono ?_; rintro e w2 ⟨rfl, hr⟩))
  go_ret
  exact ⟨ret_b HR.out.symm, hr⟩
def IdxAns (l : List At) (x : At) (w : World) (e : Ending) (w' : World) : Prop := ∃ q : Int, e = .returned (.int .i64 q) ∧ decide (q ≥ 0) = hasB l x ∧ Below w.heap.size w w'
set_option maxHeartbeats 3200000 in
theorem indexI (l : List At) (x : At) (a : Option Addr) (c : Nat) (B : Nat → Prop) (w : World) (hl : l.length ≤ maxLen) (hA : Ats w B a l) :
    Calls Tryz.prog 131 #[.slice a l.length c, .agg #[.int .i64 x.k, .int .i64 x.n, .string ⟨x.t.toArray⟩]] w (IdxAns l x w) := by
  unfold maxLen at hl
  have HA : Hid (Ats w B a l) := hA
  clear hA
  go_enter Tryz.func131, Tryz.ntmps131
  go_wp2_with fail
  go_loopw [8] (fun i wr => ∃ k : Nat, k ≤ l.length ∧ i = .int .i64 k ∧ Hid ((∀ m (h : m < l.length), m < k → l[m] ≠ x) ∧ BoxA w wr x)) (fun i _ => l.length - (intOf i).toNat)
  case atStart => exact ⟨0, Nat.zero_le _, rfl, fun m _ h => absurd h (by omega), heap_newA _ _, (Below.refl _ _).alloc (Nat.le_refl _) _⟩
  case round =>
    obtain ⟨k, hk, rfl, HW⟩ := hrel
    have x0 := cell_at (o := 0) HW.out.2.1 rfl
    have x1 := cell_at (o := 1) HW.out.2.1 rfl
    have x2 := cell_at (o := 2) HW.out.2.1 rfl
    by_cases hlt : k < l.length
    · obtain ⟨b, off, rfl, -, c0, c1, c2⟩ := (HA.out.later HW.out.2.2).item k hlt
      have hki : (k : Int) < (l.length : Int) := by omega
      by_cases he : l[k] = x
      · have HR : Hid (hasB l x = true) := hasB_true hlt he
        rw [he] at c0 c1 c2
        clear he
        go_wp2_with fail
        go_quiet (fail)
        go_wp2_with fail
        go_ret
        exact ⟨k, rfl, by rw [HR.out]; exact decide_eq_true (by omega), (HW.out.2.drewN _).2⟩
      · have HN : Hid (∀ m (h : m < l.length), m < k + 1 → l[m] ≠ x) := fun m h hm => by
          by_cases e : m = k
          · subst e; exact he
          · exact HW.out.1 m h (by omega)
        rcases differ (fun e => he e.symm) with hd | ⟨hd, hd2⟩ | ⟨hd, hd2, hd3⟩
        · clear he
          go_wp2_with fail
          go_quiet (fail)
          go_wp2_with fail
          go_roundw
          case rel => exact ⟨k + 1, by omega, by go_num, HN.out, HW.out.2.drewN _⟩
          case measure => simp [intOf]; omega
        · rw [← hd] at c0
          clear he hd
          go_wp2_with fail
          go_quiet (fail)
          go_wp2_with fail
          go_roundw
          case rel => exact ⟨k + 1, by omega, by go_num, HN.out, HW.out.2.drewN _⟩
          case measure => simp [intOf]; omega
        · rw [← hd] at c0
          rw [← hd2] at c1
          clear he hd hd2
          go_wp2_with fail
          go_quiet (fail)
          go_wp2_with fail
          go_roundw
          case rel => exact ⟨k + 1, by omega, by go_num, HN.out, HW.out.2.drewN _⟩
          case measure => simp [intOf]; omega
    · have HR : Hid (hasB l x = false) := hasB_false (fun m h => HW.out.1 m h (by omega))
      have hki : decide ((k : Int) < (l.length : Int)) = false := by simp; omega
      go_wp2_with fail
      go_ret
      exact ⟨-1, rfl, by rw [HR.out]; rfl, HW.out.2.2⟩
set_option maxHeartbeats 1600000 in
theorem containsI (l : List At) (x : At) (a : Option Addr) (c : Nat) (B : Nat → Prop) (w : World) (hl : l.length ≤ maxLen) (hA : Ats w B a l) :
    Calls Tryz.prog 128 #[.slice a l.length c, .agg #[.int .i64 x.k, .int .i64 x.n, .string ⟨x.t.toArray⟩]] w fun e w' => e = .returned (.bool (hasB l x)) ∧ Below w.heap.size w w' := by
  have hx : BoxA w (w.alloc (.cells #[.int .i64 x.k, .int .i64 x.n, .string ⟨x.t.toArray⟩] 84)) x := ⟨heap_newA _ _, (Below.refl _ _).alloc (Nat.le_refl _) _⟩
  have IX : Hid (∀ W, BoxA w W x → Calls Tryz.prog 131 #[.slice a l.length c, .agg #[.int .i64 x.k, .int .i64 x.n, .string ⟨x.t.toArray⟩]] W fun e w' => ∃ q : Int, e = .returned (.int .i64 q) ∧ decide (q ≥ 0) = hasB l x ∧ BoxA w w' x) := fun W h => (indexI l x a c B W hl (hA.later h.2)).mono (fun e w' ⟨q, he, hq, hB⟩ => ⟨q, he, hq, h.later hB⟩)
  clear hA hl
  go_enter Tryz.func128, Tryz.ntmps128
  go_wp2_with (go_at_call 131; refine (IX.out _ hx).mono ?_; rintro e w1 ⟨q, rfl, hq, hx⟩)
  go_ret
  exact ⟨rfl, hx.2⟩
end Go.Proofs.YtngbhifafdbpkaaGreat
