import Derived.Test.YtgpoigkfoliflaaGreatDoorZam
namespace Go.Proofs.YtgpoigkfoliflaaGreatDoor
open Go.RowKit
set_option linter.unusedSimpArgs false
theorem errFrom_zero (l : List At) : ∀ n i, errFrom l n i = 0 ↔ ∀ j, i ≤ j → j < i + n → errAt l j = 0
  | 0, i => ⟨fun _ j h h' => by omega, fun _ => rfl⟩
  | n + 1, i => by
    rw [errFrom]
    constructor
    · intro h j h1 h2
      split at h
      · rename_i e
        by_cases hj : j = i
        · rw [hj]; exact e
        · exact (errFrom_zero l n (i + 1)).1 h j (by omega) (by omega)
      · rename_i e
        exact absurd h e
    · intro h
      rw [if_pos (h i (by omega) (by omega))]
      exact (errFrom_zero l n (i + 1)).2 (fun j h1 h2 => h j (by omega) (by omega))
theorem errOf_zero (l : List At) : errOf l = 0 ↔ ∀ j, j < l.length → errAt l j = 0 := by
  unfold errOf
  rw [errFrom_zero]
  exact ⟨fun h j hj => h j (by omega) (by omega), fun h j _ hj => h j (by omega)⟩
theorem errAt_zero {l : List At} {i : Nat} : errAt l i = 0 ↔ atOK (l.getD i atZ) = true ∧ (l.getD i atZ).k = (l.getD 0 atZ).k := by
  unfold errAt
  split
  · rename_i h
    exact ⟨fun h => by omega, fun h' => by rw [h] at h'; exact absurd h'.1 (by simp)⟩
  · rename_i h
    split
    · rename_i h2
      exact ⟨fun h => by omega, fun h' => absurd h'.2 h2⟩
    · rename_i h2
      exact ⟨fun _ => ⟨by simpa using h, by simpa using h2⟩, fun _ => rfl⟩
theorem datumB_eq (l : List At) : datumB l = (decide (l.length ≤ 8) && (decide (errOf l = 0) && riseB l)) := by
  unfold datumB
  congr 1
  rw [Bool.eq_iff_iff, List.all_eq_true, Bool.and_eq_true, decide_eq_true_iff, errOf_zero]
  unfold riseB
  rw [List.all_eq_true]
  unfold stepB
  constructor
  · intro h
    refine ⟨fun j hj => ?_, fun j hj => ?_⟩
    · have := h j (List.mem_range.2 hj)
      rw [Bool.and_eq_true, Bool.and_eq_true, beq_iff_eq] at this
      exact errAt_zero.2 ⟨this.1, this.2.1⟩
    · have := h j hj
      rw [Bool.and_eq_true, Bool.and_eq_true] at this
      exact this.2.2
  · intro h j hj
    have h1 := errAt_zero.1 (h.1 j (List.mem_range.1 hj))
    rw [Bool.and_eq_true, Bool.and_eq_true, beq_iff_eq]
    exact ⟨h1.1, h1.2, h.2 j hj⟩
set_option maxRecDepth 100000 in
set_option maxHeartbeats 3200000 in
theorem datumOKi (l : List At) (a : Option Addr) (c : Nat) (S : Nat) (w : World) (hl : l.length ≤ maxLen) (hx : ∀ x ∈ l, x.t.length ≤ maxLen) (hw : S ≤ w.heap.size) (hA : Ats w (· < S) a l) :
    Calls Tryz.prog 44 #[.slice a l.length c] w fun e w' => e = .returned (.bool (datumB l)) ∧ Below w.heap.size w w' := by
  have AC : Hid (∀ W, Below w.heap.size w W → Calls Tryz.prog 62 #[.slice a l.length c] W fun e w' => e = .returned (.int .i64 (errOf l)) ∧ Below w.heap.size w w') := fun W h => (atomsCodeI l a c S W hl hx (Nat.le_trans hw h.size) (hA.below (h.mono hw))).mono (fun e w' ⟨he, hB⟩ => ⟨he, h.trans (hB.mono h.size)⟩)
  have RI : Hid (∀ W, Below w.heap.size w W → Calls Tryz.prog 63 #[.slice a l.length c, .func (.func 64) #[] #[]] W fun e w' => e = .returned (.bool (riseB l)) ∧ Below w.heap.size w w') := fun W h => (risesI l a c S W hl (Nat.le_trans hw h.size) (hA.below (h.mono hw))).mono (fun e w' ⟨he, hB⟩ => ⟨he, h.trans (hB.mono h.size)⟩)
  have HD : Hid (datumB l = _) := datumB_eq l
  have hr := Below.refl w.heap.size w
  unfold maxLen at hl
  clear hA hx hw
  by_cases h8 : l.length ≤ 8
  case neg =>
    have d8 : decide ((l.length : Int) ≤ 8) = false := by simp; omega
    have HR : Hid (datumB l = false) := datumB_long (by omega)
    clear h8 HD
    go_enter Tryz.func44, Tryz.ntmps44
    go_wp2_with fail
    go_ret
    exact ⟨ret_b HR.out.symm, hr⟩
  have d8 : decide ((l.length : Int) ≤ 8) = true := by simp; omega
  by_cases he : errOf l = 0
  case neg =>
    have HR : Hid (datumB l = false) := by show datumB l = false; rw [HD.out, decide_eq_false he]; simp
    have d9 : (errOf l == 0) = false := by simpa using he
    clear h8 HD he
    generalize errOf l = q at *
    go_enter Tryz.func44, Tryz.ntmps44
    go_wp2_with (go_at_call 62; refine (AC.out _ hr).mono ?_; rintro e w1 ⟨rfl, hr⟩)
    go_ret
    exact ⟨ret_b HR.out.symm, hr⟩
  have HR : Hid (datumB l = riseB l) := by show datumB l = riseB l; rw [HD.out, decide_eq_true he, decide_eq_true h8]; simp
  rw [he] at AC
  clear h8 HD he
  generalize riseB l = q at *
  go_enter Tryz.func44, Tryz.ntmps44
  go_wp2_with (first | (go_at_call 62; refine (AC.out _ hr).mono ?_; rintro e w1 ⟨rfl, hr⟩) | (go_at_call 63; refine (RI.out _ hr).mono ?_; rintro e w2 ⟨rfl, hr⟩))
  go_ret
  exact ⟨ret_b HR.out.symm, hr⟩
def IdxAns (l : List At) (x : At) (w : World) (e : Ending) (w' : World) : Prop := ∃ q : Int, e = .returned (.int .i64 q) ∧ decide (q ≥ 0) = hasB l x ∧ Below w.heap.size w w'
set_option maxHeartbeats 3200000 in
theorem indexI (l : List At) (x : At) (a : Option Addr) (c : Nat) (B : Nat → Prop) (w : World) (hl : l.length ≤ maxLen) (hA : Ats w B a l) :
    Calls Tryz.prog 99 #[.slice a l.length c, .agg #[.int .i64 x.k, .int .i64 x.n, .string ⟨x.t.toArray⟩]] w (IdxAns l x w) := by
  unfold maxLen at hl
  have HA : Hid (Ats w B a l) := hA
  clear hA
  go_enter Tryz.func99, Tryz.ntmps99
  go_wp2_with fail
  go_loopw [8] (fun i wr => ∃ k : Nat, k ≤ l.length ∧ i = .int .i64 k ∧ Hid ((∀ m (h : m < l.length), m < k → l[m] ≠ x) ∧ BoxA w wr x)) (fun i _ => l.length - (intOf i).toNat)
  case atStart => exact ⟨0, Nat.zero_le _, rfl, fun m _ h => absurd h (by omega), heap_newA _ _, (Below.refl _ _).alloc (Nat.le_refl _) _⟩
  case round =>
    obtain ⟨k, hk, rfl, HW⟩ := hrel
    have x0 := cell_at (o := 0) HW.out.2.1 rfl
    have x1 := cell_at (o := 1) HW.out.2.1 rfl
    have x2 := cell_at (o := 2) HW.out.2.1 rfl
    by_cases hlt : k < l.length
    · obtain ⟨b, off, rfl, -, c0, c1, c2⟩ := (HA.out.later HW.out.2.2).item k hlt
      have hki : (k : Int) < (l.length : Int) := by omega
      by_cases he : l[k] = x
      · have HR : Hid (hasB l x = true) := hasB_true hlt he
        rw [he] at c0 c1 c2
        clear he
        go_wp2_with fail
        go_quiet (fail)
        go_wp2_with fail
        go_ret
        exact ⟨k, rfl, by rw [HR.out]; exact decide_eq_true (by omega), (HW.out.2.drewN _).2⟩
      · have HN : Hid (∀ m (h : m < l.length), m < k + 1 → l[m] ≠ x) := fun m h hm => by
          by_cases e : m = k
          · subst e; exact he
          · exact HW.out.1 m h (by omega)
        rcases differ (fun e => he e.symm) with hd | ⟨hd, hd2⟩ | ⟨hd, hd2, hd3⟩
        · clear he
          go_wp2_with fail
          go_quiet (fail)
          go_wp2_with fail
          go_roundw
          case rel => exact ⟨k + 1, by omega, by go_num, HN.out, HW.out.2.drewN _⟩
          case measure => simp [intOf]; omega
        · rw [← hd] at c0
          clear he hd
          go_wp2_with fail
          go_quiet (fail)
          go_wp2_with fail
          go_roundw
          case rel => exact ⟨k + 1, by omega, by go_num, HN.out, HW.out.2.drewN _⟩
          case measure => simp [intOf]; omega
        · rw [← hd] at c0
          rw [← hd2] at c1
          clear he hd hd2
          go_wp2_with fail
          go_quiet (fail)
          go_wp2_with fail
          go_roundw
          case rel => exact ⟨k + 1, by omega, by go_num, HN.out, HW.out.2.drewN _⟩
          case measure => simp [intOf]; omega
    · have HR : Hid (hasB l x = false) := hasB_false (fun m h => HW.out.1 m h (by omega))
      have hki : decide ((k : Int) < (l.length : Int)) = false := by simp; omega
      go_wp2_with fail
      go_ret
      exact ⟨-1, rfl, by rw [HR.out]; rfl, HW.out.2.2⟩
set_option maxHeartbeats 1600000 in
theorem containsI (l : List At) (x : At) (a : Option Addr) (c : Nat) (B : Nat → Prop) (w : World) (hl : l.length ≤ maxLen) (hA : Ats w B a l) :
    Calls Tryz.prog 85 #[.slice a l.length c, .agg #[.int .i64 x.k, .int .i64 x.n, .string ⟨x.t.toArray⟩]] w fun e w' => e = .returned (.bool (hasB l x)) ∧ Below w.heap.size w w' := by
  have hx : BoxA w (w.alloc (.cells #[.int .i64 x.k, .int .i64 x.n, .string ⟨x.t.toArray⟩] 55)) x := ⟨heap_newA _ _, (Below.refl _ _).alloc (Nat.le_refl _) _⟩
  have IX : Hid (∀ W, BoxA w W x → Calls Tryz.prog 99 #[.slice a l.length c, .agg #[.int .i64 x.k, .int .i64 x.n, .string ⟨x.t.toArray⟩]] W fun e w' => ∃ q : Int, e = .returned (.int .i64 q) ∧ decide (q ≥ 0) = hasB l x ∧ BoxA w w' x) := fun W h => (indexI l x a c B W hl (hA.later h.2)).mono (fun e w' ⟨q, he, hq, hB⟩ => ⟨q, he, hq, h.later hB⟩)
  clear hA hl
  go_enter Tryz.func85, Tryz.ntmps85
  go_wp2_with (go_at_call 99; refine (IX.out _ hx).mono ?_; rintro e w1 ⟨q, rfl, hq, hx⟩)
  go_ret
  exact ⟨rfl, hx.2⟩
end Go.Proofs.YtgpoigkfoliflaaGreatDoor
