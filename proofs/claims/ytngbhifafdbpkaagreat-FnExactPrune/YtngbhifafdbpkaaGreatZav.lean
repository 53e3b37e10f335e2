import Derived.Test.YtngbhifafdbpkaaGreatZat
namespace Go.Proofs.YtngbhifafdbpkaaGreat
open Go.RowKit
set_option linter.unusedSimpArgs false
set_option maxRecDepth 100000 in
set_option maxHeartbeats 1600000 in
theorem fitsI (c : Cl) (l : List At) (a : Option Addr) (cp : Nat) (S : Nat) (w : World) (hl : l.length ≤ maxLen) (hw : S ≤ w.heap.size) (hA : Ats w (· < S) a l) :
    Calls Tryz.prog 100 #[.agg #[.string ⟨c.nm.toArray⟩, .int .i64 c.k, .int .i64 c.mn, .int .i64 c.mx, .int .i64 c.lo, .int .i64 c.hi, .string ⟨c.rf.toArray⟩, .bool c.st], .slice a l.length cp] w fun e w' => e = .returned (.int .i64 (fitC c l)) ∧ Below w.heap.size w w' := by
  unfold maxLen at hl
  have HA : Hid (∀ W, Below w.heap.size w W → Ats W (· < S) a l) := fun W h => hA.below (h.mono hw)
  have hx := boxC 72 w c
  clear hA hw
  have x0 := cell_at (o := 0) hx.1 rfl
  have x1 := cell_at (o := 1) hx.1 rfl
  have x2 := cell_at (o := 2) hx.1 rfl
  have x3 := cell_at (o := 3) hx.1 rfl
  have x4 := cell_at (o := 4) hx.1 rfl
  have x5 := cell_at (o := 5) hx.1 rfl
  have x6 := cell_at (o := 6) hx.1 rfl
  have x7 := cell_at (o := 7) hx.1 rfl
  by_cases h0 : 0 < l.length ∧ (l.getD 0 atZ).k ≠ c.k
  case pos =>
    have hln := h0.1
    have HC : Hid (fitC c l = 9) := fit9 hln (by rw [← at_getD hln]; exact h0.2)
    have hk0 : (l[0].k != c.k) = true := by have := h0.2; rw [at_getD hln] at this; simpa using this
    obtain ⟨b, off, rfl, -, f0, -, -⟩ := (HA.out _ hx.2).item 0 hln
    rw [Nat.zero_mul, Nat.add_zero] at f0
    have hd : decide (0 < (l.length : Int)) = true := decide_eq_true (by omega)
    have hki0 : (0 : Int) < (l.length : Int) := by omega
    clear h0 HA
    generalize l[0] = z at *
    go_enter Tryz.func100, Tryz.ntmps100
    go_wp2_with fail
    go_quiet (fail)
    go_wp2_with fail
    go_ret
    exact ⟨ret_i HC.out.symm, below_drewN hx.2 _⟩
  have HN := Lib.hid h0
  have hq : l.length = 0 ∨ ∃ b off, a = some ⟨b, off, none⟩ ∧ 0 < l.length ∧ (w.alloc (.cells #[.string ⟨c.nm.toArray⟩, .int .i64 c.k, .int .i64 c.mn, .int .i64 c.mx, .int .i64 c.lo, .int .i64 c.hi, .string ⟨c.rf.toArray⟩, .bool c.st] 72)).cell? ⟨b, off, none⟩ = some (.int .i64 c.k) := by
    by_cases h : l.length = 0
    · exact .inl h
    · obtain ⟨b, off, e, -, f0, -, -⟩ := (HA.out _ hx.2).item 0 (by omega)
      rw [Nat.zero_mul, Nat.add_zero] at f0
      have hk0 : l[0].k = c.k := by
        by_cases hh : l[0].k = c.k
        · exact hh
        · exact absurd ⟨by omega, by rw [at_getD (by omega)]; exact hh⟩ h0
      rw [hk0] at f0
      exact .inr ⟨b, off, e, by omega, f0⟩
  have HQ := Lib.hid hq
  clear h0 hq
  by_cases hn : (l.length : Int) < c.mn ∨ c.mx < (l.length : Int)
  case pos =>
    have HC : Hid (fitC c l = 6) := fit6 HN.out (by unfold inB; simp; omega)
    rcases HQ.out with h | ⟨b, off, rfl, hln, f0⟩
    · obtain rfl := List.length_eq_zero_iff.1 h
      clear h HQ HN HA hl
      simp only [List.length_nil, Int.natCast_zero] at hn ⊢
      rcases hn with hn | hn
      · have dn : decide (0 < c.mn) = true := decide_eq_true hn
        clear hn
        go_enter Tryz.func100, Tryz.ntmps100
        go_wp2_with fail
        go_quiet (fail)
        go_wp2_with fail
        go_ret
        exact ⟨ret_i HC.out.symm, by first | exact hx.2 | exact hx.2.drew | exact below_drewN hx.2 _⟩
      · have dn : decide (c.mx < 0) = true := decide_eq_true hn
        clear hn
        go_enter Tryz.func100, Tryz.ntmps100
        go_wp2_with fail
        go_quiet (fail)
        go_wp2_with fail
        all_goals
          go_ret
          exact ⟨ret_i HC.out.symm, by first | exact hx.2 | exact hx.2.drew | exact below_drewN hx.2 _⟩
    · have hd : decide (0 < (l.length : Int)) = true := decide_eq_true (by omega)
      have hki0 : (0 : Int) < (l.length : Int) := by omega
      have hkk : (c.k != c.k) = false := by simp
      clear HQ HN HA
      rcases hn with hn | hn
      · have dn : decide ((l.length : Int) < c.mn) = true := decide_eq_true hn
        clear hn
        go_enter Tryz.func100, Tryz.ntmps100
        go_wp2_with fail
        go_quiet (fail)
        go_wp2_with fail
        go_ret
        exact ⟨ret_i HC.out.symm, by first | exact hx.2 | exact hx.2.drew | exact below_drewN hx.2 _⟩
      · have dn : decide (c.mx < (l.length : Int)) = true := decide_eq_true hn
        clear hn
        go_enter Tryz.func100, Tryz.ntmps100
        go_wp2_with fail
        go_quiet (fail)
        go_wp2_with fail
        all_goals
          go_ret
          exact ⟨ret_i HC.out.symm, by first | exact hx.2 | exact hx.2.drew | exact below_drewN hx.2 _⟩
  have hm : inB c.mn l.length c.mx = true := by unfold inB; simp; omega
  have dn1 : decide ((l.length : Int) < c.mn) = false := decide_eq_false (by omega)
  have dn2 : decide (c.mx < (l.length : Int)) = false := decide_eq_false (by omega)
  rcases HQ.out with h | ⟨b, off, rfl, hln, f0⟩
  · obtain rfl := List.length_eq_zero_iff.1 h
    have HC : Hid (fitC c [] = 0) := fit0 HN.out hm (fun m hm => absurd hm (by simp))
    clear h HQ HN HA hl hm hn
    simp only [List.length_nil, Int.natCast_zero] at dn1 dn2 ⊢
    go_enter Tryz.func100, Tryz.ntmps100
    go_wp2_with fail
    go_quiet (fail)
    go_wp2_with fail
    go_loopw [33] (fun i wr => i = .int .i64 0 ∧ BoxC 72 w wr c) (fun _ _ => 0)
    case atStart => exact ⟨rfl, by first | exact hx | exact hx.drew | exact hx.drewN _⟩
    case round =>
      clear hx x0 x1 x2 x3 x4 x5 x6 x7
      obtain ⟨rfl, hx⟩ := hrel
      go_wp2_with fail
      go_ret
      exact ⟨ret_i HC.out.symm, hx.2⟩
  · have hd : decide (0 < (l.length : Int)) = true := decide_eq_true (by omega)
    have hki0 : (0 : Int) < (l.length : Int) := by omega
    have hkk : (c.k != c.k) = false := by simp
    clear HQ hn
    go_enter Tryz.func100, Tryz.ntmps100
    go_wp2_with fail
    go_quiet (fail)
    clear f0
    go_wp2_with fail
    go_loopw [33] (fun i wr => ∃ k : Nat, k ≤ l.length ∧ i = .int .i64 k ∧ Hid ((∀ m (hm : m < l.length), m < k → outB c l[m] = false) ∧ BoxC 72 w wr c)) (fun i _ => l.length - (intOf i).toNat)
    case atStart => exact ⟨0, Nat.zero_le _, rfl, fun m _ h => absurd h (by omega), by first | exact hx | exact hx.drew | exact hx.drewN _⟩
    case round =>
      clear hx x0 x1 x2 x3 x4 x5 x6 x7
      obtain ⟨k, hk, rfl, HW⟩ := hrel
      have hx := HW.out.2
      by_cases hlt : k < l.length
      case neg =>
        have HC : Hid (fitC c l = 0) := fit0 HN.out hm (fun m hm => HW.out.1 m hm (by omega))
        have hki : decide ((k : Int) < (l.length : Int)) = false := by simp; omega
        go_wp2_with fail
        go_ret
        exact ⟨ret_i HC.out.symm, hx.2⟩
      have hki : (k : Int) < (l.length : Int) := by omega
      obtain ⟨c0, c1, c2⟩ := (HA.out _ hx.2).three k hlt
      have HNX : Hid (outB c l[k] = false → ∀ m (hm : m < l.length), m < k + 1 → outB c l[m] = false) := fun h m hm hmk => by
        by_cases e : m = k
        · subst e; exact h
        · exact HW.out.1 m hm (by omega)
      have HF4 : Hid (outB c l[k] = true → fitC c l = 4) := fun h => fit4 HN.out hm hlt h
      clear HW
      have hb1 : w.heap.size < wr.heap.size := (Array.getElem?_eq_some_iff.1 hx.1).1
      have hnb : (w.heap.size = wr.heap.size) = False := by simp; omega
      have HXA : Hid (∀ o, BoxC 72 w (wr.alloc o) c) := fun o => hx.later ((Below.refl _ _).alloc (Nat.le_refl _) _)
      have x0 := cell_at (o := 0) hx.1 rfl
      have x1 := cell_at (o := 1) hx.1 rfl
      have x2 := cell_at (o := 2) hx.1 rfl
      have x3 := cell_at (o := 3) hx.1 rfl
      have x4 := cell_at (o := 4) hx.1 rfl
      have x5 := cell_at (o := 5) hx.1 rfl
      have x6 := cell_at (o := 6) hx.1 rfl
      have x7 := cell_at (o := 7) hx.1 rfl
      cases hk1 : (c.k == 1)
      case false =>
        have HN1 := Lib.hid (HNX.out (by unfold outB; rw [hk1]; rfl))
        clear HNX HF4
        generalize l[k] = x at *
        go_wp2_with fail
        go_roundw
        case rel => exact ⟨k + 1, by omega, by go_num, HN1.out, HXA.out _⟩
        case measure => simp [intOf]; omega
      by_cases hlo : l[k].n < c.lo
      case pos =>
        have HC := Lib.hid (HF4.out (by unfold outB inB; rw [hk1]; simp; omega))
        have dlo : decide (l[k].n < c.lo) = true := decide_eq_true hlo
        clear HNX HF4 hlo
        generalize l[k] = x at *
        go_wp2_with fail
        go_ret
        exact ⟨ret_i HC.out.symm, (HXA.out _).2⟩
      have dlo : decide (l[k].n < c.lo) = false := decide_eq_false hlo
      by_cases hhi : c.hi < l[k].n
      case pos =>
        have HC := Lib.hid (HF4.out (by unfold outB inB; rw [hk1]; simp; omega))
        have dhi : decide (c.hi < l[k].n) = true := decide_eq_true hhi
        clear HNX HF4 hhi hlo
        generalize l[k] = x at *
        go_wp2_with fail
        go_ret
        exact ⟨ret_i HC.out.symm, (HXA.out _).2⟩
      have dhi : decide (c.hi < l[k].n) = false := decide_eq_false hhi
      have HN1 := Lib.hid (HNX.out (by unfold outB inB; rw [hk1]; simp; omega))
      clear HNX HF4 hhi hlo
      generalize l[k] = x at *
      go_wp2_with fail
      go_roundw
      case rel => exact ⟨k + 1, by omega, by go_num, HN1.out, HXA.out _⟩
      case measure => simp [intOf]; omega
end Go.Proofs.YtngbhifafdbpkaaGreat
