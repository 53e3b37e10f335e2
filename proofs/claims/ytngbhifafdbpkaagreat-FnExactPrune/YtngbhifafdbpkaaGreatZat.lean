import Derived.Test.YtngbhifafdbpkaaGreatZae
import Derived.Test.YtngbhifafdbpkaaGreatZag
import Derived.Test.YtngbhifafdbpkaaGreatZaj
import Derived.Test.YtngbhifafdbpkaaGreatZTk
namespace Go.Proofs.YtngbhifafdbpkaaGreat
open Go.RowKit
set_option linter.unusedSimpArgs false
def outB (c : Cl) (x : At) : Bool := (c.k == 1) && !(inB c.lo x.n c.hi)
def fitC (c : Cl) (l : List At) : Int :=
  if 0 < l.length ∧ (l.getD 0 atZ).k ≠ c.k then 9
  else if inB c.mn l.length c.mx = false then 6
  else if l.any (outB c) then 4 else 0
theorem fit9 {c : Cl} {l : List At} (h : 0 < l.length) (hk : ¬ l[0].k = c.k) : fitC c l = 9 := by
  unfold fitC; rw [at_getD h, if_pos ⟨h, hk⟩]
theorem fit6 {c : Cl} {l : List At} (h : ¬ (0 < l.length ∧ (l.getD 0 atZ).k ≠ c.k)) (hm : inB c.mn l.length c.mx = false) : fitC c l = 6 := by
  unfold fitC; rw [if_neg h, if_pos hm]
theorem fit4 {c : Cl} {l : List At} (h : ¬ (0 < l.length ∧ (l.getD 0 atZ).k ≠ c.k)) (hm : inB c.mn l.length c.mx = true) {k : Nat} (hk : k < l.length) (ho : outB c l[k] = true) : fitC c l = 4 := by
  unfold fitC; rw [if_neg h, if_neg (by simp [hm]), if_pos]
  rw [List.any_eq_true]; exact ⟨_, List.getElem_mem hk, ho⟩
theorem fit0 {c : Cl} {l : List At} (h : ¬ (0 < l.length ∧ (l.getD 0 atZ).k ≠ c.k)) (hm : inB c.mn l.length c.mx = true) (ho : ∀ k (hk : k < l.length), outB c l[k] = false) : fitC c l = 0 := by
  unfold fitC; rw [if_neg h, if_neg (by simp [hm]), if_neg]
  rw [List.any_eq_true]; rintro ⟨x, hx, h⟩
  obtain ⟨k, hk, rfl⟩ := List.mem_iff_getElem.1 hx
  rw [ho k hk] at h; cases h
set_option maxRecDepth 100000 in
set_option maxHeartbeats 1600000 in
theorem fitsS (c : Cl) (l : List At) (a : Option Addr) (cp : Nat) (S : Nat) (w : World) (hl : l.length ≤ maxLen) (hw : S ≤ w.heap.size) (hA : Ats w (· < S) a l) :
    Calls Tryz.prog 63 #[.agg #[.string ⟨c.nm.toArray⟩, .int .i64 c.k, .int .i64 c.mn, .int .i64 c.mx, .int .i64 c.lo, .int .i64 c.hi, .string ⟨c.rf.toArray⟩, .bool c.st], .slice a l.length cp] w fun e w' => e = .returned (.int .i64 (fitC c l)) ∧ Below w.heap.size w w' := by
  unfold maxLen at hl
  have HA : Hid (∀ W, Below w.heap.size w W → Ats W (· < S) a l) := fun W h => hA.below (h.mono hw)
  have hx := boxC 72 w c
  clear hA hw
  have x0 := cell_at (o := 0) hx.1 rfl
  have x1 := cell_at (o := 1) hx.1 rfl
  have x2 := cell_at (o := 2) hx.1 rfl
  have x3 := cell_at (o := 3) hx.1 rfl
  have x4 := cell_at (o := 4) hx.1 rfl
  have x5 := cell_at (o := 5) hx.1 rfl
  have x6 := cell_at (o := 6) hx.1 rfl
  have x7 := cell_at (o := 7) hx.1 rfl
  by_cases h0 : 0 < l.length ∧ (l.getD 0 atZ).k ≠ c.k
  case pos =>
    have hln := h0.1
    have HC : Hid (fitC c l = 9) := fit9 hln (by rw [← at_getD hln]; exact h0.2)
    have hk0 : (l[0].k != c.k) = true := by have := h0.2; rw [at_getD hln] at this; simpa using this
    obtain ⟨b, off, rfl, -, f0, -, -⟩ := (HA.out _ hx.2).item 0 hln
    rw [Nat.zero_mul, Nat.add_zero] at f0
    have hd : decide (0 < (l.length : Int)) = true := decide_eq_true (by omega)
    have hki0 : (0 : Int) < (l.length : Int) := by omega
    clear h0 HA
    generalize l[0] = z at *
    go_enter Tryz.func63, Tryz.ntmps63
    go_wp2_with fail
    go_quiet (fail)
    go_wp2_with fail
    go_ret
    exact ⟨ret_i HC.out.symm, below_drewN hx.2 _⟩
  have HN := Lib.hid h0
  have hq : l.length = 0 ∨ ∃ b off, a = some ⟨b, off, none⟩ ∧ 0 < l.length ∧ (w.alloc (.cells #[.string ⟨c.nm.toArray⟩, .int .i64 c.k, .int .i64 c.mn, .int .i64 c.mx, .int .i64 c.lo, .int .i64 c.hi, .string ⟨c.rf.toArray⟩, .bool c.st] 72)).cell? ⟨b, off, none⟩ = some (.int .i64 c.k) := by
    by_cases h : l.length = 0
    · exact .inl h
    · obtain ⟨b, off, e, -, f0, -, -⟩ := (HA.out _ hx.2).item 0 (by omega)
      rw [Nat.zero_mul, Nat.add_zero] at f0
      have hk0 : l[0].k = c.k := by
        by_cases hh : l[0].k = c.k
        · exact hh
        · exact absurd ⟨by omega, by rw [at_getD (by omega)]; exact hh⟩ h0
      rw [hk0] at f0
      exact .inr ⟨b, off, e, by omega, f0⟩
  have HQ := Lib.hid hq
  clear h0 hq
  cases hm : inB c.mn l.length c.mx
  case false =>
    have HC : Hid (fitC c l = 6) := fit6 HN.out hm
    rcases HQ.out with h | ⟨b, off, rfl, hln, f0⟩
    · obtain rfl := List.length_eq_zero_iff.1 h
      clear h HQ HN HA hl
      simp only [List.length_nil, Int.natCast_zero] at hm ⊢
      go_enter Tryz.func63, Tryz.ntmps63
      go_wp2_with fail
      go_quiet (fail)
      go_wp2_with (go_at_call 32; refine (inS _ _ _ _).mono ?_; rintro e w' ⟨rfl, rfl⟩)
      go_ret
      exact ⟨ret_i HC.out.symm, by first | exact hx.2 | exact hx.2.drew | exact below_drewN hx.2 _⟩
    · have hd : decide (0 < (l.length : Int)) = true := decide_eq_true (by omega)
      have hki0 : (0 : Int) < (l.length : Int) := by omega
      have hkk : (c.k != c.k) = false := by simp
      clear HQ HN HA
      go_enter Tryz.func63, Tryz.ntmps63
      go_wp2_with fail
      go_quiet (fail)
      go_wp2_with (go_at_call 32; refine (inS _ _ _ _).mono ?_; rintro e w' ⟨rfl, rfl⟩)
      go_ret
      exact ⟨ret_i HC.out.symm, below_drewN hx.2 _⟩
  rcases HQ.out with h | ⟨b, off, rfl, hln, f0⟩
  · obtain rfl := List.length_eq_zero_iff.1 h
    have HC : Hid (fitC c [] = 0) := fit0 HN.out hm (fun m hm => absurd hm (by simp))
    clear h HQ HN HA hl
    simp only [List.length_nil, Int.natCast_zero] at hm ⊢
    go_enter Tryz.func63, Tryz.ntmps63
    go_wp2_with fail
    go_quiet (fail)
    go_wp2_with (go_at_call 32; refine (inS _ _ _ _).mono ?_; rintro e w' ⟨rfl, rfl⟩)
    go_loopw [5] (fun i wr => i = .int .i64 0 ∧ BoxC 72 w wr c) (fun _ _ => 0)
    case atStart => exact ⟨rfl, by first | exact hx | exact hx.drew | exact hx.drewN _⟩
    case round =>
      clear hx x0 x1 x2 x3 x4 x5 x6 x7
      obtain ⟨rfl, hx⟩ := hrel
      go_wp2_with fail
      go_ret
      exact ⟨ret_i HC.out.symm, hx.2⟩
  · have hd : decide (0 < (l.length : Int)) = true := decide_eq_true (by omega)
    have hki0 : (0 : Int) < (l.length : Int) := by omega
    have hkk : (c.k != c.k) = false := by simp
    clear HQ
    go_enter Tryz.func63, Tryz.ntmps63
    go_wp2_with fail
    go_quiet (fail)
    clear f0
    go_wp2_with (go_at_call 32; refine (inS _ _ _ _).mono ?_; rintro e w' ⟨rfl, rfl⟩)
    go_loopw [5] (fun i wr => ∃ k : Nat, k ≤ l.length ∧ i = .int .i64 k ∧ Hid ((∀ m (hm : m < l.length), m < k → outB c l[m] = false) ∧ BoxC 72 w wr c)) (fun i _ => l.length - (intOf i).toNat)
    case atStart => exact ⟨0, Nat.zero_le _, rfl, fun m _ h => absurd h (by omega), by first | exact hx | exact hx.drew | exact hx.drewN _⟩
    case round =>
      clear hx x0 x1 x2 x3 x4 x5 x6 x7
      obtain ⟨k, hk, rfl, HW⟩ := hrel
      have hx := HW.out.2
      by_cases hlt : k < l.length
      case neg =>
        have HC : Hid (fitC c l = 0) := fit0 HN.out hm (fun m hm => HW.out.1 m hm (by omega))
        have hki : decide ((k : Int) < (l.length : Int)) = false := by simp; omega
        go_wp2_with fail
        go_ret
        exact ⟨ret_i HC.out.symm, hx.2⟩
      have hki : (k : Int) < (l.length : Int) := by omega
      obtain ⟨b, off, ea, -, -⟩ := (HA.out _ hx.2).item k hlt
      simp only [Option.some.injEq, Addr.mk.injEq, and_true] at ea
      obtain ⟨rfl, rfl⟩ := ea
      have CE0 : Hid (∀ W, BoxC 72 w W c → W.cell? ⟨w.heap.size, 1, none⟩ = some (.int .i64 c.k) ∧ W.cell? ⟨w.heap.size, 4, none⟩ = some (.int .i64 c.lo) ∧ W.cell? ⟨w.heap.size, 5, none⟩ = some (.int .i64 c.hi) ∧ W.cell? ⟨b, off + k * 3 + 1, none⟩ = some (.int .i64 l[k].n)) := fun W hb => ⟨cell_at (o := 1) hb.1 rfl, cell_at (o := 4) hb.1 rfl, cell_at (o := 5) hb.1 rfl, ((HA.out _ hb.2).three k hlt).2.1⟩
      have CE := CE0
      have HNX : Hid (outB c l[k] = false → ∀ m (hm : m < l.length), m < k + 1 → outB c l[m] = false) := fun h m hm hmk => by
        by_cases e : m = k
        · subst e; exact h
        · exact HW.out.1 m hm (by omega)
      have HF4 : Hid (outB c l[k] = true → fitC c l = 4) := fun h => fit4 HN.out hm hlt h
      clear HW CE0
      cases hk1 : (c.k == 1)
      case false =>
        have HN1 := Lib.hid (HNX.out (by unfold outB; rw [hk1]; rfl))
        clear HNX HF4
        generalize l[k] = x at *
        go_wp2_with fail
        refine wp_region_held_drew (S := (fun W => W.cell? ⟨w.heap.size, 1, none⟩ = some (.int .i64 c.k) ∧ W.cell? ⟨w.heap.size, 4, none⟩ = some (.int .i64 c.lo) ∧ W.cell? ⟨w.heap.size, 5, none⟩ = some (.int .i64 c.hi) ∧ W.cell? ⟨b, off + k * 3 + 1, none⟩ = some (.int .i64 x.n))) (by kernel_rfl) ?_ (fun hHeld => ?_)
        · (first | exact CE.out _ hx | exact CE.out _ hx.drew)
        refine tkB (i := 0) ?_
        refine tkB (i := 1) ?_
        refine tkB (i := 2) ?_
        refine tkB (i := 3) ?_
        refine tkV (i := 4) ?_
        refine tkV (i := 5) ?_
        refine tkV (i := 6) ?_
        refine tkV (i := 7) ?_
        refine tkV (i := 8) ?_
        refine tkV (i := 9) ?_
        refine tkV (i := 10) ?_
        refine tkV (i := 11) ?_
        refine tkV (i := 12) ?_
        refine tkV (i := 13) ?_
        refine tkV (i := 14) ?_
        refine tkB (i := 15) ?_
        refine wpAnyH_done (by kernel_rfl) ?_ _
        go_wp2_with fail
        go_roundw
        case rel => exact ⟨k + 1, by omega, by go_num, HN1.out, by first | exact hx | exact hx.drew | exact hx.drewN _⟩
        case measure => simp [intOf]; omega
      cases hin : inB c.lo l[k].n c.hi
      case true =>
        have HN1 := Lib.hid (HNX.out (by unfold outB; rw [hk1, hin]; rfl))
        clear HNX HF4
        generalize l[k] = x at *
        go_wp2_with fail
        refine wp_region_held_drew (S := (fun W => W.cell? ⟨w.heap.size, 1, none⟩ = some (.int .i64 c.k) ∧ W.cell? ⟨w.heap.size, 4, none⟩ = some (.int .i64 c.lo) ∧ W.cell? ⟨w.heap.size, 5, none⟩ = some (.int .i64 c.hi) ∧ W.cell? ⟨b, off + k * 3 + 1, none⟩ = some (.int .i64 x.n))) (by kernel_rfl) ?_ (fun hHeld => ?_)
        · (first | exact CE.out _ hx | exact CE.out _ hx.drew)
        refine tkB (i := 0) ?_
        refine tkB (i := 1) ?_
        refine tkB (i := 2) ?_
        refine tkB (i := 3) ?_
        refine tkB (i := 4) ?_
        refine tkB (i := 5) ?_
        refine tkB (i := 6) ?_
        refine tkB (i := 7) ?_
        refine tkB (i := 8) ?_
        refine tkB (i := 9) ?_
        refine tkB (i := 10) ?_
        refine tkB (i := 11) ?_
        refine tkB (i := 12) ?_
        refine tkR (i := 13) (fun K hK => ?_)
        go_simp
        (go_at_call 32; refine (inS _ _ _ _).mono ?_; rintro e w' ⟨rfl, rfl⟩)
        refine hK.out _ _ ?_ (fun hHeld => ?_)
        · (first | exact CE.out _ hx | exact CE.out _ hx.drew)
        clear hK K
        try simp only [Act.put, tkS]
        refine tkB (i := 14) ?_
        refine tkB (i := 15) ?_
        refine wpAnyH_done (by kernel_rfl) ?_ _
        go_wp2_with fail
        go_roundw
        case rel => exact ⟨k + 1, by omega, by go_num, HN1.out, by first | exact hx | exact hx.drew | exact hx.drewN _⟩
        case measure => simp [intOf]; omega
      · have HC := Lib.hid (HF4.out (by unfold outB; rw [hk1, hin]; rfl))
        clear HNX HF4
        generalize l[k] = x at *
        go_wp2_with fail
        refine wp_region_held_drew (S := (fun W => W.cell? ⟨w.heap.size, 1, none⟩ = some (.int .i64 c.k) ∧ W.cell? ⟨w.heap.size, 4, none⟩ = some (.int .i64 c.lo) ∧ W.cell? ⟨w.heap.size, 5, none⟩ = some (.int .i64 c.hi) ∧ W.cell? ⟨b, off + k * 3 + 1, none⟩ = some (.int .i64 x.n))) (by kernel_rfl) ?_ (fun hHeld => ?_)
        · (first | exact CE.out _ hx | exact CE.out _ hx.drew)
        refine tkB (i := 0) ?_
        refine tkB (i := 1) ?_
        refine tkB (i := 2) ?_
        refine tkB (i := 3) ?_
        refine tkB (i := 4) ?_
        refine tkB (i := 5) ?_
        refine tkB (i := 6) ?_
        refine tkB (i := 7) ?_
        refine tkB (i := 8) ?_
        refine tkB (i := 9) ?_
        refine tkB (i := 10) ?_
        refine tkB (i := 11) ?_
        refine tkB (i := 12) ?_
        refine tkR (i := 13) (fun K hK => ?_)
        go_simp
        (go_at_call 32; refine (inS _ _ _ _).mono ?_; rintro e w' ⟨rfl, rfl⟩)
        refine hK.out _ _ ?_ (fun hHeld => ?_)
        · (first | exact CE.out _ hx | exact CE.out _ hx.drew)
        clear hK K
        try simp only [Act.put, tkS]
        refine tkB (i := 14) ?_
        refine tkB (i := 15) ?_
        refine wpAnyH_done (by kernel_rfl) ?_ _
        go_wp2_with fail
        go_ret
        exact ⟨ret_i HC.out.symm, by first | exact hx.2 | exact hx.2.drew | exact below_drewN hx.2 _⟩
end Go.Proofs.YtngbhifafdbpkaaGreat
