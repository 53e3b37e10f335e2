import Derived.Test.YthpenliecgpedaaYbn
namespace Go.Proofs.Ythpenliecgpedaa
open Go.RowKit Go.MuLone
set_option linter.unusedSimpArgs false
noncomputable def laoR (l : List LkV) (n : Int) : List LkV := if obC l n = 0 then (laK l n l.length).1 else []
noncomputable def laoT (l : List LkV) (n : Int) : List ToV := if obC l n = 0 then (laK l n l.length).2 else []
theorem la_no {l : List LkV} {n : Int} (h : ¬ obC l n = 0) : laoR l n = [] ∧ laoT l n = [] := by unfold laoR laoT; rw [if_neg h, if_neg h]; exact ⟨rfl, rfl⟩
theorem la_ok {l : List LkV} {n : Int} (h : obC l n = 0) : laoR l n = (laK l n l.length).1 ∧ laoT l n = (laK l n l.length).2 := by unfold laoR laoT; rw [if_pos h, if_pos h]; exact ⟨rfl, rfl⟩
set_option maxRecDepth 100000 in
set_option maxHeartbeats 3200000 in
theorem leaveAllS (l : List LkV) (n : Int) (a : Option Addr) (c : Nat) (B : Nat → Prop) (w : World) (ho : (dLockS l).le maxLen) (hS : Rd w B (dLockS l) (.slice a l.length c)) :
    Calls Try.prog 19 #[.slice a l.length c, .int .i64 n] w fun e w' => ∃ (ra : Option Addr) (rc : Nat) (ta : Option Addr) (tc : Nat), e = .returned (.tuple #[.slice ra (laoR l n).length rc, .slice ta (laoT l n).length tc, .int .i64 (obC l n)]) ∧ Rd w' (· < w'.heap.size) (dLockS (laoR l n)) (.slice ra (laoR l n).length rc) ∧ Rd w' (· < w'.heap.size) (dToldS (laoT l n)) (.slice ta (laoT l n).length tc) ∧ Below w.heap.size w w' := by
  have hl : l.length ≤ maxLen := (Ls_le.1 ho).2.1
  unfold maxLen at hl
  have CA : Hid (Calls Try.prog 27 #[.slice a l.length c, .int .i64 n, .string ⟨#[120]⟩] w fun e w' => e = .returned (.int .i64 (obC l n)) ∧ Below w.heap.size w w') := askS l n xN a c B w ho (by unfold maxLen xN; decide) hS
  have HNO : Hid (¬ obC l n = 0 → laoR l n = [] ∧ laoT l n = []) := fun h => la_no h
  by_cases h1 : 4096 < l.length
  case pos =>
    have HC : Hid (obC l n = 2) := ask_long h1
    have HR := Lib.hid (HNO.out (by rw [HC.out]; omega))
    have d1 : decide (4096 < (l.length : Int)) = true := decide_eq_true (by omega)
    rw [HR.out.1, HR.out.2, HC.out]
    clear h1 hS ho
    go_enter Try.func19, Try.ntmps19
    go_wp2_with fail
    go_ret3
    exact ⟨_, _, _, _, rfl, Rd.lsNil _ _, Rd.lsNil _ _, (below_allocD _ _).alloc (below_allocD _ _).size _⟩
  have d1 : decide (4096 < (l.length : Int)) = false := decide_eq_false (by omega)
  clear h1
  by_cases h0 : obC l n = 0
  case neg =>
    have HR := Lib.hid (HNO.out h0)
    rw [HR.out.1, HR.out.2]
    have hne : (obC l n != 0) = true := by simpa using h0
    clear hS ho h0 HNO
    generalize obC l n = r at *
    go_enter Try.func19, Try.ntmps19
    go_wp2_with (go_at_call 27; refine CA.out.mono ?_; rintro e w1 ⟨rfl, hB⟩)
    go_ret3
    exact ⟨_, _, _, _, rfl, Rd.lsNil _ _, Rd.lsNil _ _, hB.trans (((below_allocD _ _).alloc (below_allocD _ _).size _).mono hB.size)⟩
  have hp := (ask_zero h0).1
  obtain ⟨r1, r2⟩ := la_ok h0
  rw [r1, r2]
  have CO : Hid (∀ W, Below w.heap.size w W → Calls Try.prog 38 #[.slice a l.length c, .int .i64 n] W fun e w' => ∃ (ra : Option Addr) (rc : Nat) (ta : Option Addr) (tc : Nat), e = .returned (.tuple #[.slice ra (laK l n l.length).1.length rc, .slice ta (laK l n l.length).2.length tc]) ∧ Rd w' (· < w'.heap.size) (dLockS (laK l n l.length).1) (.slice ra (laK l n l.length).1.length rc) ∧ Rd w' (· < w'.heap.size) (dToldS (laK l n l.length).2) (.slice ta (laK l n l.length).2.length tc) ∧ Below W.heap.size W w') := fun W h => allS l n a c B W hp (Rd.later hS h)
  rw [h0] at CA ⊢
  clear hS ho h0 HNO hp r1 r2
  generalize laK l n l.length = R at *
  go_enter Try.func19, Try.ntmps19
  go_wp2_with (first | (go_at_call 27; refine CA.out.mono ?_; rintro e w1 ⟨rfl, hB⟩) | (go_at_call 38; refine (CO.out _ hB).mono ?_; rintro e w2 ⟨ra, rc, ta, tc, rfl, hO, hO2, hB2⟩))
  go_ret3
  exact ⟨ra, rc, ta, tc, rfl, hO, hO2, hB.trans (hB2.mono hB.size)⟩
end Go.Proofs.Ythpenliecgpedaa
