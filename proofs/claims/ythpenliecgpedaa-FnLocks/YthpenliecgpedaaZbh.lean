import Derived.Test.YthpenliecgpedaaZbg
namespace Go.Proofs.Ythpenliecgpedaa
open Go.RowKit Go.MuLone
set_option linter.unusedSimpArgs false
noncomputable def lvoR (l : List LkV) (n : Int) (s : List UInt8) : List LkV := if askC l n s = 0 then leaveL l n s else []
noncomputable def lvoT (l : List LkV) (n : Int) (s : List UInt8) : List ToV := if askC l n s = 0 then leaveT l n s else []
noncomputable def lvoC (l : List LkV) (n : Int) (s : List UInt8) : Int := if askC l n s = 0 then leaveC l n s else askC l n s
theorem lv_no {l : List LkV} {n : Int} {s : List UInt8} (h : ¬ askC l n s = 0) : lvoR l n s = [] ∧ lvoT l n s = [] ∧ lvoC l n s = askC l n s := by unfold lvoR lvoT lvoC; simp [h]
theorem lv_ok {l : List LkV} {n : Int} {s : List UInt8} (h : askC l n s = 0) : lvoR l n s = leaveL l n s ∧ lvoT l n s = leaveT l n s ∧ lvoC l n s = leaveC l n s := by unfold lvoR lvoT lvoC; simp [h]
set_option maxRecDepth 100000 in
set_option maxHeartbeats 6400000 in
theorem leaveLockS (l : List LkV) (n : Int) (s : List UInt8) (a : Option Addr) (c : Nat) (B : Nat → Prop) (w : World) (ho : (dLockS l).le maxLen) (hs : s.length ≤ maxLen) (hS : Rd w B (dLockS l) (.slice a l.length c)) :
    Calls Try.prog 13 #[.slice a l.length c, .int .i64 n, .string ⟨s.toArray⟩] w fun e w' => ∃ (ra : Option Addr) (rc : Nat) (ta : Option Addr) (tc : Nat), e = .returned (.tuple #[.slice ra (lvoR l n s).length rc, .slice ta (lvoT l n s).length tc, .int .i64 (lvoC l n s)]) ∧ Rd w' (· < w'.heap.size) (dLockS (lvoR l n s)) (.slice ra (lvoR l n s).length rc) ∧ Rd w' (· < w'.heap.size) (dToldS (lvoT l n s)) (.slice ta (lvoT l n s).length tc) ∧ Below w.heap.size w w' := by
  have hl : l.length ≤ maxLen := (Ls_le.1 ho).2.1
  have CA := Lib.hid (askS l n s a c B w ho hs hS)
  unfold maxLen at hl hs
  by_cases h1 : 4096 < l.length
  case pos =>
    have HC : Hid (askC l n s = 2) := ask_long h1
    obtain ⟨r1, r2, r3⟩ := lv_no (l := l) (n := n) (s := s) (by rw [HC.out]; omega)
    have d1 : decide (4096 < (l.length : Int)) = true := decide_eq_true (by omega)
    rw [r1, r2, r3, HC.out]
    clear h1 hS ho r1 r2 r3
    go_enter Try.func13, Try.ntmps13
    go_wp2_with fail
    go_ret3
    exact ⟨_, _, _, _, rfl, Rd.lsNil _ _, Rd.lsNil _ _, (below_allocD _ _).alloc (below_allocD _ _).size _⟩
  have d1 : decide (4096 < (l.length : Int)) = false := decide_eq_false (by omega)
  clear h1
  by_cases h2 : 65536 < s.length
  case pos =>
    have HC : Hid (askC l n s = 2) := ask_longS h2
    obtain ⟨r1, r2, r3⟩ := lv_no (l := l) (n := n) (s := s) (by rw [HC.out]; omega)
    have d2 : decide (65536 < (s.length : Int)) = true := decide_eq_true (by omega)
    rw [r1, r2, r3, HC.out]
    clear h2 hS ho r1 r2 r3
    go_enter Try.func13, Try.ntmps13
    go_wp2_with fail
    go_ret3
    exact ⟨_, _, _, _, rfl, Rd.lsNil _ _, Rd.lsNil _ _, (below_allocD _ _).alloc (below_allocD _ _).size _⟩
  have d2 : decide (65536 < (s.length : Int)) = false := decide_eq_false (by omega)
  clear h2
  by_cases h0 : askC l n s = 0
  case neg =>
    obtain ⟨r1, r2, r3⟩ := lv_no h0
    rw [r1, r2, r3]
    have hne : (askC l n s != 0) = true := by simpa using h0
    clear hS ho h0 r1 r2 r3
    generalize askC l n s = r at *
    go_enter Try.func13, Try.ntmps13
    go_wp2_with (go_at_call 27; refine CA.out.mono ?_; rintro e w1 ⟨rfl, hB⟩)
    go_ret3
    exact ⟨_, _, _, _, rfl, Rd.lsNil _ _, Rd.lsNil _ _, hB.trans (((below_allocD _ _).alloc (below_allocD _ _).size _).mono hB.size)⟩
  have hp := (ask_zero h0).1
  obtain ⟨r1, r2, r3⟩ := lv_ok h0
  rw [r1, r2, r3]
  have CO : Hid (∀ W, Below w.heap.size w W → Calls Try.prog 32 #[.slice a l.length c, .int .i64 n, .string ⟨s.toArray⟩] W fun e w' => ∃ es ra rc ta tc, e = .returned (.tuple #[.slice ra (leaveL l n s).length rc, .slice ta (leaveT l n s).length tc, .int .i64 (leaveC l n s)]) ∧ lks es = leaveL l n s ∧ LTab W.heap.size w' es (.slice ra (leaveL l n s).length rc) ∧ Rd w' (fun b => W.heap.size ≤ b ∧ b < w'.heap.size) (dToldS (leaveT l n s)) (.slice ta (leaveT l n s).length tc) ∧ Below W.heap.size W w') := fun W h => leaveS l n s a c B W hp (Rd.later hS h)
  rw [h0] at CA
  clear hS ho h0 r1 r2 r3 hp
  generalize leaveL l n s = R at *
  generalize leaveT l n s = R1 at *
  generalize leaveC l n s = R2 at *
  go_enter Try.func13, Try.ntmps13
  go_wp2_with (first | (go_at_call 27; refine CA.out.mono ?_; rintro e w1 ⟨rfl, hB⟩) | (go_at_call 32; refine (CO.out _ hB).mono ?_; rintro e w2 ⟨es, ra, rc, ta, tc, rfl, hes, hT, hTo, hB2⟩))
  go_ret3
  refine ⟨ra, rc, ta, tc, rfl, ?_, hTo.mono (fun _ h => h.2), hB.trans (hB2.mono hB.size)⟩
  have h9 := hT.own.rd'
  rw [hes] at h9
  exact h9.mono (fun _ h => h.2)
end Go.Proofs.Ythpenliecgpedaa
