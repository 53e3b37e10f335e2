import Derived.Test.YthpenliecgpedaaZbt
namespace Go.Proofs.Ythpenliecgpedaa
open Go.RowKit Go.MuLone
set_option linter.unusedSimpArgs false
noncomputable def sloR (l : List LkV) (n : Int) (s : List UInt8) : List LkV := if askC l n s = 0 then stealL l n s else []
noncomputable def sloT (l : List LkV) (n : Int) (s : List UInt8) : List ToV := if askC l n s = 0 then stealT l n s else []
noncomputable def sloC (l : List LkV) (n : Int) (s : List UInt8) : Int := if askC l n s = 0 then stealC l n s else askC l n s
theorem sl_no {l : List LkV} {n : Int} {s : List UInt8} (h : ¬ askC l n s = 0) : sloR l n s = [] ∧ sloT l n s = [] ∧ sloC l n s = askC l n s := by unfold sloR sloT sloC; simp [h]
theorem sl_ok {l : List LkV} {n : Int} {s : List UInt8} (h : askC l n s = 0) : sloR l n s = stealL l n s ∧ sloT l n s = stealT l n s ∧ sloC l n s = stealC l n s := by unfold sloR sloT sloC; simp [h]
set_option maxRecDepth 100000 in
set_option maxHeartbeats 6400000 in
theorem stealLockS (l : List LkV) (n : Int) (s : List UInt8) (a : Option Addr) (c : Nat) (B : Nat → Prop) (w : World) (ho : (dLockS l).le maxLen) (hs : s.length ≤ maxLen) (hS : Rd w B (dLockS l) (.slice a l.length c)) :
    Calls Try.prog 11 #[.slice a l.length c, .int .i64 n, .string ⟨s.toArray⟩] w fun e w' => ∃ (ra : Option Addr) (rc : Nat) (ta : Option Addr) (tc : Nat), e = .returned (.tuple #[.slice ra (sloR l n s).length rc, .slice ta (sloT l n s).length tc, .int .i64 (sloC l n s)]) ∧ Rd w' (· < w'.heap.size) (dLockS (sloR l n s)) (.slice ra (sloR l n s).length rc) ∧ Rd w' (· < w'.heap.size) (dToldS (sloT l n s)) (.slice ta (sloT l n s).length tc) ∧ Below w.heap.size w w' := by
  have hl : l.length ≤ maxLen := (Ls_le.1 ho).2.1
  have CA := Lib.hid (askS l n s a c B w ho hs hS)
  unfold maxLen at hl hs
  by_cases h1 : 4096 < l.length
  case pos =>
    have HC : Hid (askC l n s = 2) := ask_long h1
    obtain ⟨r1, r2, r3⟩ := sl_no (l := l) (n := n) (s := s) (by rw [HC.out]; omega)
    have d1 : decide (4096 < (l.length : Int)) = true := decide_eq_true (by omega)
    rw [r1, r2, r3, HC.out]
    clear h1 hS ho r1 r2 r3
    go_enter Try.func11, Try.ntmps11
    go_wp2_with fail
    go_ret3
    exact ⟨_, _, _, _, rfl, Rd.lsNil _ _, Rd.lsNil _ _, (below_allocD _ _).alloc (below_allocD _ _).size _⟩
  have d1 : decide (4096 < (l.length : Int)) = false := decide_eq_false (by omega)
  clear h1
  by_cases h2 : 65536 < s.length
  case pos =>
    have HC : Hid (askC l n s = 2) := ask_longS h2
    obtain ⟨r1, r2, r3⟩ := sl_no (l := l) (n := n) (s := s) (by rw [HC.out]; omega)
    have d2 : decide (65536 < (s.length : Int)) = true := decide_eq_true (by omega)
    rw [r1, r2, r3, HC.out]
    clear h2 hS ho r1 r2 r3
    go_enter Try.func11, Try.ntmps11
    go_wp2_with fail
    go_ret3
    exact ⟨_, _, _, _, rfl, Rd.lsNil _ _, Rd.lsNil _ _, (below_allocD _ _).alloc (below_allocD _ _).size _⟩
  have d2 : decide (65536 < (s.length : Int)) = false := decide_eq_false (by omega)
  clear h2
  by_cases h0 : askC l n s = 0
  case neg =>
    obtain ⟨r1, r2, r3⟩ := sl_no h0
    rw [r1, r2, r3]
    have hne : (askC l n s != 0) = true := by simpa using h0
    clear hS ho h0 r1 r2 r3
    generalize askC l n s = r at *
    go_enter Try.func11, Try.ntmps11
    go_wp2_with (go_at_call 27; refine CA.out.mono ?_; rintro e w1 ⟨rfl, hB⟩)
    go_ret3
    exact ⟨_, _, _, _, rfl, Rd.lsNil _ _, Rd.lsNil _ _, hB.trans (((below_allocD _ _).alloc (below_allocD _ _).size _).mono hB.size)⟩
  have hp := (ask_zero h0).1
  obtain ⟨r1, r2, r3⟩ := sl_ok h0
  rw [r1, r2, r3]
  have CO : Hid (∀ W, Below w.heap.size w W → Calls Try.prog 30 #[.slice a l.length c, .int .i64 n, .string ⟨s.toArray⟩] W fun e w' => ∃ es ra rc ta tc, e = .returned (.tuple #[.slice ra (stealL l n s).length rc, .slice ta (stealT l n s).length tc, .int .i64 (stealC l n s)]) ∧ lks es = stealL l n s ∧ LTab W.heap.size w' es (.slice ra (stealL l n s).length rc) ∧ Rd w' (fun b => W.heap.size ≤ b ∧ b < w'.heap.size) (dToldS (stealT l n s)) (.slice ta (stealT l n s).length tc) ∧ Below W.heap.size W w') := fun W h => stealS l n s a c B W hp (Rd.later hS h)
  rw [h0] at CA
  clear hS ho h0 r1 r2 r3 hp
  generalize stealL l n s = R at *
  generalize stealT l n s = R1 at *
  generalize stealC l n s = R2 at *
  go_enter Try.func11, Try.ntmps11
  go_wp2_with (first | (go_at_call 27; refine CA.out.mono ?_; rintro e w1 ⟨rfl, hB⟩) | (go_at_call 30; refine (CO.out _ hB).mono ?_; rintro e w2 ⟨es, ra, rc, ta, tc, rfl, hes, hT, hTo, hB2⟩))
  go_ret3
  refine ⟨ra, rc, ta, tc, rfl, ?_, hTo.mono (fun _ h => h.2), hB.trans (hB2.mono hB.size)⟩
  have h9 := hT.own.rd'
  rw [hes] at h9
  exact h9.mono (fun _ h => h.2)
end Go.Proofs.Ythpenliecgpedaa
