import Derived.Test.YtfoimmnfpheoiaaZbd
namespace Go.Proofs.Ytfoimmnfpheoiaa
open Go.RowKit
set_option linter.unusedSimpArgs false
def mutB (c : MutV) : Bool := inB 1 c.fn 7 && (datumB c.val && decide (c.col.length ≤ 40))
def mutK (kd : Int) (c : MutV) : Int := if kindNo kd c.val = true then 9 else if c.fn ≤ 5 ∧ (kd ≠ 1 ∨ c.val.length ≠ 1) then 9 else 0
theorem mutK_kind {kd : Int} {c : MutV} (h : kindNo kd c.val = true) : mutK kd c = 9 := by unfold mutK; rw [if_pos h]
theorem mutK_ok {kd : Int} {c : MutV} (h : kindNo kd c.val = false) (hf : ¬ c.fn ≤ 5) : mutK kd c = 0 := by
  unfold mutK; rw [if_neg (by simp [h]), if_neg (by simp [hf])]
theorem mutK_no {kd : Int} {c : MutV} (h : kindNo kd c.val = false) (hf : c.fn ≤ 5) (ho : kd ≠ 1 ∨ c.val.length ≠ 1) : mutK kd c = 9 := by
  unfold mutK; rw [if_neg (by simp [h]), if_pos ⟨hf, ho⟩]
theorem mutK_yes {kd : Int} {c : MutV} (h : kindNo kd c.val = false) (h1 : kd = 1) (h3 : c.val.length = 1) : mutK kd c = 0 := by
  unfold mutK; rw [if_neg (by simp [h]), if_neg (by intro h'; rcases h'.2 with h' | h' <;> contradiction)]
set_option maxRecDepth 100000 in
set_option maxHeartbeats 1600000 in
theorem mutOKi (c : MutV) (va : Option Addr) (vc : Nat) (S : Nat) (w : World) (hn : c.col.length ≤ maxLen) (hl : c.val.length ≤ maxLen) (hx : ∀ x ∈ c.val, x.t.length ≤ maxLen) (hw : S ≤ w.heap.size) (hA : Ats w (· < S) va c.val) :
    Calls Try.prog 13 #[.agg #[.string ⟨c.col.toArray⟩, .int .i64 c.fn, .slice va c.val.length vc]] w fun e w' => e = .returned (.bool (mutB c)) ∧ Below w.heap.size w w' := by
  have DA : Hid (∀ W, BoxD 30 w W #[.string ⟨c.col.toArray⟩, .int .i64 c.fn, .slice va c.val.length vc] → Calls Try.prog 14 #[.slice va c.val.length vc] W fun e w' => e = .returned (.bool (datumB c.val)) ∧ BoxD 30 w w' #[.string ⟨c.col.toArray⟩, .int .i64 c.fn, .slice va c.val.length vc]) := fun W h => (datumOKi c.val va vc S W hl hx (Nat.le_trans hw h.2.size) (hA.below (h.2.mono hw))).mono (fun e w' ⟨he, hB⟩ => ⟨he, h.later hB⟩)
  have hb := boxD 30 w #[.string ⟨c.col.toArray⟩, .int .i64 c.fn, .slice va c.val.length vc]
  have x0 := cell_at (o := 0) hb.1 rfl
  have x1 := cell_at (o := 1) hb.1 rfl
  have x2 := cell_at (o := 2) hb.1 rfl
  have HB := Lib.hid hb
  have HD : Hid (mutB c = (inB 1 c.fn 7 && (datumB c.val && decide (c.col.length ≤ 40)))) := rfl
  unfold maxLen at hn hl
  clear hx hw hA hb
  by_cases h1 : 1 ≤ c.fn
  case neg =>
    have HR : Hid (mutB c = false) := by show mutB c = false; rw [HD.out]; unfold inB; rw [decide_eq_false (by omega)]; rfl
    have g1 : decide (1 ≤ c.fn) = false := decide_eq_false h1
    clear h1
    go_enter Try.func13, Try.ntmps13
    go_wp2_with fail
    go_ret
    exact ⟨ret_b HR.out.symm, HB.out.2⟩
  have g1 : decide (1 ≤ c.fn) = true := decide_eq_true h1
  by_cases h2 : c.fn ≤ 7
  case neg =>
    have HR : Hid (mutB c = false) := by show mutB c = false; rw [HD.out]; unfold inB; rw [decide_eq_false (by omega)]; rfl
    have g2 : decide (c.fn ≤ 7) = false := decide_eq_false h2
    clear h1 h2
    go_enter Try.func13, Try.ntmps13
    go_wp2_with fail
    go_ret
    exact ⟨ret_b HR.out.symm, HB.out.2⟩
  have g2 : decide (c.fn ≤ 7) = true := decide_eq_true h2
  have HD' : Hid (mutB c = (datumB c.val && decide (c.col.length ≤ 40))) := by show mutB c = _; rw [HD.out]; unfold inB; rw [decide_eq_true ⟨h1, h2⟩]; rfl
  clear h1 h2 HD
  by_cases h3 : c.col.length ≤ 40
  case neg =>
    have HR : Hid (mutB c = false) := by show mutB c = false; rw [HD'.out, decide_eq_false h3, Bool.and_false]
    have g3 : decide ((c.col.length : Int) ≤ 40) = false := decide_eq_false (by omega)
    clear h3
    go_enter Try.func13, Try.ntmps13
    go_wp2_with fail
    go_ret
    exact ⟨ret_b HR.out.symm, HB.out.2⟩
  have g3 : decide ((c.col.length : Int) ≤ 40) = true := decide_eq_true (by omega)
  have HR : Hid (mutB c = datumB c.val) := by show mutB c = _; rw [HD'.out, decide_eq_true h3, Bool.and_true]
  clear h3 HD'
  go_enter Try.func13, Try.ntmps13
  go_wp2_with fail
  refine (DA.out _ HB.out).mono ?_
  rintro e w2 ⟨rfl, hb2⟩
  have HB2 := Lib.hid hb2
  clear hb2 x0 x1 x2
  go_wp2_with fail
  go_ret
  exact ⟨ret_b HR.out.symm, HB2.out.2⟩
set_option maxRecDepth 100000 in
set_option maxHeartbeats 1600000 in
theorem numsI (c : MutV) (va : Option Addr) (vc : Nat) (w : World) :
    Calls Try.prog 31 #[.agg #[.string ⟨c.col.toArray⟩, .int .i64 c.fn, .slice va c.val.length vc]] w fun e w' => e = .returned (.bool (inB 1 c.fn 5)) ∧ Below w.heap.size w w' := by
  have hb := boxD 30 w #[.string ⟨c.col.toArray⟩, .int .i64 c.fn, .slice va c.val.length vc]
  have x1 := cell_at (o := 1) hb.1 rfl
  have HB := Lib.hid hb
  clear hb
  by_cases h1 : 1 ≤ c.fn
  case neg =>
    have HR : Hid (inB 1 c.fn 5 = false) := by show inB _ _ _ = false; unfold inB; rw [decide_eq_false (by omega)]
    have g1 : decide (1 ≤ c.fn) = false := decide_eq_false h1
    clear h1
    go_enter Try.func31, Try.ntmps31
    go_wp2_with fail
    go_ret
    exact ⟨ret_b HR.out.symm, HB.out.2⟩
  have g1 : decide (1 ≤ c.fn) = true := decide_eq_true h1
  have HR : Hid (inB 1 c.fn 5 = decide (c.fn ≤ 5)) := by
    show inB _ _ _ = _
    unfold inB
    rw [Bool.eq_iff_iff]
    simp
    intro _; exact h1
  clear h1
  go_enter Try.func31, Try.ntmps31
  go_wp2_with fail
  go_ret
  exact ⟨ret_b HR.out.symm, HB.out.2⟩
end Go.Proofs.Ytfoimmnfpheoiaa
