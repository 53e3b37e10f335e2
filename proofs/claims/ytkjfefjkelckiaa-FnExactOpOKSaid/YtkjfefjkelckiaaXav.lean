import Derived.Test.YtkjfefjkelckiaaXal
import Derived.Deep.RegionWith
import Derived.BigQuiet
import Derived.Deep.RegionHeld3
import Derived.Test.YtkjfefjkelckiaaXak
import Derived.Test.YtkjfefjkelckiaaXad
import Derived.Test.YtkjfefjkelckiaaXaa
import Derived.Deep.OwnRows
import Derived.Laws.IdiomStrings
import Derived.Deep.MidRow
import Derived.Deep.QuietTactic
import Derived.Test.YtkjfefjkelckiaaXai
import Derived.Lib.Hide
import Derived.Test.YtkjfefjkelckiaaXaq
import Derived.Test.YtkjfefjkelckiaaXas
import Derived.Test.YtkjfefjkelckiaaXat
import Derived.Test.YtkjfefjkelckiaaXau
namespace Go.Proofs.Ytkjfefjkelckiaa
open Go.RowKit
set_option linter.unusedSimpArgs false
def condB (c : CondV) : Bool := inB 1 c.fn 8 && (datumB c.val && decide (c.col.length ≤ 40))
set_option maxRecDepth 100000 in
set_option maxHeartbeats 1600000 in
theorem condOKs (c : CondV) (va : Option Addr) (vc : Nat) (S : Nat) (w : World) (hn : c.col.length ≤ maxLen) (hl : c.val.length ≤ maxLen) (hx : ∀ x ∈ c.val, x.t.length ≤ maxLen) (hw : S ≤ w.heap.size) (hA : Ats w (· < S) va c.val) :
    Calls Try.prog 74 #[.agg #[.string ⟨c.col.toArray⟩, .int .i64 c.fn, .slice va c.val.length vc]] w fun e w' => e = .returned (.bool (condB c)) ∧ Below w.heap.size w w' := by
  have DA : Hid (∀ W, BoxD 125 w W #[.string ⟨c.col.toArray⟩, .int .i64 c.fn, .slice va c.val.length vc] → Calls Try.prog 76 #[.slice va c.val.length vc] W fun e w' => e = .returned (.bool (datumB c.val)) ∧ BoxD 125 w w' #[.string ⟨c.col.toArray⟩, .int .i64 c.fn, .slice va c.val.length vc]) := fun W h => (datumOKs c.val va vc S W hl hx (Nat.le_trans hw h.2.size) (hA.below (h.2.mono hw))).mono (fun e w' ⟨he, hB⟩ => ⟨he, h.later hB⟩)
  have hb := boxD 125 w #[.string ⟨c.col.toArray⟩, .int .i64 c.fn, .slice va c.val.length vc]
  have x0 := cell_at (o := 0) hb.1 rfl
  have x1 := cell_at (o := 1) hb.1 rfl
  have x2 := cell_at (o := 2) hb.1 rfl
  have HB := Lib.hid hb
  have HD : Hid (condB c = (inB 1 c.fn 8 && (datumB c.val && decide (c.col.length ≤ 40)))) := rfl
  have IN := fun W => inS c.fn 1 8 W
  have HI := Lib.hid IN
  unfold maxLen at hn hl
  clear hx hw hA hb IN
  cases hf : inB 1 c.fn 8
  case false =>
    rw [hf] at HI HD
    clear hf
    go_enter Try.func74, Try.ntmps74
    go_wp2_with fail
    refine (HI.out _).mono ?_
    rintro e w1 ⟨rfl, rfl⟩
    go_wp2_with fail
    go_ret
    exact ⟨ret_b (by rw [HD.out]; rfl), HB.out.2⟩
  rw [hf] at HI HD
  clear hf
  cases hd : datumB c.val
  case false =>
    rw [hd] at DA HD
    clear hd
    go_enter Try.func74, Try.ntmps74
    go_wp2_with fail
    refine (HI.out _).mono ?_
    rintro e w1 ⟨rfl, rfl⟩
    go_wp2_with fail
    refine (DA.out _ HB.out).mono ?_
    rintro e w2 ⟨rfl, hb2⟩
    have HB2 := Lib.hid hb2
    clear hb2 x0 x1 x2
    go_wp2_with fail
    go_ret
    exact ⟨ret_b (by rw [HD.out]; rfl), HB2.out.2⟩
  rw [hd] at DA HD
  clear hd
  go_enter Try.func74, Try.ntmps74
  go_wp2_with fail
  refine (HI.out _).mono ?_
  rintro e w1 ⟨rfl, rfl⟩
  go_wp2_with fail
  refine (DA.out _ HB.out).mono ?_
  rintro e w2 ⟨rfl, hb2⟩
  have HB2 := Lib.hid hb2
  clear x0 x1 x2
  have x0 := cell_at (o := 0) hb2.1 rfl
  clear hb2
  go_wp2_with fail
  go_ret
  exact ⟨ret_b (by rw [HD.out]; simp; omega), HB2.out.2⟩
set_option maxRecDepth 100000 in
set_option maxHeartbeats 1600000 in
theorem condOKi (c : CondV) (va : Option Addr) (vc : Nat) (S : Nat) (w : World) (hn : c.col.length ≤ maxLen) (hl : c.val.length ≤ maxLen) (hx : ∀ x ∈ c.val, x.t.length ≤ maxLen) (hw : S ≤ w.heap.size) (hA : Ats w (· < S) va c.val) :
    Calls Try.prog 83 #[.agg #[.string ⟨c.col.toArray⟩, .int .i64 c.fn, .slice va c.val.length vc]] w fun e w' => e = .returned (.bool (condB c)) ∧ Below w.heap.size w w' := by
  have DA : Hid (∀ W, BoxD 125 w W #[.string ⟨c.col.toArray⟩, .int .i64 c.fn, .slice va c.val.length vc] → Calls Try.prog 113 #[.slice va c.val.length vc] W fun e w' => e = .returned (.bool (datumB c.val)) ∧ BoxD 125 w w' #[.string ⟨c.col.toArray⟩, .int .i64 c.fn, .slice va c.val.length vc]) := fun W h => (datumOKi c.val va vc S W hl hx (Nat.le_trans hw h.2.size) (hA.below (h.2.mono hw))).mono (fun e w' ⟨he, hB⟩ => ⟨he, h.later hB⟩)
  have hb := boxD 125 w #[.string ⟨c.col.toArray⟩, .int .i64 c.fn, .slice va c.val.length vc]
  have x0 := cell_at (o := 0) hb.1 rfl
  have x1 := cell_at (o := 1) hb.1 rfl
  have x2 := cell_at (o := 2) hb.1 rfl
  have HB := Lib.hid hb
  have HD : Hid (condB c = (inB 1 c.fn 8 && (datumB c.val && decide (c.col.length ≤ 40)))) := rfl
  unfold maxLen at hn hl
  clear hx hw hA hb
  by_cases h1 : 1 ≤ c.fn
  case neg =>
    have HR : Hid (condB c = false) := by show condB c = false; rw [HD.out]; unfold inB; rw [decide_eq_false (by omega)]; rfl
    have g1 : decide (1 ≤ c.fn) = false := decide_eq_false h1
    clear h1
    go_enter Try.func83, Try.ntmps83
    go_wp2_with fail
    go_ret
    exact ⟨ret_b HR.out.symm, HB.out.2⟩
  have g1 : decide (1 ≤ c.fn) = true := decide_eq_true h1
  by_cases h2 : c.fn ≤ 8
  case neg =>
    have HR : Hid (condB c = false) := by show condB c = false; rw [HD.out]; unfold inB; rw [decide_eq_false (by omega)]; rfl
    have g2 : decide (c.fn ≤ 8) = false := decide_eq_false h2
    clear h1 h2
    go_enter Try.func83, Try.ntmps83
    go_wp2_with fail
    go_ret
    exact ⟨ret_b HR.out.symm, HB.out.2⟩
  have g2 : decide (c.fn ≤ 8) = true := decide_eq_true h2
  have HD' : Hid (condB c = (datumB c.val && decide (c.col.length ≤ 40))) := by show condB c = _; rw [HD.out]; unfold inB; rw [decide_eq_true ⟨h1, h2⟩]; rfl
  clear h1 h2 HD
  by_cases h3 : c.col.length ≤ 40
  case neg =>
    have HR : Hid (condB c = false) := by show condB c = false; rw [HD'.out, decide_eq_false h3, Bool.and_false]
    have g3 : decide ((c.col.length : Int) ≤ 40) = false := decide_eq_false (by omega)
    clear h3
    go_enter Try.func83, Try.ntmps83
    go_wp2_with fail
    go_ret
    exact ⟨ret_b HR.out.symm, HB.out.2⟩
  have g3 : decide ((c.col.length : Int) ≤ 40) = true := decide_eq_true (by omega)
  have HR : Hid (condB c = datumB c.val) := by show condB c = _; rw [HD'.out, decide_eq_true h3, Bool.and_true]
  clear h3 HD'
  go_enter Try.func83, Try.ntmps83
  go_wp2_with fail
  refine (DA.out _ HB.out).mono ?_
  rintro e w2 ⟨rfl, hb2⟩
  have HB2 := Lib.hid hb2
  clear hb2 x0 x1 x2
  go_wp2_with fail
  go_ret
  exact ⟨ret_b HR.out.symm, HB2.out.2⟩
end Go.Proofs.Ytkjfefjkelckiaa
