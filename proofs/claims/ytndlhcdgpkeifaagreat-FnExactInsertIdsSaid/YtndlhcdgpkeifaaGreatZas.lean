import Derived.Test.YtndlhcdgpkeifaaGreatZag
import Derived.Test.YtndlhcdgpkeifaaGreatZaf
import Derived.Test.YtndlhcdgpkeifaaGreatZal
import Derived.Deep.RegionWith
import Derived.BigQuiet
import Derived.Deep.RegionHeld3
import Derived.Test.YtndlhcdgpkeifaaGreatZak
import Derived.Test.YtndlhcdgpkeifaaGreatZae
import Derived.Test.YtndlhcdgpkeifaaGreatZaa
import Derived.Test.YtndlhcdgpkeifaaGreatZaj
import Derived.Lib.Hide
import Derived.Test.YtndlhcdgpkeifaaGreatZao
import Derived.Test.YtndlhcdgpkeifaaGreatZaq
import Derived.Test.YtndlhcdgpkeifaaGreatZar
namespace Go.Proofs.YtndlhcdgpkeifaaGreat
open Go.RowKit
set_option linter.unusedSimpArgs false
theorem Rd.toRw {α : Type} {w : World} {B : Nat → Prop} {n : Nat} {d : α → Nat → D} {l : List α} {a : Option Addr} {c : Nat} (h : Rd w B (Ls n d l) (.slice a l.length c)) (hn : 0 < n) (F : Nat → Value) (hF : ∀ i (hi : i < l.length) j u, j < n → Rd w B (d l[i] j) u → u = F (i * n + j)) : Rw w B a (l.length * n) F := by
  by_cases h0 : l.length = 0
  · exact .inl (by rw [h0]; simp)
  obtain ⟨b, off, ha, hb, -⟩ := h.things 0 (by omega)
  subst ha
  refine .inr ⟨b, off, rfl, hb, fun m hm => ?_⟩
  have hi : m / n < l.length := by rw [Nat.div_lt_iff_lt_mul hn]; exact hm
  have hj : m % n < n := Nat.mod_lt _ hn
  obtain ⟨u, hu, hr⟩ := h.spotT hi hj
  rw [Nat.add_assoc, Nat.div_add_mod'] at hu
  rw [hu, hF _ hi _ u hj hr, Nat.div_add_mod']
theorem Rd.ats {w : World} {B : Nat → Prop} {l : List At} {a : Option Addr} {c : Nat} (h : Rd w B (dAtomS l) (.slice a l.length c)) : Ats w B a l := by
  have hr := Rd.toRw (d := dAtom) (n := 3) h (by omega) (atF l) (fun i hi j u hj hr => by
    rcases (by omega : j = 0 ∨ j = 1 ∨ j = 2) with rfl | rfl | rfl
    · rw [Nat.add_zero, atF0 hi]; exact hr
    · rw [atF1 hi]; exact hr
    · rw [atF2 hi]; exact hr)
  rcases hr with h0 | ⟨b, off, ha, hb, hc⟩
  · exact .inl (by omega)
  · exact .inr ⟨b, off, ha, hb, hc⟩
theorem le_atoms {l : List At} (h : (dAtomS l).le maxLen) : l.length ≤ maxLen ∧ ∀ x ∈ l, x.t.length ≤ maxLen := by
  refine ⟨(Ls_le.1 h).2.1, fun x hx => ?_⟩
  obtain ⟨i, hi, rfl⟩ := List.mem_iff_getElem.1 hx
  exact (Ls_le.1 h).2.2 i hi 2 (by omega)
end Go.Proofs.YtndlhcdgpkeifaaGreat
namespace Go.Proofs.YtndlhcdgpkeifaaGreat
open Go.RowKit
set_option linter.unusedSimpArgs false
def condB (c : CondV) : Bool := inB 1 c.fn 8 && (datumB c.val && decide (c.col.length ≤ 40))
set_option maxRecDepth 100000 in
set_option maxHeartbeats 1600000 in
theorem condOKs (c : CondV) (va : Option Addr) (vc : Nat) (S : Nat) (w : World) (hn : c.col.length ≤ maxLen) (hl : c.val.length ≤ maxLen) (hx : ∀ x ∈ c.val, x.t.length ≤ maxLen) (hw : S ≤ w.heap.size) (hA : Ats w (· < S) va c.val) :
    Calls Tryz.prog 59 #[.agg #[.string ⟨c.col.toArray⟩, .int .i64 c.fn, .slice va c.val.length vc]] w fun e w' => e = .returned (.bool (condB c)) ∧ Below w.heap.size w w' := by
  have DA : Hid (∀ W, BoxD 73 w W #[.string ⟨c.col.toArray⟩, .int .i64 c.fn, .slice va c.val.length vc] → Calls Tryz.prog 61 #[.slice va c.val.length vc] W fun e w' => e = .returned (.bool (datumB c.val)) ∧ BoxD 73 w w' #[.string ⟨c.col.toArray⟩, .int .i64 c.fn, .slice va c.val.length vc]) := fun W h => (datumOKs c.val va vc S W hl hx (Nat.le_trans hw h.2.size) (hA.below (h.2.mono hw))).mono (fun e w' ⟨he, hB⟩ => ⟨he, h.later hB⟩)
  have hb := boxD 73 w #[.string ⟨c.col.toArray⟩, .int .i64 c.fn, .slice va c.val.length vc]
  have x0 := cell_at (o := 0) hb.1 rfl
  have x1 := cell_at (o := 1) hb.1 rfl
  have x2 := cell_at (o := 2) hb.1 rfl
  have HB := Lib.hid hb
  have HD : Hid (condB c = (inB 1 c.fn 8 && (datumB c.val && decide (c.col.length ≤ 40)))) := rfl
  have IN := fun W => inS c.fn 1 8 W
  have HI := Lib.hid IN
  unfold maxLen at hn hl
  clear hx hw hA hb IN
  cases hf : inB 1 c.fn 8
  case false =>
    rw [hf] at HI HD
    clear hf
    go_enter Tryz.func59, Tryz.ntmps59
    go_wp2_with fail
    refine (HI.out _).mono ?_
    rintro e w1 ⟨rfl, rfl⟩
    go_wp2_with fail
    go_ret
    exact ⟨ret_b (by rw [HD.out]; rfl), HB.out.2⟩
  rw [hf] at HI HD
  clear hf
  cases hd : datumB c.val
  case false =>
    rw [hd] at DA HD
    clear hd
    go_enter Tryz.func59, Tryz.ntmps59
    go_wp2_with fail
    refine (HI.out _).mono ?_
    rintro e w1 ⟨rfl, rfl⟩
    go_wp2_with fail
    refine (DA.out _ HB.out).mono ?_
    rintro e w2 ⟨rfl, hb2⟩
    have HB2 := Lib.hid hb2
    clear hb2 x0 x1 x2
    go_wp2_with fail
    go_ret
    exact ⟨ret_b (by rw [HD.out]; rfl), HB2.out.2⟩
  rw [hd] at DA HD
  clear hd
  go_enter Tryz.func59, Tryz.ntmps59
  go_wp2_with fail
  refine (HI.out _).mono ?_
  rintro e w1 ⟨rfl, rfl⟩
  go_wp2_with fail
  refine (DA.out _ HB.out).mono ?_
  rintro e w2 ⟨rfl, hb2⟩
  have HB2 := Lib.hid hb2
  clear x0 x1 x2
  have x0 := cell_at (o := 0) hb2.1 rfl
  clear hb2
  go_wp2_with fail
  go_ret
  exact ⟨ret_b (by rw [HD.out]; simp; omega), HB2.out.2⟩
set_option maxRecDepth 100000 in
set_option maxHeartbeats 1600000 in
theorem condOKi (c : CondV) (va : Option Addr) (vc : Nat) (S : Nat) (w : World) (hn : c.col.length ≤ maxLen) (hl : c.val.length ≤ maxLen) (hx : ∀ x ∈ c.val, x.t.length ≤ maxLen) (hw : S ≤ w.heap.size) (hA : Ats w (· < S) va c.val) :
    Calls Tryz.prog 66 #[.agg #[.string ⟨c.col.toArray⟩, .int .i64 c.fn, .slice va c.val.length vc]] w fun e w' => e = .returned (.bool (condB c)) ∧ Below w.heap.size w w' := by
  have DA : Hid (∀ W, BoxD 73 w W #[.string ⟨c.col.toArray⟩, .int .i64 c.fn, .slice va c.val.length vc] → Calls Tryz.prog 78 #[.slice va c.val.length vc] W fun e w' => e = .returned (.bool (datumB c.val)) ∧ BoxD 73 w w' #[.string ⟨c.col.toArray⟩, .int .i64 c.fn, .slice va c.val.length vc]) := fun W h => (datumOKi c.val va vc S W hl hx (Nat.le_trans hw h.2.size) (hA.below (h.2.mono hw))).mono (fun e w' ⟨he, hB⟩ => ⟨he, h.later hB⟩)
  have hb := boxD 73 w #[.string ⟨c.col.toArray⟩, .int .i64 c.fn, .slice va c.val.length vc]
  have x0 := cell_at (o := 0) hb.1 rfl
  have x1 := cell_at (o := 1) hb.1 rfl
  have x2 := cell_at (o := 2) hb.1 rfl
  have HB := Lib.hid hb
  have HD : Hid (condB c = (inB 1 c.fn 8 && (datumB c.val && decide (c.col.length ≤ 40)))) := rfl
  unfold maxLen at hn hl
  clear hx hw hA hb
  by_cases h1 : 1 ≤ c.fn
  case neg =>
    have HR : Hid (condB c = false) := by show condB c = false; rw [HD.out]; unfold inB; rw [decide_eq_false (by omega)]; rfl
    have g1 : decide (1 ≤ c.fn) = false := decide_eq_false h1
    clear h1
    go_enter Tryz.func66, Tryz.ntmps66
    go_wp2_with fail
    go_ret
    exact ⟨ret_b HR.out.symm, HB.out.2⟩
  have g1 : decide (1 ≤ c.fn) = true := decide_eq_true h1
  by_cases h2 : c.fn ≤ 8
  case neg =>
    have HR : Hid (condB c = false) := by show condB c = false; rw [HD.out]; unfold inB; rw [decide_eq_false (by omega)]; rfl
    have g2 : decide (c.fn ≤ 8) = false := decide_eq_false h2
    clear h1 h2
    go_enter Tryz.func66, Tryz.ntmps66
    go_wp2_with fail
    go_ret
    exact ⟨ret_b HR.out.symm, HB.out.2⟩
  have g2 : decide (c.fn ≤ 8) = true := decide_eq_true h2
  have HD' : Hid (condB c = (datumB c.val && decide (c.col.length ≤ 40))) := by show condB c = _; rw [HD.out]; unfold inB; rw [decide_eq_true ⟨h1, h2⟩]; rfl
  clear h1 h2 HD
  by_cases h3 : c.col.length ≤ 40
  case neg =>
    have HR : Hid (condB c = false) := by show condB c = false; rw [HD'.out, decide_eq_false h3, Bool.and_false]
    have g3 : decide ((c.col.length : Int) ≤ 40) = false := decide_eq_false (by omega)
    clear h3
    go_enter Tryz.func66, Tryz.ntmps66
    go_wp2_with fail
    go_ret
    exact ⟨ret_b HR.out.symm, HB.out.2⟩
  have g3 : decide ((c.col.length : Int) ≤ 40) = true := decide_eq_true (by omega)
  have HR : Hid (condB c = datumB c.val) := by show condB c = _; rw [HD'.out, decide_eq_true h3, Bool.and_true]
  clear h3 HD'
  go_enter Tryz.func66, Tryz.ntmps66
  go_wp2_with fail
  refine (DA.out _ HB.out).mono ?_
  rintro e w2 ⟨rfl, hb2⟩
  have HB2 := Lib.hid hb2
  clear hb2 x0 x1 x2
  go_wp2_with fail
  go_ret
  exact ⟨ret_b HR.out.symm, HB2.out.2⟩
end Go.Proofs.YtndlhcdgpkeifaaGreat
