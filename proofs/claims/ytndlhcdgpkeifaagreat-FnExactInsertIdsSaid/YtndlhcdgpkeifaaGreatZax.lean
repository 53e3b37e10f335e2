import Derived.Test.YtndlhcdgpkeifaaGreatZag
import Derived.Deep.CutRange
import Derived.Deep.QuietTactic
import Derived.Test.YtndlhcdgpkeifaaGreatZal
import Derived.ArgAppend
import Derived.OwnWalk
import Derived.Test.YtndlhcdgpkeifaaGreatZam
import Derived.Test.YtndlhcdgpkeifaaGreatZas
import Derived.WalkSpells
import Derived.WalkLawsBesides
import Derived.Deep.RegionWith
import Derived.BigQuiet
import Derived.Deep.RegionHeld3
import Derived.Test.YtndlhcdgpkeifaaGreatZak
import Derived.Test.YtndlhcdgpkeifaaGreatZae
import Derived.Test.YtndlhcdgpkeifaaGreatZaa
import Derived.Test.YtndlhcdgpkeifaaGreatZaj
import Derived.Lib.Hide
import Derived.Test.YtndlhcdgpkeifaaGreatZan
import Derived.Test.YtndlhcdgpkeifaaGreatZaq
import Derived.Test.YtndlhcdgpkeifaaGreatZao
import Derived.Test.YtndlhcdgpkeifaaGreatZav
namespace Go.Proofs.YtndlhcdgpkeifaaGreat
open Go.RowKit
set_option linter.unusedSimpArgs false
def condsB (list : List CondV) : Bool := list.all condB && decide (list.length ≤ 8)
theorem conds_no {list : List CondV} {k : Nat} (hk : k < list.length) (h : condB list[k] = false) : condsB list = false := by
  unfold condsB
  rw [List.all_eq_false.2 ⟨_, List.getElem_mem hk, by simp [h]⟩]; rfl
theorem conds_yes {list : List CondV} (h : ∀ k (hk : k < list.length), condB list[k] = true) : condsB list = decide (list.length ≤ 8) := by
  unfold condsB
  rw [List.all_eq_true.2 (fun x hx => by obtain ⟨k, hk, rfl⟩ := List.mem_iff_getElem.1 hx; exact h k hk), Bool.true_and]
theorem le_cond {list : List CondV} {K : Nat} (h : (dCondS list).le K) {k : Nat} (hk : k < list.length) : list[k].col.length ≤ K ∧ (dAtomS list[k].val).le K :=
  ⟨(Ls_le.1 h).2.2 k hk 0 (by omega), (Ls_le.1 h).2.2 k hk 2 (by omega)⟩
set_option maxRecDepth 100000 in
set_option maxHeartbeats 3200000 in
theorem listS (list : List CondV) (a : Option Addr) (c : Nat) (B : Nat → Prop) (w : World) (ho : (dCondS list).le maxLen) (hL : Rd w B (dCondS list) (.slice a list.length c)) :
    Calls Tryz.prog 46 #[.slice a list.length c] w fun e w' => e = .returned (.bool (condsB list)) ∧ Below w.heap.size w w' := by
  have HL : Hid (∀ W, Below w.heap.size w W → Rd W B (Ls 3 dCond list) (.slice a list.length c)) := fun W h => Rd.later hL h
  have HO := Lib.hid ho
  have hll : list.length ≤ maxLen := (Ls_le.1 ho).2.1
  unfold maxLen at hll
  clear ho hL
  go_enter Tryz.func46, Tryz.ntmps46
  go_wp2_with fail
  go_loopw [3] (fun i wr => ∃ k : Nat, k ≤ list.length ∧ i = .int .i64 k ∧ Hid ((∀ m (h : m < list.length), m < k → condB list[m] = true) ∧ Below w.heap.size w wr)) (fun i _ => list.length - (intOf i).toNat)
  case atStart => exact ⟨0, Nat.zero_le _, rfl, fun m _ h => absurd h (by omega), Below.refl _ _⟩
  case round =>
    obtain ⟨k, hk, rfl, HW⟩ := hrel
    by_cases hlt : k < list.length
    case neg =>
      have hki : decide ((k : Int) < (list.length : Int)) = false := by simp; omega
      have HR : Hid (condsB list = decide (list.length ≤ 8)) := conds_yes (fun m h => HW.out.1 m h (by omega))
      go_wp2_with fail
      go_ret
      exact ⟨ret_b (by rw [HR.out]; simp; omega), HW.out.2⟩
    have hki : (k : Int) < (list.length : Int) := by omega
    obtain ⟨b, off, rfl, -, hc⟩ := (HL.out _ HW.out.2).things k hlt
    obtain ⟨u0, c0, r0⟩ := hc 0 (by omega)
    obtain rfl : u0 = .string ⟨list[k].col.toArray⟩ := r0
    rw [Nat.add_zero] at c0
    obtain ⟨u1, c1, r1⟩ := hc 1 (by omega)
    obtain rfl : u1 = .int .i64 list[k].fn := r1
    obtain ⟨u2, c2, r2⟩ := hc 2 (by omega)
    replace r2 : Rd wr B (dAtomS list[k].val) u2 := r2
    obtain ⟨va, vc, rfl⟩ := r2.lsSlice
    have HR2 := Lib.hid r2
    clear hc r2
    have CO := Lib.hid (condOKs list[k] va vc wr.heap.size wr (le_cond HO.out hlt).1 (le_atoms (le_cond HO.out hlt).2).1 (le_atoms (le_cond HO.out hlt).2).2 (Nat.le_refl _) HR2.out.lt.ats)
    have HNO : Hid (condB list[k] = false → condsB list = false) := fun h => conds_no hlt h
    have HNX : Hid (condB list[k] = true → ∀ m (h : m < list.length), m < k + 1 → condB list[m] = true) := fun he m h hm => by
      by_cases e : m = k
      · subst e; exact he
      · exact HW.out.1 m h (by omega)
    clear HR2
    generalize list[k] = x at *
    go_wp2_with fail
    refine CO.out.mono ?_
    rintro e w1 ⟨rfl, hB1⟩
    have HB1 := Lib.hid (HW.out.2.trans (hB1.mono HW.out.2.size))
    clear hB1 c0 c1 c2
    cases he : condB x
    case false =>
      have HR := Lib.hid (HNO.out he)
      clear HNO HNX he CO
      go_wp2_with fail
      go_ret
      exact ⟨ret_b HR.out.symm, HB1.out⟩
    have HN := Lib.hid (HNX.out he)
    clear HNO HNX he CO
    go_wp2_with fail
    go_roundw
    case rel => exact ⟨k + 1, by omega, by go_num, HN.out, HB1.out⟩
    case measure => simp [intOf]; omega
end Go.Proofs.YtndlhcdgpkeifaaGreat
namespace Go.Proofs.YtndlhcdgpkeifaaGreat
open Go.RowKit
set_option linter.unusedSimpArgs false
def mutB (c : MutV) : Bool := inB 1 c.fn 7 && (datumB c.val && decide (c.col.length ≤ 40))
set_option maxRecDepth 100000 in
set_option maxHeartbeats 1600000 in
theorem mutOKs (c : MutV) (va : Option Addr) (vc : Nat) (S : Nat) (w : World) (hn : c.col.length ≤ maxLen) (hl : c.val.length ≤ maxLen) (hx : ∀ x ∈ c.val, x.t.length ≤ maxLen) (hw : S ≤ w.heap.size) (hA : Ats w (· < S) va c.val) :
    Calls Tryz.prog 60 #[.agg #[.string ⟨c.col.toArray⟩, .int .i64 c.fn, .slice va c.val.length vc]] w fun e w' => e = .returned (.bool (mutB c)) ∧ Below w.heap.size w w' := by
  have DA : Hid (∀ W, BoxD 77 w W #[.string ⟨c.col.toArray⟩, .int .i64 c.fn, .slice va c.val.length vc] → Calls Tryz.prog 61 #[.slice va c.val.length vc] W fun e w' => e = .returned (.bool (datumB c.val)) ∧ BoxD 77 w w' #[.string ⟨c.col.toArray⟩, .int .i64 c.fn, .slice va c.val.length vc]) := fun W h => (datumOKs c.val va vc S W hl hx (Nat.le_trans hw h.2.size) (hA.below (h.2.mono hw))).mono (fun e w' ⟨he, hB⟩ => ⟨he, h.later hB⟩)
  have hb := boxD 77 w #[.string ⟨c.col.toArray⟩, .int .i64 c.fn, .slice va c.val.length vc]
  have x0 := cell_at (o := 0) hb.1 rfl
  have x1 := cell_at (o := 1) hb.1 rfl
  have x2 := cell_at (o := 2) hb.1 rfl
  have HB := Lib.hid hb
  have HD : Hid (mutB c = (inB 1 c.fn 7 && (datumB c.val && decide (c.col.length ≤ 40)))) := rfl
  have IN := fun W => inS c.fn 1 7 W
  have HI := Lib.hid IN
  unfold maxLen at hn hl
  clear hx hw hA hb IN
  cases hf : inB 1 c.fn 7
  case false =>
    rw [hf] at HI HD
    clear hf
    go_enter Tryz.func60, Tryz.ntmps60
    go_wp2_with fail
    refine (HI.out _).mono ?_
    rintro e w1 ⟨rfl, rfl⟩
    go_wp2_with fail
    go_ret
    exact ⟨ret_b (by rw [HD.out]; rfl), HB.out.2⟩
  rw [hf] at HI HD
  clear hf
  cases hd : datumB c.val
  case false =>
    rw [hd] at DA HD
    clear hd
    go_enter Tryz.func60, Tryz.ntmps60
    go_wp2_with fail
    refine (HI.out _).mono ?_
    rintro e w1 ⟨rfl, rfl⟩
    go_wp2_with fail
    refine (DA.out _ HB.out).mono ?_
    rintro e w2 ⟨rfl, hb2⟩
    have HB2 := Lib.hid hb2
    clear hb2 x0 x1 x2
    go_wp2_with fail
    go_ret
    exact ⟨ret_b (by rw [HD.out]; rfl), HB2.out.2⟩
  rw [hd] at DA HD
  clear hd
  go_enter Tryz.func60, Tryz.ntmps60
  go_wp2_with fail
  refine (HI.out _).mono ?_
  rintro e w1 ⟨rfl, rfl⟩
  go_wp2_with fail
  refine (DA.out _ HB.out).mono ?_
  rintro e w2 ⟨rfl, hb2⟩
  have HB2 := Lib.hid hb2
  clear x0 x1 x2
  have x0 := cell_at (o := 0) hb2.1 rfl
  clear hb2
  go_wp2_with fail
  go_ret
  exact ⟨ret_b (by rw [HD.out]; simp; omega), HB2.out.2⟩
set_option maxRecDepth 100000 in
set_option maxHeartbeats 1600000 in
theorem mutOKi (c : MutV) (va : Option Addr) (vc : Nat) (S : Nat) (w : World) (hn : c.col.length ≤ maxLen) (hl : c.val.length ≤ maxLen) (hx : ∀ x ∈ c.val, x.t.length ≤ maxLen) (hw : S ≤ w.heap.size) (hA : Ats w (· < S) va c.val) :
    Calls Tryz.prog 70 #[.agg #[.string ⟨c.col.toArray⟩, .int .i64 c.fn, .slice va c.val.length vc]] w fun e w' => e = .returned (.bool (mutB c)) ∧ Below w.heap.size w w' := by
  have DA : Hid (∀ W, BoxD 77 w W #[.string ⟨c.col.toArray⟩, .int .i64 c.fn, .slice va c.val.length vc] → Calls Tryz.prog 78 #[.slice va c.val.length vc] W fun e w' => e = .returned (.bool (datumB c.val)) ∧ BoxD 77 w w' #[.string ⟨c.col.toArray⟩, .int .i64 c.fn, .slice va c.val.length vc]) := fun W h => (datumOKi c.val va vc S W hl hx (Nat.le_trans hw h.2.size) (hA.below (h.2.mono hw))).mono (fun e w' ⟨he, hB⟩ => ⟨he, h.later hB⟩)
  have hb := boxD 77 w #[.string ⟨c.col.toArray⟩, .int .i64 c.fn, .slice va c.val.length vc]
  have x0 := cell_at (o := 0) hb.1 rfl
  have x1 := cell_at (o := 1) hb.1 rfl
  have x2 := cell_at (o := 2) hb.1 rfl
  have HB := Lib.hid hb
  have HD : Hid (mutB c = (inB 1 c.fn 7 && (datumB c.val && decide (c.col.length ≤ 40)))) := rfl
  unfold maxLen at hn hl
  clear hx hw hA hb
  by_cases h1 : 1 ≤ c.fn
  case neg =>
    have HR : Hid (mutB c = false) := by show mutB c = false; rw [HD.out]; unfold inB; rw [decide_eq_false (by omega)]; rfl
    have g1 : decide (1 ≤ c.fn) = false := decide_eq_false h1
    clear h1
    go_enter Tryz.func70, Tryz.ntmps70
    go_wp2_with fail
    go_ret
    exact ⟨ret_b HR.out.symm, HB.out.2⟩
  have g1 : decide (1 ≤ c.fn) = true := decide_eq_true h1
  by_cases h2 : c.fn ≤ 7
  case neg =>
    have HR : Hid (mutB c = false) := by show mutB c = false; rw [HD.out]; unfold inB; rw [decide_eq_false (by omega)]; rfl
    have g2 : decide (c.fn ≤ 7) = false := decide_eq_false h2
    clear h1 h2
    go_enter Tryz.func70, Tryz.ntmps70
    go_wp2_with fail
    go_ret
    exact ⟨ret_b HR.out.symm, HB.out.2⟩
  have g2 : decide (c.fn ≤ 7) = true := decide_eq_true h2
  have HD' : Hid (mutB c = (datumB c.val && decide (c.col.length ≤ 40))) := by show mutB c = _; rw [HD.out]; unfold inB; rw [decide_eq_true ⟨h1, h2⟩]; rfl
  clear h1 h2 HD
  by_cases h3 : c.col.length ≤ 40
  case neg =>
    have HR : Hid (mutB c = false) := by show mutB c = false; rw [HD'.out, decide_eq_false h3, Bool.and_false]
    have g3 : decide ((c.col.length : Int) ≤ 40) = false := decide_eq_false (by omega)
    clear h3
    go_enter Tryz.func70, Tryz.ntmps70
    go_wp2_with fail
    go_ret
    exact ⟨ret_b HR.out.symm, HB.out.2⟩
  have g3 : decide ((c.col.length : Int) ≤ 40) = true := decide_eq_true (by omega)
  have HR : Hid (mutB c = datumB c.val) := by show mutB c = _; rw [HD'.out, decide_eq_true h3, Bool.and_true]
  clear h3 HD'
  go_enter Tryz.func70, Tryz.ntmps70
  go_wp2_with fail
  refine (DA.out _ HB.out).mono ?_
  rintro e w2 ⟨rfl, hb2⟩
  have HB2 := Lib.hid hb2
  clear hb2 x0 x1 x2
  go_wp2_with fail
  go_ret
  exact ⟨ret_b HR.out.symm, HB2.out.2⟩
end Go.Proofs.YtndlhcdgpkeifaaGreat
