import Derived.Test.YtkjfefjkelckiaaXaf
import Derived.Deep.CutRange
import Derived.Deep.QuietTactic
import Derived.Test.YtkjfefjkelckiaaXam
import Derived.ArgAppend
import Derived.OwnWalk
import Derived.Test.YtkjfefjkelckiaaXan
import Derived.Test.YtkjfefjkelckiaaXav
import Derived.WalkSpells
import Derived.WalkLawsBesides
import Derived.Test.YtkjfefjkelckiaaXal
import Derived.Deep.RegionWith
import Derived.BigQuiet
import Derived.Deep.RegionHeld3
import Derived.Test.YtkjfefjkelckiaaXak
import Derived.Test.YtkjfefjkelckiaaXad
import Derived.Test.YtkjfefjkelckiaaXaa
import Derived.Deep.OwnRows
import Derived.Laws.IdiomStrings
import Derived.Deep.MidRow
import Derived.Test.YtkjfefjkelckiaaXai
import Derived.Lib.Hide
import Derived.Test.YtkjfefjkelckiaaXao
import Derived.Test.YtkjfefjkelckiaaXas
import Derived.Test.YtkjfefjkelckiaaXaq
namespace Go.Proofs.Ytkjfefjkelckiaa
open Go.RowKit
set_option linter.unusedSimpArgs false
def condsB (list : List CondV) : Bool := list.all condB && decide (list.length ≤ 8)
theorem conds_no {list : List CondV} {k : Nat} (hk : k < list.length) (h : condB list[k] = false) : condsB list = false := by
  unfold condsB
  rw [List.all_eq_false.2 ⟨_, List.getElem_mem hk, by simp [h]⟩]; rfl
theorem conds_yes {list : List CondV} (h : ∀ k (hk : k < list.length), condB list[k] = true) : condsB list = decide (list.length ≤ 8) := by
  unfold condsB
  rw [List.all_eq_true.2 (fun x hx => by obtain ⟨k, hk, rfl⟩ := List.mem_iff_getElem.1 hx; exact h k hk), Bool.true_and]
theorem le_cond {list : List CondV} {K : Nat} (h : (dCondS list).le K) {k : Nat} (hk : k < list.length) : list[k].col.length ≤ K ∧ (dAtomS list[k].val).le K :=
  ⟨(Ls_le.1 h).2.2 k hk 0 (by omega), (Ls_le.1 h).2.2 k hk 2 (by omega)⟩
set_option maxRecDepth 100000 in
set_option maxHeartbeats 3200000 in
theorem listS (list : List CondV) (a : Option Addr) (c : Nat) (B : Nat → Prop) (w : World) (ho : (dCondS list).le maxLen) (hL : Rd w B (dCondS list) (.slice a list.length c)) :
    Calls Try.prog 32 #[.slice a list.length c] w fun e w' => e = .returned (.bool (condsB list)) ∧ Below w.heap.size w w' := by
  have HL : Hid (∀ W, Below w.heap.size w W → Rd W B (Ls 3 dCond list) (.slice a list.length c)) := fun W h => Rd.later hL h
  have HO := Lib.hid ho
  have hll : list.length ≤ maxLen := (Ls_le.1 ho).2.1
  unfold maxLen at hll
  clear ho hL
  go_enter Try.func32, Try.ntmps32
  go_wp2_with fail
  go_loopw [3] (fun i wr => ∃ k : Nat, k ≤ list.length ∧ i = .int .i64 k ∧ Hid ((∀ m (h : m < list.length), m < k → condB list[m] = true) ∧ Below w.heap.size w wr)) (fun i _ => list.length - (intOf i).toNat)
  case atStart => exact ⟨0, Nat.zero_le _, rfl, fun m _ h => absurd h (by omega), Below.refl _ _⟩
  case round =>
    obtain ⟨k, hk, rfl, HW⟩ := hrel
    by_cases hlt : k < list.length
    case neg =>
      have hki : decide ((k : Int) < (list.length : Int)) = false := by simp; omega
      have HR : Hid (condsB list = decide (list.length ≤ 8)) := conds_yes (fun m h => HW.out.1 m h (by omega))
      go_wp2_with fail
      go_ret
      exact ⟨ret_b (by rw [HR.out]; simp; omega), HW.out.2⟩
    have hki : (k : Int) < (list.length : Int) := by omega
    obtain ⟨b, off, rfl, -, hc⟩ := (HL.out _ HW.out.2).things k hlt
    obtain ⟨u0, c0, r0⟩ := hc 0 (by omega)
    obtain rfl : u0 = .string ⟨list[k].col.toArray⟩ := r0
    rw [Nat.add_zero] at c0
    obtain ⟨u1, c1, r1⟩ := hc 1 (by omega)
    obtain rfl : u1 = .int .i64 list[k].fn := r1
    obtain ⟨u2, c2, r2⟩ := hc 2 (by omega)
    replace r2 : Rd wr B (dAtomS list[k].val) u2 := r2
    obtain ⟨va, vc, rfl⟩ := r2.lsSlice
    have HR2 := Lib.hid r2
    clear hc r2
    have CO := Lib.hid (condOKs list[k] va vc wr.heap.size wr (le_cond HO.out hlt).1 (le_atoms (le_cond HO.out hlt).2).1 (le_atoms (le_cond HO.out hlt).2).2 (Nat.le_refl _) HR2.out.lt.ats)
    have HNO : Hid (condB list[k] = false → condsB list = false) := fun h => conds_no hlt h
    have HNX : Hid (condB list[k] = true → ∀ m (h : m < list.length), m < k + 1 → condB list[m] = true) := fun he m h hm => by
      by_cases e : m = k
      · subst e; exact he
      · exact HW.out.1 m h (by omega)
    clear HR2
    generalize list[k] = x at *
    go_wp2_with fail
    refine CO.out.mono ?_
    rintro e w1 ⟨rfl, hB1⟩
    have HB1 := Lib.hid (HW.out.2.trans (hB1.mono HW.out.2.size))
    clear hB1 c0 c1 c2
    cases he : condB x
    case false =>
      have HR := Lib.hid (HNO.out he)
      clear HNO HNX he CO
      go_wp2_with fail
      go_ret
      exact ⟨ret_b HR.out.symm, HB1.out⟩
    have HN := Lib.hid (HNX.out he)
    clear HNO HNX he CO
    go_wp2_with fail
    go_roundw
    case rel => exact ⟨k + 1, by omega, by go_num, HN.out, HB1.out⟩
    case measure => simp [intOf]; omega
end Go.Proofs.Ytkjfefjkelckiaa
