import Derived.Test.YtndlhcdgpkeifaaGreatZaz
import Derived.Test.YtndlhcdgpkeifaaGreatZba
import Derived.Test.YtndlhcdgpkeifaaGreatZbb
import Derived.Test.YtndlhcdgpkeifaaGreatZbc
import Derived.Test.YtndlhcdgpkeifaaGreatZbd
import Derived.Test.YtndlhcdgpkeifaaGreatZbe
import Derived.Test.YtndlhcdgpkeifaaGreatZbf
import Derived.Test.YtndlhcdgpkeifaaGreatZbg
import Derived.Test.YtndlhcdgpkeifaaGreatZbh
import Derived.Test.YtndlhcdgpkeifaaGreatZbi
import Derived.Test.YtndlhcdgpkeifaaGreatZbj
import Derived.Test.YtndlhcdgpkeifaaGreatZax
namespace Go.Proofs.YtndlhcdgpkeifaaGreat
open Go.RowKit
theorem opOKs (kd : Int) (tb nm : List UInt8) (wh : List CondV) (row : List SetV) (mu : List MutV) (cs : List (List UInt8)) (un : Bool) (a3 : Option Addr) (c3 : Nat) (a4 : Option Addr) (c4 : Nat) (a5 : Option Addr) (c5 : Nat) (a6 : Option Addr) (c6 : Nat) (B : Nat → Prop) (w : World)
    (h1 : tb.length ≤ maxLen) (h2 : nm.length ≤ maxLen) (h3 : (dCondS wh).le maxLen) (h4 : (dSetS row).le maxLen) (h5 : (dMutS mu).le maxLen) (h6 : (dStringS cs).le maxLen)
    (r3 : Rd w B (dCondS wh) (.slice a3 wh.length c3)) (r4 : Rd w B (dSetS row) (.slice a4 row.length c4)) (r5 : Rd w B (dMutS mu) (.slice a5 mu.length c5)) (r6 : Rd w B (dStringS cs) (.slice a6 cs.length c6)) :
    Calls Tryz.prog 31 #[.agg #[.int .i64 kd, .string ⟨tb.toArray⟩, .string ⟨nm.toArray⟩, .slice a3 wh.length c3, .slice a4 row.length c4, .slice a5 mu.length c5, .slice a6 cs.length c6, .bool un]] w fun e w' => e = .returned (.bool (opB ⟨kd, tb, nm, wh, row, mu, cs, un⟩)) ∧ Below w.heap.size w w' := by
  cases hk : inB 1 kd 10
  case false => exact opOKs_no kd tb nm wh row mu cs un a3 c3 a4 c4 a5 c5 a6 c6 B w hk h3 h4 h5 h6 r3 r4 r5 r6
  have hb : 1 ≤ kd ∧ kd ≤ 10 := by simpa [inB] using hk
  clear hk
  have hc : kd = 1 ∨ kd = 2 ∨ kd = 3 ∨ kd = 4 ∨ kd = 5 ∨ kd = 6 ∨ kd = 7 ∨ kd = 8 ∨ kd = 9 ∨ kd = 10 := by omega
  clear hb
  rcases hc with rfl | rfl | rfl | rfl | rfl | rfl | rfl | rfl | rfl | rfl
  · exact opOKs_1 tb nm wh row mu cs un a3 c3 a4 c4 a5 c5 a6 c6 B w h1 h2 h3 h4 h5 h6 r3 r4 r5 r6
  · exact opOKs_2 tb nm wh row mu cs un a3 c3 a4 c4 a5 c5 a6 c6 B w h1 h2 h3 h4 h5 h6 r3 r4 r5 r6
  · exact opOKs_3 tb nm wh row mu cs un a3 c3 a4 c4 a5 c5 a6 c6 B w h1 h2 h3 h4 h5 h6 r3 r4 r5 r6
  · exact opOKs_4 tb nm wh row mu cs un a3 c3 a4 c4 a5 c5 a6 c6 B w h1 h2 h3 h4 h5 h6 r3 r4 r5 r6
  · exact opOKs_5 tb nm wh row mu cs un a3 c3 a4 c4 a5 c5 a6 c6 B w h1 h2 h3 h4 h5 h6 r3 r4 r5 r6
  · exact opOKs_6 tb nm wh row mu cs un a3 c3 a4 c4 a5 c5 a6 c6 B w h1 h2 h3 h4 h5 h6 r3 r4 r5 r6
  · exact opOKs_7 tb nm wh row mu cs un a3 c3 a4 c4 a5 c5 a6 c6 B w h1 h2 h3 h4 h5 h6 r3 r4 r5 r6
  · exact opOKs_8 tb nm wh row mu cs un a3 c3 a4 c4 a5 c5 a6 c6 B w h1 h2 h3 h4 h5 h6 r3 r4 r5 r6
  · exact opOKs_9 tb nm wh row mu cs un a3 c3 a4 c4 a5 c5 a6 c6 B w h1 h2 h3 h4 h5 h6 r3 r4 r5 r6
  · exact opOKs_10 tb nm wh row mu cs un a3 c3 a4 c4 a5 c5 a6 c6 B w h1 h2 h3 h4 h5 h6 r3 r4 r5 r6
end Go.Proofs.YtndlhcdgpkeifaaGreat
namespace Go.Proofs.YtndlhcdgpkeifaaGreat
open Go.RowKit
set_option linter.unusedSimpArgs false
set_option maxRecDepth 100000 in
set_option maxHeartbeats 3200000 in
theorem fewI (list : List CondV) (a : Option Addr) (c : Nat) (B : Nat → Prop) (w : World) (ho : (dCondS list).le maxLen) (hL : Rd w B (dCondS list) (.slice a list.length c)) :
    Calls Tryz.prog 65 #[.slice a list.length c, .int .i64 8, .func (.func 66) #[] #[]] w fun e w' => e = .returned (.bool (condsB list)) ∧ Below w.heap.size w w' := by
  have HL : Hid (∀ W, Below w.heap.size w W → Rd W B (Ls 3 dCond list) (.slice a list.length c)) := fun W h => Rd.later hL h
  have HO := Lib.hid ho
  have hll : list.length ≤ maxLen := (Ls_le.1 ho).2.1
  unfold maxLen at hll
  clear ho hL
  by_cases h8 : 8 < list.length
  case pos =>
    have HR : Hid (condsB list = false) := by show condsB list = false; unfold condsB; rw [decide_eq_false (by omega), Bool.and_false]
    have hd : decide (8 < (list.length : Int)) = true := decide_eq_true (by omega)
    clear h8
    go_enter Tryz.func65, Tryz.ntmps65
    go_wp2_with fail
    go_ret
    exact ⟨ret_b HR.out.symm, Below.refl _ _⟩
  have hd : decide (8 < (list.length : Int)) = false := decide_eq_false (by omega)
  have H8 := Lib.hid h8
  clear h8
  go_enter Tryz.func65, Tryz.ntmps65
  go_wp2_with fail
  go_loopw [14] (fun i wr => ∃ k : Nat, k ≤ list.length ∧ i = .int .i64 k ∧ Hid ((∀ m (h : m < list.length), m < k → condB list[m] = true) ∧ Below w.heap.size w wr)) (fun i _ => list.length - (intOf i).toNat)
  case atStart => exact ⟨0, Nat.zero_le _, rfl, fun m _ h => absurd h (by omega), Below.refl _ _⟩
  case round =>
    obtain ⟨k, hk, rfl, HW⟩ := hrel
    by_cases hlt : k < list.length
    case neg =>
      have hki : decide ((k : Int) < (list.length : Int)) = false := by simp; omega
      have HR : Hid (condsB list = decide (list.length ≤ 8)) := conds_yes (fun m h => HW.out.1 m h (by omega))
      go_wp2_with fail
      go_ret
      exact ⟨ret_b (by rw [HR.out]; have := H8.out; simp; omega), HW.out.2⟩
    have hki : (k : Int) < (list.length : Int) := by omega
    obtain ⟨b, off, rfl, -, hc⟩ := (HL.out _ HW.out.2).things k hlt
    obtain ⟨u0, c0, r0⟩ := hc 0 (by omega)
    obtain rfl : u0 = .string ⟨list[k].col.toArray⟩ := r0
    rw [Nat.add_zero] at c0
    obtain ⟨u1, c1, r1⟩ := hc 1 (by omega)
    obtain rfl : u1 = .int .i64 list[k].fn := r1
    obtain ⟨u2, c2, r2⟩ := hc 2 (by omega)
    replace r2 : Rd wr B (dAtomS list[k].val) u2 := r2
    obtain ⟨va, vc, rfl⟩ := r2.lsSlice
    have HR2 := Lib.hid r2
    clear hc r2
    have CO := Lib.hid (condOKi list[k] va vc wr.heap.size wr (le_cond HO.out hlt).1 (le_atoms (le_cond HO.out hlt).2).1 (le_atoms (le_cond HO.out hlt).2).2 (Nat.le_refl _) HR2.out.lt.ats)
    have HNO : Hid (condB list[k] = false → condsB list = false) := fun h => conds_no hlt h
    have HNX : Hid (condB list[k] = true → ∀ m (h : m < list.length), m < k + 1 → condB list[m] = true) := fun he m h hm => by
      by_cases e : m = k
      · subst e; exact he
      · exact HW.out.1 m h (by omega)
    clear HR2
    generalize list[k] = x at *
    go_wp2_with fail
    refine CO.out.mono ?_
    rintro e w1 ⟨rfl, hB1⟩
    have HB1 := Lib.hid (HW.out.2.trans (hB1.mono HW.out.2.size))
    clear hB1 c0 c1 c2
    cases he : condB x
    case false =>
      have HR := Lib.hid (HNO.out he)
      clear HNO HNX he CO
      go_wp2_with fail
      go_ret
      exact ⟨ret_b HR.out.symm, HB1.out⟩
    have HN := Lib.hid (HNX.out he)
    clear HNO HNX he CO
    go_wp2_with fail
    go_roundw
    case rel => exact ⟨k + 1, by omega, by go_num, HN.out, HB1.out⟩
    case measure => simp [intOf]; omega
end Go.Proofs.YtndlhcdgpkeifaaGreat
