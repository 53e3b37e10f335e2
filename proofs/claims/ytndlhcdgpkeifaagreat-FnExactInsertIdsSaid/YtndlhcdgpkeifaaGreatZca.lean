import Derived.Test.YtndlhcdgpkeifaaGreatZaw
import Derived.Test.YtndlhcdgpkeifaaGreatZbz
import Derived.Test.YtndlhcdgpkeifaaGreatZbp
namespace Go.Proofs.YtndlhcdgpkeifaaGreat
open Go.RowKit Go.Deep
set_option linter.unusedSimpArgs false
theorem cellsRSet : Tryz.prog.cellsOf 84 = 3 := by kernel_rfl
theorem cellsRStringS : Tryz.prog.cellsOf 38 = 1 := by kernel_rfl
theorem cellsROp : Tryz.prog.cellsOf 40 = 8 := by kernel_rfl
theorem cellsRCondS : Tryz.prog.cellsOf 35 = 1 := by kernel_rfl
theorem cellsRSetS : Tryz.prog.cellsOf 36 = 1 := by kernel_rfl
theorem cellsRMutS : Tryz.prog.cellsOf 37 = 1 := by kernel_rfl
theorem cellsRBoolO : Tryz.prog.cellsOf 4 = 1 := by kernel_rfl
section
variable {H : Type} {enc : TypeId × Value → H} {W : World} {sp : Nat → Bool} {held : Bool}
theorem rdStringS {fuel : Nat} {cs : List Value} {x : DataW H × List MemPlace} (h : DataW.trod enc Tryz.prog W 0 sp held fuel 38 cs = some x) :
    ∃ (l : List (List UInt8)) (a : Option Addr) (c : Nat), cs = [.slice a l.length c] ∧ (dStringS l).le maxLen ∧ Rd W (· < W.heap.size) (dStringS l) (.slice a l.length c) :=
  rdLs (by omega) (by omega) Tryz.underlying38 cellsRString (fun fuel cs x h => by obtain ⟨s, rfl, -, hs⟩ := DataW.trod_string Tryz.underlying9 h; exact ⟨s.data.toList, rdT_one hs rfl⟩) h
set_option maxRecDepth 100000 in
theorem rdSet (fuel : Nat) (cs : List Value) (x : DataW H × List MemPlace) (h : DataW.trod enc Tryz.prog W 0 sp held fuel 84 cs = some x) : ∃ y : SetV, RdTh W 3 (dSet y) cs := by
  obtain ⟨xs, n, hn, -, hlen, hxs, hf⟩ := DataW.trod_struct Tryz.underlying84 h
  rw [cellsRSet] at hlen
  match cs, hlen with
  | [c0, c1, c2], _ =>
    match xs, hxs with
    | [y0, y1, y2], _ =>
      have f0 : DataW.trod enc Tryz.prog W 0 sp held n 9 [c0] = some y0 := by have := hf 0 _ rfl; simpa [cellsRAtomS, cellsRString, cellsRStringS] using this
      have f1 : DataW.trod enc Tryz.prog W 0 sp held n 79 [c1] = some y1 := by have := hf 1 _ rfl; simpa [cellsRAtomS, cellsRString, cellsRStringS] using this
      have f2 : DataW.trod enc Tryz.prog W 0 sp held n 38 [c2] = some y2 := by have := hf 2 _ rfl; simpa [cellsRAtomS, cellsRString, cellsRStringS] using this
      obtain ⟨s0, e0, -, hs0⟩ := DataW.trod_string Tryz.underlying9 f0
      obtain ⟨s1, a1, q1, e1, hl1, hr1⟩ := rdAtomS f1
      obtain ⟨s2, a2, q2, e2, hl2, hr2⟩ := rdStringS f2
      simp only [List.cons.injEq, and_true] at e0 e1 e2
      subst e0 e1 e2
      refine ⟨⟨s0.data.toList, s1, s2⟩, rfl, fun j hj => ?_⟩
      rcases (by omega : j = 0 ∨ j = 1 ∨ j = 2) with rfl | rfl | rfl
      · exact ⟨_, rfl, rfl, hs0⟩
      · exact ⟨_, rfl, hr1, hl1⟩
      · exact ⟨_, rfl, hr2, hl2⟩
theorem rdSetS {fuel : Nat} {cs : List Value} {x : DataW H × List MemPlace} (h : DataW.trod enc Tryz.prog W 0 sp held fuel 36 cs = some x) :
    ∃ (l : List SetV) (a : Option Addr) (c : Nat), cs = [.slice a l.length c] ∧ (dSetS l).le maxLen ∧ Rd W (· < W.heap.size) (dSetS l) (.slice a l.length c) :=
  rdLs (by omega) (by omega) Tryz.underlying36 cellsRSet (fun fuel cs x h => rdSet fuel cs x h) h
set_option maxRecDepth 100000 in
theorem rdOp (fuel : Nat) (cs : List Value) (x : DataW H × List MemPlace) (h : DataW.trod enc Tryz.prog W 0 sp held fuel 40 cs = some x) : ∃ y : OpV, RdTh W 8 (dOp y) cs := by
  obtain ⟨xs, n, hn, -, hlen, hxs, hf⟩ := DataW.trod_struct Tryz.underlying40 h
  rw [cellsROp] at hlen
  match cs, hlen with
  | [c0, c1, c2, c3, c4, c5, c6, c7], _ =>
    match xs, hxs with
    | [y0, y1, y2, y3, y4, y5, y6, y7], _ =>
      have f0 : DataW.trod enc Tryz.prog W 0 sp held n 3 [c0] = some y0 := by have := hf 0 _ rfl; simpa [cellsRBoolO, cellsRCondS, cellsRInt, cellsRMutS, cellsRSetS, cellsRString, cellsRStringS] using this
      have f1 : DataW.trod enc Tryz.prog W 0 sp held n 9 [c1] = some y1 := by have := hf 1 _ rfl; simpa [cellsRBoolO, cellsRCondS, cellsRInt, cellsRMutS, cellsRSetS, cellsRString, cellsRStringS] using this
      have f2 : DataW.trod enc Tryz.prog W 0 sp held n 9 [c2] = some y2 := by have := hf 2 _ rfl; simpa [cellsRBoolO, cellsRCondS, cellsRInt, cellsRMutS, cellsRSetS, cellsRString, cellsRStringS] using this
      have f3 : DataW.trod enc Tryz.prog W 0 sp held n 35 [c3] = some y3 := by have := hf 3 _ rfl; simpa [cellsRBoolO, cellsRCondS, cellsRInt, cellsRMutS, cellsRSetS, cellsRString, cellsRStringS] using this
      have f4 : DataW.trod enc Tryz.prog W 0 sp held n 36 [c4] = some y4 := by have := hf 4 _ rfl; simpa [cellsRBoolO, cellsRCondS, cellsRInt, cellsRMutS, cellsRSetS, cellsRString, cellsRStringS] using this
      have f5 : DataW.trod enc Tryz.prog W 0 sp held n 37 [c5] = some y5 := by have := hf 5 _ rfl; simpa [cellsRBoolO, cellsRCondS, cellsRInt, cellsRMutS, cellsRSetS, cellsRString, cellsRStringS] using this
      have f6 : DataW.trod enc Tryz.prog W 0 sp held n 38 [c6] = some y6 := by have := hf 6 _ rfl; simpa [cellsRBoolO, cellsRCondS, cellsRInt, cellsRMutS, cellsRSetS, cellsRString, cellsRStringS] using this
      have f7 : DataW.trod enc Tryz.prog W 0 sp held n 4 [c7] = some y7 := by have := hf 7 _ rfl; simpa [cellsRBoolO, cellsRCondS, cellsRInt, cellsRMutS, cellsRSetS, cellsRString, cellsRStringS] using this
      obtain ⟨s0, e0, -, hs0⟩ := DataW.trod_int Tryz.underlying3 f0
      obtain ⟨s1, e1, -, hs1⟩ := DataW.trod_string Tryz.underlying9 f1
      obtain ⟨s2, e2, -, hs2⟩ := DataW.trod_string Tryz.underlying9 f2
      obtain ⟨s3, a3, q3, e3, hl3, hr3⟩ := rdCondS f3
      obtain ⟨s4, a4, q4, e4, hl4, hr4⟩ := rdSetS f4
      obtain ⟨s5, a5, q5, e5, hl5, hr5⟩ := rdMutS f5
      obtain ⟨s6, a6, q6, e6, hl6, hr6⟩ := rdStringS f6
      obtain ⟨s7, e7, -⟩ := DataW.trod_bool Tryz.underlying4 f7
      simp only [List.cons.injEq, and_true] at e0 e1 e2 e3 e4 e5 e6 e7
      subst e0 e1 e2 e3 e4 e5 e6 e7
      refine ⟨⟨s0, s1.data.toList, s2.data.toList, s3, s4, s5, s6, s7⟩, rfl, fun j hj => ?_⟩
      rcases (by omega : j = 0 ∨ j = 1 ∨ j = 2 ∨ j = 3 ∨ j = 4 ∨ j = 5 ∨ j = 6 ∨ j = 7) with rfl | rfl | rfl | rfl | rfl | rfl | rfl | rfl
      · exact ⟨_, rfl, rfl, hs0⟩
      · exact ⟨_, rfl, rfl, hs1⟩
      · exact ⟨_, rfl, rfl, hs2⟩
      · exact ⟨_, rfl, hr3, hl3⟩
      · exact ⟨_, rfl, hr4, hl4⟩
      · exact ⟨_, rfl, hr5, hl5⟩
      · exact ⟨_, rfl, hr6, hl6⟩
      · exact ⟨_, rfl, rfl, trivial⟩
end
end Go.Proofs.YtndlhcdgpkeifaaGreat
namespace Go.Proofs.YtndlhcdgpkeifaaGreat
open Go.RowKit Go.Deep
set_option linter.unusedSimpArgs false
section
variable {H : Type} {enc : TypeId × Value → H} {W : World} {sp : Nat → Bool} {held : Bool}
theorem rdOpS {fuel : Nat} {cs : List Value} {x : DataW H × List MemPlace} (h : DataW.trod enc Tryz.prog W 0 sp held fuel 22 cs = some x) :
    ∃ (l : List OpV) (a : Option Addr) (c : Nat), cs = [.slice a l.length c] ∧ (dOpS l).le maxLen ∧ Rd W (· < W.heap.size) (dOpS l) (.slice a l.length c) :=
  rdLs (by omega) (by omega) Tryz.underlying22 cellsROp (fun fuel cs x h => rdOp fuel cs x h) h
end
end Go.Proofs.YtndlhcdgpkeifaaGreat
