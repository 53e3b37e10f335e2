import Derived.Test.YtpjjpdbmooiplaaGreatDoorYbw
import Derived.Test.YtpjjpdbmooiplaaGreatDoorYaf
import Derived.Test.YtpjjpdbmooiplaaGreatDoorYbb
namespace Go.Proofs.YtpjjpdbmooiplaaGreatDoor
open Go.RowKit Go.Deep
set_option linter.unusedSimpArgs false
theorem cellsRAtom : Tryz.prog.cellsOf 126 = 3 := by kernel_rfl
theorem cellsRInt : Tryz.prog.cellsOf 3 = 1 := by kernel_rfl
theorem cellsRString : Tryz.prog.cellsOf 9 = 1 := by kernel_rfl
theorem cellsRAtomS : Tryz.prog.cellsOf 29 = 1 := by kernel_rfl
theorem cellsRRow : Tryz.prog.cellsOf 28 = 2 := by kernel_rfl
theorem cellsRAtomSS : Tryz.prog.cellsOf 26 = 1 := by kernel_rfl
section
variable {H : Type} {enc : TypeId × Value → H} {W : World} {sp : Nat → Bool} {held : Bool}
set_option maxRecDepth 100000 in
theorem rdAtom (fuel : Nat) (cs : List Value) (x : DataW H × List MemPlace) (h : DataW.trod enc Tryz.prog W 0 sp held fuel 126 cs = some x) : ∃ y : At, RdTh W 3 (dAtom y) cs := by
  obtain ⟨xs, n, hn, -, hlen, hxs, hf⟩ := DataW.trod_struct Tryz.underlying126 h
  rw [cellsRAtom] at hlen
  match cs, hlen with
  | [c0, c1, c2], _ =>
    match xs, hxs with
    | [y0, y1, y2], _ =>
      have f0 : DataW.trod enc Tryz.prog W 0 sp held n 3 [c0] = some y0 := by have := hf 0 _ rfl; simpa [cellsRInt, cellsRString] using this
      have f1 : DataW.trod enc Tryz.prog W 0 sp held n 3 [c1] = some y1 := by have := hf 1 _ rfl; simpa [cellsRInt, cellsRString] using this
      have f2 : DataW.trod enc Tryz.prog W 0 sp held n 9 [c2] = some y2 := by have := hf 2 _ rfl; simpa [cellsRInt, cellsRString] using this
      obtain ⟨s0, e0, -, hs0⟩ := DataW.trod_int Tryz.underlying3 f0
      obtain ⟨s1, e1, -, hs1⟩ := DataW.trod_int Tryz.underlying3 f1
      obtain ⟨s2, e2, -, hs2⟩ := DataW.trod_string Tryz.underlying9 f2
      simp only [List.cons.injEq, and_true] at e0 e1 e2
      subst e0 e1 e2
      refine ⟨⟨s0, s1, s2.data.toList⟩, rfl, fun j hj => ?_⟩
      rcases (by omega : j = 0 ∨ j = 1 ∨ j = 2) with rfl | rfl | rfl
      · exact ⟨_, rfl, rfl, hs0⟩
      · exact ⟨_, rfl, rfl, hs1⟩
      · exact ⟨_, rfl, rfl, hs2⟩
theorem rdAtomS {fuel : Nat} {cs : List Value} {x : DataW H × List MemPlace} (h : DataW.trod enc Tryz.prog W 0 sp held fuel 29 cs = some x) :
    ∃ (l : List At) (a : Option Addr) (c : Nat), cs = [.slice a l.length c] ∧ (dAtomS l).le maxLen ∧ Rd W (· < W.heap.size) (dAtomS l) (.slice a l.length c) :=
  rdLs (by omega) (by omega) Tryz.underlying29 cellsRAtom (fun fuel cs x h => rdAtom fuel cs x h) h
theorem rdAtomSS {fuel : Nat} {cs : List Value} {x : DataW H × List MemPlace} (h : DataW.trod enc Tryz.prog W 0 sp held fuel 26 cs = some x) :
    ∃ (l : List (List At)) (a : Option Addr) (c : Nat), cs = [.slice a l.length c] ∧ (dAtomSS l).le maxLen ∧ Rd W (· < W.heap.size) (dAtomSS l) (.slice a l.length c) :=
  rdLs (by omega) (by omega) Tryz.underlying26 cellsRAtomS (fun fuel cs x h => by obtain ⟨l, a, c, rfl, h1, h2⟩ := rdAtomS h; exact ⟨l, rdT_one h1 h2⟩) h
set_option maxRecDepth 100000 in
theorem rdRow (fuel : Nat) (cs : List Value) (x : DataW H × List MemPlace) (h : DataW.trod enc Tryz.prog W 0 sp held fuel 28 cs = some x) : ∃ y : RowV, RdTh W 2 (dRow y) cs := by
  obtain ⟨xs, n, hn, -, hlen, hxs, hf⟩ := DataW.trod_struct Tryz.underlying28 h
  rw [cellsRRow] at hlen
  match cs, hlen with
  | [c0, c1], _ =>
    match xs, hxs with
    | [y0, y1], _ =>
      have f0 : DataW.trod enc Tryz.prog W 0 sp held n 3 [c0] = some y0 := by have := hf 0 _ rfl; simpa [cellsRAtomSS, cellsRInt] using this
      have f1 : DataW.trod enc Tryz.prog W 0 sp held n 26 [c1] = some y1 := by have := hf 1 _ rfl; simpa [cellsRAtomSS, cellsRInt] using this
      obtain ⟨s0, e0, -, hs0⟩ := DataW.trod_int Tryz.underlying3 f0
      obtain ⟨s1, a1, q1, e1, hl1, hr1⟩ := rdAtomSS f1
      simp only [List.cons.injEq, and_true] at e0 e1
      subst e0 e1
      refine ⟨⟨s0, s1⟩, rfl, fun j hj => ?_⟩
      rcases (by omega : j = 0 ∨ j = 1) with rfl | rfl
      · exact ⟨_, rfl, rfl, hs0⟩
      · exact ⟨_, rfl, hr1, hl1⟩
end
end Go.Proofs.YtpjjpdbmooiplaaGreatDoor
namespace Go.Proofs.YtpjjpdbmooiplaaGreatDoor
open Go.RowKit Go.Deep
set_option linter.unusedSimpArgs false
theorem cellsRCond : Tryz.prog.cellsOf 31 = 3 := by kernel_rfl
section
variable {H : Type} {enc : TypeId × Value → H} {W : World} {sp : Nat → Bool} {held : Bool}
set_option maxRecDepth 100000 in
theorem rdCond (fuel : Nat) (cs : List Value) (x : DataW H × List MemPlace) (h : DataW.trod enc Tryz.prog W 0 sp held fuel 31 cs = some x) : ∃ y : CondV, RdTh W 3 (dCond y) cs := by
  obtain ⟨xs, n, hn, -, hlen, hxs, hf⟩ := DataW.trod_struct Tryz.underlying31 h
  rw [cellsRCond] at hlen
  match cs, hlen with
  | [c0, c1, c2], _ =>
    match xs, hxs with
    | [y0, y1, y2], _ =>
      have f0 : DataW.trod enc Tryz.prog W 0 sp held n 9 [c0] = some y0 := by have := hf 0 _ rfl; simpa [cellsRAtomS, cellsRInt, cellsRString] using this
      have f1 : DataW.trod enc Tryz.prog W 0 sp held n 3 [c1] = some y1 := by have := hf 1 _ rfl; simpa [cellsRAtomS, cellsRInt, cellsRString] using this
      have f2 : DataW.trod enc Tryz.prog W 0 sp held n 29 [c2] = some y2 := by have := hf 2 _ rfl; simpa [cellsRAtomS, cellsRInt, cellsRString] using this
      obtain ⟨s0, e0, -, hs0⟩ := DataW.trod_string Tryz.underlying9 f0
      obtain ⟨s1, e1, -, hs1⟩ := DataW.trod_int Tryz.underlying3 f1
      obtain ⟨s2, a2, q2, e2, hl2, hr2⟩ := rdAtomS f2
      simp only [List.cons.injEq, and_true] at e0 e1 e2
      subst e0 e1 e2
      refine ⟨⟨s0.data.toList, s1, s2⟩, rfl, fun j hj => ?_⟩
      rcases (by omega : j = 0 ∨ j = 1 ∨ j = 2) with rfl | rfl | rfl
      · exact ⟨_, rfl, rfl, hs0⟩
      · exact ⟨_, rfl, rfl, hs1⟩
      · exact ⟨_, rfl, hr2, hl2⟩
theorem rdCondS {fuel : Nat} {cs : List Value} {x : DataW H × List MemPlace} (h : DataW.trod enc Tryz.prog W 0 sp held fuel 53 cs = some x) :
    ∃ (l : List CondV) (a : Option Addr) (c : Nat), cs = [.slice a l.length c] ∧ (dCondS l).le maxLen ∧ Rd W (· < W.heap.size) (dCondS l) (.slice a l.length c) :=
  rdLs (by omega) (by omega) Tryz.underlying53 cellsRCond (fun fuel cs x h => rdCond fuel cs x h) h
end
end Go.Proofs.YtpjjpdbmooiplaaGreatDoor
