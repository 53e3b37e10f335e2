import Derived.Test.YtdhlndpobpdfmaaZby
import Derived.Test.YtdhlndpobpdfmaaZah
namespace Go.Proofs.Ytdhlndpobpdfmaa
open Go.RowKit Go.Deep
set_option linter.unusedSimpArgs false
theorem cellsRAtom : Try.prog.cellsOf 112 = 3 := by kernel_rfl
theorem cellsRInt : Try.prog.cellsOf 3 = 1 := by kernel_rfl
theorem cellsRString : Try.prog.cellsOf 9 = 1 := by kernel_rfl
theorem cellsRAtomS : Try.prog.cellsOf 105 = 1 := by kernel_rfl
theorem cellsRRow : Try.prog.cellsOf 45 = 2 := by kernel_rfl
theorem cellsRAtomSS : Try.prog.cellsOf 43 = 1 := by kernel_rfl
theorem cellsRRowS : Try.prog.cellsOf 66 = 1 := by kernel_rfl
theorem cellsRStore : Try.prog.cellsOf 24 = 2 := by kernel_rfl
theorem cellsRRowSS : Try.prog.cellsOf 22 = 1 := by kernel_rfl
section
variable {H : Type} {enc : TypeId × Value → H} {W : World} {sp : Nat → Bool} {held : Bool}
set_option maxRecDepth 100000 in
theorem rdAtom (fuel : Nat) (cs : List Value) (x : DataW H × List MemPlace) (h : DataW.trod enc Try.prog W 0 sp held fuel 112 cs = some x) : ∃ y : At, RdTh W 3 (dAtom y) cs := by
  obtain ⟨xs, n, hn, -, hlen, hxs, hf⟩ := DataW.trod_struct Try.underlying112 h
  rw [cellsRAtom] at hlen
  match cs, hlen with
  | [c0, c1, c2], _ =>
    match xs, hxs with
    | [y0, y1, y2], _ =>
      have f0 : DataW.trod enc Try.prog W 0 sp held n 3 [c0] = some y0 := by have := hf 0 _ rfl; simpa [cellsRInt, cellsRString] using this
      have f1 : DataW.trod enc Try.prog W 0 sp held n 3 [c1] = some y1 := by have := hf 1 _ rfl; simpa [cellsRInt, cellsRString] using this
      have f2 : DataW.trod enc Try.prog W 0 sp held n 9 [c2] = some y2 := by have := hf 2 _ rfl; simpa [cellsRInt, cellsRString] using this
      obtain ⟨s0, e0, -, hs0⟩ := DataW.trod_int Try.underlying3 f0
      obtain ⟨s1, e1, -, hs1⟩ := DataW.trod_int Try.underlying3 f1
      obtain ⟨s2, e2, -, hs2⟩ := DataW.trod_string Try.underlying9 f2
      simp only [List.cons.injEq, and_true] at e0 e1 e2
      subst e0 e1 e2
      refine ⟨⟨s0, s1, s2.data.toList⟩, rfl, fun j hj => ?_⟩
      rcases (by omega : j = 0 ∨ j = 1 ∨ j = 2) with rfl | rfl | rfl
      · exact ⟨_, rfl, rfl, hs0⟩
      · exact ⟨_, rfl, rfl, hs1⟩
      · exact ⟨_, rfl, rfl, hs2⟩
theorem rdAtomS {fuel : Nat} {cs : List Value} {x : DataW H × List MemPlace} (h : DataW.trod enc Try.prog W 0 sp held fuel 105 cs = some x) :
    ∃ (l : List At) (a : Option Addr) (c : Nat), cs = [.slice a l.length c] ∧ (dAtomS l).le maxLen ∧ Rd W (· < W.heap.size) (dAtomS l) (.slice a l.length c) :=
  rdLs (by omega) (by omega) Try.underlying105 cellsRAtom (fun fuel cs x h => rdAtom fuel cs x h) h
theorem rdAtomSS {fuel : Nat} {cs : List Value} {x : DataW H × List MemPlace} (h : DataW.trod enc Try.prog W 0 sp held fuel 43 cs = some x) :
    ∃ (l : List (List At)) (a : Option Addr) (c : Nat), cs = [.slice a l.length c] ∧ (dAtomSS l).le maxLen ∧ Rd W (· < W.heap.size) (dAtomSS l) (.slice a l.length c) :=
  rdLs (by omega) (by omega) Try.underlying43 cellsRAtomS (fun fuel cs x h => by obtain ⟨l, a, c, rfl, h1, h2⟩ := rdAtomS h; exact ⟨l, rdT_one h1 h2⟩) h
set_option maxRecDepth 100000 in
theorem rdRow (fuel : Nat) (cs : List Value) (x : DataW H × List MemPlace) (h : DataW.trod enc Try.prog W 0 sp held fuel 45 cs = some x) : ∃ y : RowV, RdTh W 2 (dRow y) cs := by
  obtain ⟨xs, n, hn, -, hlen, hxs, hf⟩ := DataW.trod_struct Try.underlying45 h
  rw [cellsRRow] at hlen
  match cs, hlen with
  | [c0, c1], _ =>
    match xs, hxs with
    | [y0, y1], _ =>
      have f0 : DataW.trod enc Try.prog W 0 sp held n 3 [c0] = some y0 := by have := hf 0 _ rfl; simpa [cellsRAtomSS, cellsRInt] using this
      have f1 : DataW.trod enc Try.prog W 0 sp held n 43 [c1] = some y1 := by have := hf 1 _ rfl; simpa [cellsRAtomSS, cellsRInt] using this
      obtain ⟨s0, e0, -, hs0⟩ := DataW.trod_int Try.underlying3 f0
      obtain ⟨s1, a1, q1, e1, hl1, hr1⟩ := rdAtomSS f1
      simp only [List.cons.injEq, and_true] at e0 e1
      subst e0 e1
      refine ⟨⟨s0, s1⟩, rfl, fun j hj => ?_⟩
      rcases (by omega : j = 0 ∨ j = 1) with rfl | rfl
      · exact ⟨_, rfl, rfl, hs0⟩
      · exact ⟨_, rfl, hr1, hl1⟩
theorem rdRowS {fuel : Nat} {cs : List Value} {x : DataW H × List MemPlace} (h : DataW.trod enc Try.prog W 0 sp held fuel 66 cs = some x) :
    ∃ (l : List RowV) (a : Option Addr) (c : Nat), cs = [.slice a l.length c] ∧ (dRowS l).le maxLen ∧ Rd W (· < W.heap.size) (dRowS l) (.slice a l.length c) :=
  rdLs (by omega) (by omega) Try.underlying66 cellsRRow (fun fuel cs x h => rdRow fuel cs x h) h
theorem rdRowSS {fuel : Nat} {cs : List Value} {x : DataW H × List MemPlace} (h : DataW.trod enc Try.prog W 0 sp held fuel 22 cs = some x) :
    ∃ (l : List (List RowV)) (a : Option Addr) (c : Nat), cs = [.slice a l.length c] ∧ (dRowSS l).le maxLen ∧ Rd W (· < W.heap.size) (dRowSS l) (.slice a l.length c) :=
  rdLs (by omega) (by omega) Try.underlying22 cellsRRowS (fun fuel cs x h => by obtain ⟨l, a, c, rfl, h1, h2⟩ := rdRowS h; exact ⟨l, rdT_one h1 h2⟩) h
set_option maxRecDepth 100000 in
theorem rdStore (fuel : Nat) (cs : List Value) (x : DataW H × List MemPlace) (h : DataW.trod enc Try.prog W 0 sp held fuel 24 cs = some x) : ∃ y : StV, RdTh W 2 (dStore y) cs := by
  obtain ⟨xs, n, hn, -, hlen, hxs, hf⟩ := DataW.trod_struct Try.underlying24 h
  rw [cellsRStore] at hlen
  match cs, hlen with
  | [c0, c1], _ =>
    match xs, hxs with
    | [y0, y1], _ =>
      have f0 : DataW.trod enc Try.prog W 0 sp held n 22 [c0] = some y0 := by have := hf 0 _ rfl; simpa [cellsRInt, cellsRRowSS] using this
      have f1 : DataW.trod enc Try.prog W 0 sp held n 3 [c1] = some y1 := by have := hf 1 _ rfl; simpa [cellsRInt, cellsRRowSS] using this
      obtain ⟨s0, a0, q0, e0, hl0, hr0⟩ := rdRowSS f0
      obtain ⟨s1, e1, -, hs1⟩ := DataW.trod_int Try.underlying3 f1
      simp only [List.cons.injEq, and_true] at e0 e1
      subst e0 e1
      refine ⟨⟨s0, s1⟩, rfl, fun j hj => ?_⟩
      rcases (by omega : j = 0 ∨ j = 1) with rfl | rfl
      · exact ⟨_, rfl, hr0, hl0⟩
      · exact ⟨_, rfl, rfl, hs1⟩
end
end Go.Proofs.Ytdhlndpobpdfmaa
