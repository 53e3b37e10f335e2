import Derived.Test.YtngbhifafdbpkaaGreatZal
import Derived.Test.YtngbhifafdbpkaaGreatProg
import Derived.ProofKit
import Derived.OpenShut
import Derived.Deep.Slices
import Derived.Test.YtngbhifafdbpkaaGreatZan
import Derived.Test.YtngbhifafdbpkaaGreatZao
namespace Go.Proofs.YtngbhifafdbpkaaGreat
open Go.RowKit Go.Deep
set_option linter.unusedSimpArgs false
def RdTh (W : World) (n : Nat) (t : Nat → D) (cs : List Value) : Prop := cs.length = n ∧ ∀ j, j < n → ∃ u, cs[j]? = some u ∧ Rd W (· < W.heap.size) (t j) u ∧ (t j).le maxLen
theorem rdT_one {W : World} {t : Nat → D} {v : Value} (h1 : (t 0).le maxLen) (h2 : Rd W (· < W.heap.size) (t 0) v) : RdTh W 1 t [v] := ⟨rfl, fun j hj => by
  obtain rfl : j = 0 := by omega
  exact ⟨v, rfl, h2, h1⟩⟩
theorem list_of {α : Type} (P : Nat → α → Prop) : ∀ len, (∀ i, i < len → ∃ y, P i y) → ∃ l : List α, l.length = len ∧ ∀ i (h : i < l.length), P i l[i]
  | 0, _ => ⟨[], rfl, fun i h => absurd h (by simp)⟩
  | len + 1, hel => by
    obtain ⟨ks, hk, hks⟩ := list_of P len (fun i hi => hel i (by omega))
    obtain ⟨y, hy⟩ := hel len (by omega)
    refine ⟨ks ++ [y], by simp [hk], fun i hi => ?_⟩
    by_cases e : i < ks.length
    · rw [List.getElem_append_left e]; exact hks i e
    · have e2 : i = ks.length := by simp at hi; omega
      subst e2
      rw [List.getElem_append_right (by omega)]
      simp only [Nat.sub_self, List.getElem_cons_zero]
      rw [hk]
      exact hy
section
variable {H : Type} {enc : TypeId × Value → H} {W : World} {sp : Nat → Bool} {held : Bool}
theorem addr_spotD {a : Addr} {v : Value} (h : W.cell? (a.add 0) = some v) : a = ⟨a.block, a.off, none⟩ := by
  obtain ⟨b, off, spot⟩ := a
  have : spot = none := by
    cases spot with
    | none => rfl
    | some s => have := World.cell?_spot h; simp [Addr.add] at this
  rw [this]
theorem rdLs {α : Type} {n : Nat} (hn : 0 < n) (hn' : n ≤ 64) {d : α → Nat → D} {T E : TypeId} (hT : Tryz.prog.underlying T = some (.slice E)) (hE : Tryz.prog.cellsOf E = n)
    (hel : ∀ fuel cs x, DataW.trod enc Tryz.prog W 0 sp held fuel E cs = some x → ∃ y : α, RdTh W n (d y) cs)
    {fuel : Nat} {cs : List Value} {x : DataW H × List MemPlace} (h : DataW.trod enc Tryz.prog W 0 sp held fuel T cs = some x) :
    ∃ (l : List α) (a : Option Addr) (c : Nat), cs = [.slice a l.length c] ∧ (Ls n d l).le maxLen ∧ Rd W (· < W.heap.size) (Ls n d l) (.slice a l.length c) := by
  rcases DataW.trod_slice hT h with ⟨rfl, -⟩ | ⟨a, len, cap, elems, rest, n', hn2, rfl, -, -, hl, hc, hel', hall, -, -⟩
  · exact ⟨[], none, 0, rfl, Ls_le.2 ⟨hn', by simp, fun i h => absurd h (by simp)⟩, Rd.lsNil _ _⟩
  · rw [hE] at hall
    obtain ⟨l, hit, hits⟩ := list_of (fun i (y : α) => ∃ cs', W.cells? 0 (a.add (i * n)) n = some cs' ∧ RdTh W n (d y) cs') len (fun i hi => by
      have h1 := hall i hi
      rw [List.getElem?_eq_getElem (by omega), Option.bind_eq_some_iff] at h1
      obtain ⟨cs', h2, h3⟩ := h1
      obtain ⟨y, hy⟩ := hel _ _ _ h3
      exact ⟨y, cs', h2, hy⟩)
    refine ⟨l, some a, cap, by rw [hit], Ls_le.2 ⟨hn', by omega, fun i hi j hj => ?_⟩, ?_⟩
    · obtain ⟨cs', -, -, h2⟩ := hits i hi
      obtain ⟨u, -, -, hle⟩ := h2 j hj
      exact hle
    · refine ⟨some a, cap, rfl, by omega, ?_⟩
      by_cases h0 : l.length = 0
      · exact .inl h0
      · have key : ∀ i (h : i < l.length) j, j < n → ∃ u, W.cell? ((a.add (i * n)).add j) = some u ∧ Rd W (· < W.heap.size) (d l[i] j) u := fun i hi j hj => by
          obtain ⟨cs', h1, -, h2⟩ := hits i hi
          obtain ⟨u, hu, hr, -⟩ := h2 j hj
          obtain ⟨-, -, g1⟩ := World.cells?_some h1
          have g2 := g1 j hj
          rw [hu] at g2
          exact ⟨u, g2, hr⟩
        obtain ⟨u, g2, -⟩ := key 0 (by omega) 0 hn
        rw [show (a.add (0 * n)).add 0 = a.add 0 by simp [Addr.add]] at g2
        have ha := addr_spotD g2
        refine .inr ⟨a.block, a.off, by rw [← ha], ?_, hn, fun i j hi hj => ?_⟩
        · have := World.block_lt_of_cell? _ _ g2
          rw [ha] at this
          simpa [Addr.add] using this
        · obtain ⟨u, g3, hr⟩ := key i hi j hj
          rw [ha, Addr.add_mid, Addr.add_mid] at g3
          exact ⟨u, g3, by rw [lsF_at hi]; exact hr⟩
end
end Go.Proofs.YtngbhifafdbpkaaGreat
namespace Go.Proofs.YtngbhifafdbpkaaGreat
open Go.RowKit Go.Deep
set_option linter.unusedSimpArgs false
theorem cellsRAtom : Tryz.prog.cellsOf 156 = 3 := by kernel_rfl
theorem cellsRInt : Tryz.prog.cellsOf 3 = 1 := by kernel_rfl
theorem cellsRString : Tryz.prog.cellsOf 9 = 1 := by kernel_rfl
theorem cellsRAtomS : Tryz.prog.cellsOf 147 = 1 := by kernel_rfl
theorem cellsRRow : Tryz.prog.cellsOf 106 = 2 := by kernel_rfl
theorem cellsRAtomSS : Tryz.prog.cellsOf 104 = 1 := by kernel_rfl
theorem cellsRRowS : Tryz.prog.cellsOf 65 = 1 := by kernel_rfl
theorem cellsRStore : Tryz.prog.cellsOf 27 = 2 := by kernel_rfl
theorem cellsRRowSS : Tryz.prog.cellsOf 25 = 1 := by kernel_rfl
section
variable {H : Type} {enc : TypeId × Value → H} {W : World} {sp : Nat → Bool} {held : Bool}
set_option maxRecDepth 100000 in
theorem rdAtom (fuel : Nat) (cs : List Value) (x : DataW H × List MemPlace) (h : DataW.trod enc Tryz.prog W 0 sp held fuel 156 cs = some x) : ∃ y : At, RdTh W 3 (dAtom y) cs := by
  obtain ⟨xs, n, hn, -, hlen, hxs, hf⟩ := DataW.trod_struct Tryz.underlying156 h
  rw [cellsRAtom] at hlen
  match cs, hlen with
  | [c0, c1, c2], _ =>
    match xs, hxs with
    | [y0, y1, y2], _ =>
      have f0 : DataW.trod enc Tryz.prog W 0 sp held n 3 [c0] = some y0 := by have := hf 0 _ rfl; simpa [cellsRInt, cellsRString] using this
      have f1 : DataW.trod enc Tryz.prog W 0 sp held n 3 [c1] = some y1 := by have := hf 1 _ rfl; simpa [cellsRInt, cellsRString] using this
      have f2 : DataW.trod enc Tryz.prog W 0 sp held n 9 [c2] = some y2 := by have := hf 2 _ rfl; simpa [cellsRInt, cellsRString] using this
      obtain ⟨s0, e0, -, hs0⟩ := DataW.trod_int Tryz.underlying3 f0
      obtain ⟨s1, e1, -, hs1⟩ := DataW.trod_int Tryz.underlying3 f1
      obtain ⟨s2, e2, -, hs2⟩ := DataW.trod_string Tryz.underlying9 f2
      simp only [List.cons.injEq, and_true] at e0 e1 e2
      subst e0 e1 e2
      refine ⟨⟨s0, s1, s2.data.toList⟩, rfl, fun j hj => ?_⟩
      rcases (by omega : j = 0 ∨ j = 1 ∨ j = 2) with rfl | rfl | rfl
      · exact ⟨_, rfl, rfl, hs0⟩
      · exact ⟨_, rfl, rfl, hs1⟩
      · exact ⟨_, rfl, rfl, hs2⟩
theorem rdAtomS {fuel : Nat} {cs : List Value} {x : DataW H × List MemPlace} (h : DataW.trod enc Tryz.prog W 0 sp held fuel 147 cs = some x) :
    ∃ (l : List At) (a : Option Addr) (c : Nat), cs = [.slice a l.length c] ∧ (dAtomS l).le maxLen ∧ Rd W (· < W.heap.size) (dAtomS l) (.slice a l.length c) :=
  rdLs (by omega) (by omega) Tryz.underlying147 cellsRAtom (fun fuel cs x h => rdAtom fuel cs x h) h
theorem rdAtomSS {fuel : Nat} {cs : List Value} {x : DataW H × List MemPlace} (h : DataW.trod enc Tryz.prog W 0 sp held fuel 104 cs = some x) :
    ∃ (l : List (List At)) (a : Option Addr) (c : Nat), cs = [.slice a l.length c] ∧ (dAtomSS l).le maxLen ∧ Rd W (· < W.heap.size) (dAtomSS l) (.slice a l.length c) :=
  rdLs (by omega) (by omega) Tryz.underlying104 cellsRAtomS (fun fuel cs x h => by obtain ⟨l, a, c, rfl, h1, h2⟩ := rdAtomS h; exact ⟨l, rdT_one h1 h2⟩) h
set_option maxRecDepth 100000 in
theorem rdRow (fuel : Nat) (cs : List Value) (x : DataW H × List MemPlace) (h : DataW.trod enc Tryz.prog W 0 sp held fuel 106 cs = some x) : ∃ y : RowV, RdTh W 2 (dRow y) cs := by
  obtain ⟨xs, n, hn, -, hlen, hxs, hf⟩ := DataW.trod_struct Tryz.underlying106 h
  rw [cellsRRow] at hlen
  match cs, hlen with
  | [c0, c1], _ =>
    match xs, hxs with
    | [y0, y1], _ =>
      have f0 : DataW.trod enc Tryz.prog W 0 sp held n 3 [c0] = some y0 := by have := hf 0 _ rfl; simpa [cellsRAtomSS, cellsRInt] using this
      have f1 : DataW.trod enc Tryz.prog W 0 sp held n 104 [c1] = some y1 := by have := hf 1 _ rfl; simpa [cellsRAtomSS, cellsRInt] using this
      obtain ⟨s0, e0, -, hs0⟩ := DataW.trod_int Tryz.underlying3 f0
      obtain ⟨s1, a1, q1, e1, hl1, hr1⟩ := rdAtomSS f1
      simp only [List.cons.injEq, and_true] at e0 e1
      subst e0 e1
      refine ⟨⟨s0, s1⟩, rfl, fun j hj => ?_⟩
      rcases (by omega : j = 0 ∨ j = 1) with rfl | rfl
      · exact ⟨_, rfl, rfl, hs0⟩
      · exact ⟨_, rfl, hr1, hl1⟩
theorem rdRowS {fuel : Nat} {cs : List Value} {x : DataW H × List MemPlace} (h : DataW.trod enc Tryz.prog W 0 sp held fuel 65 cs = some x) :
    ∃ (l : List RowV) (a : Option Addr) (c : Nat), cs = [.slice a l.length c] ∧ (dRowS l).le maxLen ∧ Rd W (· < W.heap.size) (dRowS l) (.slice a l.length c) :=
  rdLs (by omega) (by omega) Tryz.underlying65 cellsRRow (fun fuel cs x h => rdRow fuel cs x h) h
theorem rdRowSS {fuel : Nat} {cs : List Value} {x : DataW H × List MemPlace} (h : DataW.trod enc Tryz.prog W 0 sp held fuel 25 cs = some x) :
    ∃ (l : List (List RowV)) (a : Option Addr) (c : Nat), cs = [.slice a l.length c] ∧ (dRowSS l).le maxLen ∧ Rd W (· < W.heap.size) (dRowSS l) (.slice a l.length c) :=
  rdLs (by omega) (by omega) Tryz.underlying25 cellsRRowS (fun fuel cs x h => by obtain ⟨l, a, c, rfl, h1, h2⟩ := rdRowS h; exact ⟨l, rdT_one h1 h2⟩) h
set_option maxRecDepth 100000 in
theorem rdStore (fuel : Nat) (cs : List Value) (x : DataW H × List MemPlace) (h : DataW.trod enc Tryz.prog W 0 sp held fuel 27 cs = some x) : ∃ y : StV, RdTh W 2 (dStore y) cs := by
  obtain ⟨xs, n, hn, -, hlen, hxs, hf⟩ := DataW.trod_struct Tryz.underlying27 h
  rw [cellsRStore] at hlen
  match cs, hlen with
  | [c0, c1], _ =>
    match xs, hxs with
    | [y0, y1], _ =>
      have f0 : DataW.trod enc Tryz.prog W 0 sp held n 25 [c0] = some y0 := by have := hf 0 _ rfl; simpa [cellsRInt, cellsRRowSS] using this
      have f1 : DataW.trod enc Tryz.prog W 0 sp held n 3 [c1] = some y1 := by have := hf 1 _ rfl; simpa [cellsRInt, cellsRRowSS] using this
      obtain ⟨s0, a0, q0, e0, hl0, hr0⟩ := rdRowSS f0
      obtain ⟨s1, e1, -, hs1⟩ := DataW.trod_int Tryz.underlying3 f1
      simp only [List.cons.injEq, and_true] at e0 e1
      subst e0 e1
      refine ⟨⟨s0, s1⟩, rfl, fun j hj => ?_⟩
      rcases (by omega : j = 0 ∨ j = 1) with rfl | rfl
      · exact ⟨_, rfl, hr0, hl0⟩
      · exact ⟨_, rfl, rfl, hs1⟩
end
end Go.Proofs.YtngbhifafdbpkaaGreat
namespace Go.Proofs.YtngbhifafdbpkaaGreat
open Go.RowKit Go.Deep
set_option linter.unusedSimpArgs false
theorem cellsRColumn : Tryz.prog.cellsOf 133 = 8 := by kernel_rfl
theorem cellsRBool : Tryz.prog.cellsOf 4 = 1 := by kernel_rfl
theorem cellsRTable : Tryz.prog.cellsOf 63 = 4 := by kernel_rfl
theorem cellsRColumnS : Tryz.prog.cellsOf 60 = 1 := by kernel_rfl
theorem cellsRIntS : Tryz.prog.cellsOf 61 = 1 := by kernel_rfl
theorem cellsRSchema : Tryz.prog.cellsOf 24 = 1 := by kernel_rfl
theorem cellsRTableS : Tryz.prog.cellsOf 22 = 1 := by kernel_rfl
section
variable {H : Type} {enc : TypeId × Value → H} {W : World} {sp : Nat → Bool} {held : Bool}
set_option maxRecDepth 100000 in
theorem rdColumn (fuel : Nat) (cs : List Value) (x : DataW H × List MemPlace) (h : DataW.trod enc Tryz.prog W 0 sp held fuel 133 cs = some x) : ∃ y : Cl, RdTh W 8 (dColumn y) cs := by
  obtain ⟨xs, n, hn, -, hlen, hxs, hf⟩ := DataW.trod_struct Tryz.underlying133 h
  rw [cellsRColumn] at hlen
  match cs, hlen with
  | [c0, c1, c2, c3, c4, c5, c6, c7], _ =>
    match xs, hxs with
    | [y0, y1, y2, y3, y4, y5, y6, y7], _ =>
      have f0 : DataW.trod enc Tryz.prog W 0 sp held n 9 [c0] = some y0 := by have := hf 0 _ rfl; simpa [cellsRBool, cellsRInt, cellsRString] using this
      have f1 : DataW.trod enc Tryz.prog W 0 sp held n 3 [c1] = some y1 := by have := hf 1 _ rfl; simpa [cellsRBool, cellsRInt, cellsRString] using this
      have f2 : DataW.trod enc Tryz.prog W 0 sp held n 3 [c2] = some y2 := by have := hf 2 _ rfl; simpa [cellsRBool, cellsRInt, cellsRString] using this
      have f3 : DataW.trod enc Tryz.prog W 0 sp held n 3 [c3] = some y3 := by have := hf 3 _ rfl; simpa [cellsRBool, cellsRInt, cellsRString] using this
      have f4 : DataW.trod enc Tryz.prog W 0 sp held n 3 [c4] = some y4 := by have := hf 4 _ rfl; simpa [cellsRBool, cellsRInt, cellsRString] using this
      have f5 : DataW.trod enc Tryz.prog W 0 sp held n 3 [c5] = some y5 := by have := hf 5 _ rfl; simpa [cellsRBool, cellsRInt, cellsRString] using this
      have f6 : DataW.trod enc Tryz.prog W 0 sp held n 9 [c6] = some y6 := by have := hf 6 _ rfl; simpa [cellsRBool, cellsRInt, cellsRString] using this
      have f7 : DataW.trod enc Tryz.prog W 0 sp held n 4 [c7] = some y7 := by have := hf 7 _ rfl; simpa [cellsRBool, cellsRInt, cellsRString] using this
      obtain ⟨s0, e0, -, hs0⟩ := DataW.trod_string Tryz.underlying9 f0
      obtain ⟨s1, e1, -, hs1⟩ := DataW.trod_int Tryz.underlying3 f1
      obtain ⟨s2, e2, -, hs2⟩ := DataW.trod_int Tryz.underlying3 f2
      obtain ⟨s3, e3, -, hs3⟩ := DataW.trod_int Tryz.underlying3 f3
      obtain ⟨s4, e4, -, hs4⟩ := DataW.trod_int Tryz.underlying3 f4
      obtain ⟨s5, e5, -, hs5⟩ := DataW.trod_int Tryz.underlying3 f5
      obtain ⟨s6, e6, -, hs6⟩ := DataW.trod_string Tryz.underlying9 f6
      obtain ⟨s7, e7, -⟩ := DataW.trod_bool Tryz.underlying4 f7
      simp only [List.cons.injEq, and_true] at e0 e1 e2 e3 e4 e5 e6 e7
      subst e0 e1 e2 e3 e4 e5 e6 e7
      refine ⟨⟨s0.data.toList, s1, s2, s3, s4, s5, s6.data.toList, s7⟩, rfl, fun j hj => ?_⟩
      rcases (by omega : j = 0 ∨ j = 1 ∨ j = 2 ∨ j = 3 ∨ j = 4 ∨ j = 5 ∨ j = 6 ∨ j = 7) with rfl | rfl | rfl | rfl | rfl | rfl | rfl | rfl
      · exact ⟨_, rfl, rfl, hs0⟩
      · exact ⟨_, rfl, rfl, hs1⟩
      · exact ⟨_, rfl, rfl, hs2⟩
      · exact ⟨_, rfl, rfl, hs3⟩
      · exact ⟨_, rfl, rfl, hs4⟩
      · exact ⟨_, rfl, rfl, hs5⟩
      · exact ⟨_, rfl, rfl, hs6⟩
      · exact ⟨_, rfl, rfl, trivial⟩
theorem rdColumnS {fuel : Nat} {cs : List Value} {x : DataW H × List MemPlace} (h : DataW.trod enc Tryz.prog W 0 sp held fuel 60 cs = some x) :
    ∃ (l : List Cl) (a : Option Addr) (c : Nat), cs = [.slice a l.length c] ∧ (dColumnS l).le maxLen ∧ Rd W (· < W.heap.size) (dColumnS l) (.slice a l.length c) :=
  rdLs (by omega) (by omega) Tryz.underlying60 cellsRColumn (fun fuel cs x h => rdColumn fuel cs x h) h
theorem rdIntS {fuel : Nat} {cs : List Value} {x : DataW H × List MemPlace} (h : DataW.trod enc Tryz.prog W 0 sp held fuel 61 cs = some x) :
    ∃ (l : List Int) (a : Option Addr) (c : Nat), cs = [.slice a l.length c] ∧ (dIntS l).le maxLen ∧ Rd W (· < W.heap.size) (dIntS l) (.slice a l.length c) :=
  rdLs (by omega) (by omega) Tryz.underlying61 cellsRInt (fun fuel cs x h => by obtain ⟨s, rfl, -, hs⟩ := DataW.trod_int Tryz.underlying3 h; exact ⟨s, rdT_one hs rfl⟩) h
set_option maxRecDepth 100000 in
theorem rdTable (fuel : Nat) (cs : List Value) (x : DataW H × List MemPlace) (h : DataW.trod enc Tryz.prog W 0 sp held fuel 63 cs = some x) : ∃ y : Tb, RdTh W 4 (dTable y) cs := by
  obtain ⟨xs, n, hn, -, hlen, hxs, hf⟩ := DataW.trod_struct Tryz.underlying63 h
  rw [cellsRTable] at hlen
  match cs, hlen with
  | [c0, c1, c2, c3], _ =>
    match xs, hxs with
    | [y0, y1, y2, y3], _ =>
      have f0 : DataW.trod enc Tryz.prog W 0 sp held n 9 [c0] = some y0 := by have := hf 0 _ rfl; simpa [cellsRBool, cellsRColumnS, cellsRIntS, cellsRString] using this
      have f1 : DataW.trod enc Tryz.prog W 0 sp held n 60 [c1] = some y1 := by have := hf 1 _ rfl; simpa [cellsRBool, cellsRColumnS, cellsRIntS, cellsRString] using this
      have f2 : DataW.trod enc Tryz.prog W 0 sp held n 61 [c2] = some y2 := by have := hf 2 _ rfl; simpa [cellsRBool, cellsRColumnS, cellsRIntS, cellsRString] using this
      have f3 : DataW.trod enc Tryz.prog W 0 sp held n 4 [c3] = some y3 := by have := hf 3 _ rfl; simpa [cellsRBool, cellsRColumnS, cellsRIntS, cellsRString] using this
      obtain ⟨s0, e0, -, hs0⟩ := DataW.trod_string Tryz.underlying9 f0
      obtain ⟨s1, a1, q1, e1, hl1, hr1⟩ := rdColumnS f1
      obtain ⟨s2, a2, q2, e2, hl2, hr2⟩ := rdIntS f2
      obtain ⟨s3, e3, -⟩ := DataW.trod_bool Tryz.underlying4 f3
      simp only [List.cons.injEq, and_true] at e0 e1 e2 e3
      subst e0 e1 e2 e3
      refine ⟨⟨s0.data.toList, s1, s2, s3⟩, rfl, fun j hj => ?_⟩
      rcases (by omega : j = 0 ∨ j = 1 ∨ j = 2 ∨ j = 3) with rfl | rfl | rfl | rfl
      · exact ⟨_, rfl, rfl, hs0⟩
      · exact ⟨_, rfl, hr1, hl1⟩
      · exact ⟨_, rfl, hr2, hl2⟩
      · exact ⟨_, rfl, rfl, trivial⟩
theorem rdTableS {fuel : Nat} {cs : List Value} {x : DataW H × List MemPlace} (h : DataW.trod enc Tryz.prog W 0 sp held fuel 22 cs = some x) :
    ∃ (l : List Tb) (a : Option Addr) (c : Nat), cs = [.slice a l.length c] ∧ (dTableS l).le maxLen ∧ Rd W (· < W.heap.size) (dTableS l) (.slice a l.length c) :=
  rdLs (by omega) (by omega) Tryz.underlying22 cellsRTable (fun fuel cs x h => rdTable fuel cs x h) h
set_option maxRecDepth 100000 in
theorem rdSchema (fuel : Nat) (cs : List Value) (x : DataW H × List MemPlace) (h : DataW.trod enc Tryz.prog W 0 sp held fuel 24 cs = some x) : ∃ y : ScV, RdTh W 1 (dSchema y) cs := by
  obtain ⟨xs, n, hn, -, hlen, hxs, hf⟩ := DataW.trod_struct Tryz.underlying24 h
  rw [cellsRSchema] at hlen
  match cs, hlen with
  | [c0], _ =>
    match xs, hxs with
    | [y0], _ =>
      have f0 : DataW.trod enc Tryz.prog W 0 sp held n 22 [c0] = some y0 := by have := hf 0 _ rfl; simpa [cellsRTableS] using this
      obtain ⟨s0, a0, q0, e0, hl0, hr0⟩ := rdTableS f0
      simp only [List.cons.injEq, and_true] at e0
      subst e0
      refine ⟨⟨s0⟩, rfl, fun j hj => ?_⟩
      obtain rfl : j = 0 := by omega
      exact ⟨_, rfl, hr0, hl0⟩
end
end Go.Proofs.YtngbhifafdbpkaaGreat
