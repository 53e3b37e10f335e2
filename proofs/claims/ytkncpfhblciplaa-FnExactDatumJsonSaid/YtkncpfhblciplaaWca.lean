import Derived.Test.YtkncpfhblciplaaWam
import Derived.Test.YtkncpfhblciplaaProg
import Derived.ProofKit
import Derived.OpenShut
import Derived.Deep.Slices
namespace Go.Proofs.Ytkncpfhblciplaa
open Go.RowKit Go.Deep
theorem cellsAt : Try.prog.cellsOf 23 = 3 := by kernel_rfl
theorem cells3k : Try.prog.cellsOf 3 = 1 := by kernel_rfl
theorem cells9k : Try.prog.cellsOf 9 = 1 := by kernel_rfl
section
variable {H : Type} {enc : TypeId × Value → H} {W : World} {sp : Nat → Bool} {held : Bool}
theorem addr_spotA {a : Addr} {v : Value} (h : W.cell? (a.add 0) = some v) : a = ⟨a.block, a.off, none⟩ := by
  obtain ⟨b, off, spot⟩ := a
  have : spot = none := by
    cases spot with
    | none => rfl
    | some s => have := World.cell?_spot h; simp [Addr.add] at this
  rw [this]
set_option maxRecDepth 100000 in
theorem readAtom {fuel : Nat} {cs : List Value} {x : DataW H × List MemPlace} (h : DataW.trod enc Try.prog W 0 sp held fuel 23 cs = some x) :
    ∃ y : At, cs = [.int .i64 y.k, .int .i64 y.n, .string ⟨y.t.toArray⟩] ∧ y.t.length ≤ maxLen := by
  obtain ⟨xs, n, hn, -, hlen, hxs, hf⟩ := DataW.trod_struct Try.underlying23 h
  rw [cellsAt] at hlen
  match cs, hlen with
  | [c0, c1, c2], _ =>
    match xs, hxs with
    | [y0, y1, y2], _ =>
      have f0 : DataW.trod enc Try.prog W 0 sp held n 3 [c0] = some y0 := by have := hf 0 _ rfl; simpa [cells3k] using this
      have f1 : DataW.trod enc Try.prog W 0 sp held n 3 [c1] = some y1 := by have := hf 1 _ rfl; simpa [cells3k] using this
      have f2 : DataW.trod enc Try.prog W 0 sp held n 9 [c2] = some y2 := by have := hf 2 _ rfl; simpa [cells9k] using this
      obtain ⟨k, e0, -, -⟩ := DataW.trod_int Try.underlying3 f0
      obtain ⟨m, e1, -, -⟩ := DataW.trod_int Try.underlying3 f1
      obtain ⟨s, e2, -, hs⟩ := DataW.trod_string Try.underlying9 f2
      simp only [List.cons.injEq, and_true] at e0 e1 e2
      subst e0 e1 e2
      exact ⟨⟨k, m, s.data.toList⟩, rfl, hs⟩
theorem atoms_of (a : Addr) : ∀ len, (∀ i, i < len → ∃ y : At, W.cells? 0 (a.add (i * 3)) 3 = some [.int .i64 y.k, .int .i64 y.n, .string ⟨y.t.toArray⟩] ∧ y.t.length ≤ maxLen) →
    ∃ l : List At, l.length = len ∧ ∀ i (h : i < l.length), W.cells? 0 (a.add (i * 3)) 3 = some [.int .i64 l[i].k, .int .i64 l[i].n, .string ⟨l[i].t.toArray⟩] ∧ l[i].t.length ≤ maxLen
  | 0, _ => ⟨[], rfl, fun i h => absurd h (by simp)⟩
  | len + 1, hel => by
    obtain ⟨ks, hk, hks⟩ := atoms_of a len (fun i hi => hel i (by omega))
    obtain ⟨y, h1, h2⟩ := hel len (by omega)
    refine ⟨ks ++ [y], by simp [hk], fun i hi => ?_⟩
    by_cases e : i < ks.length
    · rw [List.getElem_append_left e]; exact hks i e
    · have e2 : i = ks.length := by simp at hi; omega
      subst e2
      rw [List.getElem_append_right (by omega)]
      simp only [Nat.sub_self, List.getElem_cons_zero]
      rw [hk]
      exact ⟨h1, h2⟩
theorem readAtoms {fuel : Nat} {cs : List Value} {x : DataW H × List MemPlace} (h : DataW.trod enc Try.prog W 0 sp held fuel 45 cs = some x) :
    ∃ a c l, cs = [.slice a (List.length l) c] ∧ l.length ≤ maxLen ∧ (∀ y ∈ l, y.t.length ≤ maxLen) ∧ Ats W (· < W.heap.size) a l := by
  rcases DataW.trod_slice Try.underlying45 h with ⟨rfl, -⟩ | ⟨a, len, cap, elems, rest, n', hn', rfl, -, -, hl, hc, hel, hall, -, -⟩
  · exact ⟨none, 0, [], rfl, by simp, by simp, .inl rfl⟩
  · rw [cellsAt] at hall
    obtain ⟨l, hit, hits⟩ := atoms_of (W := W) a len (fun i hi => by
      have h1 := hall i hi
      rw [List.getElem?_eq_getElem (by omega), Option.bind_eq_some_iff] at h1
      obtain ⟨cs', h2, h3⟩ := h1
      obtain ⟨y, rfl, hy⟩ := readAtom h3
      exact ⟨y, h2, hy⟩)
    refine ⟨some a, cap, l, by rw [hit], by omega, fun y hy => ?_, ?_⟩
    · obtain ⟨i, hi, rfl⟩ := List.mem_iff_getElem.1 hy
      exact (hits i hi).2
    by_cases h0 : l.length = 0
    · exact .inl h0
    · obtain ⟨g0, -⟩ := hits 0 (by omega)
      obtain ⟨-, -, g1⟩ := World.cells?_some g0
      have g2 := g1 0 (by omega)
      rw [show (a.add (0 * 3)).add 0 = a.add 0 by simp [Addr.add]] at g2
      simp only [List.getElem?_cons_zero] at g2
      have ha := addr_spotA g2
      refine .inr ⟨a.block, a.off, by rw [← ha], ?_, fun m hm => ?_⟩
      · have := World.block_lt_of_cell? _ _ g2
        rw [ha] at this
        simpa [Addr.add] using this
      · have hi : m / 3 < l.length := by omega
        obtain ⟨g3, -⟩ := hits (m / 3) hi
        obtain ⟨-, -, g4⟩ := World.cells?_some g3
        have ho : m % 3 < 3 := Nat.mod_lt _ (by omega)
        have g5 := g4 (m % 3) ho
        rw [ha, Addr.add_mid, Addr.add_mid, show a.off + m / 3 * 3 + m % 3 = a.off + m by omega] at g5
        rw [g5]
        unfold atF
        rw [at_getD hi]
        rcases (by omega : m % 3 = 0 ∨ m % 3 = 1 ∨ m % 3 = 2) with e | e | e <;> simp [e]
end
end Go.Proofs.Ytkncpfhblciplaa
