import Derived.Test.YthakmdkaciopnaaTTb
import Derived.Test.YthakmdkaciopnaaCRead
import Derived.Test.YthakmdkaciopnaaProg
import Derived.ProofKit
import Derived.OpenShut
import Derived.Deep.Slices
namespace Go.Proofs.Ythakmdkaciopnaa
open Go.RowKit Go.Deep
set_option linter.unusedSimpArgs false
theorem cellsTb : Try.prog.cellsOf 36 = 4 := by kernel_rfl
theorem cellsCs : Try.prog.cellsOf 33 = 1 := by kernel_rfl
theorem cellsIs : Try.prog.cellsOf 34 = 1 := by kernel_rfl
section
variable {H : Type} {enc : TypeId × Value → H} {W : World} {sp : Nat → Bool} {held : Bool}
theorem addr_spotT {a : Addr} {v : Value} (h : W.cell? (a.add 0) = some v) : a = ⟨a.block, a.off, none⟩ := by
  obtain ⟨b, off, spot⟩ := a
  have : spot = none := by
    cases spot with
    | none => rfl
    | some s => have := World.cell?_spot h; simp [Addr.add] at this
  rw [this]
/-- things of n cells each, one a place, as one list -/
theorem things_of {α : Type} (n : Nat) (cl : α → List Value) (ok : α → Prop) (a : Addr) : ∀ len, (∀ i, i < len → ∃ y : α, W.cells? 0 (a.add (i * n)) n = some (cl y) ∧ ok y) →
    ∃ l : List α, l.length = len ∧ ∀ i (h : i < l.length), W.cells? 0 (a.add (i * n)) n = some (cl l[i]) ∧ ok l[i]
  | 0, _ => ⟨[], rfl, fun i h => absurd h (by simp)⟩
  | len + 1, hel => by
    obtain ⟨ks, hk, hks⟩ := things_of n cl ok a len (fun i hi => hel i (by omega))
    obtain ⟨y, h1, h2⟩ := hel len (by omega)
    refine ⟨ks ++ [y], by simp [hk], fun i hi => ?_⟩
    by_cases e : i < ks.length
    · rw [List.getElem_append_left e]; exact hks i e
    · have e2 : i = ks.length := by simp at hi; omega
      subst e2
      rw [List.getElem_append_right (by omega)]
      simp only [Nat.sub_self, List.getElem_cons_zero]
      rw [hk]
      exact ⟨h1, h2⟩
/-- such a list lies in a row -/
theorem row_of {α : Type} {n : Nat} (hn : 0 < n) {cl : α → List Value} {a : Addr} {l : List α} (f : Nat → Value) (hf : ∀ i (h : i < l.length) j, j < n → (cl l[i])[j]? = some (f (i * n + j)))
    (h : ∀ i (h : i < l.length), W.cells? 0 (a.add (i * n)) n = some (cl l[i])) : Rw W (· < W.heap.size) (some a) (l.length * n) f := by
  by_cases h0 : l.length = 0
  · exact .inl (by rw [h0]; simp)
  · have g0 := h 0 (by omega)
    obtain ⟨-, -, g1⟩ := World.cells?_some g0
    have g2 := g1 0 hn
    rw [show (a.add (0 * n)).add 0 = a.add 0 by simp [Addr.add], hf 0 (by omega) 0 hn] at g2
    have ha := addr_spotT g2
    refine .inr ⟨a.block, a.off, by rw [← ha], ?_, fun m hm => ?_⟩
    · have := World.block_lt_of_cell? _ _ g2
      rw [ha] at this
      simpa [Addr.add] using this
    · have hi : m / n < l.length := by
        rw [Nat.div_lt_iff_lt_mul hn]; exact hm
      have ho : m % n < n := Nat.mod_lt _ hn
      obtain ⟨-, -, g4⟩ := World.cells?_some (h (m / n) hi)
      have g5 := g4 (m % n) ho
      rw [hf _ hi _ ho, ha, Addr.add_mid, Addr.add_mid, show a.off + m / n * n + m % n = a.off + m by rw [Nat.add_assoc, Nat.div_add_mod']] at g5
      rw [g5, Nat.div_add_mod']
theorem readCols {fuel : Nat} {cs : List Value} {x : DataW H × List MemPlace} (h : DataW.trod enc Try.prog W 0 sp held fuel 33 cs = some x) :
    ∃ a c l, cs = [.slice a (List.length l) c] ∧ l.length ≤ maxLen ∧ (∀ y ∈ l, Cl.ok y) ∧ Cols W (· < W.heap.size) a l := by
  rcases DataW.trod_slice Try.underlying33 h with ⟨rfl, -⟩ | ⟨a, len, cap, elems, rest, n', hn', rfl, -, -, hl, hc, hel, hall, -, -⟩
  · exact ⟨none, 0, [], rfl, by simp, by simp, .inl rfl⟩
  · rw [cellsCl] at hall
    obtain ⟨l, hit, hits⟩ := things_of (W := W) 8 clC Cl.ok a len (fun i hi => by
      have h1 := hall i hi
      rw [List.getElem?_eq_getElem (by omega), Option.bind_eq_some_iff] at h1
      obtain ⟨cs', h2, h3⟩ := h1
      obtain ⟨y, rfl, hy⟩ := readCol h3
      exact ⟨y, h2, hy⟩)
    refine ⟨some a, cap, l, by rw [hit], by omega, fun y hy => ?_, ?_⟩
    · obtain ⟨i, hi, rfl⟩ := List.mem_iff_getElem.1 hy
      exact (hits i hi).2
    exact row_of (n := 8) (cl := clC) (by omega) _ (fun i hi j hj => by
      rw [clF_at hi hj]
      match j, hj with
      | 0, _ => rfl
      | 1, _ => rfl
      | 2, _ => rfl
      | 3, _ => rfl
      | 4, _ => rfl
      | 5, _ => rfl
      | 6, _ => rfl
      | 7, _ => rfl) (fun i hi => (hits i hi).1)
theorem readInts {fuel : Nat} {cs : List Value} {x : DataW H × List MemPlace} (h : DataW.trod enc Try.prog W 0 sp held fuel 34 cs = some x) :
    ∃ a c l, cs = [.slice a (List.length l) c] ∧ l.length ≤ maxLen ∧ Ints W (· < W.heap.size) a l := by
  rcases DataW.trod_slice Try.underlying34 h with ⟨rfl, -⟩ | ⟨a, len, cap, elems, rest, n', hn', rfl, -, -, hl, hc, hel, hall, -, -⟩
  · exact ⟨none, 0, [], rfl, by simp, .inl rfl⟩
  · rw [cells3c] at hall
    obtain ⟨l, hit, hits⟩ := things_of (W := W) 1 (fun n : Int => [Value.int .i64 n]) (fun _ => True) a len (fun i hi => by
      have h1 := hall i hi
      rw [List.getElem?_eq_getElem (by omega), Option.bind_eq_some_iff] at h1
      obtain ⟨cs', h2, h3⟩ := h1
      obtain ⟨y, rfl, -⟩ := DataW.trod_int Try.underlying3 h3
      exact ⟨y, h2, trivial⟩)
    refine ⟨some a, cap, l, by rw [hit], by omega, ?_⟩
    have := row_of (W := W) (n := 1) (by omega) (cl := fun n : Int => [Value.int .i64 n]) (a := a) (l := l) (fun m => .int .i64 (l.getD m 0)) (fun i hi j hj => by
      obtain rfl : j = 0 := by omega
      simp [int_getD hi, hi]) (fun i hi => (hits i hi).1)
    rw [Nat.mul_one] at this
    exact this
/-- a table that came in -/
theorem readTable {fuel : Nat} {cs : List Value} {x : DataW H × List MemPlace} (h : DataW.trod enc Try.prog W 0 sp held fuel 36 cs = some x) :
    ∃ (t : Tb) (ca : Option Addr) (cc : Nat) (ua : Option Addr) (uc : Nat), cs = [.string ⟨t.nm.toArray⟩, .slice ca t.cols.length cc, .slice ua t.uq.length uc, .bool t.rt] ∧ t.ok ∧ t.Has W (· < W.heap.size) ca ua := by
  obtain ⟨xs, n, hn, -, hlen, hxs, hf⟩ := DataW.trod_struct Try.underlying36 h
  rw [cellsTb] at hlen
  match cs, hlen with
  | [c0, c1, c2, c3], _ =>
    match xs, hxs with
    | [y0, y1, y2, y3], _ =>
      have f0 : DataW.trod enc Try.prog W 0 sp held n 9 [c0] = some y0 := by have := hf 0 _ rfl; simpa [cells3c, cells4c, cells9c, cellsCs, cellsIs] using this
      have f1 : DataW.trod enc Try.prog W 0 sp held n 33 [c1] = some y1 := by have := hf 1 _ rfl; simpa [cells3c, cells4c, cells9c, cellsCs, cellsIs] using this
      have f2 : DataW.trod enc Try.prog W 0 sp held n 34 [c2] = some y2 := by have := hf 2 _ rfl; simpa [cells3c, cells4c, cells9c, cellsCs, cellsIs] using this
      have f3 : DataW.trod enc Try.prog W 0 sp held n 4 [c3] = some y3 := by have := hf 3 _ rfl; simpa [cells3c, cells4c, cells9c, cellsCs, cellsIs] using this
      obtain ⟨s0, e0, -, hs0⟩ := DataW.trod_string Try.underlying9 f0
      obtain ⟨ca, cc, lc, e1, h1, h2, h3⟩ := readCols f1
      obtain ⟨ua, uc, lu, e2, h4, h5⟩ := readInts f2
      obtain ⟨b3, e3, -⟩ := DataW.trod_bool Try.underlying4 f3
      simp only [List.cons.injEq, and_true] at e0 e1 e2 e3
      subst e0 e1 e2 e3
      exact ⟨⟨s0.data.toList, lc, lu, b3⟩, ca, cc, ua, uc, rfl, ⟨hs0, h1, h2, h4⟩, h3, h5⟩
end
end Go.Proofs.Ythakmdkaciopnaa
