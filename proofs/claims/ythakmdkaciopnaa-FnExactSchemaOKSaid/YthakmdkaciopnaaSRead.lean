import Derived.Test.YthakmdkaciopnaaTRead
import Derived.Test.YthakmdkaciopnaaSMem
namespace Go.Proofs.Ythakmdkaciopnaa
open Go.RowKit Go.Deep
set_option linter.unusedSimpArgs false
theorem cellsSc : Try.prog.cellsOf 24 = 1 := by kernel_rfl
theorem cellsTs : Try.prog.cellsOf 22 = 1 := by kernel_rfl
section
variable {H : Type} {enc : TypeId × Value → H} {W : World} {sp : Nat → Bool} {held : Bool}
theorem readTables {fuel : Nat} {cs : List Value} {x : DataW H × List MemPlace} (h : DataW.trod enc Try.prog W 0 sp held fuel 22 cs = some x) :
    ∃ (l : List Tb) (a : Option Addr) (c : Nat) (A : Nat → Ad), cs = [.slice a l.length c] ∧ TbsOk l ∧ Tabs W (· < W.heap.size) a l A := by
  rcases DataW.trod_slice Try.underlying22 h with ⟨rfl, -⟩ | ⟨a, len, cap, elems, rest, n', hn', rfl, -, -, hl, hc, hel, hall, -, -⟩
  · exact ⟨[], none, 0, fun _ => ⟨none, 0, none, 0⟩, rfl, ⟨by simp, by simp⟩, .inl rfl, fun i h => absurd h (by simp)⟩
  · rw [cellsTb] at hall
    obtain ⟨ps, hit, hits⟩ := things_of (W := W) 4 (fun p : Tb × Ad => tbC p.1 p.2) (fun p => p.1.ok ∧ p.1.Has W (· < W.heap.size) p.2.ca p.2.ua) a len (fun i hi => by
      have h1 := hall i hi
      rw [List.getElem?_eq_getElem (by omega), Option.bind_eq_some_iff] at h1
      obtain ⟨cs', h2, h3⟩ := h1
      obtain ⟨t, ca, cc, ua, uc, rfl, h4, h5⟩ := readTable h3
      exact ⟨(t, ⟨ca, cc, ua, uc⟩), h2, h4, h5⟩)
    obtain ⟨A, hA⟩ : ∃ A : Nat → Ad, A = fun i => ((ps.map Prod.snd).getD i ⟨none, 0, none, 0⟩) := ⟨_, rfl⟩
    have eA : ∀ i (h : i < ps.length), A i = ps[i].2 := fun i h => by
      rw [hA]; simp [h]
    have eT : ∀ i (h : i < (ps.map Prod.fst).length), (ps.map Prod.fst)[i] = (ps[i]'(by simpa using h)).1 := fun i h => by simp
    refine ⟨ps.map Prod.fst, some a, cap, A, by simp [hit], ⟨by simp; omega, fun t ht => ?_⟩, ?_, fun i hi => ?_⟩
    · obtain ⟨i, hi, rfl⟩ := List.mem_iff_getElem.1 ht
      rw [eT i hi]
      exact (hits i (by simpa using hi)).2.1
    · have := row_of (W := W) (n := 4) (by omega) (cl := fun p : Tb × Ad => tbC p.1 p.2) (a := a) (l := ps) (tbF (ps.map Prod.fst) A) (fun i hi j hj => by
        rw [tbF_at (by simpa using hi) hj, eT i (by simpa using hi), eA i hi]
        match j, hj with
        | 0, _ => rfl
        | 1, _ => rfl
        | 2, _ => rfl
        | 3, _ => rfl) (fun i hi => (hits i hi).1)
      simpa using this
    · have hi' : i < ps.length := by simpa using hi
      rw [eT i hi, eA i hi']
      exact (hits i hi').2.2
/-- a schema that came in -/
theorem readSchema {fuel : Nat} {cs : List Value} {x : DataW H × List MemPlace} (h : DataW.trod enc Try.prog W 0 sp held fuel 24 cs = some x) :
    ∃ (l : List Tb) (a : Option Addr) (c : Nat) (A : Nat → Ad), cs = [.slice a l.length c] ∧ TbsOk l ∧ Tabs W (· < W.heap.size) a l A := by
  obtain ⟨xs, n, hn, -, hlen, hxs, hf⟩ := DataW.trod_struct Try.underlying24 h
  rw [cellsSc] at hlen
  match cs, hlen with
  | [c0], _ =>
    match xs, hxs with
    | [y0], _ =>
      have f0 : DataW.trod enc Try.prog W 0 sp held n 22 [c0] = some y0 := by have := hf 0 _ rfl; simpa [cellsTs] using this
      exact readTables f0
end
end Go.Proofs.Ythakmdkaciopnaa
