import Derived.Test.YtkncpfhblciplaaYab
import Derived.Test.YtkncpfhblciplaaProg
import Derived.ProofKit
import Derived.OpenShut
import Derived.Deep.Slices
namespace Go.Proofs.Ytkncpfhblciplaa
open Go.RowKit Go.Deep
theorem cells25 : Try.prog.cellsOf 38 = 5 := by kernel_rfl
theorem cells3 : Try.prog.cellsOf 3 = 1 := by kernel_rfl
theorem cells9 : Try.prog.cellsOf 9 = 1 := by kernel_rfl
theorem cells22 : Try.prog.cellsOf 25 = 1 := by kernel_rfl
theorem cells23 : Try.prog.cellsOf 36 = 1 := by kernel_rfl
section
variable {H : Type} {enc : TypeId × Value → H} {W : World} {sp : Nat → Bool} {held : Bool}
theorem addr_spot {a : Addr} {v : Value} (h : W.cell? (a.add 0) = some v) : a = ⟨a.block, a.off, none⟩ := by
  obtain ⟨b, off, spot⟩ := a
  have : spot = none := by
    cases spot with
    | none => rfl
    | some s => have := World.cell?_spot h; simp [Addr.add] at this
  rw [this]
theorem texts_of (a : Addr) : ∀ len, (∀ i, i < len → ∃ s : ByteArray, W.cell? (a.add i) = some (.string s) ∧ s.size ≤ maxLen) →
    ∃ keys : List (List UInt8), keys.length = len ∧ ∀ i (h : i < keys.length), W.cell? (a.add i) = some (.string ⟨keys[i].toArray⟩) ∧ keys[i].length ≤ maxLen
  | 0, _ => ⟨[], rfl, fun i h => absurd h (by simp)⟩
  | len + 1, hel => by
    obtain ⟨ks, hk, hks⟩ := texts_of a len (fun i hi => hel i (by omega))
    obtain ⟨s, h1, h2⟩ := hel len (by omega)
    refine ⟨ks ++ [s.data.toList], by simp [hk], fun i hi => ?_⟩
    by_cases e : i < ks.length
    · rw [List.getElem_append_left e]; exact hks i e
    · have e2 : i = ks.length := by simp at hi; omega
      subst e2
      rw [List.getElem_append_right (by omega)]
      simp only [Nat.sub_self, List.getElem_cons_zero]
      rw [hk]
      exact ⟨by rw [h1], h2⟩
theorem values_of (a : Addr) : ∀ len, (∀ i, i < len → ∃ cs j, W.cells? 0 (a.add (i * 5)) 5 = some cs ∧ RJ W (· < W.heap.size) j cs) →
    ∃ items : List J, items.length = len ∧ ∀ i (h : i < items.length), ∃ cs, W.cells? 0 (a.add (i * 5)) 5 = some cs ∧ RJ W (· < W.heap.size) items[i] cs
  | 0, _ => ⟨[], rfl, fun i h => absurd h (by simp)⟩
  | len + 1, hel => by
    obtain ⟨ks, hk, hks⟩ := values_of a len (fun i hi => hel i (by omega))
    obtain ⟨cs, j, h1, h2⟩ := hel len (by omega)
    refine ⟨ks ++ [j], by simp [hk], fun i hi => ?_⟩
    by_cases e : i < ks.length
    · rw [List.getElem_append_left e]; exact hks i e
    · have e2 : i = ks.length := by simp at hi; omega
      subst e2
      rw [List.getElem_append_right (by omega)]
      simp only [Nat.sub_self, List.getElem_cons_zero]
      rw [hk]
      exact ⟨cs, h1, h2⟩
theorem readStrs {fuel : Nat} {cs : List Value} {x : DataW H × List MemPlace} (h : DataW.trod enc Try.prog W 0 sp held fuel 25 cs = some x) :
    ∃ a c keys, cs = [.slice a (List.length keys) c] ∧ keys.length ≤ maxLen ∧ (∀ y ∈ keys, y.length ≤ maxLen) ∧ Strs W (· < W.heap.size) a keys := by
  rcases open_slice Try.underlying25 h with ⟨rfl, -⟩ | ⟨a, len, cap, m, n, D, Pl, rfl, -, hl, hc, hm, -, hall⟩
  · exact ⟨none, 0, [], rfl, by simp, by simp, .inl rfl⟩
  · have hlm : len ≤ m := by rw [hm]; split <;> omega
    have hel : ∀ i, i < len → ∃ s : ByteArray, W.cell? (a.add i) = some (.string s) ∧ s.size ≤ maxLen := fun i hi => by
      obtain ⟨cs', h1, h2⟩ := hall i (by omega)
      rw [cells9, Nat.mul_one] at h1
      obtain ⟨s, rfl, -, hs⟩ := DataW.trod_string Try.underlying9 h2
      obtain ⟨-, -, h3⟩ := World.cells?_some h1
      have h4 := h3 0 (by omega)
      rw [show (a.add i).add 0 = a.add i by unfold Addr.add; split <;> simp_all] at h4
      exact ⟨s, by simpa using h4, hs⟩
    obtain ⟨keys, hk, hkeys⟩ := texts_of a len hel
    refine ⟨some a, cap, keys, by rw [hk], by omega, fun y hy => ?_, ?_⟩
    · obtain ⟨i, hi, rfl⟩ := List.mem_iff_getElem.1 hy
      exact (hkeys i hi).2
    · by_cases h0 : keys.length = 0
      · exact .inl h0
      · have h1 := (hkeys 0 (by omega)).1
        have ha := addr_spot h1
        refine .inr ⟨a.block, a.off, by rw [← ha], ?_, fun i hi => ?_⟩
        · have := World.block_lt_of_cell? _ _ h1
          rw [ha] at this
          simpa [Addr.add] using this
        · have := (hkeys i hi).1
          rw [ha, Addr.add_mid] at this
          exact this
set_option maxRecDepth 100000 in
theorem readJson : ∀ (fuel : Nat) (cs : List Value) (x : DataW H × List MemPlace), DataW.trod enc Try.prog W 0 sp held fuel 38 cs = some x → ∃ j, RJ W (· < W.heap.size) j cs := by
  intro fuel
  induction fuel using Nat.strongRecOn with
  | ind fuel ih =>
    intro cs x h
    obtain ⟨xs, n, hn, -, hlen, hxs, hf⟩ := DataW.trod_struct Try.underlying38 h
    rw [cells25] at hlen
    match cs, hlen with
    | [c0, c1, c2, c3, c4], _ =>
      match xs, hxs with
      | [y0, y1, y2, y3, y4], _ =>
        have f0 : DataW.trod enc Try.prog W 0 sp held n 3 [c0] = some y0 := by have := hf 0 _ rfl; simpa [cells3] using this
        have f1 : DataW.trod enc Try.prog W 0 sp held n 3 [c1] = some y1 := by have := hf 1 _ rfl; simpa [cells3] using this
        have f2 : DataW.trod enc Try.prog W 0 sp held n 9 [c2] = some y2 := by have := hf 2 _ rfl; simpa [cells9] using this
        have f3 : DataW.trod enc Try.prog W 0 sp held n 25 [c3] = some y3 := by have := hf 3 _ rfl; simpa [cells22] using this
        have f4 : DataW.trod enc Try.prog W 0 sp held n 36 [c4] = some y4 := by have := hf 4 _ rfl; simpa [cells23] using this
        obtain ⟨k, e0, -, -⟩ := DataW.trod_int Try.underlying3 f0
        obtain ⟨m, e1, -, -⟩ := DataW.trod_int Try.underlying3 f1
        obtain ⟨s, e2, -, hs⟩ := DataW.trod_string Try.underlying9 f2
        obtain ⟨ka, kc, keys, e3, hkl, hkx, hks⟩ := readStrs f3
        simp only [List.cons.injEq, and_true] at e0 e1 e2 e3
        subst e0 e1 e2 e3
        have hitems : ∃ ia ic items, c4 = .slice ia (List.length items) ic ∧ items.length ≤ maxLen ∧ Jsons W (· < W.heap.size) ia items := by
          rcases DataW.trod_slice Try.underlying36 f4 with ⟨e4, -⟩ | ⟨a, len, cap, elems, rest, n', hn', e4, -, -, hl, hc, hel, hall, -, -⟩
          · simp only [List.cons.injEq, and_true] at e4
            exact ⟨none, 0, [], e4, by simp, .inl rfl⟩
          · simp only [List.cons.injEq, and_true] at e4
            rw [cells25] at hall
            obtain ⟨items, hit, hits⟩ := values_of (W := W) a len (fun i hi => by
              have h1 := hall i hi
              rw [List.getElem?_eq_getElem (by omega), Option.bind_eq_some_iff] at h1
              obtain ⟨cs', h2, h3⟩ := h1
              obtain ⟨j', hj'⟩ := ih n' (by omega) cs' _ h3
              exact ⟨cs', j', h2, hj'⟩)
            refine ⟨some a, cap, items, by rw [hit]; exact e4, by omega, ?_⟩
            by_cases h0 : items.length = 0
            · exact .inl h0
            · obtain ⟨cs0, g0, r0⟩ := hits 0 (by omega)
              obtain ⟨-, -, g1⟩ := World.cells?_some g0
              have r0' := r0
              rw [RJ_eq] at r0'
              obtain ⟨_, _, _, _, rfl, -⟩ := r0'
              have g2 := g1 0 (by omega)
              rw [show (a.add (0 * 5)).add 0 = a.add 0 by simp [Addr.add]] at g2
              simp only [List.getElem?_cons_zero] at g2
              have ha := addr_spot g2
              refine .inr ⟨a.block, a.off, by rw [← ha], ?_, fun i hi => ?_⟩
              · have := World.block_lt_of_cell? _ _ g2
                rw [ha] at this
                simpa [Addr.add] using this
              · obtain ⟨cs', g3, r3⟩ := hits i hi
                obtain ⟨-, hl5, g4⟩ := World.cells?_some g3
                refine ⟨cs', fun o v hv => ?_, r3⟩
                have ho : o < 5 := by
                  have := (List.getElem?_eq_some_iff.1 hv).1
                  omega
                have g5 := g4 o ho
                rw [ha, Addr.add_mid, Addr.add_mid] at g5
                rw [g5]; exact hv
        obtain ⟨ia, ic, items, rfl, hil, hjs⟩ := hitems
        refine ⟨⟨k, m, s.data.toList, keys, items⟩, ?_⟩
        rw [RJ_eq]
        exact ⟨ka, kc, ia, ic, rfl, hs, hkl, hil, hkx, hks, hjs⟩
end
end Go.Proofs.Ytkncpfhblciplaa
