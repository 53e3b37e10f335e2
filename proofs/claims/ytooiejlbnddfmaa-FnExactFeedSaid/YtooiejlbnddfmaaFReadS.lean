import Derived.Test.YtooiejlbnddfmaaMem
import Derived.Test.YtooiejlbnddfmaaProg
import Derived.ProofKit
import Derived.OpenShut
import Derived.Deep.Slices
namespace Go.Proofs.Ytooiejlbnddfmaa
open Go.RowKit Go.Deep
theorem cells3 : Try.prog.cellsOf 3 = 1 := by kernel_rfl
theorem cells9 : Try.prog.cellsOf 9 = 1 := by kernel_rfl
theorem cells22 : Try.prog.cellsOf 29 = 1 := by kernel_rfl

section
variable {H : Type} {enc : TypeId × Value → H} {W : World} {sp : Nat → Bool} {held : Bool}

theorem addr_spot {a : Addr} {v : Value} (h : W.cell? (a.add 0) = some v) : a = ⟨a.block, a.off, none⟩ := by
  obtain ⟨b, off, spot⟩ := a
  have : spot = none := by
    cases spot with
    | none => rfl
    | some s => have := World.cell?_spot h; simp [Addr.add] at this
  rw [this]
/-- texts, one a place, as one list -/
theorem texts_of (a : Addr) : ∀ len, (∀ i, i < len → ∃ s : ByteArray, W.cell? (a.add i) = some (.string s) ∧ s.size ≤ maxLen) →
    ∃ keys : List (List UInt8), keys.length = len ∧ ∀ i (h : i < keys.length), W.cell? (a.add i) = some (.string ⟨keys[i].toArray⟩) ∧ keys[i].length ≤ maxLen
  | 0, _ => ⟨[], rfl, fun i h => absurd h (by simp)⟩
  | len + 1, hel => by
    obtain ⟨ks, hk, hks⟩ := texts_of a len (fun i hi => hel i (by omega))
    obtain ⟨s, h1, h2⟩ := hel len (by omega)
    refine ⟨ks ++ [s.data.toList], by simp [hk], fun i hi => ?_⟩
    by_cases e : i < ks.length
    · rw [List.getElem_append_left e]; exact hks i e
    · have e2 : i = ks.length := by simp at hi; omega
      subst e2
      rw [List.getElem_append_right (by omega)]
      simp only [Nat.sub_self, List.getElem_cons_zero]
      rw [hk]
      exact ⟨by rw [h1], h2⟩
/-- values, one a place, as one list -/
theorem values_of (a : Addr) : ∀ len, (∀ i, i < len → ∃ cs j, W.cells? 0 (a.add (i * 5)) 5 = some cs ∧ RJ W (· < W.heap.size) j cs) →
    ∃ items : List J, items.length = len ∧ ∀ i (h : i < items.length), ∃ cs, W.cells? 0 (a.add (i * 5)) 5 = some cs ∧ RJ W (· < W.heap.size) items[i] cs
  | 0, _ => ⟨[], rfl, fun i h => absurd h (by simp)⟩
  | len + 1, hel => by
    obtain ⟨ks, hk, hks⟩ := values_of a len (fun i hi => hel i (by omega))
    obtain ⟨cs, j, h1, h2⟩ := hel len (by omega)
    refine ⟨ks ++ [j], by simp [hk], fun i hi => ?_⟩
    by_cases e : i < ks.length
    · rw [List.getElem_append_left e]; exact hks i e
    · have e2 : i = ks.length := by simp at hi; omega
      subst e2
      rw [List.getElem_append_right (by omega)]
      simp only [Nat.sub_self, List.getElem_cons_zero]
      rw [hk]
      exact ⟨cs, h1, h2⟩

theorem readStrs {fuel : Nat} {cs : List Value} {x : DataW H × List MemPlace} (h : DataW.trod enc Try.prog W 0 sp held fuel 29 cs = some x) :
    ∃ a c keys, cs = [.slice a (List.length keys) c] ∧ keys.length ≤ maxLen ∧ (∀ y ∈ keys, y.length ≤ maxLen) ∧ Strs W (· < W.heap.size) a keys := by
  rcases open_slice Try.underlying29 h with ⟨rfl, -⟩ | ⟨a, len, cap, m, n, D, Pl, rfl, -, hl, hc, hm, -, hall⟩
  · exact ⟨none, 0, [], rfl, by simp, by simp, .inl rfl⟩
  · have hlm : len ≤ m := by rw [hm]; split <;> omega
    have hel : ∀ i, i < len → ∃ s : ByteArray, W.cell? (a.add i) = some (.string s) ∧ s.size ≤ maxLen := fun i hi => by
      obtain ⟨cs', h1, h2⟩ := hall i (by omega)
      rw [cells9, Nat.mul_one] at h1
      obtain ⟨s, rfl, -, hs⟩ := DataW.trod_string Try.underlying9 h2
      obtain ⟨-, -, h3⟩ := World.cells?_some h1
      have h4 := h3 0 (by omega)
      rw [show (a.add i).add 0 = a.add i by unfold Addr.add; split <;> simp_all] at h4
      exact ⟨s, by simpa using h4, hs⟩
    obtain ⟨keys, hk, hkeys⟩ := texts_of a len hel
    refine ⟨some a, cap, keys, by rw [hk], by omega, fun y hy => ?_, ?_⟩
    · obtain ⟨i, hi, rfl⟩ := List.mem_iff_getElem.1 hy
      exact (hkeys i hi).2
    · by_cases h0 : keys.length = 0
      · exact .inl h0
      · have h1 := (hkeys 0 (by omega)).1
        have ha := addr_spot h1
        refine .inr ⟨a.block, a.off, by rw [← ha], ?_, fun i hi => ?_⟩
        · have := World.block_lt_of_cell? _ _ h1
          rw [ha] at this
          simpa [Addr.add] using this
        · have := (hkeys i hi).1
          rw [ha, Addr.add_mid] at this
          exact this
end
end Go.Proofs.Ytooiejlbnddfmaa
