import Derived.Test.YthpenliecgpedaaZbo
import Derived.Test.YthpenliecgpedaaProg
import Derived.ProofKit
import Derived.OpenShut
import Derived.Deep.Slices
namespace Go.Proofs.Ythpenliecgpedaa
open Go.RowKit Go.Deep
theorem cells5 : Try.prog.cellsOf 5 = 1 := by kernel_rfl
section
variable {H : Type} {enc : TypeId × Value → H} {W : World} {sp : Nat → Bool} {held : Bool}
theorem addr_spotB {a : Addr} {v : Value} (h : W.cell? (a.add 0) = some v) : a = ⟨a.block, a.off, none⟩ := by
  obtain ⟨b, off, spot⟩ := a
  have : spot = none := by
    cases spot with
    | none => rfl
    | some s => have := World.cell?_spot h; simp [Addr.add] at this
  rw [this]
theorem bytes_of (a : Addr) : ∀ len, (∀ i, i < len → ∃ n : Int, W.cell? (a.add i) = some (.int .u8 n) ∧ 0 ≤ n ∧ n ≤ 255) →
    ∃ l : List UInt8, l.length = len ∧ ∀ i (h : i < l.length), W.cell? (a.add i) = some (.int .u8 (l[i].toNat : Nat))
  | 0, _ => ⟨[], rfl, fun i h => absurd h (by simp)⟩
  | len + 1, hel => by
    obtain ⟨ks, hk, hks⟩ := bytes_of a len (fun i hi => hel i (by omega))
    obtain ⟨n, h1, h2, h3⟩ := hel len (by omega)
    refine ⟨ks ++ [UInt8.ofNat n.toNat], by simp [hk], fun i hi => ?_⟩
    by_cases e : i < ks.length
    · rw [List.getElem_append_left e]; exact hks i e
    · have e2 : i = ks.length := by simp at hi; omega
      subst e2
      rw [List.getElem_append_right (by omega)]
      simp only [Nat.sub_self, List.getElem_cons_zero]
      rw [hk, h1]
      have : ((UInt8.ofNat n.toNat).toNat : Int) = n := by
        rw [UInt8.toNat_ofNat']
        omega
      rw [this]
theorem readByts {fuel : Nat} {cs : List Value} {x : DataW H × List MemPlace} (h : DataW.trod enc Try.prog W 0 sp held fuel 22 cs = some x) :
    ∃ a c l, cs = [.slice a (List.length l) c] ∧ Byts W (· < W.heap.size) a l := by
  rcases open_slice Try.underlying22 h with ⟨rfl, -⟩ | ⟨a, len, cap, m, n, D, Pl, rfl, -, hl, hc, hm, -, hall⟩
  · exact ⟨none, 0, [], rfl, .inl rfl⟩
  · have hlm : len ≤ m := by rw [hm]; split <;> omega
    have hel : ∀ i, i < len → ∃ n : Int, W.cell? (a.add i) = some (.int .u8 n) ∧ 0 ≤ n ∧ n ≤ 255 := fun i hi => by
      obtain ⟨cs', h1, h2⟩ := hall i (by omega)
      rw [cells5, Nat.mul_one] at h1
      obtain ⟨n, rfl, -, hs⟩ := DataW.trod_int Try.underlying5 h2
      obtain ⟨-, -, h3⟩ := World.cells?_some h1
      have h4 := h3 0 (by omega)
      rw [show (a.add i).add 0 = a.add i by unfold Addr.add; split <;> simp_all] at h4
      simp only [Lit.wf, Bool.and_eq_true, decide_eq_true_eq] at hs
      exact ⟨n, by simpa using h4, hs.1, hs.2⟩
    obtain ⟨l, hk, hkeys⟩ := bytes_of a len hel
    refine ⟨some a, cap, l, by rw [hk], ?_⟩
    by_cases h0 : l.length = 0
    · exact .inl h0
    · have h1 := hkeys 0 (by omega)
      have ha := addr_spotB h1
      refine .inr ⟨a.block, a.off, by rw [← ha], ?_, fun i hi => ?_⟩
      · have := World.block_lt_of_cell? _ _ h1
        rw [ha] at this
        simpa [Addr.add] using this
      · have := hkeys i hi
        rw [ha, Addr.add_mid] at this
        exact this
end
end Go.Proofs.Ythpenliecgpedaa
