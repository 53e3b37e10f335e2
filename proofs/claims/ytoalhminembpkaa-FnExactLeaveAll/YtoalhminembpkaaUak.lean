import Derived.Test.YtoalhminembpkaaUaf
import Derived.Test.YtoalhminembpkaaProg
import Derived.ProofKit
import Derived.OpenShut
import Derived.Deep.Slices
namespace Go.Proofs.Ytoalhminembpkaa
open Go.RowKit Go.Deep
set_option linter.unusedSimpArgs false
def RdTh (W : World) (n : Nat) (t : Nat → D) (cs : List Value) : Prop := cs.length = n ∧ ∀ j, j < n → ∃ u, cs[j]? = some u ∧ Rd W (· < W.heap.size) (t j) u ∧ (t j).le maxLen
theorem rdT_one {W : World} {t : Nat → D} {v : Value} (h1 : (t 0).le maxLen) (h2 : Rd W (· < W.heap.size) (t 0) v) : RdTh W 1 t [v] := ⟨rfl, fun j hj => by
  obtain rfl : j = 0 := by omega
  exact ⟨v, rfl, h2, h1⟩⟩
theorem list_of {α : Type} (P : Nat → α → Prop) : ∀ len, (∀ i, i < len → ∃ y, P i y) → ∃ l : List α, l.length = len ∧ ∀ i (h : i < l.length), P i l[i]
  | 0, _ => ⟨[], rfl, fun i h => absurd h (by simp)⟩
  | len + 1, hel => by
    obtain ⟨ks, hk, hks⟩ := list_of P len (fun i hi => hel i (by omega))
    obtain ⟨y, hy⟩ := hel len (by omega)
    refine ⟨ks ++ [y], by simp [hk], fun i hi => ?_⟩
    by_cases e : i < ks.length
    · rw [List.getElem_append_left e]; exact hks i e
    · have e2 : i = ks.length := by simp at hi; omega
      subst e2
      rw [List.getElem_append_right (by omega)]
      simp only [Nat.sub_self, List.getElem_cons_zero]
      rw [hk]
      exact hy
section
variable {H : Type} {enc : TypeId × Value → H} {W : World} {sp : Nat → Bool} {held : Bool}
theorem addr_spotD {a : Addr} {v : Value} (h : W.cell? (a.add 0) = some v) : a = ⟨a.block, a.off, none⟩ := by
  obtain ⟨b, off, spot⟩ := a
  have : spot = none := by
    cases spot with
    | none => rfl
    | some s => have := World.cell?_spot h; simp [Addr.add] at this
  rw [this]
theorem rdLs {α : Type} {n : Nat} (hn : 0 < n) (hn' : n ≤ 64) {d : α → Nat → D} {T E : TypeId} (hT : Try.prog.underlying T = some (.slice E)) (hE : Try.prog.cellsOf E = n)
    (hel : ∀ fuel cs x, DataW.trod enc Try.prog W 0 sp held fuel E cs = some x → ∃ y : α, RdTh W n (d y) cs)
    {fuel : Nat} {cs : List Value} {x : DataW H × List MemPlace} (h : DataW.trod enc Try.prog W 0 sp held fuel T cs = some x) :
    ∃ (l : List α) (a : Option Addr) (c : Nat), cs = [.slice a l.length c] ∧ (Ls n d l).le maxLen ∧ Rd W (· < W.heap.size) (Ls n d l) (.slice a l.length c) := by
  rcases DataW.trod_slice hT h with ⟨rfl, -⟩ | ⟨a, len, cap, elems, rest, n', hn2, rfl, -, -, hl, hc, hel', hall, -, -⟩
  · exact ⟨[], none, 0, rfl, Ls_le.2 ⟨hn', by simp, fun i h => absurd h (by simp)⟩, Rd.lsNil _ _⟩
  · rw [hE] at hall
    obtain ⟨l, hit, hits⟩ := list_of (fun i (y : α) => ∃ cs', W.cells? 0 (a.add (i * n)) n = some cs' ∧ RdTh W n (d y) cs') len (fun i hi => by
      have h1 := hall i hi
      rw [List.getElem?_eq_getElem (by omega), Option.bind_eq_some_iff] at h1
      obtain ⟨cs', h2, h3⟩ := h1
      obtain ⟨y, hy⟩ := hel _ _ _ h3
      exact ⟨y, cs', h2, hy⟩)
    refine ⟨l, some a, cap, by rw [hit], Ls_le.2 ⟨hn', by omega, fun i hi j hj => ?_⟩, ?_⟩
    · obtain ⟨cs', -, -, h2⟩ := hits i hi
      obtain ⟨u, -, -, hle⟩ := h2 j hj
      exact hle
    · refine ⟨some a, cap, rfl, by omega, ?_⟩
      by_cases h0 : l.length = 0
      · exact .inl h0
      · have key : ∀ i (h : i < l.length) j, j < n → ∃ u, W.cell? ((a.add (i * n)).add j) = some u ∧ Rd W (· < W.heap.size) (d l[i] j) u := fun i hi j hj => by
          obtain ⟨cs', h1, -, h2⟩ := hits i hi
          obtain ⟨u, hu, hr, -⟩ := h2 j hj
          obtain ⟨-, -, g1⟩ := World.cells?_some h1
          have g2 := g1 j hj
          rw [hu] at g2
          exact ⟨u, g2, hr⟩
        obtain ⟨u, g2, -⟩ := key 0 (by omega) 0 hn
        rw [show (a.add (0 * n)).add 0 = a.add 0 by simp [Addr.add]] at g2
        have ha := addr_spotD g2
        refine .inr ⟨a.block, a.off, by rw [← ha], ?_, hn, fun i j hi hj => ?_⟩
        · have := World.block_lt_of_cell? _ _ g2
          rw [ha] at this
          simpa [Addr.add] using this
        · obtain ⟨u, g3, hr⟩ := key i hi j hj
          rw [ha, Addr.add_mid, Addr.add_mid] at g3
          exact ⟨u, g3, by rw [lsF_at hi]; exact hr⟩
end
end Go.Proofs.Ytoalhminembpkaa
