import Derived.Test.YtkjfefjkelckiaaXaf
import Derived.Test.YtkjfefjkelckiaaXae
import Derived.Test.YtkjfefjkelckiaaXal
import Derived.Deep.RegionWith
import Derived.BigQuiet
import Derived.Test.YtkjfefjkelckiaaXam
namespace Go.Proofs.Ytkjfefjkelckiaa
open Go.RowKit
set_option linter.unusedSimpArgs false
theorem Rd.toRw {α : Type} {w : World} {B : Nat → Prop} {n : Nat} {d : α → Nat → D} {l : List α} {a : Option Addr} {c : Nat} (h : Rd w B (Ls n d l) (.slice a l.length c)) (hn : 0 < n) (F : Nat → Value) (hF : ∀ i (hi : i < l.length) j u, j < n → Rd w B (d l[i] j) u → u = F (i * n + j)) : Rw w B a (l.length * n) F := by
  by_cases h0 : l.length = 0
  · exact .inl (by rw [h0]; simp)
  obtain ⟨b, off, ha, hb, -⟩ := h.things 0 (by omega)
  subst ha
  refine .inr ⟨b, off, rfl, hb, fun m hm => ?_⟩
  have hi : m / n < l.length := by rw [Nat.div_lt_iff_lt_mul hn]; exact hm
  have hj : m % n < n := Nat.mod_lt _ hn
  obtain ⟨u, hu, hr⟩ := h.spotT hi hj
  rw [Nat.add_assoc, Nat.div_add_mod'] at hu
  rw [hu, hF _ hi _ u hj hr, Nat.div_add_mod']
theorem Rd.ats {w : World} {B : Nat → Prop} {l : List At} {a : Option Addr} {c : Nat} (h : Rd w B (dAtomS l) (.slice a l.length c)) : Ats w B a l := by
  have hr := Rd.toRw (d := dAtom) (n := 3) h (by omega) (atF l) (fun i hi j u hj hr => by
    rcases (by omega : j = 0 ∨ j = 1 ∨ j = 2) with rfl | rfl | rfl
    · rw [Nat.add_zero, atF0 hi]; exact hr
    · rw [atF1 hi]; exact hr
    · rw [atF2 hi]; exact hr)
  rcases hr with h0 | ⟨b, off, ha, hb, hc⟩
  · exact .inl (by omega)
  · exact .inr ⟨b, off, ha, hb, hc⟩
theorem le_atoms {l : List At} (h : (dAtomS l).le maxLen) : l.length ≤ maxLen ∧ ∀ x ∈ l, x.t.length ≤ maxLen := by
  refine ⟨(Ls_le.1 h).2.1, fun x hx => ?_⟩
  obtain ⟨i, hi, rfl⟩ := List.mem_iff_getElem.1 hx
  exact (Ls_le.1 h).2.2 i hi 2 (by omega)
end Go.Proofs.Ytkjfefjkelckiaa
