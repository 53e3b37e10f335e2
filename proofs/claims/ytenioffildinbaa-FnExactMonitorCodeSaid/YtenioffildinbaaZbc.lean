import Derived.Test.YtenioffildinbaaZaf
import Derived.Test.YtenioffildinbaaZbb
import Derived.Test.YtenioffildinbaaZar
import Derived.Test.YtenioffildinbaaZal
namespace Go.Proofs.Ytenioffildinbaa
open Go.RowKit
set_option linter.unusedSimpArgs false
theorem Rd.toRw {α : Type} {w : World} {B : Nat → Prop} {n : Nat} {d : α → Nat → D} {l : List α} {a : Option Addr} {c : Nat} (h : Rd w B (Ls n d l) (.slice a l.length c)) (hn : 0 < n) (F : Nat → Value) (hF : ∀ i (hi : i < l.length) j u, j < n → Rd w B (d l[i] j) u → u = F (i * n + j)) : Rw w B a (l.length * n) F := by
  by_cases h0 : l.length = 0
  · exact .inl (by rw [h0]; simp)
  obtain ⟨b, off, ha, hb, -⟩ := h.things 0 (by omega)
  subst ha
  refine .inr ⟨b, off, rfl, hb, fun m hm => ?_⟩
  have hi : m / n < l.length := by rw [Nat.div_lt_iff_lt_mul hn]; exact hm
  have hj : m % n < n := Nat.mod_lt _ hn
  obtain ⟨u, hu, hr⟩ := h.spotT hi hj
  rw [Nat.add_assoc, Nat.div_add_mod'] at hu
  rw [hu, hF _ hi _ u hj hr, Nat.div_add_mod']
theorem Rd.ats {w : World} {B : Nat → Prop} {l : List At} {a : Option Addr} {c : Nat} (h : Rd w B (dAtomS l) (.slice a l.length c)) : Ats w B a l := by
  have hr := Rd.toRw (d := dAtom) (n := 3) h (by omega) (atF l) (fun i hi j u hj hr => by
    rcases (by omega : j = 0 ∨ j = 1 ∨ j = 2) with rfl | rfl | rfl
    · rw [Nat.add_zero, atF0 hi]; exact hr
    · rw [atF1 hi]; exact hr
    · rw [atF2 hi]; exact hr)
  rcases hr with h0 | ⟨b, off, ha, hb, hc⟩
  · exact .inl (by omega)
  · exact .inr ⟨b, off, ha, hb, hc⟩
theorem Rd.cols {w : World} {B : Nat → Prop} {l : List Cl} {a : Option Addr} {c : Nat} (h : Rd w B (dColumnS l) (.slice a l.length c)) : Cols w B a l :=
  Rd.toRw (d := dColumn) (n := 8) h (by omega) (clF l) (fun i hi j u hj hr => by
    rw [clF_at hi hj]
    rcases (by omega : j = 0 ∨ j = 1 ∨ j = 2 ∨ j = 3 ∨ j = 4 ∨ j = 5 ∨ j = 6 ∨ j = 7) with rfl | rfl | rfl | rfl | rfl | rfl | rfl | rfl <;> exact hr)
theorem Rd.ints {w : World} {B : Nat → Prop} {l : List Int} {a : Option Addr} {c : Nat} (h : Rd w B (dIntS l) (.slice a l.length c)) : Ints w B a l := by
  have hr := Rd.toRw (d := cInt) (n := 1) h (by omega) (fun m => .int .i64 (l.getD m 0)) (fun i hi j u hj hr => by
    obtain rfl : j = 0 := by omega
    rw [Nat.mul_one, Nat.add_zero, List.getD_eq_getElem?_getD, List.getElem?_eq_getElem hi]; exact hr)
  rwa [Nat.mul_one] at hr
theorem le_atoms {l : List At} (h : (dAtomS l).le maxLen) : l.length ≤ maxLen ∧ ∀ x ∈ l, x.t.length ≤ maxLen := by
  refine ⟨(Ls_le.1 h).2.1, fun x hx => ?_⟩
  obtain ⟨i, hi, rfl⟩ := List.mem_iff_getElem.1 hx
  exact (Ls_le.1 h).2.2 i hi 2 (by omega)
theorem le_table {t : Tb} (hn : t.nm.length ≤ maxLen) (hc : (dColumnS t.cols).le maxLen) (hu : (dIntS t.uq).le maxLen) : t.ok := by
  refine ⟨hn, (Ls_le.1 hc).2.1, fun x hx => ?_, (Ls_le.1 hu).2.1⟩
  obtain ⟨i, hi, rfl⟩ := List.mem_iff_getElem.1 hx
  exact ⟨(Ls_le.1 hc).2.2 i hi 0 (by omega), (Ls_le.1 hc).2.2 i hi 6 (by omega)⟩
theorem Rd.hasT {w : World} {B : Nat → Prop} {t : Tb} {ca ua : Option Addr} {cc uc : Nat} (hc : Rd w B (dColumnS t.cols) (.slice ca t.cols.length cc)) (hu : Rd w B (dIntS t.uq) (.slice ua t.uq.length uc)) : t.Has w B ca ua := ⟨hc.cols, hu.ints⟩
end Go.Proofs.Ytenioffildinbaa
