import Derived.Test.YtoalhminembpkaaUbb
import Derived.Laws.OwnMore
namespace Go.Proofs.Ytoalhminembpkaa
open Go.RowKit
set_option linter.unusedSimpArgs false
theorem below_frm {F : Nat → Prop} {base : Nat} {w V W : World} (h : Below base w V) (hF : Frm F V W) (hb : ∀ b, F b → base ≤ b) (hw : base ≤ w.heap.size) : Below base w W :=
  ⟨hF.os.trans h.os, hF.tape.trans h.tape, hF.output.trans h.output, Nat.le_trans h.size hF.size, fun x hx => by
    have := h.size
    rw [hF.block x (by omega) (fun e => by have := hb x e; omega)]; exact h.block x hx⟩
theorem LEs.take {base : Nat} {W : World} {es : List LE} (h : LEs base W es) (k : Nat) : LEs base W (es.take k) :=
  ⟨fun i hi => by rw [List.length_take] at hi; rw [List.getElem_take]; exact h.qs i (by omega), fun i hi j hj g h1 h2 => by
    rw [List.length_take] at hi hj
    rw [List.getElem_take] at h1 h2
    exact h.dd i (by omega) j (by omega) g h1 h2⟩
theorem LTab.pre {base : Nat} {W : World} {es : List LE} {g c : Nat} (h : LTab base W es (.slice (some ⟨g, 0, none⟩) es.length c)) {k : Nat} (hk : k ≤ es.length) : LTab base W (es.take k) (.slice (some ⟨g, 0, none⟩) k c) := by
  refine ⟨?_, h.el.take k, fun i hi b h1 h2 => ?_⟩
  · rcases h.ow.2 with ⟨e, -⟩ | ⟨g2, cap, cur, e, hg2, hh, r1, r2, r3, r4⟩
    · cases e
    simp only [Value.slice.injEq, Option.some.injEq, Addr.mk.injEq, and_true, true_and] at e
    obtain ⟨rfl, rfl⟩ := e
    rw [List.length_take, Nat.min_eq_left hk, ← lcs_take]
    refine ⟨by rw [List.length_take, lcs_len]; omega, .inr ⟨g, c, cur, rfl, hg2, hh, by omega, r2, r3, ?_⟩⟩
    rw [← r4, List.take_take]
    congr 1
    omega
  · rw [List.length_take] at hi
    rw [List.getElem_take] at h1
    exact h.dv i (by omega) b h1 h2
theorem LTab.cells {base : Nat} {W : World} {es : List LE} {g n c : Nat} (h : LTab base W es (.slice (some ⟨g, 0, none⟩) n c)) (j : Nat) (u : Value) (hj : (lcs es)[j]? = some u) : W.cell? ((⟨g, 0, none⟩ : Addr).add j) = some u := by
  rcases h.ow.2 with ⟨e, -⟩ | ⟨g2, cap, cur, e, hg2, hh, r1, r2, r3, r4⟩
  · cases e
  simp only [Value.slice.injEq, Option.some.injEq, Addr.mk.injEq, and_true, true_and] at e
  obtain ⟨rfl, -, rfl⟩ := e
  rw [Addr.add_mid, Nat.zero_add]
  have hlt : j < es.length * 2 := by rw [← lcs_len]; exact (List.getElem?_eq_some_iff.1 hj).1
  rw [← r4, List.getElem?_take_of_lt hlt, Array.getElem?_toList] at hj
  simp [World.cell?, hh, hj]
end Go.Proofs.Ytoalhminembpkaa
