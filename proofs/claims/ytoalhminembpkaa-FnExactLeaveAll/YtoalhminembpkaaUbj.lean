import Derived.Test.YtoalhminembpkaaUbi
namespace Go.Proofs.Ytoalhminembpkaa
open Go.RowKit Go.MuLone
set_option linter.unusedSimpArgs false
theorem place_there {l : List LkV} {s : List UInt8} {p : Nat} (h1 : ∀ m (h : m < l.length), m < p → Op.bytesLess l[m].nm s = true) (hp : p < l.length) (hs : l[p].nm = s) : fk l s = p :=
  fk_eq hp hs (fun m hm hmp e => by have h2 := h1 m hm hmp; rw [e, bl_self] at h2; cases h2)
theorem TW.setQ {base pb : Nat} {w V W3 : World} {st : Int} {es : List LE} {g c i : Nat} (h : TW base pb w V st es (.slice (some ⟨g, 0, none⟩) es.length c)) (hi : i < es.length) (hF : Frm (fun b => es[i].u.ownBlock = some b) V W3) (q : List Int) (u : Value) (hu : QOw base W3 q u) (hn : ∀ b, u.ownBlock = some b → es[i].u.ownBlock = some b ∨ V.heap.size ≤ b) (hbb : base ≤ w.heap.size) :
    TW base pb w (W3.setCell ⟨g, i * 2 + 1, none⟩ u) st (es.set i ⟨⟨es[i].x.nm, q⟩, u⟩) (.slice (some ⟨g, 0, none⟩) es.length c) ∧ W3.cell? ⟨g, i * 2 + 1, none⟩ = some es[i].u ∧ W3.frozen? ⟨g, i * 2 + 1, none⟩ = false := by
  have hgl := h.tb.low (g := g) (.inl rfl)
  have hgp : g ≠ pb := h.nb g (.inl rfl)
  have hgu : es[i].u.ownBlock ≠ some g := fun e => h.tb.dv i hi g e rfl
  have hpb := (Array.getElem?_eq_some_iff.1 h.bx).1
  have hup : es[i].u.ownBlock ≠ some pb := fun e => h.nb pb (.inr ⟨i, hi, e⟩) rfl
  refine ⟨⟨?_, h.tb.setQ hi hF q u hu hn, fun y hy => ?_, h.lo, ?_⟩, ?_, ?_⟩
  · rw [Below.heap_setCell _ ⟨g, i * 2 + 1, none⟩ _ _ (by show pb ≠ g; exact fun e => hgp e.symm), hF.block pb hpb hup]; exact h.bx
  · rcases hy with hy | ⟨j, hj, hy⟩
    · exact h.nb y (.inl hy)
    · rw [List.length_set] at hj
      by_cases e : i = j
      · subst e
        rw [List.getElem_set_self] at hy
        rcases hn y hy with h2 | h2
        · exact h.nb y (.inr ⟨i, hi, h2⟩)
        · omega
      · rw [List.getElem_set_ne e] at hy
        exact h.nb y (.inr ⟨j, hj, hy⟩)
  · exact (below_frm h.bel hF (fun b hb => (h.tb.low (.inr ⟨i, hi, hb⟩)).1) hbb).setCell hgl.1 _
  · obtain ⟨g', c3, ev, -, -, e1, -, f1⟩ := h.tb.at hi
    simp only [Value.slice.injEq, Option.some.injEq, Addr.mk.injEq, and_true, true_and] at ev
    obtain ⟨rfl, rfl⟩ := ev
    rw [World.cell?_of_block (a := ⟨g, i * 2 + 1, none⟩) (hF.block g hgl.2 hgu)]; exact e1
  · obtain ⟨g', c3, ev, -, -, e1, -, f1⟩ := h.tb.at hi
    simp only [Value.slice.injEq, Option.some.injEq, Addr.mk.injEq, and_true, true_and] at ev
    obtain ⟨rfl, rfl⟩ := ev
    rw [World.frozen?_of_block (a := ⟨g, i * 2 + 1, none⟩) (hF.block g hgl.2 hgu)]; exact f1
end Go.Proofs.Ytoalhminembpkaa
