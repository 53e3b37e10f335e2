import Derived.Test.YthpenliecgpedaaYbe
namespace Go.Proofs.Ythpenliecgpedaa
open Go.RowKit Go.MuLone
set_option linter.unusedSimpArgs false
theorem place_there {l : List LkV} {s : List UInt8} {p : Nat} (h1 : ∀ m (h : m < l.length), m < p → Op.bytesLess l[m].nm s = true) (hp : p < l.length) (hs : l[p].nm = s) : fk l s = p :=
  fk_eq hp hs (fun m hm hmp e => by have h2 := h1 m hm hmp; rw [e, bl_self] at h2; cases h2)
theorem room_there {l : List LkV} {s : List UInt8} {p : Nat} (hf : fk l s = p) (hp : p < l.length) : roomB l s = true ∧ roomL l s = l ∧ roomK l s = p := by
  unfold roomB roomL roomK
  rw [if_pos (by omega), if_pos (by omega), if_pos (by omega)]
  exact ⟨rfl, rfl, hf⟩
theorem insL_at (l : List LkV) (s : List UInt8) (q : List Int) : atL (insL l s q) (pk l s) = ⟨s, q⟩ := by
  have hp := pk_le l s
  rw [atL_at (by rw [insL_len]; omega)]
  unfold insL
  rw [List.getElem_append_left (by simp; omega), List.getElem_append_right (by simp; omega)]
  simp
theorem insL_set (l : List LkV) (s : List UInt8) (q q' : List Int) : (insL l s q).set (pk l s) ⟨s, q'⟩ = insL l s q' := by
  have hp := pk_le l s
  have hl : (l.take (pk l s)).length = pk l s := by rw [List.length_take]; omega
  unfold insL
  rw [List.append_assoc, List.append_assoc, List.set_append_right (h := by omega), hl, Nat.sub_self]
  rfl
theorem take_new {l : List LkV} {n : Int} {s : List UInt8} (hf : fk l s = l.length) (h6 : l.length < 6) : takeL l n s = insL l s [n] ∧ takeB l n s = true ∧ takeC l n s = 0 := by
  have hb : roomB l s = true := by unfold roomB; rw [if_neg (by omega), if_neg (by omega)]
  have hL : roomL l s = insL l s [] := by unfold roomL; rw [if_neg (by omega), if_neg (by omega)]
  have hK : roomK l s = pk l s := by unfold roomK; rw [if_neg (by omega), if_neg (by omega)]
  have hX : tkX l s = ⟨s, []⟩ := by unfold tkX; rw [hL, hK]; exact insL_at l s []
  have hi : tkIn l n s = false := by unfold tkIn; rw [hX]; exact inK_no (Nat.le_refl _) (fun m h => absurd h (by simp))
  obtain ⟨t1, t2, t3⟩ := take_ok hb hi
  rw [t1, t2, t3, hL, hK, hX]
  exact ⟨insL_set l s [] _, rfl, rfl⟩
theorem take_noroom {l : List LkV} {n : Int} {s : List UInt8} (hf : fk l s = l.length) (h6 : l.length = 6) : takeL l n s = l ∧ takeB l n s = false ∧ takeC l n s = 7 := by
  have hb : roomB l s = false := by unfold roomB; rw [if_neg (by omega), if_pos h6]
  obtain ⟨t1, t2, t3⟩ := take_full (n := n) hb
  rw [t1, t2, t3]
  refine ⟨?_, rfl, rfl⟩
  unfold roomL; rw [if_neg (by omega), if_pos h6]
theorem TW.setQ {base pb : Nat} {w V W3 : World} {st : Int} {es : List LE} {g c i : Nat} (h : TW base pb w V st es (.slice (some ⟨g, 0, none⟩) es.length c)) (hi : i < es.length) (hF : Frm (fun b => es[i].u.ownBlock = some b) V W3) (q : List Int) (u : Value) (hu : QOw base W3 q u) (hn : ∀ b, u.ownBlock = some b → es[i].u.ownBlock = some b ∨ V.heap.size ≤ b) (hbb : base ≤ w.heap.size) :
    TW base pb w (W3.setCell ⟨g, i * 2 + 1, none⟩ u) st (es.set i ⟨⟨es[i].x.nm, q⟩, u⟩) (.slice (some ⟨g, 0, none⟩) es.length c) ∧ W3.cell? ⟨g, i * 2 + 1, none⟩ = some es[i].u ∧ W3.frozen? ⟨g, i * 2 + 1, none⟩ = false := by
  have hgl := h.tb.low (g := g) (.inl rfl)
  have hgp : g ≠ pb := h.nb g (.inl rfl)
  have hgu : es[i].u.ownBlock ≠ some g := fun e => h.tb.dv i hi g e rfl
  have hpb := (Array.getElem?_eq_some_iff.1 h.bx).1
  have hup : es[i].u.ownBlock ≠ some pb := fun e => h.nb pb (.inr ⟨i, hi, e⟩) rfl
  refine ⟨⟨?_, h.tb.setQ hi hF q u hu hn, fun y hy => ?_, h.lo, ?_⟩, ?_, ?_⟩
  · rw [Below.heap_setCell _ ⟨g, i * 2 + 1, none⟩ _ _ (by show pb ≠ g; exact fun e => hgp e.symm), hF.block pb hpb hup]; exact h.bx
  · rcases hy with hy | ⟨j, hj, hy⟩
    · exact h.nb y (.inl hy)
    · rw [List.length_set] at hj
      by_cases e : i = j
      · subst e
        rw [List.getElem_set_self] at hy
        rcases hn y hy with h2 | h2
        · exact h.nb y (.inr ⟨i, hi, h2⟩)
        · omega
      · rw [List.getElem_set_ne e] at hy
        exact h.nb y (.inr ⟨j, hj, hy⟩)
  · exact (below_frm h.bel hF (fun b hb => (h.tb.low (.inr ⟨i, hi, hb⟩)).1) hbb).setCell hgl.1 _
  · obtain ⟨g', c3, ev, -, -, e1, -, f1⟩ := h.tb.at hi
    simp only [Value.slice.injEq, Option.some.injEq, Addr.mk.injEq, and_true, true_and] at ev
    obtain ⟨rfl, rfl⟩ := ev
    rw [World.cell?_of_block (a := ⟨g, i * 2 + 1, none⟩) (hF.block g hgl.2 hgu)]; exact e1
  · obtain ⟨g', c3, ev, -, -, e1, -, f1⟩ := h.tb.at hi
    simp only [Value.slice.injEq, Option.some.injEq, Addr.mk.injEq, and_true, true_and] at ev
    obtain ⟨rfl, rfl⟩ := ev
    rw [World.frozen?_of_block (a := ⟨g, i * 2 + 1, none⟩) (hF.block g hgl.2 hgu)]; exact f1
end Go.Proofs.Ythpenliecgpedaa
