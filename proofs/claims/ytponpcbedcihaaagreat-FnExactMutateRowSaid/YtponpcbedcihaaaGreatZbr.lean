import Derived.Test.YtponpcbedcihaaaGreatZai
import Derived.Test.YtponpcbedcihaaaGreatZbo
import Derived.Test.YtponpcbedcihaaaGreatZbq
namespace Go.Proofs.YtponpcbedcihaaaGreat
open Go.RowKit
set_option linter.unusedSimpArgs false
theorem set_at {α : Type} {l : List α} {k : Nat} {o : α} (h : k < l.length) : (l.set k o)[k]'(by simpa using h) = o := List.getElem_set_self _
theorem set_other {α : Type} {l : List α} {k i : Nat} {o : α} (h : i < l.length) (hn : i ≠ k) : (l.set k o)[i]'(by simpa using h) = l[i] := List.getElem_set_ne (fun e => hn e.symm) _
theorem lsF_set {cs : List (List At)} {k : Nat} {o : List At} (hk : k < cs.length) : lsF cAtomS (cs.set k o) k = cAtomS o := by rw [lsF_at (by simpa using hk), set_at hk]
theorem lsF_set_ne {cs : List (List At)} {k i : Nat} {o : List At} (hi : i < cs.length) (hn : i ≠ k) : lsF cAtomS (cs.set k o) i = lsF cAtomS cs i := by rw [lsF_at (by simpa using hi), lsF_at hi, set_other hi hn]
theorem SG.setA {w W : World} {base : Nat} {G : Nat → Prop} {T : TypeId} {cs : List (List At)} {g cap k : Nat} {o : List At} {a : Option Addr} {cp : Nat} (h : SG w base G T 1 (lsF cAtomS cs) cs.length (.slice (some ⟨g, 0, none⟩) cs.length cap)) (hB : Below w.heap.size w W) (hk : k < cs.length) (ho : Rd W (fun c => (c ≠ g ∧ c < W.heap.size) ∧ G c) (dAtomS o) (.slice a o.length cp)) :
    SG (W.setCell ⟨g, k, none⟩ (.slice a o.length cp)) base G T 1 (lsF cAtomS (cs.set k o)) (cs.set k o).length (.slice (some ⟨g, 0, none⟩) (cs.set k o).length cap) := by
  rw [List.length_set]
  obtain ⟨xs, h1, h2⟩ := h.later hB
  rcases h1.2 with ⟨e, -⟩ | ⟨g', cap', cur, e, hg, hh, r1, r2, r3, r4⟩
  · cases e
  simp only [Value.slice.injEq, Option.some.injEq, Addr.mk.injEq, and_true, true_and] at e
  obtain ⟨rfl, rfl⟩ := e
  have hs : (W.setCell ⟨g, k, none⟩ (.slice a o.length cp)).heap.size = W.heap.size := by simp [World.setCell]
  refine ⟨xs.set k (.slice a o.length cp), ⟨by simpa using h1.1, .inr ⟨g, cap, cur.setIfInBounds k (.slice a o.length cp), rfl, hg, heap_set k _ hh, r1, r2, by simpa using r3, ?_⟩⟩, fun i j hi hj => ?_⟩
  · rw [Array.toList_setIfInBounds, List.take_set, r4]
  obtain rfl : j = 0 := by omega
  have hxl : xs.length = cs.length := by simpa using h1.1
  rw [Nat.mul_one, Nat.add_zero]
  by_cases e : i = k
  · subst e
    refine ⟨_, by rw [List.getElem?_set_self (by omega)], ?_⟩
    rw [lsF_set hk]
    refine Rd.mono (ho.frm (frm_set _ _ _ _) (fun b hb e => hb.1.1 e)) (fun c hc => ⟨⟨?_, by rw [hs]; exact hc.1.2⟩, hc.2⟩)
    intro e2
    simp only [Value.ownBlock, Option.some.injEq] at e2
    exact hc.1.1 e2.symm
  · obtain ⟨u, hu, hr⟩ := h2 i 0 hi hj
    rw [Nat.mul_one, Nat.add_zero] at hu
    refine ⟨u, by rw [List.getElem?_set_ne (fun h => e h.symm)]; exact hu, ?_⟩
    rw [lsF_set_ne hi e]
    exact Rd.mono (hr.frm (frm_set _ _ _ _) (fun b hb e2 => by
      have e3 : b = g := e2
      subst e3
      exact hb.1.1 rfl)) (fun c hc => ⟨⟨hc.1.1, by rw [hs]; exact hc.1.2⟩, hc.2⟩)
theorem own_setA {w W : World} {cs : List (List At)} {q k c : Nat} {B N : Nat → Prop} {o : List At} {a : Option Addr} {cp : Nat} (h : Own w (dAtomSS cs) B (.slice (some ⟨q, 0, none⟩) cs.length c)) (hlt : ∀ b, B b → b < w.heap.size) (hB : Below w.heap.size w W) (hk : k < cs.length) (ho : Own W (dAtomS o) N (.slice a o.length cp)) (hN : ∀ b, N b → w.heap.size ≤ b) :
    Own (W.setCell ⟨q, k, none⟩ (.slice a o.length cp)) (dAtomSS (cs.set k o)) (fun b => B b ∨ N b) (.slice (some ⟨q, 0, none⟩) (cs.set k o).length c) := by
  obtain ⟨a0, c0, e, h⟩ := h.later hB
  rcases h with h | ⟨b, off, X, ha, hb, hn, hX, hd, hc⟩
  · omega
  simp only [Value.slice.injEq, true_and] at e
  obtain ⟨rfl, rfl⟩ := e
  simp only [Option.some.injEq, Addr.mk.injEq, and_true] at ha
  obtain ⟨rfl, rfl⟩ := ha
  have hNq : ∀ b, N b → ¬ B b := fun b h1 h2 => by have := hlt b h2; have := hN b h1; omega
  refine ⟨_, c, rfl, .inr ⟨q, 0, fun i j b => if i = k then j = 0 ∧ N b else X i j b, rfl, .inl hb, hn, ?_, ?_, fun i j hi hj => ?_⟩⟩
  · intro i j b h
    split at h
    · exact ⟨.inr h.2, fun e => hNq b h.2 (by rw [e]; exact hb)⟩
    · exact ⟨.inl (hX i j b h).1, (hX i j b h).2⟩
  · intro i j i' j' b h h'
    split at h
    · rename_i e1
      split at h'
      · rename_i e2; exact ⟨e1.trans e2.symm, h.1.trans h'.1.symm⟩
      · exact absurd (hX _ _ _ h').1 (hNq b h.2)
    · split at h'
      · exact absurd (hX _ _ _ h).1 (hNq b h'.2)
      · exact hd i j i' j' b h h'
  obtain rfl : j = 0 := by omega
  rw [List.length_set] at hi
  obtain ⟨u, hu, hz, hr⟩ := hc i 0 hi (by omega)
  rw [Nat.mul_one, Nat.zero_add, Nat.add_zero] at hu hz ⊢
  by_cases e : i = k
  · subst e
    refine ⟨.slice a o.length cp, by simp [World.cell?_setCell_same, hu], by simpa using hz, ?_⟩
    rw [lsF_set hk]
    exact Own.mono (B := N) (ho.frm (frm_set _ _ _ _) (fun b hb2 e => hNq b hb2 (by rw [show b = q from e]; exact hb))) (fun b hb2 => by show (if i = i then _ else _); rw [if_pos rfl]; exact ⟨rfl, hb2⟩)
  · refine ⟨u, ?_, by simpa using hz, ?_⟩
    · rw [World.cell?_setCell_other]
      · exact hu
      · simp <;> omega
    · rw [lsF_set_ne hi e]
      exact Own.mono (B := X i 0) (hr.frm (frm_set _ _ _ _) (fun b hb2 => (hX i 0 b hb2).2)) (fun b hb2 => by show (if i = k then _ else _); rw [if_neg e]; exact hb2)
theorem OwnAts.own {w : World} {B : Nat → Prop} {a : Option Addr} {l : List At} (h : OwnAts w B a l) (c : Nat) : Own w (dAtomS l) B (.slice a l.length c) := by
  refine ⟨a, c, rfl, ?_⟩
  rcases h with h | ⟨b, off, ha, hb, hc⟩
  · exact .inl h
  refine .inr ⟨b, off, fun _ _ _ => False, ha, hb, by omega, fun _ _ _ h => h.elim, fun _ _ _ _ _ h => h.elim, fun i j hi hj => ?_⟩
  obtain ⟨h1, h2⟩ := hc (i * 3 + j) (by omega)
  rw [← Nat.add_assoc] at h1 h2
  refine ⟨_, h1, h2, ?_⟩
  rw [lsF_at hi]
  rcases (by omega : j = 0 ∨ j = 1 ∨ j = 2) with rfl | rfl | rfl
  · rw [Nat.add_zero, atF0 hi]; rfl
  · rw [atF1 hi]; rfl
  · rw [atF2 hi]; rfl
noncomputable def rowM (t : Tb) : List (List At) → List MutV → Int × List (List At)
  | cs, [] => (0, cs)
  | cs, c :: l => if (mutP (t.cols.getD (placeC t.cols c.col).toNat clZ) (cs.getD (placeC t.cols c.col).toNat []) c).1 = 0 then rowM t (cs.set (placeC t.cols c.col).toNat (mutP (t.cols.getD (placeC t.cols c.col).toNat clZ) (cs.getD (placeC t.cols c.col).toNat []) c).2) l else ((mutP (t.cols.getD (placeC t.cols c.col).toNat clZ) (cs.getD (placeC t.cols c.col).toNat []) c).1, [])
def RowI (t : Tb) (cs : List (List At)) : Prop := ∃ h : cs.length = t.cols.length, ∀ i (hi : i < t.cols.length), colB t.cols[i] = true ∧ Dk t.cols[i].k (cs[i]'(by omega)) ∧ (cs[i]'(by omega)).length ≤ 8
theorem rowM_step {t : Tb} {cs : List (List At)} {list : List MutV} {m k : Nat} (hm : m < list.length) (hk : k < t.cols.length) (hl : cs.length = t.cols.length) (hp : placeC t.cols list[m].col = (k : Int)) (h0 : (mutP t.cols[k] (cs[k]'(by omega)) list[m]).1 = 0) : rowM t cs (list.drop m) = rowM t (cs.set k (mutP t.cols[k] (cs[k]'(by omega)) list[m]).2) (list.drop (m + 1)) := by
  rw [List.drop_eq_getElem_cons hm]
  conv => lhs; unfold rowM
  rw [hp, Int.toNat_natCast]
  have e1 : t.cols.getD k clZ = t.cols[k] := by rw [List.getD_eq_getElem?_getD, List.getElem?_eq_getElem hk]; rfl
  have e2 : cs.getD k [] = cs[k]'(by omega) := by rw [List.getD_eq_getElem?_getD, List.getElem?_eq_getElem (by omega)]; rfl
  rw [e1, e2, if_pos h0]
theorem rowM_stop {t : Tb} {cs : List (List At)} {list : List MutV} {m k : Nat} (hm : m < list.length) (hk : k < t.cols.length) (hl : cs.length = t.cols.length) (hp : placeC t.cols list[m].col = (k : Int)) (h0 : ¬ (mutP t.cols[k] (cs[k]'(by omega)) list[m]).1 = 0) : rowM t cs (list.drop m) = ((mutP t.cols[k] (cs[k]'(by omega)) list[m]).1, []) := by
  rw [List.drop_eq_getElem_cons hm]
  unfold rowM
  rw [hp, Int.toNat_natCast]
  have e1 : t.cols.getD k clZ = t.cols[k] := by rw [List.getD_eq_getElem?_getD, List.getElem?_eq_getElem hk]; rfl
  have e2 : cs.getD k [] = cs[k]'(by omega) := by rw [List.getD_eq_getElem?_getD, List.getElem?_eq_getElem (by omega)]; rfl
  rw [e1, e2, if_neg h0]
theorem mutC_place {t : Tb} {c : MutV} (h : mutC t c = 0) : ∃ k, ∃ hk : k < t.cols.length, placeC t.cols c.col = (k : Int) ∧ mutK t.cols[k].k c = 0 := by
  rcases place_cases t.cols c.col with hp | ⟨k, hk, hp⟩
  · rw [mut_none hp] at h; omega
  · exact ⟨k, hk, hp, (mut_at hk hp).symm.trans h⟩
theorem CanM.row {t : Tb} {cs : List (List At)} {c : MutV} {k : Nat} (hI : RowI t cs) (hk : k < t.cols.length) (hm : mutB c = true) (hc : mutK t.cols[k].k c = 0) : CanM t.cols[k] (cs[k]'(by have := hI.1; omega)) c := by
  obtain ⟨hl, hI⟩ := hI
  obtain ⟨h1, h2, h3⟩ := hI k hk
  unfold mutB inB at hm
  simp only [Bool.and_eq_true, decide_eq_true_eq] at hm
  have hkn : kindNo t.cols[k].k c.val = false := by
    cases e : kindNo t.cols[k].k c.val
    · rfl
    · rw [mutK_kind e] at hc; omega
  have hv := Dk.of (k := t.cols[k].k) hm.2.1 (fun h0 => by
    rw [kindNo_at h0] at hkn
    rw [at_getD h0]
    simpa using hkn)
  refine ⟨h1, h3, h2, hv.2, hv.1, hm.1, fun h5 => ?_⟩
  by_cases e1 : t.cols[k].k = 1
  · by_cases e2 : c.val.length = 1
    · exact ⟨e1, e2⟩
    · rw [mutK_no hkn h5 (.inr e2)] at hc; omega
  · rw [mutK_no hkn h5 (.inl e1)] at hc; omega
theorem RowI.set {t : Tb} {cs : List (List At)} {k : Nat} {o : List At} (hI : RowI t cs) (hk : k < t.cols.length) (hd : Dk t.cols[k].k o) (h8 : o.length ≤ 8) : RowI t (cs.set k o) := by
  obtain ⟨hl, hI⟩ := hI
  refine ⟨by rw [List.length_set]; exact hl, fun i hi => ?_⟩
  obtain ⟨h1, h2, h3⟩ := hI i hi
  by_cases e : i = k
  · subst e
    rw [set_at (by omega)]
    exact ⟨h1, hd, h8⟩
  · rw [set_other (by omega) e]
    exact ⟨h1, h2, h3⟩
end Go.Proofs.YtponpcbedcihaaaGreat
