import Derived.Test.YthpenliecgpedaaZbh
namespace Go.Proofs.Ythpenliecgpedaa
open Go.RowKit Go.MuLone
set_option linter.unusedSimpArgs false
theorem ints_one {q : List Int} : ∀ u ∈ ints q, u.oneCell' = true := by
  intro u hu
  unfold ints at hu
  obtain ⟨n, -, rfl⟩ := List.mem_map.1 hu
  rfl
theorem ints_del (q : List Int) (i : Nat) : (ints q).take i ++ (ints q).drop (i + 1) = ints (q.take i ++ q.drop (i + 1)) := by unfold ints; rw [List.map_append, List.map_take, List.map_drop]
theorem delQOw {base : Nat} {W : World} {q : List Int} {u : Value} {i : Nat} (h : QOw base W q u) (hi : i < q.length) (hq : q.length ≤ 1000) :
    Calls Try.prog 60 #[u, .int .i64 i, .int .i64 ((i : Int) + 1)] W fun e w' => ∃ a c, e = .returned (.slice a (q.take i ++ q.drop (i + 1)).length c) ∧ QOw base w' (q.take i ++ q.drop (i + 1)) (.slice a (q.take i ++ q.drop (i + 1)).length c) ∧ Frm (fun b => u.ownBlock = some b) W w' ∧ ∀ b, Value.ownBlock (.slice a (q.take i ++ q.drop (i + 1)).length c) = some b → u.ownBlock = some b := by
  rcases h.2 with ⟨rfl, h0⟩ | ⟨g, cap, cur, rfl, hg, hh, r1, r2, r3, r4⟩
  · omega
  have hl : (q.take i ++ q.drop (i + 1)).length = q.length - 1 := by rw [List.length_append, List.length_take, List.length_drop]; omega
  have hm : q.length = (q.length - 1) + 1 := by omega
  have h1 := deleteN (q.length - 1) i cap g cur (ints q) W (by omega) (by omega) (by omega) r2 hh (by omega) (by rw [← r4]; congr 1; omega) ints_one
  rw [← hm] at h1
  refine h1.mono ?_
  rintro e w' ⟨cur', rfl, hh', ht, hsz, hF⟩
  have hfr : Frm (fun b => Value.ownBlock (.slice (some ⟨g, 0, none⟩) q.length cap) = some b) W w' := ⟨hF.os, hF.tape, hF.output, hF.size, fun b hb hn => hF.block b hb (fun e => hn (by rw [e]; rfl))⟩
  refine ⟨some ⟨g, 0, none⟩, cap, by rw [hl], ⟨by rw [ints_len]; omega, .inr ⟨g, cap, cur', rfl, hg, hh', by omega, r2, by omega, ?_⟩⟩, hfr, fun b hb => by cases hb; rfl⟩
  rw [← ints_del, ← ht]
  congr 1
  omega
theorem delLTab {base : Nat} {W : World} {es : List LE} {g c p : Nat} (h : LTab base W es (.slice (some ⟨g, 0, none⟩) es.length c)) (hp : p < es.length) (hq : es.length ≤ 1000) :
    Calls Try.prog 61 #[.slice (some ⟨g, 0, none⟩) es.length c, .int .i64 p, .int .i64 ((p : Int) + 1)] W fun e w' => e = .returned (.slice (some ⟨g, 0, none⟩) (delE es p).length c) ∧ LTab base w' (delE es p) (.slice (some ⟨g, 0, none⟩) (delE es p).length c) ∧ Frm (· = g) W w' := by
  rcases h.ow.2 with ⟨e0, h0⟩ | ⟨g2, cap, cur, e, hg, hh, r1, r2, r3, r4⟩
  · cases e0
  simp only [Value.slice.injEq, Option.some.injEq, Addr.mk.injEq, and_true, true_and] at e
  obtain ⟨rfl, rfl⟩ := e
  have hl := delE_len hp
  have hm : es.length = (es.length - 1) + 1 := by omega
  have h1 := deleteK (es.length - 1) p c g cur (lcs es) W (by omega) (by omega) (by omega) r2 hh (by omega) (by rw [← r4]; congr 1; omega) (lcs_one h.el.one)
  rw [← hm] at h1
  refine h1.mono ?_
  have hd : (lcs es).take (p * 2) ++ (lcs es).drop ((p + 1) * 2) = lcs (delE es p) := by rw [lcs_take, lcs_drop, ← lcs_app]; rfl
  rintro e w' ⟨cur', rfl, hh', ht, hsz, hF⟩
  have hO : w'.ownsRow base 54 2 (.slice (some ⟨g, 0, none⟩) (delE es p).length c) (delE es p).length (lcs (delE es p)) := ⟨lcs_len _, .inr ⟨g, c, cur', rfl, hg, hh', by omega, r2, by omega, by rw [← hd, ← ht]; congr 1; omega⟩⟩
  exact ⟨by rw [show (delE es p).length = es.length - 1 by omega], h.del hp hO hF (fun b hb => .inl (by cases hb; rfl)), hF⟩
theorem TW.del {base pb : Nat} {w V W' : World} {st : Int} {es : List LE} {g c p : Nat} (h : TW base pb w V st es (.slice (some ⟨g, 0, none⟩) es.length c)) (hp : p < es.length) (hT : LTab base W' (delE es p) (.slice (some ⟨g, 0, none⟩) (delE es p).length c)) (hF : Frm (· = g) V W') (hbb : base ≤ w.heap.size) :
    TW base pb w (W'.setCell ⟨pb, 2, none⟩ (.slice (some ⟨g, 0, none⟩) (delE es p).length c)) st (delE es p) (.slice (some ⟨g, 0, none⟩) (delE es p).length c) ∧ W'.cell? ⟨pb, 2, none⟩ = some (.slice (some ⟨g, 0, none⟩) es.length c) ∧ W'.frozen? ⟨pb, 2, none⟩ = false := by
  have hgp : g ≠ pb := h.nb g (.inl rfl)
  have hpb := (Array.getElem?_eq_some_iff.1 h.bx).1
  have hb9 := (hF.block pb hpb (fun e => hgp e.symm)).trans h.bx
  have hnb : ∀ y, (Value.ownBlock (.slice (some ⟨g, 0, none⟩) (delE es p).length c) = some y ∨ ∃ i, ∃ hi : i < (delE es p).length, (delE es p)[i].u.ownBlock = some y) → y ≠ pb := fun y hy => by
    rcases hy with hy | ⟨i, hi, hy⟩
    · have e : y = g := by cases hy; rfl
      rw [e]; exact hgp
    · obtain ⟨j, hj, e1, -⟩ := delE_at hp hi
      rw [e1] at hy
      exact h.nb y (.inr ⟨j, hj, hy⟩)
  exact ⟨⟨by rw [heap_set 2 _ hb9]; rfl, hT.same (fun y hy => Below.heap_setCell _ ⟨pb, 2, none⟩ _ _ (by show y ≠ pb; exact hnb y hy)), hnb, h.lo, (below_frm h.bel hF (fun b hb => by rw [hb]; exact (h.tb.low (.inl rfl)).1) hbb).setCell (by exact h.lo) _⟩, cell_at (o := 2) hb9 rfl, frozen_at 2 hb9⟩
theorem LTab.own2 {base M : Nat} {W : World} {es : List LE} {v : Value} (h : LTab base W es v) (hM : ∀ g, (v.ownBlock = some g ∨ ∃ i, ∃ hi : i < es.length, es[i].u.ownBlock = some g) → g < M) : Own W (dLockS (lks es)) (fun c => base ≤ c ∧ c < M) v := by
  rcases h.ow.2 with ⟨rfl, h0⟩ | ⟨g, cap, cur, rfl, hg, hh, r1, r2, r3, r4⟩
  · exact ⟨none, 0, by rw [lks_len, h0], by rw [lks_len]; omega, .inl (by rw [lks_len, h0])⟩
  refine ⟨_, _, by rw [lks_len], by rw [lks_len]; exact r1, ?_⟩
  by_cases h0 : (lks es).length = 0
  · exact .inl h0
  refine .inr ⟨g, 0, fun i j c => j = 1 ∧ ∃ hi : i < es.length, es[i].u.ownBlock = some c, rfl, ⟨hg, hM g (.inl rfl)⟩, by omega, fun i j c hc => ?_, fun i j i' j' c hc hc' => ?_, fun i j hi hj => ?_⟩
  · obtain ⟨-, hi, hc⟩ := hc
    exact ⟨⟨(h.low (.inr ⟨i, hi, hc⟩)).1, hM c (.inr ⟨i, hi, hc⟩)⟩, fun e => h.dv i hi c hc (by rw [e]; rfl)⟩
  · obtain ⟨h1, hi, h2⟩ := hc
    obtain ⟨h3, hi', h4⟩ := hc'
    exact ⟨h.el.dd i hi i' hi' c h2 h4, by omega⟩
  · have hi2 : i < es.length := by rw [← lks_len]; exact hi
    obtain ⟨g', c', e', -, c0, c1, z0, z1⟩ := h.at hi2
    simp only [Value.slice.injEq, Option.some.injEq, Addr.mk.injEq, and_true, true_and] at e'
    obtain ⟨rfl, rfl⟩ := e'
    rw [lsF_at hi, lks_at]
    rcases (by omega : j = 0 ∨ j = 1) with rfl | rfl
    · exact ⟨_, by rw [Nat.zero_add, Nat.add_zero]; exact c0, by rw [Nat.zero_add, Nat.add_zero]; exact z0, rfl⟩
    · exact ⟨_, by rw [Nat.zero_add]; exact c1, by rw [Nat.zero_add]; exact z1, (h.el.qs i hi2).own.mono (fun c hc => ⟨rfl, hi2, hc⟩)⟩
theorem told_nil (W : World) (B : Nat → Prop) (a : Option Addr) (c : Nat) : Own W (dToldS []) B (.slice a 0 c) := ⟨a, c, rfl, Nat.zero_le _, .inl rfl⟩
def TOw (base pb : Nat) (w' : World) (es : List LE) (v : Value) (T : List ToV) (t : Value) : Prop := ∃ M, base ≤ M ∧ M ≤ w'.heap.size ∧ pb < M ∧ (∀ g, (v.ownBlock = some g ∨ ∃ i, ∃ hi : i < es.length, es[i].u.ownBlock = some g) → g < M) ∧ Own w' (dToldS T) (fun b => M ≤ b ∧ b < w'.heap.size) t
theorem TOw.none {base pb : Nat} {w w' : World} {st : Int} {es : List LE} {v : Value} (h : TW base pb w w' st es v) (a : Option Addr) (c : Nat) : TOw base pb w' es v [] (.slice a 0 c) := by
  have hpb := (Array.getElem?_eq_some_iff.1 h.bx).1
  exact ⟨w'.heap.size, by have := h.lo; omega, Nat.le_refl _, hpb, fun g hg => (h.tb.low hg).2, told_nil _ _ _ _⟩
end Go.Proofs.Ythpenliecgpedaa
