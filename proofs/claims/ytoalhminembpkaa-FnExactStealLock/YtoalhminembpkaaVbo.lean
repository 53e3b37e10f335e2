import Derived.Test.YtoalhminembpkaaVbn
namespace Go.Proofs.Ytoalhminembpkaa
open Go.RowKit Go.MuLone
set_option linter.unusedSimpArgs false
theorem ints_one {q : List Int} : ∀ u ∈ ints q, u.oneCell' = true := by
  intro u hu
  unfold ints at hu
  obtain ⟨n, -, rfl⟩ := List.mem_map.1 hu
  rfl
theorem LTab.own2 {base M : Nat} {W : World} {es : List LE} {v : Value} (h : LTab base W es v) (hM : ∀ g, (v.ownBlock = some g ∨ ∃ i, ∃ hi : i < es.length, es[i].u.ownBlock = some g) → g < M) : Own W (dLockS (lks es)) (fun c => base ≤ c ∧ c < M) v := by
  rcases h.ow.2 with ⟨rfl, h0⟩ | ⟨g, cap, cur, rfl, hg, hh, r1, r2, r3, r4⟩
  · exact ⟨none, 0, by rw [lks_len, h0], by rw [lks_len]; omega, .inl (by rw [lks_len, h0])⟩
  refine ⟨_, _, by rw [lks_len], by rw [lks_len]; exact r1, ?_⟩
  by_cases h0 : (lks es).length = 0
  · exact .inl h0
  refine .inr ⟨g, 0, fun i j c => j = 1 ∧ ∃ hi : i < es.length, es[i].u.ownBlock = some c, rfl, ⟨hg, hM g (.inl rfl)⟩, by omega, fun i j c hc => ?_, fun i j i' j' c hc hc' => ?_, fun i j hi hj => ?_⟩
  · obtain ⟨-, hi, hc⟩ := hc
    exact ⟨⟨(h.low (.inr ⟨i, hi, hc⟩)).1, hM c (.inr ⟨i, hi, hc⟩)⟩, fun e => h.dv i hi c hc (by rw [e]; rfl)⟩
  · obtain ⟨h1, hi, h2⟩ := hc
    obtain ⟨h3, hi', h4⟩ := hc'
    exact ⟨h.el.dd i hi i' hi' c h2 h4, by omega⟩
  · have hi2 : i < es.length := by rw [← lks_len]; exact hi
    obtain ⟨g', c', e', -, c0, c1, z0, z1⟩ := h.at hi2
    simp only [Value.slice.injEq, Option.some.injEq, Addr.mk.injEq, and_true, true_and] at e'
    obtain ⟨rfl, rfl⟩ := e'
    rw [lsF_at hi, lks_at]
    rcases (by omega : j = 0 ∨ j = 1) with rfl | rfl
    · exact ⟨_, by rw [Nat.zero_add, Nat.add_zero]; exact c0, by rw [Nat.zero_add, Nat.add_zero]; exact z0, rfl⟩
    · exact ⟨_, by rw [Nat.zero_add]; exact c1, by rw [Nat.zero_add]; exact z1, (h.el.qs i hi2).own.mono (fun c hc => ⟨rfl, hi2, hc⟩)⟩
theorem told_nil (W : World) (B : Nat → Prop) (a : Option Addr) (c : Nat) : Own W (dToldS []) B (.slice a 0 c) := ⟨a, c, rfl, Nat.zero_le _, .inl rfl⟩
def TOw (base pb : Nat) (w' : World) (es : List LE) (v : Value) (T : List ToV) (t : Value) : Prop := ∃ M, base ≤ M ∧ M ≤ w'.heap.size ∧ pb < M ∧ (∀ g, (v.ownBlock = some g ∨ ∃ i, ∃ hi : i < es.length, es[i].u.ownBlock = some g) → g < M) ∧ Own w' (dToldS T) (fun b => M ≤ b ∧ b < w'.heap.size) t
theorem TOw.none {base pb : Nat} {w w' : World} {st : Int} {es : List LE} {v : Value} (h : TW base pb w w' st es v) (a : Option Addr) (c : Nat) : TOw base pb w' es v [] (.slice a 0 c) := by
  have hpb := (Array.getElem?_eq_some_iff.1 h.bx).1
  exact ⟨w'.heap.size, by have := h.lo; omega, Nat.le_refl _, hpb, fun g hg => (h.tb.low hg).2, told_nil _ _ _ _⟩
end Go.Proofs.Ytoalhminembpkaa
