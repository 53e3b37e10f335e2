import Derived.Test.YtkjfefjkelckiaaGreatZbf
import Derived.Test.YtkjfefjkelckiaaGreatZad
namespace Go.Proofs.YtkjfefjkelckiaaGreat
open Go.RowKit
set_option linter.unusedSimpArgs false
theorem SG.low {w : World} {base : Nat} {G : Nat → Prop} {T : TypeId} {n : Nat} {f : Nat → Nat → D} {k : Nat} {v : Value} (h : SG w base G T n f k v) {g : Nat} (hg : v.ownBlock = some g) : base ≤ g ∧ g < w.heap.size := by
  obtain ⟨xs, h1, -⟩ := h
  rcases h1.2 with ⟨rfl, -⟩ | ⟨g2, cap, cur, rfl, hb, hh, -⟩
  · cases hg
  · simp only [Value.ownBlock, Option.some.injEq] at hg
    subst hg
    exact ⟨hb, (Array.getElem?_eq_some_iff.1 hh).1⟩
theorem SG.wide {w : World} {base base' : Nat} {G G' : Nat → Prop} {T : TypeId} {n : Nat} {f : Nat → Nat → D} {k : Nat} {v : Value} (h : SG w base G T n f k v) (hb : base' ≤ base) (hG : ∀ c, G c → G' c) : SG w base' G' T n f k v := by
  obtain ⟨xs, h1, h2⟩ := h
  refine ⟨xs, ⟨h1.1, ?_⟩, fun i j hi hj => ?_⟩
  · rcases h1.2 with h | ⟨g, cap, cur, hv, hg, r⟩
    · exact .inl h
    · exact .inr ⟨g, cap, cur, hv, Nat.le_trans hb hg, r⟩
  · obtain ⟨u, hu, hr⟩ := h2 i j hi hj
    exact ⟨u, hu, hr.mono (fun c hc => ⟨hc.1, hG c hc.2⟩)⟩
end Go.Proofs.YtkjfefjkelckiaaGreat
