import Derived.Test.YtdhlndpobpdfmaaYam
import Derived.Test.YtdhlndpobpdfmaaYaf
namespace Go.Proofs.Ytdhlndpobpdfmaa
open Go.RowKit
set_option linter.unusedSimpArgs false
theorem SG.low {w : World} {base : Nat} {G : Nat → Prop} {T : TypeId} {n : Nat} {f : Nat → Nat → D} {k : Nat} {v : Value} (h : SG w base G T n f k v) {g : Nat} (hg : v.ownBlock = some g) : base ≤ g ∧ g < w.heap.size := by
  obtain ⟨xs, h1, -⟩ := h
  rcases h1.2 with ⟨rfl, -⟩ | ⟨g2, cap, cur, rfl, hb, hh, -⟩
  · cases hg
  · simp only [Value.ownBlock, Option.some.injEq] at hg
    subst hg
    exact ⟨hb, (Array.getElem?_eq_some_iff.1 hh).1⟩
theorem SG.wide {w : World} {base base' : Nat} {G G' : Nat → Prop} {T : TypeId} {n : Nat} {f : Nat → Nat → D} {k : Nat} {v : Value} (h : SG w base G T n f k v) (hb : base' ≤ base) (hG : ∀ c, G c → G' c) : SG w base' G' T n f k v := by
  obtain ⟨xs, h1, h2⟩ := h
  refine ⟨xs, ⟨h1.1, ?_⟩, fun i j hi hj => ?_⟩
  · rcases h1.2 with h | ⟨g, cap, cur, hv, hg, r⟩
    · exact .inl h
    · exact .inr ⟨g, cap, cur, hv, Nat.le_trans hb hg, r⟩
  · obtain ⟨u, hu, hr⟩ := h2 i j hi hj
    exact ⟨u, hu, hr.mono (fun c hc => ⟨hc.1, hG c hc.2⟩)⟩
theorem below_grown {w w2 w3 : World} {m : Nat} {o : Option Nat} (h : Below m w w2) (hg : w2.grownBy w3 o) (ho : ∀ g, o = some g → m ≤ g) (hm : m ≤ w2.heap.size) : Below m w w3 :=
  h.trans ⟨hg.os, hg.tape, hg.output, hg.size, fun b hb => hg.block b (by omega) (fun e => by have := ho b e.symm; omega)⟩
end Go.Proofs.Ytdhlndpobpdfmaa
