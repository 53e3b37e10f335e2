import Derived.Test.YtkjfefjkelckiaaZap
import Derived.Test.YtkjfefjkelckiaaZak
import Derived.Test.YtkjfefjkelckiaaZaw
import Derived.Test.YtkjfefjkelckiaaZax
import Derived.Test.YtkjfefjkelckiaaZaz
import Derived.Test.YtkjfefjkelckiaaZba
import Derived.Deep.CutRange
import Derived.Deep.RegionHeld3
import Derived.Test.YtkjfefjkelckiaaZbc
import Derived.Test.YtkjfefjkelckiaaZbd
import Derived.Test.YtkjfefjkelckiaaZbf
namespace Go.Proofs.Ytkjfefjkelckiaa
open Go.RowKit
set_option linter.unusedSimpArgs false
theorem OwnAts.own {w : World} {B : Nat → Prop} {a : Option Addr} {l : List At} (h : OwnAts w B a l) (c : Nat) : Own w (dAtomS l) B (.slice a l.length c) := by
  refine ⟨a, c, rfl, ?_⟩
  rcases h with h | ⟨b, off, ha, hb, hc⟩
  · exact .inl h
  refine .inr ⟨b, off, fun _ _ _ => False, ha, hb, by omega, fun _ _ _ h => h.elim, fun _ _ _ _ _ h => h.elim, fun i j hi hj => ?_⟩
  obtain ⟨h1, h2⟩ := hc (i * 3 + j) (by omega)
  rw [← Nat.add_assoc] at h1 h2
  refine ⟨_, h1, h2, ?_⟩
  rw [lsF_at hi]
  rcases (by omega : j = 0 ∨ j = 1 ∨ j = 2) with rfl | rfl | rfl
  · rw [Nat.add_zero, atF0 hi]; rfl
  · rw [atF1 hi]; rfl
  · rw [atF2 hi]; rfl
theorem SG.at {wr : World} {base : Nat} {G : Nat → Prop} {T : TypeId} {cs : List (List At)} {v : Value} {k : Nat} (h : SG wr base G T 1 (lsF cAtomS cs) cs.length v) (hk : k < cs.length) : ∃ g cap da dc, v = .slice (some ⟨g, 0, none⟩) cs.length cap ∧ (base ≤ g ∧ g < wr.heap.size) ∧ wr.cell? ⟨g, k, none⟩ = some (.slice da cs[k].length dc) ∧ wr.frozen? ⟨g, k, none⟩ = false ∧ Rd wr (fun c => (c ≠ g ∧ c < wr.heap.size) ∧ G c) (dAtomS cs[k]) (.slice da cs[k].length dc) := by
  obtain ⟨xs, h1, h2⟩ := h
  rcases h1.2 with ⟨-, h0⟩ | ⟨g, cap, cur, rfl, hg, hh, r1, r2, r3, r4⟩
  · omega
  obtain ⟨u, hu, hr⟩ := h2 k 0 hk (by omega)
  rw [Nat.mul_one, Nat.add_zero, ← r4, Nat.mul_one, List.getElem?_take_of_lt hk, Array.getElem?_toList] at hu
  rw [lsF_at hk] at hr
  replace hr : Rd wr _ (dAtomS cs[k]) u := hr
  obtain ⟨da, dc, rfl⟩ := hr.lsSlice
  refine ⟨g, cap, da, dc, rfl, ⟨hg, (Array.getElem?_eq_some_iff.1 hh).1⟩, by simp [World.cell?, hh, hu], by simp [World.frozen?, hh], hr.mono (fun c hc => ⟨⟨fun e => hc.1.1 (by rw [e]; rfl), hc.1.2⟩, hc.2⟩)⟩
def RowAns (w : World) (x : RowV) (n : Int) (e : Ending) (w' : World) : Prop := ∃ ra rc, e = .returned (.tuple #[.agg #[.int .i64 x.id, .slice ra x.cells.length rc], .int .i64 n]) ∧ Rd w' (fun b => w.heap.size ≤ b ∧ b < w'.heap.size) (dAtomSS x.cells) (.slice ra x.cells.length rc) ∧ Below w.heap.size w w'
def RowAnsO (w : World) (x : RowV) (n : Int) (e : Ending) (w' : World) : Prop := ∃ ra rc, e = .returned (.tuple #[.agg #[.int .i64 x.id, .slice ra x.cells.length rc], .int .i64 n]) ∧ Own w' (dAtomSS x.cells) (fun b => w.heap.size ≤ b ∧ b < w'.heap.size) (.slice ra x.cells.length rc) ∧ Below w.heap.size w w'
end Go.Proofs.Ytkjfefjkelckiaa
