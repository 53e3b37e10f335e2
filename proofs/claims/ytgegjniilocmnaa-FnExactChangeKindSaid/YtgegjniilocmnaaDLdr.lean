import Derived.Test.YtgegjniilocmnaaDOwS
import Derived.Test.YtgegjniilocmnaaDDrM
namespace Go.Proofs.Ytgegjniilocmnaa
open Go.RowKit
set_option linter.unusedSimpArgs false
theorem SQ.spot {w : World} {base : Nat} {G : Nat → Prop} {T : TypeId} {n : Nat} {f : Nat → Nat → D} {Q : Nat → Nat → Value → Prop} {k : Nat} {a : Option Addr} {c : Nat} (h : SQ w base G T n f Q k (.slice a k c)) (hk : 0 < k) : ∃ g, a = some ⟨g, 0, none⟩ ∧ base ≤ g ∧ g < w.heap.size ∧ ∀ i j, i < k → j < n → ∃ u, w.cell? ⟨g, i * n + j, none⟩ = some u ∧ w.frozen? ⟨g, i * n + j, none⟩ = false ∧ Q i j u ∧ Rd w (fun c => (c ≠ g ∧ c < w.heap.size) ∧ G c) (f i j) u := by
  obtain ⟨xs, h1, h2⟩ := h
  rcases h1.2 with ⟨-, h0⟩ | ⟨g, cap, cur, e, hg, hh, r1, r2, r3, r4⟩
  · omega
  simp only [Value.slice.injEq, true_and] at e
  obtain ⟨rfl, rfl⟩ := e
  refine ⟨g, rfl, hg, (Array.getElem?_eq_some_iff.1 hh).1, fun i j hi hj => ?_⟩
  obtain ⟨u, hu, hq, hr⟩ := h2 i j hi hj
  have hlt : i * n + j < k * n := spot_lt hi hj
  refine ⟨u, ?_, by simp [World.frozen?, hh], hq, hr.mono (fun c hc => ⟨⟨fun e => hc.1.1 (by rw [e]; rfl), hc.1.2⟩, hc.2⟩)⟩
  rw [← r4, List.getElem?_take_of_lt hlt, Array.getElem?_toList] at hu
  simp [World.cell?, hh, hu]
theorem rd_put {w : World} {L : List (List RowV)} {i g c : Nat} {l' : List RowV} {v' : Value} {G : Nat → Prop} (hG : G g) (hi : i < L.length) (hg : g < w.heap.size) (hc : ∀ j, j < L.length → ∃ u, w.cell? ⟨g, j, none⟩ = some u ∧ Rd w (fun d => (d ≠ g ∧ d < w.heap.size) ∧ G d) (lsF cRowS L j 0) u) (hnew : Rd w (fun d => (d ≠ g ∧ d < w.heap.size) ∧ G d) (dRowS l') v') :
    Rd (w.setCell ⟨g, i, none⟩ v') (fun d => G d ∧ d < (w.setCell ⟨g, i, none⟩ v').heap.size) (dRowSS (L.set i l')) (.slice (some ⟨g, 0, none⟩) (L.set i l').length c) := by
  have hsz : (w.setCell ⟨g, i, none⟩ v').heap.size = w.heap.size := by simp [World.setCell]
  refine ⟨_, _, rfl, .inr ⟨g, 0, rfl, ⟨hG, by rw [hsz]; exact hg⟩, by omega, fun j z hj hz => ?_⟩⟩
  obtain rfl : z = 0 := by omega
  rw [List.length_set] at hj
  rw [Nat.zero_add, Nat.mul_one, Nat.add_zero, lsF_at (by rw [List.length_set]; exact hj)]
  have key : ∀ d u, Rd w (fun d => (d ≠ g ∧ d < w.heap.size) ∧ G d) d u → Rd (w.setCell ⟨g, i, none⟩ v') (fun d => G d ∧ d < (w.setCell ⟨g, i, none⟩ v').heap.size) d u := fun d u hu => Rd.same (fun b hb => Below.heap_setCell _ _ _ _ hb.1.1) (fun b hb => ⟨hb.2, by rw [hsz]; exact hb.1.2⟩) d u hu
  obtain ⟨u, hu, hr⟩ := hc j hj
  by_cases e : j = i
  · subst e
    refine ⟨v', World.cell?_setCell_same _ _ _ hu, ?_⟩
    rw [List.getElem_set_self]
    exact key _ _ hnew
  · refine ⟨u, cell_skip hu e, ?_⟩
    rw [List.getElem_set_ne (by omega)]
    rw [lsF_at hj] at hr
    exact key _ _ hr
theorem row_one {w : World} {B : Nat → Prop} {y : RowV} {j : Nat} {u : Value} (hj : j < 2) (h : Rd w B (dRow y j) u) : u.oneCell' = true := by
  rcases (by omega : j = 0 ∨ j = 1) with rfl | rfl
  · obtain rfl : u = .int .i64 y.id := h
    rfl
  · replace h : Rd w B (dAtomSS y.cells) u := h
    obtain ⟨a, c, rfl⟩ := h.lsSlice
    rfl
end Go.Proofs.Ytgegjniilocmnaa
