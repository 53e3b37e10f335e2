import Derived.Test.YtgiaabgcbpafgaaDGrow
import Derived.Test.YtgiaabgcbpafgaaDBox
namespace Go.Proofs.Ytgiaabgcbpafgaa
open Go.RowKit
set_option linter.unusedSimpArgs false
/-! a call that boxes its argument, keeps an answer's box, and grows a list in a box of its own -/
theorem SG.low {w : World} {base : Nat} {G : Nat → Prop} {T : TypeId} {n : Nat} {f : Nat → Nat → D} {k : Nat} {v : Value} (h : SG w base G T n f k v) {g : Nat} (hg : v.ownBlock = some g) : base ≤ g ∧ g < w.heap.size := by
  obtain ⟨xs, h1, -⟩ := h
  rcases h1.2 with ⟨rfl, -⟩ | ⟨g2, cap, cur, rfl, hb, hh, -⟩
  · cases hg
  · simp only [Value.ownBlock, Option.some.injEq] at hg
    subst hg
    exact ⟨hb, (Array.getElem?_eq_some_iff.1 hh).1⟩
theorem SG.wide {w : World} {base base' : Nat} {G G' : Nat → Prop} {T : TypeId} {n : Nat} {f : Nat → Nat → D} {k : Nat} {v : Value} (h : SG w base G T n f k v) (hb : base' ≤ base) (hG : ∀ c, G c → G' c) : SG w base' G' T n f k v := by
  obtain ⟨xs, h1, h2⟩ := h
  refine ⟨xs, ⟨h1.1, ?_⟩, fun i j hi hj => ?_⟩
  · rcases h1.2 with h | ⟨g, cap, cur, hv, hg, r⟩
    · exact .inl h
    · exact .inr ⟨g, cap, cur, hv, Nat.le_trans hb hg, r⟩
  · obtain ⟨u, hu, hr⟩ := h2 i j hi hj
    exact ⟨u, hu, hr.mono (fun c hc => ⟨hc.1, hG c hc.2⟩)⟩
theorem below_grown {w w2 w3 : World} {m : Nat} {o : Option Nat} (h : Below m w w2) (hg : w2.grownBy w3 o) (ho : ∀ g, o = some g → m ≤ g) (hm : m ≤ w2.heap.size) : Below m w w3 :=
  h.trans ⟨hg.os, hg.tape, hg.output, hg.size, fun b hb => hg.block b (by omega) (fun e => by have := ho b e.symm; omega)⟩
structure GSt (w wr : World) (S : TypeId) (cb cr : Array Value) (co : Value → Array Value) (T : TypeId) (n : Nat) (f : Nat → Nat → D) (k : Nat) (v : Value) : Prop where
  bx : wr.heap[w.heap.size]? = some (.cells cb S)
  rv : wr.heap[w.heap.size + 1]? = some (.cells cr S)
  ot : wr.heap[w.heap.size + 1 + 1 + 1]? = some (.cells (co v) S)
  gr : SG wr (w.heap.size + 1 + 1) (fun c => w.heap.size + 1 + 1 ≤ c ∧ c ≠ w.heap.size + 1 + 1 + 1) T n f k v
  ne : v.ownBlock ≠ some (w.heap.size + 1 + 1 + 1)
  bel : Below w.heap.size w wr
theorem GSt.first (w : World) (S : TypeId) (cb cr : Array Value) (co : Value → Array Value) (T : TypeId) (n : Nat) (f : Nat → Nat → D) : GSt w ((((w.alloc (.cells cb S)).alloc (.cells cr S)).alloc (.cells #[] T)).alloc (.cells (co (.slice (some ⟨w.heap.size + 1 + 1, 0, none⟩) 0 0)) S)) S cb cr co T n f 0 (.slice (some ⟨w.heap.size + 1 + 1, 0, none⟩) 0 0) := by
  have h3 : ∀ (V : World) (o : Obj) (b : Nat) (x : Obj), V.heap[b]? = some x → (V.alloc o).heap[b]? = some x := fun V o b x h => heap_keptD h (below_allocD _ _)
  have s1 := size_allocD w (.cells cb S)
  have e1 := heap_newD (w.alloc (.cells cb S)) (.cells cr S)
  have s2 := size_allocD (w.alloc (.cells cb S)) (.cells cr S)
  have e2 := heap_newD ((w.alloc (.cells cb S)).alloc (.cells cr S)) (.cells #[] T)
  have s3 := size_allocD ((w.alloc (.cells cb S)).alloc (.cells cr S)) (.cells #[] T)
  have e3 := heap_newD (((w.alloc (.cells cb S)).alloc (.cells cr S)).alloc (.cells #[] T)) (.cells (co (.slice (some ⟨w.heap.size + 1 + 1, 0, none⟩) 0 0)) S)
  rw [s1] at e1 s2
  rw [s2] at e2 s3
  rw [s3] at e3
  refine ⟨h3 _ _ _ _ (h3 _ _ _ _ (h3 _ _ _ _ (heap_newD _ _))), h3 _ _ _ _ (h3 _ _ _ _ e1), e3, SG.start (Nat.le_refl _) (h3 _ _ _ _ e2), ?_, ?_⟩
  · simp [Value.ownBlock]
  · exact ((((Below.refl _ _).alloc (Nat.le_refl _) _).alloc (by simp) _).alloc (by simp; omega) _).alloc (by simp; omega) _
theorem GSt.step {w wr V w3 : World} {S : TypeId} {cb cr : Array Value} {co : Value → Array Value} {T : TypeId} {n : Nat} {f : Nat → Nat → D} {k k' : Nat} {v v' : Value} (h : GSt w wr S cb cr co T n f k v) (s : Nat) (hco : (co v).setIfInBounds s v' = co v') (hB2 : Below wr.heap.size wr V) (hs : SG w3 (w.heap.size + 1 + 1) (fun c => w.heap.size + 1 + 1 ≤ c ∧ c ≠ w.heap.size + 1 + 1 + 1) T n f k' v') (hg : V.grownBy w3 v.ownBlock) (hl : ∃ g, v'.ownBlock = some g ∧ (v.ownBlock = some g ∨ V.heap.size ≤ g)) :
    GSt w (w3.setCell ⟨w.heap.size + 1 + 1 + 1, s, none⟩ v') S cb cr co T n f k' v' ∧ w3.heap[w.heap.size + 1 + 1 + 1]? = some (.cells (co v) S) := by
  have keep : ∀ b y, wr.heap[b]? = some y → v.ownBlock ≠ some b → w3.heap[b]? = some y := fun b y hx hn => by
    have hlt := (Array.getElem?_eq_some_iff.1 hx).1
    rw [hg.block b (Nat.lt_of_lt_of_le hlt hB2.size) (fun e => hn e.symm), hB2.block b hlt]; exact hx
  have lo : ∀ g, v.ownBlock = some g → w.heap.size + 1 + 1 ≤ g := fun g e => (h.gr.low e).1
  have n0 : v.ownBlock ≠ some w.heap.size := fun e => by have := lo _ e; omega
  have n1 : v.ownBlock ≠ some (w.heap.size + 1) := fun e => by have := lo _ e; omega
  obtain ⟨g, hgv, hgg⟩ := hl
  have hp := (Array.getElem?_eq_some_iff.1 h.ot).1
  have hgp : g ≠ w.heap.size + 1 + 1 + 1 := by
    rcases hgg with e | e
    · intro e'; subst e'; exact h.ne e
    · have := hB2.size; omega
  have o3 := keep _ _ h.ot h.ne
  refine ⟨⟨?_, ?_, by rw [← hco]; exact heap_set s v' o3, ?_, ?_, ?_⟩, o3⟩
  · rw [Below.heap_setCell _ ⟨w.heap.size + 1 + 1 + 1, s, none⟩ v' _ (by show w.heap.size ≠ w.heap.size + 1 + 1 + 1; omega)]; exact keep _ _ h.bx n0
  · rw [Below.heap_setCell _ ⟨w.heap.size + 1 + 1 + 1, s, none⟩ v' _ (by show w.heap.size + 1 ≠ w.heap.size + 1 + 1 + 1; omega)]; exact keep _ _ h.rv n1
  · exact hs.same (p := w.heap.size + 1 + 1 + 1) (by simp [World.setCell]) (fun b hb => Below.heap_setCell _ _ _ _ hb) (by rw [hgv]; intro e; simp at e; exact hgp e) (fun c hc => hc.2)
  · rw [hgv]; intro e; simp at e; exact hgp e
  · have hb3 : Below w.heap.size w w3 := below_grown (h.bel.trans (hB2.mono h.bel.size)) hg (fun g e => by have := lo g e; omega) (Nat.le_trans h.bel.size hB2.size)
    exact hb3.setCell (by show w.heap.size ≤ w.heap.size + 1 + 1 + 1; omega) _
end Go.Proofs.Ytgiaabgcbpafgaa
