import Derived.Test.YtkjfefjkelckiaaYae
namespace Go.Proofs.Ytkjfefjkelckiaa
open Go.RowKit
set_option linter.unusedSimpArgs false
def allocs (w : World) : List Obj → World
  | [] => w
  | o :: l => allocs (w.alloc o) l
theorem allocs_size : ∀ (bs : List Obj) (w : World), (allocs w bs).heap.size = w.heap.size + bs.length
  | [], _ => rfl
  | o :: l, w => by
    have h := allocs_size l (w.alloc o)
    rw [size_allocD] at h
    show (allocs (w.alloc o) l).heap.size = _
    rw [h, List.length_cons]; omega
theorem allocs_below : ∀ (bs : List Obj) (w : World), Below w.heap.size w (allocs w bs)
  | [], _ => Below.refl _ _
  | o :: l, w => (below_allocD w o).trans ((allocs_below l (w.alloc o)).mono (by simp))
theorem allocs_at : ∀ (bs : List Obj) (w : World) (i : Nat) (o : Obj), bs[i]? = some o → (allocs w bs).heap[w.heap.size + i]? = some o
  | [], _, i, o, h => by simp at h
  | x :: l, w, 0, o, h => by
    simp only [List.getElem?_cons_zero, Option.some.injEq] at h
    subst h
    exact heap_keptD (heap_newD w x) (allocs_below l (w.alloc x))
  | x :: l, w, i + 1, o, h => by
    rw [List.getElem?_cons_succ] at h
    have h2 := allocs_at l (w.alloc x) i o h
    rw [size_allocD] at h2
    rw [show w.heap.size + (i + 1) = w.heap.size + 1 + i by omega]
    exact h2
structure GQ (w wr : World) (bs : List Obj) (q : Nat) (S : TypeId) (co : Value → Array Value) (T : TypeId) (n : Nat) (f : Nat → Nat → D) (k : Nat) (v : Value) : Prop where
  hq : q = w.heap.size + bs.length
  bx : ∀ i o, bs[i]? = some o → wr.heap[w.heap.size + i]? = some o
  ot : wr.heap[q + 1]? = some (.cells (co v) S)
  gr : SG wr q (fun c => q ≤ c ∧ c ≠ q + 1) T n f k v
  ne : v.ownBlock ≠ some (q + 1)
  bel : Below w.heap.size w wr
theorem GQ.later {w wr W : World} {bs : List Obj} {q : Nat} {S : TypeId} {co : Value → Array Value} {T : TypeId} {n : Nat} {f : Nat → Nat → D} {k : Nat} {v : Value} (h : GQ w wr bs q S co T n f k v) (hB : Below wr.heap.size wr W) : GQ w W bs q S co T n f k v :=
  ⟨h.hq, fun i o hi => heap_keptD (h.bx i o hi) hB, heap_keptD h.ot hB, h.gr.later hB, h.ne, h.bel.trans (hB.mono h.bel.size)⟩
theorem GQ.first (w : World) (bs : List Obj) (q : Nat) (hq : q = w.heap.size + bs.length) (S : TypeId) (co : Value → Array Value) (T : TypeId) (n : Nat) (f : Nat → Nat → D) : GQ w (((allocs w bs).alloc (.cells #[] T)).alloc (.cells (co (.slice (some ⟨q, 0, none⟩) 0 0)) S)) bs q S co T n f 0 (.slice (some ⟨q, 0, none⟩) 0 0) := by
  have hs : (allocs w bs).heap.size = q := by rw [hq]; exact allocs_size bs w
  have e2 := heap_newD (allocs w bs) (.cells #[] T)
  have s3 := size_allocD (allocs w bs) (.cells #[] T)
  have e3 := heap_newD ((allocs w bs).alloc (.cells #[] T)) (.cells (co (.slice (some ⟨q, 0, none⟩) 0 0)) S)
  rw [hs] at e2 s3
  rw [s3] at e3
  have hB : Below (allocs w bs).heap.size (allocs w bs) (((allocs w bs).alloc (.cells #[] T)).alloc (.cells (co (.slice (some ⟨q, 0, none⟩) 0 0)) S)) := (below_allocD _ _).trans ((below_allocD _ _).mono (by simp))
  refine ⟨hq, fun i o hi => heap_keptD (allocs_at bs w i o hi) hB, e3, SG.start (Nat.le_refl _) (heap_keptD e2 (below_allocD _ _)), by simp [Value.ownBlock], (allocs_below bs w).trans (hB.mono (by rw [hs, hq]; omega))⟩
theorem GQ.step {w wr V w3 : World} {bs : List Obj} {q : Nat} {S : TypeId} {co : Value → Array Value} {T : TypeId} {n : Nat} {f : Nat → Nat → D} {k k' : Nat} {v v' : Value} (h : GQ w wr bs q S co T n f k v) (s : Nat) (hco : (co v).setIfInBounds s v' = co v') (hB2 : Below wr.heap.size wr V) (hs : SG w3 q (fun c => q ≤ c ∧ c ≠ q + 1) T n f k' v') (hg : V.grownBy w3 v.ownBlock) (hl : ∃ g, v'.ownBlock = some g ∧ (v.ownBlock = some g ∨ V.heap.size ≤ g)) :
    GQ w (w3.setCell ⟨q + 1, s, none⟩ v') bs q S co T n f k' v' ∧ w3.heap[q + 1]? = some (.cells (co v) S) ∧ (∀ i o, bs[i]? = some o → w3.heap[w.heap.size + i]? = some o) ∧ Below w.heap.size w w3 := by
  have hq := h.hq
  have keep : ∀ b y, wr.heap[b]? = some y → v.ownBlock ≠ some b → w3.heap[b]? = some y := fun b y hx hn => by
    have hlt := (Array.getElem?_eq_some_iff.1 hx).1
    rw [hg.block b (Nat.lt_of_lt_of_le hlt hB2.size) (fun e => hn e.symm), hB2.block b hlt]; exact hx
  have lo : ∀ g, v.ownBlock = some g → q ≤ g := fun g e => (h.gr.low e).1
  have nb : ∀ i o, bs[i]? = some o → i < bs.length := fun i o hi => (List.getElem?_eq_some_iff.1 hi).1
  obtain ⟨g, hgv, hgg⟩ := hl
  have hp := (Array.getElem?_eq_some_iff.1 h.ot).1
  have hgp : g ≠ q + 1 := by
    rcases hgg with e | e
    · intro e'; subst e'; exact h.ne e
    · have := hB2.size; omega
  have o3 := keep _ _ h.ot h.ne
  have b3 : ∀ i o, bs[i]? = some o → w3.heap[w.heap.size + i]? = some o := fun i o hi => keep _ _ (h.bx i o hi) (fun e => by have := lo _ e; have := nb i o hi; omega)
  have hb3 : Below w.heap.size w w3 := below_grown (h.bel.trans (hB2.mono h.bel.size)) hg (fun g e => by have := lo g e; omega) (Nat.le_trans h.bel.size hB2.size)
  refine ⟨⟨hq, fun i o hi => ?_, by rw [← hco]; exact heap_set s v' o3, ?_, ?_, hb3.setCell (by show w.heap.size ≤ q + 1; omega) _⟩, o3, b3, hb3⟩
  · rw [Below.heap_setCell _ ⟨q + 1, s, none⟩ v' _ (by show w.heap.size + i ≠ q + 1; have := nb i o hi; omega)]; exact b3 i o hi
  · exact hs.same (p := q + 1) (by simp [World.setCell]) (fun b hb => Below.heap_setCell _ _ _ _ hb) (by rw [hgv]; intro e; simp at e; exact hgp e) (fun c hc => hc.2)
  · rw [hgv]; intro e; simp at e; exact hgp e
theorem GQ.rd {w wr : World} {bs : List Obj} {q : Nat} {S : TypeId} {co : Value → Array Value} {T : TypeId} {n : Nat} {f : Nat → Nat → D} {k : Nat} {v : Value} (h : GQ w wr bs q S co T n f k v) (hn : 0 < n) : Rd wr (fun b => (q ≤ b ∧ b ≠ q + 1) ∧ b < wr.heap.size) (.l n k f) v := h.gr.rd hn (fun g hg => ⟨(h.gr.low hg).1, fun e => h.ne (by rw [hg, e])⟩)
theorem GQ.push {P : Program} {w wr V : World} {bs : List Obj} {q : Nat} {S : TypeId} {co : Value → Array Value} {T : TypeId} {f : Nat → Nat → D} {k : Nat} {v : Value} (h : GQ w wr bs q S co T 1 f k v) (t ty : TypeId) (i : TypeInfo) (z : Value) (bytes : Nat) (ht : P.underlying t = some (.slice T)) (hi : P.info? T = some i) (hz : i.zero = some z) (hsize : i.size = 1) (hby : i.bytes = bytes) (hzs : z.cells.size = 1)
    (s : Nat) (hco : ∀ v', (co v).setIfInBounds s v' = co v') (hB : Below wr.heap.size wr V) (u : Value) (hone : u.oneCell' = true) (h63 : k + 1 ≤ maxLen) (hbytes : (k + 1) * bytes ≤ 140737488355328) (hu : Rd V (fun b => wr.heap.size ≤ b ∧ b < V.heap.size) (f k 0) u) :
    ∃ a' c' W4, (Builtin.append_ #[t, t] ty #[v, .slice (some ⟨V.heap.size, 0, none⟩) 1 1]).run P (V.alloc (.cells #[u] T)) = .ok (.slice a' (k + 1) c') W4 ∧ GQ w (W4.setCell ⟨q + 1, s, none⟩ (.slice a' (k + 1) c')) bs q S co T 1 f (k + 1) (.slice a' (k + 1) c') ∧ W4.heap[q + 1]? = some (.cells (co v) S) ∧ (∀ i o, bs[i]? = some o → W4.heap[w.heap.size + i]? = some o) ∧ Below w.heap.size w W4 := by
  have bV : Below wr.heap.size wr (V.alloc (.cells #[u] T)) := hB.alloc hB.size _
  have hn9 := heap_newD V (.cells #[u] T)
  have hq1 := (Array.getElem?_eq_some_iff.1 h.ot).1
  have hs1 := size_allocD V (.cells #[u] T)
  obtain ⟨a', c', W4, hr, hsg, hgr, hgl⟩ := (h.gr.later bV).push (P := P) t ty i z bytes ht hi hz hsize hby hzs (by omega) ⟨V.heap.size, 0, none⟩ 1 [u] rfl (fun j y hj => by
      have : j = 0 := by
        have := (List.getElem?_eq_some_iff.1 hj).1
        simpa using this
      subst this
      simp only [List.getElem?_cons_zero, Option.some.injEq] at hj
      subst hj
      rw [Addr.add_mid]
      exact cell_at (o := 0) hn9 rfl) (fun y hy => by simp only [List.mem_singleton] at hy; subst hy; exact hone) h63 hbytes (by have := bV.size; omega) (fun j hj => by
      obtain rfl : j = 0 := by omega
      refine ⟨u, rfl, (hu.later (below_allocD _ _)).mono (fun b hb => ?_)⟩
      have h1 := hb.1; have h2 := hb.2
      refine ⟨⟨fun e => ?_, by omega⟩, by omega, by omega⟩
      have := (h.gr.low e).2
      omega)
  obtain ⟨h1, h2, h3, h4⟩ := h.step s (hco _) bV hsg hgr hgl
  exact ⟨a', c', W4, hr, h1, h2, h3, h4⟩
end Go.Proofs.Ytkjfefjkelckiaa
