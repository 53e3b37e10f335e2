import Derived.Test.YtlkkmafnjdbofaaDGrow
import Derived.Test.YtlkkmafnjdbofaaDBox
import Derived.Test.YtlkkmafnjdbofaaDRwA
namespace Go.Proofs.Ytlkkmafnjdbofaa
open Go.RowKit
set_option linter.unusedSimpArgs false
theorem infoRs : ∃ i, Try.prog.info? 49 = some i ∧ i.zero = some (.slice none 0 0) ∧ i.size = 1 ∧ i.bytes = 24 := by
  have h : (Try.prog.info? 49).map (fun i => (i.zero, i.size, i.bytes)) = some (some (.slice none 0 0), 1, 24) := by kernel_rfl
  obtain ⟨i, hi, hzz⟩ := Option.map_eq_some_iff.1 h
  simp only [Prod.mk.injEq] at hzz
  exact ⟨i, hi, hzz⟩
/-- no rows -/
theorem rd_none {w : World} {B : Nat → Prop} (a : Option Addr) (c : Nat) : Rd w B (dRowS []) (.slice a 0 c) := ⟨a, c, rfl, .inl rfl⟩
/-- while a new store is made -/
structure NSt (w wr : World) (m : Nat) (a : Option Addr) (c k : Nat) (v : Value) : Prop where
  bx : wr.heap[w.heap.size]? = some (.cells #[.slice a m c] 34)
  rv : wr.heap[w.heap.size + 1]? = some (.cells #[.slice none 0 0, .int .i64 0] 38)
  ot : wr.heap[w.heap.size + 1 + 1 + 1]? = some (.cells #[v, .int .i64 1] 38)
  gr : SG wr (w.heap.size + 1 + 1) (fun c => c ≠ w.heap.size + 1 + 1 + 1) 49 1 (fun _ _ => dRowS []) k v
  ne : v.ownBlock ≠ some (w.heap.size + 1 + 1 + 1)
  lo : ∀ g, v.ownBlock = some g → w.heap.size + 1 + 1 ≤ g
  bel : Below w.heap.size w wr
theorem NSt.first (w : World) (m : Nat) (a : Option Addr) (c : Nat) : NSt w ((((w.alloc (.cells #[.slice a m c] 34)).alloc (.cells #[.slice none 0 0, .int .i64 0] 38)).alloc (.cells #[] 49)).alloc (.cells #[.slice (some ⟨w.heap.size + 1 + 1, 0, none⟩) 0 0, .int .i64 1] 38)) m a c 0 (.slice (some ⟨w.heap.size + 1 + 1, 0, none⟩) 0 0) := by
  have h3 : ∀ (V : World) (o : Obj) (b : Nat) (x : Obj), V.heap[b]? = some x → (V.alloc o).heap[b]? = some x := fun V o b x h => heap_keptD h (below_allocD _ _)
  have s1 := size_allocD w (.cells #[.slice a m c] 34)
  have e1 := heap_newD (w.alloc (.cells #[.slice a m c] 34)) (.cells #[.slice none 0 0, .int .i64 0] 38)
  have s2 := size_allocD (w.alloc (.cells #[.slice a m c] 34)) (.cells #[.slice none 0 0, .int .i64 0] 38)
  have e2 := heap_newD ((w.alloc (.cells #[.slice a m c] 34)).alloc (.cells #[.slice none 0 0, .int .i64 0] 38)) (.cells #[] 49)
  have s3 := size_allocD ((w.alloc (.cells #[.slice a m c] 34)).alloc (.cells #[.slice none 0 0, .int .i64 0] 38)) (.cells #[] 49)
  have e3 := heap_newD (((w.alloc (.cells #[.slice a m c] 34)).alloc (.cells #[.slice none 0 0, .int .i64 0] 38)).alloc (.cells #[] 49)) (.cells #[.slice (some ⟨w.heap.size + 1 + 1, 0, none⟩) 0 0, .int .i64 1] 38)
  rw [s1] at e1 s2
  rw [s2] at e2 s3
  rw [s3] at e3
  refine ⟨h3 _ _ _ _ (h3 _ _ _ _ (h3 _ _ _ _ (heap_newD _ _))), h3 _ _ _ _ (h3 _ _ _ _ e1), e3, SG.start (Nat.le_refl _) (h3 _ _ _ _ e2), ?_, fun g hg => ?_, ?_⟩
  · simp [Value.ownBlock]
  · simp [Value.ownBlock] at hg; omega
  · exact ((((Below.refl _ _).alloc (Nat.le_refl _) _).alloc (by simp) _).alloc (by simp; omega) _).alloc (by simp; omega) _
theorem NSt.step {w wr w3 : World} {m : Nat} {a : Option Addr} {c k : Nat} {v v' : Value} {o1 o2 : Obj} (h : NSt w wr m a c k v) (hs : SG w3 (w.heap.size + 1 + 1) (fun c => c ≠ w.heap.size + 1 + 1 + 1) 49 1 (fun _ _ => dRowS []) (k + 1) v') (hg : ((wr.alloc o1).alloc o2).grownBy w3 v.ownBlock) (hl : ∃ g, v'.ownBlock = some g ∧ (v.ownBlock = some g ∨ ((wr.alloc o1).alloc o2).heap.size ≤ g)) :
    NSt w (w3.setCell ⟨w.heap.size + 1 + 1 + 1, 0, none⟩ v') m a c (k + 1) v' ∧ w3.heap[w.heap.size + 1 + 1 + 1]? = some (.cells #[v, .int .i64 1] 38) := by
  have hB2 : Below wr.heap.size wr ((wr.alloc o1).alloc o2) := (below_allocD _ _).trans ((below_allocD _ _).mono (by simp))
  have keep : ∀ b x, wr.heap[b]? = some x → v.ownBlock ≠ some b → w3.heap[b]? = some x := fun b x hx hn => by
    have hlt := (Array.getElem?_eq_some_iff.1 hx).1
    rw [hg.block b (Nat.lt_of_lt_of_le hlt hB2.size) (fun e => hn e.symm), hB2.block b hlt]; exact hx
  have lo := h.lo
  have n0 : v.ownBlock ≠ some w.heap.size := fun e => by have := lo _ e; omega
  have n1 : v.ownBlock ≠ some (w.heap.size + 1) := fun e => by have := lo _ e; omega
  obtain ⟨g, hgv, hgg⟩ := hl
  have hp := (Array.getElem?_eq_some_iff.1 h.ot).1
  have hgp : g ≠ w.heap.size + 1 + 1 + 1 := by
    rcases hgg with e | e
    · intro e'; subst e'; exact h.ne e
    · have := hB2.size; omega
  have o3 := keep _ _ h.ot h.ne
  refine ⟨⟨?_, ?_, heap_set 0 v' o3, ?_, ?_, fun q hq => ?_, ?_⟩, o3⟩
  · rw [Below.heap_setCell _ ⟨w.heap.size + 1 + 1 + 1, 0, none⟩ v' _ (by show w.heap.size ≠ w.heap.size + 1 + 1 + 1; omega)]; exact keep _ _ h.bx n0
  · rw [Below.heap_setCell _ ⟨w.heap.size + 1 + 1 + 1, 0, none⟩ v' _ (by show w.heap.size + 1 ≠ w.heap.size + 1 + 1 + 1; omega)]; exact keep _ _ h.rv n1
  · exact hs.same (p := w.heap.size + 1 + 1 + 1) (by simp [World.setCell]) (fun b hb => Below.heap_setCell _ _ _ _ hb) (by rw [hgv]; intro e; simp at e; exact hgp e) (fun c hc => hc)
  · rw [hgv]; intro e; simp at e; exact hgp e
  · rw [hgv] at hq
    simp only [Option.some.injEq] at hq
    subst hq
    rcases hgg with e | e
    · exact lo _ e
    · have := hB2.size; omega
  · have hb3 : Below w.heap.size w w3 := h.bel.trans ⟨hg.os, hg.tape, hg.output, Nat.le_trans hB2.size hg.size, fun b hb => by
      have hlt : b < wr.heap.size := Nat.lt_of_lt_of_le hb h.bel.size
      rw [hg.block b (Nat.lt_of_lt_of_le hlt hB2.size) (fun e => by have := lo _ e.symm; omega), hB2.block b hlt]⟩
    exact hb3.setCell (by show w.heap.size ≤ w.heap.size + 1 + 1 + 1; omega) _
def noRows (m : Nat) : List (List RowV) := List.replicate m []
theorem noRows_len (m : Nat) : (noRows m).length = m := by simp [noRows]
theorem rd_noRows {w : World} {B : Nat → Prop} {m : Nat} {a : Option Addr} {c : Nat} (h : Rd w B (.l 1 m (fun _ _ => dRowS [])) (.slice a m c)) : Rd w B (dRowSS (noRows m)) (.slice a (noRows m).length c) := by
  have e : dRowSS (noRows m) = .l 1 m (lsF cRowS (noRows m)) := by unfold dRowSS Ls; rw [noRows_len]
  rw [e, noRows_len]
  refine h.congr (fun i j hi hj => ?_)
  rw [lsF_at (by rw [noRows_len]; exact hi)]
  simp [noRows, cRowS]
end Go.Proofs.Ytlkkmafnjdbofaa
