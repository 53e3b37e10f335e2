import Derived.Test.YtlddhbamcndggaaGreatDoorZbd
import Derived.Test.YtlddhbamcndggaaGreatDoorZbc
namespace Go.Proofs.YtlddhbamcndggaaGreatDoor
open Go.RowKit
set_option linter.unusedSimpArgs false
structure Rg1 where
 r : RowV
 v : Value
 s0 : Nat
 s1 : Nat
def rg2 (es : List Rg1) : List Value := es.flatMap (fun e => [.int .i64 e.r.id, e.v])
theorem rg2_cons (e : Rg1) (es : List Rg1) : rg2 (e :: es) = .int .i64 e.r.id :: e.v :: rg2 es := rfl
theorem rg2_app (a b : List Rg1) : rg2 (a ++ b) = rg2 a ++ rg2 b := by unfold rg2; rw [List.flatMap_append]
theorem rg2_at : ∀ (es : List Rg1) (k : Nat) (h : k < es.length), (rg2 es)[k * 2]? = some (.int .i64 es[k].r.id) ∧ (rg2 es)[k * 2 + 1]? = some es[k].v
 | [], k, h => absurd h (by simp)
 | e :: es, 0, _ => by rw [rg2_cons]; exact ⟨rfl, rfl⟩
 | e :: es, k + 1, h => by
  have := rg2_at es k (by simpa using h)
  rw [rg2_cons, show (k + 1) * 2 = k * 2 + 1 + 1 by omega]
  simpa [Nat.add_assoc] using this
theorem infoRg : ∃ i, Tryz.prog.info? 81 = some i ∧ i.zero = some (.agg #[.int .i64 0, .slice none 0 0]) ∧ i.size = 2 ∧ i.bytes = 32 := by
 have h : (Tryz.prog.info? 81).map (fun i => (i.zero, i.size, i.bytes)) = some (some (.agg #[.int .i64 0, .slice none 0 0]), 2, 32) := by kernel_rfl
 obtain ⟨i, hi, hzz⟩ := Option.map_eq_some_iff.1 h
 simp only [Prod.mk.injEq] at hzz
 exact ⟨i, hi, hzz⟩
structure RG (base : Nat) (W : World) (es : List Rg1) (v : Value) : Prop where
 ow : W.ownsRow base 81 2 v es.length (rg2 es)
 el : ∀ e ∈ es, Own W (dAtomSS e.r.cells) (fun c => e.s0 ≤ c ∧ c < e.s1) e.v ∧ e.s0 ≤ e.s1 ∧ e.s1 ≤ W.heap.size ∧ base ≤ e.s0 ∧ ∀ g, v.ownBlock = some g → ¬ (e.s0 ≤ g ∧ g < e.s1)
 ds : es.Pairwise (fun a b => a.s1 ≤ b.s0)
theorem RG.nil (base : Nat) (W : World) : RG base W [] (.slice none 0 0) := ⟨⟨by simp [rg2], .inl ⟨rfl, rfl⟩⟩, fun e h => absurd h (by simp), List.Pairwise.nil⟩
theorem RG.later {base : Nat} {W W' : World} {es : List Rg1} {v : Value} (h : RG base W es v) (hB : Below W.heap.size W W') : RG base W' es v :=
 ⟨ownsRow_later h.ow hB, fun e he => by
  obtain ⟨h1, h3, h5, h6, h7⟩ := h.el e he
  exact ⟨h1.later hB, h3, Nat.le_trans h5 hB.size, h6, h7⟩, h.ds⟩
theorem RG.low {base : Nat} {W : World} {es : List Rg1} {v : Value} (h : RG base W es v) {g : Nat} (hg : v.ownBlock = some g) : base ≤ g ∧ g < W.heap.size := by
 rcases h.ow.2 with ⟨rfl, -⟩ | ⟨g2, cap, cur, rfl, hb, hh, -⟩
 ·
  cases hg
 ·
  simp only [Value.ownBlock, Option.some.injEq] at hg
  subst hg
  exact ⟨hb, (Array.getElem?_eq_some_iff.1 hh).1⟩
theorem RG.push {base : Nat} {W V : World} {es : List Rg1} {v : Value} (h : RG base W es v) (hB : Below W.heap.size W V) (e : Rg1) (h0 : W.heap.size ≤ e.s0) (h01 : e.s0 ≤ e.s1) (h2 : e.s1 ≤ V.heap.size) (ho : Own V (dAtomSS e.r.cells) (fun c => e.s0 ≤ c ∧ c < e.s1) e.v) (hb : base ≤ W.heap.size) (hlen : es.length ≤ 8000000) (ty : TypeId) :
  ∃ a' c' W', (Builtin.append_ #[35, 35] ty #[v, .slice (some ⟨V.heap.size, 0, none⟩) 1 1]).run Tryz.prog (V.alloc (.cells #[.int .i64 e.r.id, e.v] 81)) = .ok (.slice a' (es.length + 1) c') W' ∧ RG base W' (es ++ [e]) (.slice a' (es.length + 1) c') ∧ (∀ b, b < W.heap.size → v.ownBlock ≠ some b → W'.heap[b]? = W.heap[b]?) ∧ (∀ b, W.heap.size ≤ b → b < V.heap.size → W'.heap[b]? = V.heap[b]?) ∧ Below base W W' ∧ V.heap.size < W'.heap.size ∧ ∀ g, Value.ownBlock (.slice a' (es.length + 1) c') = some g → v.ownBlock = some g ∨ V.heap.size ≤ g := by
 obtain ⟨i, hi, hz, hs, hby⟩ := infoRg
 have sV := hB.size
 have hV1 := below_allocD V (.cells #[.int .i64 e.r.id, e.v] 81)
 have hV2 : Below W.heap.size W (V.alloc (.cells #[.int .i64 e.r.id, e.v] 81)) := hB.trans (hV1.mono sV)
 have h1 := h.later hV2
 have sA := size_allocD V (.cells #[.int .i64 e.r.id, e.v] 81)
 have hnw := heap_newD V (.cells #[.int .i64 e.r.id, e.v] 81)
 have hone : ∀ {l : List (List At)} {X : Nat → Prop} {u : Value} {Z : World}, Own Z (dAtomSS l) X u → u.oneCell' = true := fun h => by obtain ⟨a, c, rfl, -⟩ := h; rfl
 obtain ⟨v', W', hr, hrow, hg, g, hgv, hgg⟩ := run_append_own3 (P := Tryz.prog) (V.alloc (.cells #[.int .i64 e.r.id, e.v] 81)) base 35 ty 81 i _ 2 32 Tryz.underlying35 hi hz hs hby rfl (by omega) v es.length _ h1.ow ⟨V.heap.size, 0, none⟩ 1 1 [.int .i64 e.r.id, e.v] rfl (fun j u hj => by
   rw [Addr.add_mid]
   simp only [World.cell?, hnw, Nat.zero_add]
   simpa using hj) (fun u hu => by
   simp only [List.mem_cons, List.not_mem_nil, or_false] at hu
   rcases hu with rfl | rfl
   ·
    rfl
   ·
    exact hone ho) (by unfold maxLen; omega) (by omega) (by omega) (by omega)
 obtain ⟨a', c', rfl⟩ : ∃ a' c', v' = .slice a' (es.length + 1) c' := by
  rcases hrow.2 with ⟨-, h0⟩ | ⟨g, cap, cur, rfl, -⟩
  ·
   omega
  ·
   exact ⟨_, _, rfl⟩
 have hgs := hg.size
 have hkeep : ∀ b, b < V.heap.size → v.ownBlock ≠ some b → W'.heap[b]? = V.heap[b]? := fun b hb hne => by
  rw [hg.block b (by omega) (fun e => hne e.symm), hV1.block b hb]
 have hvlow : ∀ g, v.ownBlock = some g → base ≤ g ∧ g < W.heap.size := fun g hg => h.low hg
 refine ⟨a', c', W', hr, ⟨?_, fun f hf => ?_, ?_⟩, fun b hb hne => by rw [hkeep b (by omega) hne, hB.block b hb], fun b hb1 hb2 => hkeep b hb2 (fun e => by have := (hvlow b e).2; omega), ⟨?_, ?_, ?_, by omega, fun b hb => ?_⟩, by omega, fun g' hg' => ?_⟩
 ·
  rw [List.length_append, List.length_singleton, rg2_app]; exact hrow
 ·
  have hgn : ∀ g', Value.ownBlock (.slice a' (es.length + 1) c') = some g' → v.ownBlock = some g' ∨ V.heap.size < g' := fun g' hg' => by
   rw [hgv] at hg'
   simp only [Option.some.injEq] at hg'
   subst hg'
   rcases hgg with e | e
   ·
    exact .inl e
   ·
    exact .inr (by omega)
  rcases List.mem_append.1 hf with hf | hf
  ·
   obtain ⟨k1, k3, k5, k6, k7⟩ := h.el f hf
   refine ⟨Own.same _ _ _ _ (fun c hc => ?_) (fun _ h => h) k1, k3, by omega, k6, fun g' hg' hx => ?_⟩
   ·
    rw [hkeep c (by have := hc.2; omega) (fun e => k7 c e hc), hB.block c (by have := hc.2; omega)]
   ·
    rcases hgn g' hg' with e | e
    ·
     exact k7 g' e hx
    ·
     have := hx.2; omega
  ·
   obtain rfl := List.mem_singleton.1 hf
   refine ⟨Own.same _ _ _ _ (fun c hc => ?_) (fun _ h => h) ho, h01, by omega, by omega, fun g' hg' hx => ?_⟩
   ·
    exact hkeep c (by have := hc.2; omega) (fun e => by have h1 := (hvlow c e).2; have h2 := hc.1; omega)
   ·
    rcases hgn g' hg' with e | e
    ·
     have h1 := (hvlow g' e).2; have h2 := hx.1; omega
    ·
     have := hx.2; omega
 ·
  refine List.pairwise_append.2 ⟨h.ds, List.pairwise_singleton _ _, fun a ha b hb => ?_⟩
  obtain rfl := List.mem_singleton.1 hb
  have := (h.el a ha).2.2.1
  omega
 ·
  exact hg.os.trans hB.os
 ·
  exact hg.tape.trans hB.tape
 ·
  exact hg.output.trans hB.output
 ·
  rw [hkeep b (by omega) (fun e => by have := (hvlow b e).1; omega), hB.block b (by omega)]
 ·
  rw [hgv] at hg'
  simp only [Option.some.injEq] at hg'
  subst hg'
  rcases hgg with e | e
  ·
   exact .inl e
  ·
   exact .inr (by omega)
theorem RG.own {base : Nat} {W : World} {es : List Rg1} {v : Value} (h : RG base W es v) : Own W (dRowS (es.map Rg1.r)) (fun c => base ≤ c ∧ c < W.heap.size) v := by
 rcases h.ow.2 with ⟨rfl, h0⟩ | ⟨g, cap, cur, rfl, hg, hh, r1, r2, r3, r4⟩
 ·
  refine ⟨none, 0, by simp [h0], .inl (by simp [h0])⟩
 refine ⟨_, _, by rw [List.length_map], ?_⟩
 by_cases h0 : (es.map Rg1.r).length = 0
 ·
  exact .inl h0
 rw [List.length_map] at h0
 have hds := List.pairwise_iff_getElem.1 h.ds
 refine .inr ⟨g, 0, fun i j c => ∃ hi : i < es.length, j = 1 ∧ es[i].s0 ≤ c ∧ c < es[i].s1, rfl, ⟨hg, (Array.getElem?_eq_some_iff.1 hh).1⟩, by omega, fun i j c hc => ?_, fun i j i' j' c hc hc' => ?_, fun i j hi hj => ?_⟩
 ·
  obtain ⟨hi, -, h1, h2⟩ := hc
  obtain ⟨k1, k3, k5, k6, k7⟩ := h.el _ (List.getElem_mem hi)
  have k8 := k7 g rfl
  exact ⟨⟨by omega, by omega⟩, fun e => k8 ⟨by omega, by omega⟩⟩
 ·
  obtain ⟨hi, j1, h1, h2⟩ := hc
  obtain ⟨hi', j2, h3, h4⟩ := hc'
  obtain ⟨-, k3, -⟩ := h.el _ (List.getElem_mem hi)
  obtain ⟨-, m3, -⟩ := h.el _ (List.getElem_mem hi')
  rcases (by omega : i < i' ∨ i = i' ∨ i' < i) with e | e | e
  ·
   have := hds i i' hi hi' e; omega
  ·
   subst e; exact ⟨rfl, by omega⟩
  ·
   have := hds i' i hi' hi e; omega
 ·
  rw [List.length_map] at hi
  have hat := rg2_at es i hi
  rw [lsF_at (by rw [List.length_map]; exact hi), List.getElem_map]
  have hcell : ∀ o, o < es.length * 2 → W.cell? ⟨g, o, none⟩ = (rg2 es)[o]? := fun o ho => by
   rw [← r4, List.getElem?_take_of_lt ho, Array.getElem?_toList]
   simp [World.cell?, hh]
  have hfr : ∀ o, W.frozen? ⟨g, o, none⟩ = false := fun o => by simp [World.frozen?, hh]
  obtain ⟨k1, -⟩ := h.el _ (List.getElem_mem hi)
  rw [Nat.zero_add]
  rcases (by omega : j = 0 ∨ j = 1) with rfl | rfl
  ·
   exact ⟨_, (hcell _ (by omega)).trans hat.1, hfr _, rfl⟩
  ·
   exact ⟨_, (hcell _ (by omega)).trans hat.2, hfr _, Own.mono k1 (fun c hc => ⟨hi, rfl, hc⟩)⟩
end Go.Proofs.YtlddhbamcndggaaGreatDoor
