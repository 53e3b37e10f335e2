import Derived.Test.YthpenliecgpedaaZap
namespace Go.Proofs.Ythpenliecgpedaa
open Go.RowKit
set_option linter.unusedSimpArgs false
structure OgE where
  vs : Nat → Value
  s : Nat → Nat
def ogC (n : Nat) (es : List OgE) : List Value := es.flatMap (fun e => (List.range n).map e.vs)
theorem ogC_app (n : Nat) (a b : List OgE) : ogC n (a ++ b) = ogC n a ++ ogC n b := by unfold ogC; rw [List.flatMap_append]
theorem ogC_at (n : Nat) : ∀ (es : List OgE) (i j : Nat) (h : i < es.length), j < n → (ogC n es)[i * n + j]? = some (es[i].vs j)
  | [], i, j, h, _ => absurd h (by simp)
  | e :: es, 0, j, _, hj => by
    show ((List.range n).map e.vs ++ ogC n es)[0 * n + j]? = _
    rw [Nat.zero_mul, Nat.zero_add, List.getElem?_append_left (by simpa using hj)]
    simp [hj]
  | e :: es, i + 1, j, h, hj => by
    have ih := ogC_at n es i j (by simpa using h) hj
    show ((List.range n).map e.vs ++ ogC n es)[(i + 1) * n + j]? = _
    have e1 : (i + 1) * n + j = ((List.range n).map e.vs).length + (i * n + j) := by rw [List.length_map, List.length_range, Nat.succ_mul]; omega
    rw [e1, List.getElem?_append_right (by omega), Nat.add_sub_cancel_left, ih]
    rfl
structure OG (base : Nat) (W : World) (T : TypeId) (n : Nat) (d : Nat → Nat → D) (es : List OgE) (v : Value) : Prop where
  ow : W.ownsRow base T n v es.length (ogC n es)
  el : ∀ i (h : i < es.length), (∀ j, j < n → Own W (d i j) (fun c => es[i].s j ≤ c ∧ c < es[i].s (j + 1)) (es[i].vs j)) ∧ (∀ j k, j ≤ k → k ≤ n → es[i].s j ≤ es[i].s k) ∧ es[i].s n ≤ W.heap.size ∧ base ≤ es[i].s 0 ∧ ∀ g, v.ownBlock = some g → ¬ (es[i].s 0 ≤ g ∧ g < es[i].s n)
  ds : es.Pairwise (fun a b => a.s n ≤ b.s 0)
theorem OG.nil (base : Nat) (W : World) (T : TypeId) (n : Nat) (d : Nat → Nat → D) : OG base W T n d [] (.slice none 0 0) := ⟨⟨by simp [ogC], .inl ⟨rfl, rfl⟩⟩, fun i h => absurd h (by simp), List.Pairwise.nil⟩
theorem OG.start {base : Nat} {W : World} {T : TypeId} {n : Nat} (d : Nat → Nat → D) {g : Nat} (hg : base ≤ g) (hh : W.heap[g]? = some (.cells #[] T)) : OG base W T n d [] (.slice (some ⟨g, 0, none⟩) 0 0) :=
  ⟨⟨by simp [ogC], .inr ⟨g, 0, #[], rfl, hg, hh, by simp, by omega, by simp, by simp [ogC]⟩⟩, fun i h => absurd h (by simp), List.Pairwise.nil⟩
theorem OG.later {base : Nat} {W W' : World} {T : TypeId} {n : Nat} {d : Nat → Nat → D} {es : List OgE} {v : Value} (h : OG base W T n d es v) (hB : Below W.heap.size W W') : OG base W' T n d es v :=
  ⟨ownsRow_later h.ow hB, fun i hi => by
    obtain ⟨h1, h3, h5, h6, h7⟩ := h.el i hi
    exact ⟨fun j hj => (h1 j hj).later hB, h3, Nat.le_trans h5 hB.size, h6, h7⟩, h.ds⟩
theorem OG.shape {base : Nat} {W : World} {T : TypeId} {n : Nat} {d : Nat → Nat → D} {es : List OgE} {v : Value} (h : OG base W T n d es v) : ∃ a c, v = .slice a es.length c := by
  rcases h.ow.2 with ⟨rfl, h0⟩ | ⟨g, cap, cur, rfl, -⟩
  · exact ⟨none, 0, by rw [h0]⟩
  · exact ⟨_, _, rfl⟩
theorem OG.low {base : Nat} {W : World} {T : TypeId} {n : Nat} {d : Nat → Nat → D} {es : List OgE} {v : Value} (h : OG base W T n d es v) {g : Nat} (hg : v.ownBlock = some g) : base ≤ g ∧ g < W.heap.size := by
  rcases h.ow.2 with ⟨rfl, -⟩ | ⟨g2, cap, cur, rfl, hb, hh, -⟩
  · cases hg
  · simp only [Value.ownBlock, Option.some.injEq] at hg
    subst hg
    exact ⟨hb, (Array.getElem?_eq_some_iff.1 hh).1⟩
theorem OG.own {base : Nat} {W : World} {T : TypeId} {n : Nat} {d : Nat → Nat → D} {es : List OgE} {v : Value} (h : OG base W T n d es v) (hn : 0 < n) : Own W (.l n es.length d) (fun c => base ≤ c ∧ c < W.heap.size) v := by
  rcases h.ow.2 with ⟨rfl, h0⟩ | ⟨g, cap, cur, rfl, hg, hh, r1, r2, r3, r4⟩
  · exact ⟨none, 0, by simp [h0], by omega, .inl h0⟩
  refine ⟨_, _, rfl, by omega, ?_⟩
  by_cases h0 : es.length = 0
  · exact .inl h0
  have hds := List.pairwise_iff_getElem.1 h.ds
  refine .inr ⟨g, 0, fun i j c => ∃ hi : i < es.length, j < n ∧ es[i].s j ≤ c ∧ c < es[i].s (j + 1), rfl, ⟨hg, (Array.getElem?_eq_some_iff.1 hh).1⟩, hn, fun i j c hc => ?_, fun i j i' j' c hc hc' => ?_, fun i j hi hj => ?_⟩
  · obtain ⟨hi, hj, h1, h2⟩ := hc
    obtain ⟨k1, k3, k5, k6, k7⟩ := h.el i hi
    have k8 := k7 g rfl
    have m1 := k3 0 j (by omega) (by omega)
    have m2 := k3 (j + 1) n (by omega) (by omega)
    exact ⟨⟨by omega, by omega⟩, fun e => k8 ⟨by omega, by omega⟩⟩
  · obtain ⟨hi, hj, h1, h2⟩ := hc
    obtain ⟨hi', hj', h3, h4⟩ := hc'
    obtain ⟨-, k3, -⟩ := h.el i hi
    obtain ⟨-, m3, -⟩ := h.el i' hi'
    have a1 := k3 0 j (by omega) (by omega)
    have a2 := k3 (j + 1) n (by omega) (by omega)
    have b1 := m3 0 j' (by omega) (by omega)
    have b2 := m3 (j' + 1) n (by omega) (by omega)
    rcases (by omega : i < i' ∨ i = i' ∨ i' < i) with e | e | e
    · have := hds i i' hi hi' e; omega
    · subst e
      refine ⟨rfl, ?_⟩
      rcases (by omega : j < j' ∨ j = j' ∨ j' < j) with e | e | e
      · have := k3 (j + 1) j' (by omega) (by omega); omega
      · exact e
      · have := k3 (j' + 1) j (by omega) (by omega); omega
    · have := hds i' i hi' hi e; omega
  · have hat := ogC_at n es i j hi hj
    have hlt : i * n + j < es.length * n := by
      have : (i + 1) * n ≤ es.length * n := Nat.mul_le_mul_right _ hi
      rw [Nat.succ_mul] at this
      omega
    have hcell : W.cell? ⟨g, i * n + j, none⟩ = (ogC n es)[i * n + j]? := by
      rw [← r4, List.getElem?_take_of_lt hlt, Array.getElem?_toList]
      simp [World.cell?, hh]
    have hfr : W.frozen? ⟨g, i * n + j, none⟩ = false := by simp [World.frozen?, hh]
    obtain ⟨k1, -⟩ := h.el i hi
    rw [Nat.zero_add]
    exact ⟨_, hcell.trans hat, hfr, Own.mono (k1 j hj) (fun c hc => ⟨hi, hj, hc⟩)⟩
theorem OG.push {P : Program} {base : Nat} {W V : World} {T : TypeId} {n : Nat} {d : Nat → Nat → D} {es : List OgE} {v : Value} (h : OG base W T n d es v) (hn : 0 < n) (hB : Below W.heap.size W V)
    (t ty : TypeId) (i : TypeInfo) (z : Value) (bytes : Nat) (ht : P.underlying t = some (.slice T)) (hi : P.info? T = some i) (hz : i.zero = some z) (hs : i.size = n) (hby : i.bytes = bytes) (hzs : z.cells.size = n)
    (e : OgE) (p : Addr) (pc : Nat) (hp : ∀ j, j < n → V.cell? (p.add j) = some (e.vs j)) (hone : ∀ j, j < n → (e.vs j).oneCell' = true)
    (h0 : W.heap.size ≤ e.s 0) (hm : ∀ j k, j ≤ k → k ≤ n → e.s j ≤ e.s k) (h2 : e.s n ≤ V.heap.size) (ho : ∀ j, j < n → Own V (d es.length j) (fun c => e.s j ≤ c ∧ c < e.s (j + 1)) (e.vs j)) (hb : base ≤ W.heap.size) (hlen : es.length + 1 ≤ maxLen) (hbytes : (es.length + 1) * bytes ≤ 140737488355328) :
    ∃ a' c' W', (Builtin.append_ #[t, t] ty #[v, .slice (some p) 1 pc]).run P V = .ok (.slice a' (es.length + 1) c') W' ∧ OG base W' T n d (es ++ [e]) (.slice a' (es.length + 1) c') ∧ (∀ b, b < V.heap.size → v.ownBlock ≠ some b → W'.heap[b]? = V.heap[b]?) ∧ Below base W W' ∧ V.heap.size ≤ W'.heap.size ∧ ∀ g, Value.ownBlock (.slice a' (es.length + 1) c') = some g → v.ownBlock = some g ∨ V.heap.size ≤ g := by
  have sV := hB.size
  have h1 := h.later hB
  obtain ⟨v', W', hr, hrow, hg, g, hgv, hgg⟩ := run_append_own3 (P := P) V base t ty T i z n bytes ht hi hz hs hby hzs hn v es.length _ h1.ow p 1 pc ((List.range n).map e.vs) (by simp) (fun j u hj => by
      rw [List.getElem?_map] at hj
      by_cases hjn : j < n
      · rw [List.getElem?_range hjn] at hj
        simp only [Option.map_some, Option.some.injEq] at hj
        rw [← hj]; exact hp j hjn
      · rw [List.getElem?_eq_none (by simpa using hjn)] at hj; cases hj) (fun u hu => by
      rw [List.mem_map] at hu
      obtain ⟨j, hj, rfl⟩ := hu
      exact hone j (by simpa using hj)) hlen hbytes (by omega) (by omega)
  obtain ⟨a', c', rfl⟩ : ∃ a' c', v' = .slice a' (es.length + 1) c' := by
    rcases hrow.2 with ⟨-, h0⟩ | ⟨g, cap, cur, rfl, -⟩
    · omega
    · exact ⟨_, _, rfl⟩
  have hgs := hg.size
  have hkeep : ∀ b, b < V.heap.size → v.ownBlock ≠ some b → W'.heap[b]? = V.heap[b]? := fun b hb hne => hg.block b hb (fun e => hne e.symm)
  have hvlow : ∀ g, v.ownBlock = some g → base ≤ g ∧ g < W.heap.size := fun g hg => h.low hg
  have hgn : ∀ g', Value.ownBlock (.slice a' (es.length + 1) c') = some g' → v.ownBlock = some g' ∨ V.heap.size ≤ g' := fun g' hg' => by
    rw [hgv] at hg'
    simp only [Option.some.injEq] at hg'
    subst hg'
    exact hgg
  refine ⟨a', c', W', hr, ⟨?_, fun k hk => ?_, ?_⟩, hkeep, ⟨hg.os.trans hB.os, hg.tape.trans hB.tape, hg.output.trans hB.output, by omega, fun b hb => ?_⟩, by omega, hgn⟩
  · rw [List.length_append, List.length_singleton, ogC_app]
    have : ogC n [e] = (List.range n).map e.vs := by simp [ogC]
    rw [this]; exact hrow
  · by_cases hk2 : k < es.length
    · obtain ⟨k1, k3, k5, k6, k7⟩ := h.el k hk2
      rw [List.getElem_append_left hk2]
      refine ⟨fun j hj => Own.same _ _ _ _ (fun c hc => ?_) (fun _ h => h) (k1 j hj), k3, by omega, k6, fun g' hg' hx => ?_⟩
      · have m1 := k3 0 j (by omega) (by omega)
        have m2 := k3 (j + 1) n (by omega) (by omega)
        have hc1 := hc.1; have hc2 := hc.2
        rw [hkeep c (by omega) (fun e => k7 c e ⟨by omega, by omega⟩), hB.block c (by omega)]
      · rcases hgn g' hg' with e | e
        · exact k7 g' e hx
        · have := hx.2; omega
    · have hkl : k = es.length := by rw [List.length_append, List.length_singleton] at hk; omega
      subst hkl
      rw [List.getElem_append_right (Nat.le_refl _)]
      simp only [Nat.sub_self, List.getElem_cons_zero]
      refine ⟨fun j hj => Own.same _ _ _ _ (fun c hc => ?_) (fun _ h => h) (ho j hj), hm, by omega, by omega, fun g' hg' hx => ?_⟩
      · have m1 := hm 0 j (by omega) (by omega)
        have m2 := hm (j + 1) n (by omega) (by omega)
        have hc1 := hc.1; have hc2 := hc.2
        exact hkeep c (by omega) (fun e => by have h1 := (hvlow c e).2; omega)
      · have hx1 := hx.1; have hx2 := hx.2
        rcases hgn g' hg' with e | e
        · have h1 := (hvlow g' e).2; omega
        · omega
  · refine List.pairwise_append.2 ⟨h.ds, List.pairwise_singleton _ _, fun a ha b hb => ?_⟩
    obtain rfl := List.mem_singleton.1 hb
    obtain ⟨k, hk, rfl⟩ := List.mem_iff_getElem.1 ha
    have := (h.el k hk).2.2.1
    omega
  · rw [hkeep b (by omega) (fun e => by have := (hvlow b e).1; omega), hB.block b (by omega)]
end Go.Proofs.Ythpenliecgpedaa
