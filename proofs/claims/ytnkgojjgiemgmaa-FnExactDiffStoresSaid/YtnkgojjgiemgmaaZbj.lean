import Derived.Test.YtnkgojjgiemgmaaZba
import Derived.Test.YtnkgojjgiemgmaaZbi
namespace Go.Proofs.Ytnkgojjgiemgmaa
open Go.RowKit Go.Maps
set_option linter.unusedSimpArgs false
theorem posI_spec {n : Int} : ∀ F : List Int, posI F n ≤ F.length ∧ (∀ m (h : m < F.length), m < posI F n → F[m] < n) ∧ (∀ h : posI F n < F.length, ¬ F[posI F n] < n)
  | [] => by simp [posI]
  | x :: F => by
    obtain ⟨h1, h2, h3⟩ := posI_spec (n := n) F
    unfold posI
    by_cases h : x < n
    · simp only [if_pos h]
      refine ⟨by simp; exact h1, fun m hm hk => ?_, fun hk => ?_⟩
      · cases m with
        | zero => exact h
        | succ m => simpa using h2 m (by simpa using hm) (by omega)
      · simpa using h3 (by simpa using hk)
    · simp only [if_neg h]
      exact ⟨by simp, fun m hm hk => by omega, fun _ => h⟩
theorem putI_mem {F : List Int} {n id : Int} : id ∈ putI F n ↔ id ∈ F ∨ id = n := by
  unfold putI
  by_cases h : F[posI F n]? = some n
  · rw [if_pos h]
    have hm : n ∈ F := List.mem_of_getElem? h
    constructor
    · exact .inl
    · rintro (h | rfl)
      · exact h
      · exact hm
  · rw [if_neg h]
    conv => rhs; rw [← List.take_append_drop (posI F n) F]
    simp only [List.mem_append, List.mem_singleton]
    constructor
    · rintro ((h | h) | h)
      · exact .inl (.inl h)
      · exact .inr h
      · exact .inl (.inr h)
    · rintro ((h | h) | h)
      · exact .inl (.inl h)
      · exact .inr h
      · exact .inl (.inr h)
theorem putI_asc {F : List Int} {n : Int} (hF : AscI F) : AscI (putI F n) := by
  unfold putI
  by_cases h : F[posI F n]? = some n
  · rw [if_pos h]; exact hF
  · rw [if_neg h]
    obtain ⟨h1, h2, h3⟩ := posI_spec (n := n) F
    have hat := List.pairwise_iff_getElem.1 hF
    have hlo : ∀ a ∈ F.take (posI F n), a < n := fun a ha => by
      obtain ⟨m, hm, rfl⟩ := List.mem_iff_getElem.1 ha
      rw [List.length_take] at hm
      rw [List.getElem_take]
      exact h2 m (by omega) (by omega)
    have hhi : ∀ b ∈ F.drop (posI F n), n < b := fun b hb => by
      obtain ⟨m, hm, rfl⟩ := List.mem_iff_getElem.1 hb
      rw [List.length_drop] at hm
      rw [List.getElem_drop]
      have h4 := h3 (by omega)
      rw [List.getElem?_eq_getElem (by omega)] at h
      have h5 : F[posI F n]'(by omega) ≠ n := fun e => h (by rw [e])
      by_cases e : m = 0
      · subst e; simp only [Nat.add_zero]; omega
      · have := hat (posI F n) (posI F n + m) (by omega) (by omega) (by omega); omega
    have hsp := List.pairwise_append.1 (show (F.take (posI F n) ++ F.drop (posI F n)).Pairwise (· < ·) by rw [List.take_append_drop]; exact hF)
    exact List.pairwise_append.2 ⟨List.pairwise_append.2 ⟨hsp.1, List.pairwise_singleton _ _, fun a ha b hb => by obtain rfl := List.mem_singleton.1 hb; exact hlo a ha⟩, hsp.2.1, fun a ha b hb => by
      rcases List.mem_append.1 ha with ha | ha
      · exact hsp.2.2 a ha b hb
      · obtain rfl := List.mem_singleton.1 ha; exact hhi b hb⟩
theorem foldI_spec : ∀ (l : List RowV) (I : List Int), AscI I → AscI (foldI l I) ∧ ∀ id, id ∈ foldI l I ↔ id ∈ I ∨ ∃ r ∈ l, r.id = id
  | [], I, h => ⟨h, fun id => by simp [foldI]⟩
  | r :: l, I, h => by
    obtain ⟨h1, h2⟩ := foldI_spec l (putI I r.id) (putI_asc h)
    refine ⟨h1, fun id => (h2 id).trans ?_⟩
    rw [putI_mem]
    simp only [List.mem_cons, exists_eq_or_imp]
    constructor
    · rintro ((h | h) | h)
      · exact .inl h
      · exact .inr (.inl h.symm)
      · exact .inr (.inr h)
    · rintro (h | h | h)
      · exact .inl (.inl h)
      · exact .inl (.inr h.symm)
      · exact .inr h
theorem ids_spec (la lb : List RowV) : AscI (idsOf la lb) ∧ ∀ id, id ∈ idsOf la lb ↔ (∃ r ∈ la, r.id = id) ∨ ∃ r ∈ lb, r.id = id := by
  obtain ⟨h1, h2⟩ := foldI_spec la [] List.Pairwise.nil
  obtain ⟨h3, h4⟩ := foldI_spec lb (foldI la []) h1
  refine ⟨h3, fun id => (h4 id).trans ?_⟩
  rw [h2]
  simp
theorem asc_uniq : ∀ {l m : List Int}, AscI l → AscI m → (∀ id, id ∈ l ↔ id ∈ m) → l = m
  | [], [], _, _, _ => rfl
  | [], b :: m, _, _, h => by have := (h b).2 (by simp); cases this
  | a :: l, [], _, _, h => by have := (h a).1 (by simp); cases this
  | a :: l, b :: m, hl, hm, h => by
    have hl' := List.pairwise_cons.1 hl
    have hm' := List.pairwise_cons.1 hm
    have e : a = b := by
      rcases List.mem_cons.1 ((h a).1 (by simp)) with e | e
      · exact e
      · rcases List.mem_cons.1 ((h b).2 (by simp)) with e2 | e2
        · exact e2.symm
        · have h1 := hm'.1 a e; have h2 := hl'.1 b e2; omega
    subst e
    congr 1
    refine asc_uniq hl'.2 hm'.2 (fun id => ?_)
    have h1 := h id
    simp only [List.mem_cons] at h1
    constructor
    · intro hid
      rcases h1.1 (.inr hid) with e | e
      · subst e; have := hl'.1 id hid; omega
      · exact e
    · intro hid
      rcases h1.2 (.inr hid) with e | e
      · subst e; have := hm'.1 id hid; omega
      · exact e
theorem ids_two {la lb : List RowV} {l : List Int} (h : AscI l) (hm : ∀ id, id ∈ l ↔ idIn [la, lb] 2 0 id) : l = idsOf la lb := by
  obtain ⟨h1, h2⟩ := ids_spec la lb
  refine asc_uniq h h1 (fun id => (hm id).trans (Iff.trans ?_ (h2 id).symm))
  constructor
  · rintro (⟨t, ht, r, hr, e⟩ | ⟨m, hm, -⟩)
    · rcases (by omega : t = 0 ∨ t = 1) with rfl | rfl
      · exact .inl ⟨r, hr, e⟩
      · exact .inr ⟨r, hr, e⟩
    · omega
  · rintro (⟨r, hr, e⟩ | ⟨r, hr, e⟩)
    · exact .inl ⟨0, by omega, r, hr, e⟩
    · exact .inl ⟨1, by omega, r, hr, e⟩
structure Ch3 where
  c : ChV
  vo : Value
  vn : Value
  s0 : Nat
  s1 : Nat
  s2 : Nat
def cs6 (es : List Ch3) : List Value := es.flatMap (fun e => [.int .i64 e.c.tab, .int .i64 e.c.cid, .int .i64 e.c.oid, e.vo, .int .i64 e.c.nid, e.vn])
theorem cs6_cons (e : Ch3) (es : List Ch3) : cs6 (e :: es) = .int .i64 e.c.tab :: .int .i64 e.c.cid :: .int .i64 e.c.oid :: e.vo :: .int .i64 e.c.nid :: e.vn :: cs6 es := rfl
theorem cs6_app (a b : List Ch3) : cs6 (a ++ b) = cs6 a ++ cs6 b := by unfold cs6; rw [List.flatMap_append]
theorem cs6_at : ∀ (es : List Ch3) (k : Nat) (h : k < es.length), (cs6 es)[k * 6]? = some (.int .i64 es[k].c.tab) ∧ (cs6 es)[k * 6 + 1]? = some (.int .i64 es[k].c.cid) ∧ (cs6 es)[k * 6 + 2]? = some (.int .i64 es[k].c.oid) ∧ (cs6 es)[k * 6 + 3]? = some es[k].vo ∧ (cs6 es)[k * 6 + 4]? = some (.int .i64 es[k].c.nid) ∧ (cs6 es)[k * 6 + 5]? = some es[k].vn
  | [], k, h => absurd h (by simp)
  | e :: es, 0, _ => by rw [cs6_cons]; exact ⟨rfl, rfl, rfl, rfl, rfl, rfl⟩
  | e :: es, k + 1, h => by
    have := cs6_at es k (by simpa using h)
    rw [cs6_cons, show (k + 1) * 6 = k * 6 + 1 + 1 + 1 + 1 + 1 + 1 by omega]
    simpa [Nat.add_assoc] using this
structure CG (base : Nat) (W : World) (es : List Ch3) (v : Value) : Prop where
  ow : W.ownsRow base 56 6 v es.length (cs6 es)
  el : ∀ e ∈ es, Own W (dAtomSS e.c.ocs) (fun c => e.s0 ≤ c ∧ c < e.s1) e.vo ∧ Own W (dAtomSS e.c.ncs) (fun c => e.s1 ≤ c ∧ c < e.s2) e.vn ∧ e.s0 ≤ e.s1 ∧ e.s1 ≤ e.s2 ∧ e.s2 ≤ W.heap.size ∧ base ≤ e.s0 ∧ ∀ g, v.ownBlock = some g → ¬ (e.s0 ≤ g ∧ g < e.s2)
  ds : es.Pairwise (fun a b => a.s2 ≤ b.s0)
theorem CG.nil (base : Nat) (W : World) : CG base W [] (.slice none 0 0) := ⟨⟨by simp [cs6], .inl ⟨rfl, rfl⟩⟩, fun e h => absurd h (by simp), List.Pairwise.nil⟩
theorem CG.later {base : Nat} {W W' : World} {es : List Ch3} {v : Value} (h : CG base W es v) (hB : Below W.heap.size W W') : CG base W' es v :=
  ⟨ownsRow_later h.ow hB, fun e he => by
    obtain ⟨h1, h2, h3, h4, h5, h6, h7⟩ := h.el e he
    exact ⟨h1.later hB, h2.later hB, h3, h4, Nat.le_trans h5 hB.size, h6, h7⟩, h.ds⟩
theorem CG.low {base : Nat} {W : World} {es : List Ch3} {v : Value} (h : CG base W es v) {g : Nat} (hg : v.ownBlock = some g) : base ≤ g ∧ g < W.heap.size := by
  rcases h.ow.2 with ⟨rfl, -⟩ | ⟨g2, cap, cur, rfl, hb, hh, -⟩
  · cases hg
  · simp only [Value.ownBlock, Option.some.injEq] at hg
    subst hg
    exact ⟨hb, (Array.getElem?_eq_some_iff.1 hh).1⟩
theorem CG.push {base : Nat} {W V : World} {es : List Ch3} {v : Value} (h : CG base W es v) (hB : Below W.heap.size W V) (e : Ch3) (h0 : W.heap.size ≤ e.s0) (h01 : e.s0 ≤ e.s1) (h12 : e.s1 ≤ e.s2) (h2 : e.s2 ≤ V.heap.size) (ho : Own V (dAtomSS e.c.ocs) (fun c => e.s0 ≤ c ∧ c < e.s1) e.vo) (hn : Own V (dAtomSS e.c.ncs) (fun c => e.s1 ≤ c ∧ c < e.s2) e.vn) (hb : base ≤ W.heap.size) (hlen : es.length ≤ 8000000) (ty : TypeId) :
    ∃ a' c' W', (Builtin.append_ #[26, 26] ty #[v, .slice (some ⟨V.heap.size, 0, none⟩) 1 1]).run Try.prog (V.alloc (.cells #[.int .i64 e.c.tab, .int .i64 e.c.cid, .int .i64 e.c.oid, e.vo, .int .i64 e.c.nid, e.vn] 56)) = .ok (.slice a' (es.length + 1) c') W' ∧ CG base W' (es ++ [e]) (.slice a' (es.length + 1) c') ∧ (∀ b, b < W.heap.size → v.ownBlock ≠ some b → W'.heap[b]? = W.heap[b]?) ∧ (∀ b, W.heap.size ≤ b → b < V.heap.size → W'.heap[b]? = V.heap[b]?) ∧ Below base W W' ∧ V.heap.size < W'.heap.size ∧ ∀ g, Value.ownBlock (.slice a' (es.length + 1) c') = some g → v.ownBlock = some g ∨ V.heap.size ≤ g := by
  obtain ⟨i, hi, hz, hs, hby⟩ := infoCh
  have sV := hB.size
  have hV1 := below_allocD V (.cells #[.int .i64 e.c.tab, .int .i64 e.c.cid, .int .i64 e.c.oid, e.vo, .int .i64 e.c.nid, e.vn] 56)
  have hV2 : Below W.heap.size W (V.alloc (.cells #[.int .i64 e.c.tab, .int .i64 e.c.cid, .int .i64 e.c.oid, e.vo, .int .i64 e.c.nid, e.vn] 56)) := hB.trans (hV1.mono sV)
  have h1 := h.later hV2
  have sA := size_allocD V (.cells #[.int .i64 e.c.tab, .int .i64 e.c.cid, .int .i64 e.c.oid, e.vo, .int .i64 e.c.nid, e.vn] 56)
  have hnw := heap_newD V (.cells #[.int .i64 e.c.tab, .int .i64 e.c.cid, .int .i64 e.c.oid, e.vo, .int .i64 e.c.nid, e.vn] 56)
  have hone : ∀ {l : List (List At)} {X : Nat → Prop} {u : Value} {Z : World}, Own Z (dAtomSS l) X u → u.oneCell' = true := fun h => by obtain ⟨a, c, rfl, -⟩ := h; rfl
  obtain ⟨v', W', hr, hrow, hg, g, hgv, hgg⟩ := run_append_own3 (P := Try.prog) (V.alloc (.cells #[.int .i64 e.c.tab, .int .i64 e.c.cid, .int .i64 e.c.oid, e.vo, .int .i64 e.c.nid, e.vn] 56)) base 26 ty 56 i _ 6 80 Try.underlying26 hi hz hs hby rfl (by omega) v es.length _ h1.ow ⟨V.heap.size, 0, none⟩ 1 1 [.int .i64 e.c.tab, .int .i64 e.c.cid, .int .i64 e.c.oid, e.vo, .int .i64 e.c.nid, e.vn] rfl (fun j u hj => by
      rw [Addr.add_mid]
      simp only [World.cell?, hnw, Nat.zero_add]
      simpa using hj) (fun u hu => by
      simp only [List.mem_cons, List.not_mem_nil, or_false] at hu
      rcases hu with rfl | rfl | rfl | rfl | rfl | rfl
      · rfl
      · rfl
      · rfl
      · exact hone ho
      · rfl
      · exact hone hn) (by unfold maxLen; omega) (by omega) (by omega) (by omega)
  obtain ⟨a', c', rfl⟩ : ∃ a' c', v' = .slice a' (es.length + 1) c' := by
    rcases hrow.2 with ⟨-, h0⟩ | ⟨g, cap, cur, rfl, -⟩
    · omega
    · exact ⟨_, _, rfl⟩
  have hgs := hg.size
  have hkeep : ∀ b, b < V.heap.size → v.ownBlock ≠ some b → W'.heap[b]? = V.heap[b]? := fun b hb hne => by
    rw [hg.block b (by omega) (fun e => hne e.symm), hV1.block b hb]
  have hvlow : ∀ g, v.ownBlock = some g → base ≤ g ∧ g < W.heap.size := fun g hg => h.low hg
  refine ⟨a', c', W', hr, ⟨?_, fun f hf => ?_, ?_⟩, fun b hb hne => by rw [hkeep b (by omega) hne, hB.block b hb], fun b hb1 hb2 => hkeep b hb2 (fun e => by have := (hvlow b e).2; omega), ⟨?_, ?_, ?_, by omega, fun b hb => ?_⟩, by omega, fun g' hg' => ?_⟩
  · rw [List.length_append, List.length_singleton, cs6_app]; exact hrow
  · have hgn : ∀ g', Value.ownBlock (.slice a' (es.length + 1) c') = some g' → v.ownBlock = some g' ∨ V.heap.size < g' := fun g' hg' => by
      rw [hgv] at hg'
      simp only [Option.some.injEq] at hg'
      subst hg'
      rcases hgg with e | e
      · exact .inl e
      · exact .inr (by omega)
    rcases List.mem_append.1 hf with hf | hf
    · obtain ⟨k1, k2, k3, k4, k5, k6, k7⟩ := h.el f hf
      refine ⟨Own.same _ _ _ _ (fun c hc => ?_) (fun _ h => h) k1, Own.same _ _ _ _ (fun c hc => ?_) (fun _ h => h) k2, k3, k4, by omega, k6, fun g' hg' hx => ?_⟩
      · rw [hkeep c (by have := hc.2; omega) (fun e => k7 c e ⟨hc.1, by have := hc.2; omega⟩), hB.block c (by have := hc.2; omega)]
      · rw [hkeep c (by have := hc.2; omega) (fun e => k7 c e ⟨by have := hc.1; omega, hc.2⟩), hB.block c (by have := hc.2; omega)]
      · rcases hgn g' hg' with e | e
        · exact k7 g' e hx
        · have := hx.2; omega
    · obtain rfl := List.mem_singleton.1 hf
      refine ⟨Own.same _ _ _ _ (fun c hc => ?_) (fun _ h => h) ho, Own.same _ _ _ _ (fun c hc => ?_) (fun _ h => h) hn, h01, h12, by omega, by omega, fun g' hg' hx => ?_⟩
      · exact hkeep c (by have := hc.2; omega) (fun e => by have h1 := (hvlow c e).2; have h2 := hc.1; omega)
      · exact hkeep c (by have := hc.2; omega) (fun e => by have h1 := (hvlow c e).2; have h2 := hc.1; omega)
      · rcases hgn g' hg' with e | e
        · have h1 := (hvlow g' e).2; have h2 := hx.1; omega
        · have := hx.2; omega
  · refine List.pairwise_append.2 ⟨h.ds, List.pairwise_singleton _ _, fun a ha b hb => ?_⟩
    obtain rfl := List.mem_singleton.1 hb
    have := (h.el a ha).2.2.2.2.1
    omega
  · exact hg.os.trans hB.os
  · exact hg.tape.trans hB.tape
  · exact hg.output.trans hB.output
  · rw [hkeep b (by omega) (fun e => by have := (hvlow b e).1; omega), hB.block b (by omega)]
  · rw [hgv] at hg'
    simp only [Option.some.injEq] at hg'
    subst hg'
    rcases hgg with e | e
    · exact .inl e
    · exact .inr (by omega)
theorem CG.own {base : Nat} {W : World} {es : List Ch3} {v : Value} (h : CG base W es v) : Own W (dChangeS (es.map Ch3.c)) (fun c => base ≤ c ∧ c < W.heap.size) v := by
  rcases h.ow.2 with ⟨rfl, h0⟩ | ⟨g, cap, cur, rfl, hg, hh, r1, r2, r3, r4⟩
  · refine ⟨none, 0, by simp [h0], .inl (by simp [h0])⟩
  refine ⟨_, _, by rw [List.length_map], ?_⟩
  by_cases h0 : (es.map Ch3.c).length = 0
  · exact .inl h0
  rw [List.length_map] at h0
  have hds := List.pairwise_iff_getElem.1 h.ds
  refine .inr ⟨g, 0, fun i j c => ∃ hi : i < es.length, (j = 3 ∧ es[i].s0 ≤ c ∧ c < es[i].s1) ∨ (j = 5 ∧ es[i].s1 ≤ c ∧ c < es[i].s2), rfl, ⟨hg, (Array.getElem?_eq_some_iff.1 hh).1⟩, by omega, fun i j c hc => ?_, fun i j i' j' c hc hc' => ?_, fun i j hi hj => ?_⟩
  · obtain ⟨hi, hc⟩ := hc
    obtain ⟨k1, k2, k3, k4, k5, k6, k7⟩ := h.el _ (List.getElem_mem hi)
    have k8 := k7 g rfl
    rcases hc with ⟨-, h1, h2⟩ | ⟨-, h1, h2⟩
    · exact ⟨⟨by omega, by omega⟩, fun e => k8 ⟨by omega, by omega⟩⟩
    · exact ⟨⟨by omega, by omega⟩, fun e => k8 ⟨by omega, by omega⟩⟩
  · obtain ⟨hi, hc⟩ := hc
    obtain ⟨hi', hc'⟩ := hc'
    obtain ⟨-, -, k3, k4, -⟩ := h.el _ (List.getElem_mem hi)
    obtain ⟨-, -, m3, m4, -⟩ := h.el _ (List.getElem_mem hi')
    rcases (by omega : i < i' ∨ i = i' ∨ i' < i) with e | e | e
    · have := hds i i' hi hi' e; omega
    · subst e; exact ⟨rfl, by omega⟩
    · have := hds i' i hi' hi e; omega
  · rw [List.length_map] at hi
    have hat := cs6_at es i hi
    rw [lsF_at (by rw [List.length_map]; exact hi), List.getElem_map]
    have hcell : ∀ o, o < es.length * 6 → W.cell? ⟨g, o, none⟩ = (cs6 es)[o]? := fun o ho => by
      rw [← r4, List.getElem?_take_of_lt ho, Array.getElem?_toList]
      simp [World.cell?, hh]
    have hfr : ∀ o, W.frozen? ⟨g, o, none⟩ = false := fun o => by simp [World.frozen?, hh]
    obtain ⟨k1, k2, -⟩ := h.el _ (List.getElem_mem hi)
    rw [Nat.zero_add]
    rcases (by omega : j = 0 ∨ j = 1 ∨ j = 2 ∨ j = 3 ∨ j = 4 ∨ j = 5) with rfl | rfl | rfl | rfl | rfl | rfl
    · exact ⟨_, (hcell _ (by omega)).trans hat.1, hfr _, rfl⟩
    · exact ⟨_, (hcell _ (by omega)).trans hat.2.1, hfr _, rfl⟩
    · exact ⟨_, (hcell _ (by omega)).trans hat.2.2.1, hfr _, rfl⟩
    · exact ⟨_, (hcell _ (by omega)).trans hat.2.2.2.1, hfr _, Own.mono k1 (fun c hc => ⟨hi, .inl ⟨rfl, hc⟩⟩)⟩
    · exact ⟨_, (hcell _ (by omega)).trans hat.2.2.2.2.1, hfr _, rfl⟩
    · exact ⟨_, (hcell _ (by omega)).trans hat.2.2.2.2.2, hfr _, Own.mono k2 (fun c hc => ⟨hi, .inr ⟨rfl, hc⟩⟩)⟩
end Go.Proofs.Ytnkgojjgiemgmaa
