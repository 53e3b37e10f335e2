import Derived.Test.YtngbhifafdbpkaaGreatZbb
import Derived.Test.YtngbhifafdbpkaaGreatZap
namespace Go.Proofs.YtngbhifafdbpkaaGreat
open Go.RowKit
set_option linter.unusedSimpArgs false
def totT (L : List (List RowV)) : Nat := (L.map List.length).sum
theorem tot_set : ∀ {L : List (List RowV)} {i : Nat} {l' : List RowV} (h : i < L.length), totT (L.set i l') + L[i].length = totT L + l'.length
  | y :: L, 0, l', _ => by simp only [totT, List.set_cons_zero, List.map_cons, List.sum_cons, List.getElem_cons_zero]; omega
  | y :: L, i + 1, l', h => by
    have ih := tot_set (L := L) (i := i) (l' := l') (by simpa using h)
    simp only [totT, List.set_cons_succ, List.map_cons, List.sum_cons, List.getElem_cons_succ] at ih ⊢
    omega
theorem keepT_le {X : List (List RowV)} {K : Nat} (h : (dRowSS X).le K) (P : Nat → Int → Prop) : (dRowSS (keepT P X)).le K := by
  have hx := Ls_le.1 h
  refine Ls_le.2 ⟨by omega, by rw [keepT_len]; exact hx.2.1, fun i hi j hj => ?_⟩
  rw [keepT_len] at hi
  rw [keepT_at hi]
  have hr := Ls_le.1 (hx.2.2 i hi 0 (by omega) : (dRowS X[i]).le K)
  have hl : (keepR (P i) X[i]).length ≤ X[i].length := List.length_filter_le _ _
  refine Ls_le.2 ⟨by omega, by omega, fun k hk j hj => ?_⟩
  obtain ⟨q, hq, e⟩ := List.mem_iff_getElem.1 (mem_keepR.1 (List.getElem_mem hk)).1
  rw [← e]
  exact hr.2.2 q hq j hj
def Reach (l : List Tb) (X Y : List (List RowV)) : Prop := ∃ K, Y = keepT K X ∧ ∀ i id, gset l X i id → K i id
theorem reach_first (l : List Tb) (X : List (List RowV)) : Reach l X X := ⟨fun _ _ => True, (keepT_all X).symm, fun _ _ _ => trivial⟩
theorem Reach.len {l : List Tb} {X Y : List (List RowV)} (h : Reach l X Y) : Y.length = X.length := by obtain ⟨K, rfl, -⟩ := h; exact keepT_len _ _
theorem Reach.le {l : List Tb} {X Y : List (List RowV)} (h : Reach l X Y) {K : Nat} (hx : (dRowSS X).le K) : (dRowSS Y).le K := by obtain ⟨P, rfl, -⟩ := h; exact keepT_le hx P
theorem Reach.form {l : List Tb} {X Y : List (List RowV)} (h : Reach l X Y) {n : Int} (hf : FormP l ⟨X, n⟩) : FormP l ⟨Y, n⟩ := by obtain ⟨P, rfl, -⟩ := h; exact form_keep hf P
def okR (l : List Tb) (Y : List (List RowV)) (i k : Nat) : Prop := ∀ t r, l[i]? = some t → (Y.getD i [])[k]? = some r → t.rt = true ∨ strongN l Y t.nm ⟨4, r.id, []⟩ l.length ≠ 0
theorem Reach.drop {l : List Tb} {X Y : List (List RowV)} (h : Reach l X Y) {n : Int} (hf : FormP l ⟨X, n⟩) {i k : Nat} (hi : i < l.length) (hY : i < Y.length) (hk : k < Y[i].length) (hr : l[i].rt = false) (h0 : strongN l Y l[i].nm ⟨4, Y[i][k].id, []⟩ l.length = 0) : Reach l X (Y.set i (Y[i].eraseIdx k)) := by
  obtain ⟨K, rfl, hK⟩ := h
  have hX : i < X.length := by rw [keepT_len] at hY; exact hY
  have hrise : riseIds (keepT K X)[i] := by
    rw [keepT_at hX]
    exact rise_keep (hf.2.2 i hi hX).2.1 _
  refine ⟨fun j z => K j z ∧ (j = i → z ≠ ((keepT K X)[i])[k].id), ?_, fun j z hz => ⟨hK j z hz, fun e e2 => ?_⟩⟩
  · rw [erase_keep hrise hk]
    exact keepT_set hX _
  · subst e
    rw [e2] at hz
    exact keep_drop hK hi hr (fun hh => (strong_ne.2 hh) h0) hz
theorem Reach.end {l : List Tb} {X Y : List (List RowV)} (h : Reach l X Y) (hl : X.length = l.length) (hok : ∀ i k, i < l.length → okR l Y i k) : Y = keepT (gset l X) X := by
  obtain ⟨K, rfl, hK⟩ := h
  refine keep_end hl hK (fun i hi r hr => ?_)
  obtain ⟨k, hk, rfl⟩ := List.mem_iff_getElem.1 hr
  rcases hok i k hi l[i] _ (List.getElem?_eq_getElem hi) (List.getElem?_eq_getElem hk) with h | h
  · exact .inl h
  · exact .inr (strong_ne.1 h)
end Go.Proofs.YtngbhifafdbpkaaGreat
namespace Go.Proofs.YtngbhifafdbpkaaGreat
open Go.RowKit
set_option linter.unusedSimpArgs false
noncomputable def heldL (l : List Tb) (Y : List (List RowV)) (i : Nat) (nm : List UInt8) : List RowV := keepR (fun id => holds l Y nm ⟨4, id, []⟩) (Y.getD i [])
theorem held_len (l : List Tb) (Y : List (List RowV)) (i : Nat) (nm : List UInt8) : (heldL l Y i nm).length ≤ (Y.getD i []).length := List.length_filter_le _ _
theorem Reach.pick {l : List Tb} {X Y : List (List RowV)} (h : Reach l X Y) {i : Nat} (hi : i < l.length) (hY : i < Y.length) (hr : l[i].rt = false) : Reach l X (Y.set i (heldL l Y i l[i].nm)) := by
  obtain ⟨K, rfl, hK⟩ := h
  have hX : i < X.length := by rw [keepT_len] at hY; exact hY
  refine ⟨fun j z => K j z ∧ (j = i → holds l (keepT K X) l[i].nm ⟨4, z, []⟩), ?_, fun j z hz => ⟨hK j z hz, fun e => ?_⟩⟩
  · unfold heldL
    rw [getD_tab hY]
    exact keepT_set hX _
  · subst e
    exact Classical.byContradiction (fun hh => keep_drop hK hi hr hh hz)
theorem held_all {l : List Tb} {Y : List (List RowV)} {i : Nat} (hi : i < l.length) (hY : i < Y.length) (he : ¬ (heldL l Y i l[i].nm).length < Y[i].length) : Y.set i (heldL l Y i l[i].nm) = Y ∧ ∀ k, okR l Y i k := by
  have h1 := held_len l Y i l[i].nm
  rw [getD_tab hY] at h1
  have hf : heldL l Y i l[i].nm = Y[i] := by
    unfold heldL
    rw [getD_tab hY]
    unfold heldL at h1 he
    rw [getD_tab hY] at h1 he
    exact List.Sublist.eq_of_length_le List.filter_sublist (by omega)
  refine ⟨by rw [hf]; exact List.set_getElem_self hY, fun k t r ht hr => .inr ?_⟩
  rw [List.getElem?_eq_getElem hi] at ht
  obtain rfl := Option.some.inj ht
  rw [getD_tab hY] at hr
  obtain ⟨hk, rfl⟩ := List.getElem?_eq_some_iff.1 hr
  have hm : Y[i][k] ∈ heldL l Y i l[i].nm := by rw [hf]; exact List.getElem_mem hk
  exact strong_ne.2 (mem_keepR.1 hm).2
structure PrD (l : List Tb) (X : List (List RowV)) (R : Nat) (b : Bool) (i : Nat) (Y : List (List RowV)) : Prop where
  r : Reach l X Y
  t : totT Y + (if b = true then 1 else 0) ≤ R
  o : b = false → ∀ j k, j < i → okR l Y j k
theorem PrD.first {l : List Tb} {X Y : List (List RowV)} (h : Reach l X Y) : PrD l X (totT Y) false 0 Y := ⟨h, by simp, fun _ _ _ h => absurd h (by omega)⟩
theorem PrD.root {l : List Tb} {X Y : List (List RowV)} {R : Nat} {b : Bool} {i : Nat} (h : PrD l X R b i Y) (hi : i < l.length) (hr : l[i].rt = true) : PrD l X R b (i + 1) Y := ⟨h.r, h.t, fun hb j k hj => by
  rcases (by omega : j < i ∨ j = i) with e | rfl
  · exact h.o hb j k e
  · intro t r ht _
    rw [List.getElem?_eq_getElem hi] at ht
    obtain rfl := Option.some.inj ht
    exact .inl hr⟩
theorem PrD.pick {l : List Tb} {X Y : List (List RowV)} {R : Nat} {b : Bool} {i : Nat} (h : PrD l X R b i Y) (hi : i < l.length) (hY : i < Y.length) (hr : l[i].rt = false) : PrD l X R (b || decide ((heldL l Y i l[i].nm).length < Y[i].length)) (i + 1) (Y.set i (heldL l Y i l[i].nm)) := by
  have h1 := h.r.pick hi hY hr
  have h2 := tot_set (l' := heldL l Y i l[i].nm) hY
  have h3 := h.t
  by_cases hs : (heldL l Y i l[i].nm).length < Y[i].length
  · have hb : (b || decide ((heldL l Y i l[i].nm).length < Y[i].length)) = true := by simp [hs]
    rw [hb]
    exact ⟨h1, by simp; omega, fun e => absurd e (by decide)⟩
  · have hb : (b || decide ((heldL l Y i l[i].nm).length < Y[i].length)) = b := by simp [hs]
    obtain ⟨e, ho⟩ := held_all hi hY hs
    rw [hb, e]
    exact ⟨h.r, h3, fun hb' j k hj => by
      rcases (by omega : j < i ∨ j = i) with e | rfl
      · exact h.o hb' j k e
      · exact ho k⟩
theorem PrD.end {l : List Tb} {X Y : List (List RowV)} {R : Nat} (h : PrD l X R false l.length Y) (hl : X.length = l.length) : Y = keepT (gset l X) X := h.r.end hl (fun i k hi => h.o rfl i k hi)
end Go.Proofs.YtngbhifafdbpkaaGreat
namespace Go.Proofs.YtngbhifafdbpkaaGreat
open Go.RowKit
set_option linter.unusedSimpArgs false
structure OgE where
  vs : Nat → Value
  s : Nat → Nat
def ogC (n : Nat) (es : List OgE) : List Value := es.flatMap (fun e => (List.range n).map e.vs)
theorem ogC_app (n : Nat) (a b : List OgE) : ogC n (a ++ b) = ogC n a ++ ogC n b := by unfold ogC; rw [List.flatMap_append]
theorem ogC_at (n : Nat) : ∀ (es : List OgE) (i j : Nat) (h : i < es.length), j < n → (ogC n es)[i * n + j]? = some (es[i].vs j)
  | [], i, j, h, _ => absurd h (by simp)
  | e :: es, 0, j, _, hj => by
    show ((List.range n).map e.vs ++ ogC n es)[0 * n + j]? = _
    rw [Nat.zero_mul, Nat.zero_add, List.getElem?_append_left (by simpa using hj)]
    simp [hj]
  | e :: es, i + 1, j, h, hj => by
    have ih := ogC_at n es i j (by simpa using h) hj
    show ((List.range n).map e.vs ++ ogC n es)[(i + 1) * n + j]? = _
    have e1 : (i + 1) * n + j = ((List.range n).map e.vs).length + (i * n + j) := by rw [List.length_map, List.length_range, Nat.succ_mul]; omega
    rw [e1, List.getElem?_append_right (by omega), Nat.add_sub_cancel_left, ih]
    rfl
structure OG (base : Nat) (W : World) (T : TypeId) (n : Nat) (d : Nat → Nat → D) (es : List OgE) (v : Value) : Prop where
  ow : W.ownsRow base T n v es.length (ogC n es)
  el : ∀ i (h : i < es.length), (∀ j, j < n → Own W (d i j) (fun c => es[i].s j ≤ c ∧ c < es[i].s (j + 1)) (es[i].vs j)) ∧ (∀ j k, j ≤ k → k ≤ n → es[i].s j ≤ es[i].s k) ∧ es[i].s n ≤ W.heap.size ∧ base ≤ es[i].s 0 ∧ ∀ g, v.ownBlock = some g → ¬ (es[i].s 0 ≤ g ∧ g < es[i].s n)
  ds : es.Pairwise (fun a b => a.s n ≤ b.s 0)
theorem OG.nil (base : Nat) (W : World) (T : TypeId) (n : Nat) (d : Nat → Nat → D) : OG base W T n d [] (.slice none 0 0) := ⟨⟨by simp [ogC], .inl ⟨rfl, rfl⟩⟩, fun i h => absurd h (by simp), List.Pairwise.nil⟩
theorem OG.start {base : Nat} {W : World} {T : TypeId} {n : Nat} (d : Nat → Nat → D) {g : Nat} (hg : base ≤ g) (hh : W.heap[g]? = some (.cells #[] T)) : OG base W T n d [] (.slice (some ⟨g, 0, none⟩) 0 0) :=
  ⟨⟨by simp [ogC], .inr ⟨g, 0, #[], rfl, hg, hh, by simp, by omega, by simp, by simp [ogC]⟩⟩, fun i h => absurd h (by simp), List.Pairwise.nil⟩
theorem OG.later {base : Nat} {W W' : World} {T : TypeId} {n : Nat} {d : Nat → Nat → D} {es : List OgE} {v : Value} (h : OG base W T n d es v) (hB : Below W.heap.size W W') : OG base W' T n d es v :=
  ⟨ownsRow_later h.ow hB, fun i hi => by
    obtain ⟨h1, h3, h5, h6, h7⟩ := h.el i hi
    exact ⟨fun j hj => (h1 j hj).later hB, h3, Nat.le_trans h5 hB.size, h6, h7⟩, h.ds⟩
theorem OG.low {base : Nat} {W : World} {T : TypeId} {n : Nat} {d : Nat → Nat → D} {es : List OgE} {v : Value} (h : OG base W T n d es v) {g : Nat} (hg : v.ownBlock = some g) : base ≤ g ∧ g < W.heap.size := by
  rcases h.ow.2 with ⟨rfl, -⟩ | ⟨g2, cap, cur, rfl, hb, hh, -⟩
  · cases hg
  · simp only [Value.ownBlock, Option.some.injEq] at hg
    subst hg
    exact ⟨hb, (Array.getElem?_eq_some_iff.1 hh).1⟩
theorem OG.own {base : Nat} {W : World} {T : TypeId} {n : Nat} {d : Nat → Nat → D} {es : List OgE} {v : Value} (h : OG base W T n d es v) (hn : 0 < n) : Own W (.l n es.length d) (fun c => base ≤ c ∧ c < W.heap.size) v := by
  rcases h.ow.2 with ⟨rfl, h0⟩ | ⟨g, cap, cur, rfl, hg, hh, r1, r2, r3, r4⟩
  · exact ⟨none, 0, by simp [h0], by omega, .inl h0⟩
  refine ⟨_, _, rfl, by omega, ?_⟩
  by_cases h0 : es.length = 0
  · exact .inl h0
  have hds := List.pairwise_iff_getElem.1 h.ds
  refine .inr ⟨g, 0, fun i j c => ∃ hi : i < es.length, j < n ∧ es[i].s j ≤ c ∧ c < es[i].s (j + 1), rfl, ⟨hg, (Array.getElem?_eq_some_iff.1 hh).1⟩, hn, fun i j c hc => ?_, fun i j i' j' c hc hc' => ?_, fun i j hi hj => ?_⟩
  · obtain ⟨hi, hj, h1, h2⟩ := hc
    obtain ⟨k1, k3, k5, k6, k7⟩ := h.el i hi
    have k8 := k7 g rfl
    have m1 := k3 0 j (by omega) (by omega)
    have m2 := k3 (j + 1) n (by omega) (by omega)
    exact ⟨⟨by omega, by omega⟩, fun e => k8 ⟨by omega, by omega⟩⟩
  · obtain ⟨hi, hj, h1, h2⟩ := hc
    obtain ⟨hi', hj', h3, h4⟩ := hc'
    obtain ⟨-, k3, -⟩ := h.el i hi
    obtain ⟨-, m3, -⟩ := h.el i' hi'
    have a1 := k3 0 j (by omega) (by omega)
    have a2 := k3 (j + 1) n (by omega) (by omega)
    have b1 := m3 0 j' (by omega) (by omega)
    have b2 := m3 (j' + 1) n (by omega) (by omega)
    rcases (by omega : i < i' ∨ i = i' ∨ i' < i) with e | e | e
    · have := hds i i' hi hi' e; omega
    · subst e
      refine ⟨rfl, ?_⟩
      rcases (by omega : j < j' ∨ j = j' ∨ j' < j) with e | e | e
      · have := k3 (j + 1) j' (by omega) (by omega); omega
      · exact e
      · have := k3 (j' + 1) j (by omega) (by omega); omega
    · have := hds i' i hi' hi e; omega
  · have hat := ogC_at n es i j hi hj
    have hlt : i * n + j < es.length * n := by
      have : (i + 1) * n ≤ es.length * n := Nat.mul_le_mul_right _ hi
      rw [Nat.succ_mul] at this
      omega
    have hcell : W.cell? ⟨g, i * n + j, none⟩ = (ogC n es)[i * n + j]? := by
      rw [← r4, List.getElem?_take_of_lt hlt, Array.getElem?_toList]
      simp [World.cell?, hh]
    have hfr : W.frozen? ⟨g, i * n + j, none⟩ = false := by simp [World.frozen?, hh]
    obtain ⟨k1, -⟩ := h.el i hi
    rw [Nat.zero_add]
    exact ⟨_, hcell.trans hat, hfr, Own.mono (k1 j hj) (fun c hc => ⟨hi, hj, hc⟩)⟩
theorem OG.push {P : Program} {base : Nat} {W V : World} {T : TypeId} {n : Nat} {d : Nat → Nat → D} {es : List OgE} {v : Value} (h : OG base W T n d es v) (hn : 0 < n) (hB : Below W.heap.size W V)
    (t ty : TypeId) (i : TypeInfo) (z : Value) (bytes : Nat) (ht : P.underlying t = some (.slice T)) (hi : P.info? T = some i) (hz : i.zero = some z) (hs : i.size = n) (hby : i.bytes = bytes) (hzs : z.cells.size = n)
    (e : OgE) (p : Addr) (pc : Nat) (hp : ∀ j, j < n → V.cell? (p.add j) = some (e.vs j)) (hone : ∀ j, j < n → (e.vs j).oneCell' = true)
    (h0 : W.heap.size ≤ e.s 0) (hm : ∀ j k, j ≤ k → k ≤ n → e.s j ≤ e.s k) (h2 : e.s n ≤ V.heap.size) (ho : ∀ j, j < n → Own V (d es.length j) (fun c => e.s j ≤ c ∧ c < e.s (j + 1)) (e.vs j)) (hb : base ≤ W.heap.size) (hlen : es.length + 1 ≤ maxLen) (hbytes : (es.length + 1) * bytes ≤ 140737488355328) :
    ∃ a' c' W', (Builtin.append_ #[t, t] ty #[v, .slice (some p) 1 pc]).run P V = .ok (.slice a' (es.length + 1) c') W' ∧ OG base W' T n d (es ++ [e]) (.slice a' (es.length + 1) c') ∧ (∀ b, b < V.heap.size → v.ownBlock ≠ some b → W'.heap[b]? = V.heap[b]?) ∧ Below base W W' ∧ V.heap.size ≤ W'.heap.size ∧ ∀ g, Value.ownBlock (.slice a' (es.length + 1) c') = some g → v.ownBlock = some g ∨ V.heap.size ≤ g := by
  have sV := hB.size
  have h1 := h.later hB
  obtain ⟨v', W', hr, hrow, hg, g, hgv, hgg⟩ := run_append_own3 (P := P) V base t ty T i z n bytes ht hi hz hs hby hzs hn v es.length _ h1.ow p 1 pc ((List.range n).map e.vs) (by simp) (fun j u hj => by
      rw [List.getElem?_map] at hj
      by_cases hjn : j < n
      · rw [List.getElem?_range hjn] at hj
        simp only [Option.map_some, Option.some.injEq] at hj
        rw [← hj]; exact hp j hjn
      · rw [List.getElem?_eq_none (by simpa using hjn)] at hj; cases hj) (fun u hu => by
      rw [List.mem_map] at hu
      obtain ⟨j, hj, rfl⟩ := hu
      exact hone j (by simpa using hj)) hlen hbytes (by omega) (by omega)
  obtain ⟨a', c', rfl⟩ : ∃ a' c', v' = .slice a' (es.length + 1) c' := by
    rcases hrow.2 with ⟨-, h0⟩ | ⟨g, cap, cur, rfl, -⟩
    · omega
    · exact ⟨_, _, rfl⟩
  have hgs := hg.size
  have hkeep : ∀ b, b < V.heap.size → v.ownBlock ≠ some b → W'.heap[b]? = V.heap[b]? := fun b hb hne => hg.block b hb (fun e => hne e.symm)
  have hvlow : ∀ g, v.ownBlock = some g → base ≤ g ∧ g < W.heap.size := fun g hg => h.low hg
  have hgn : ∀ g', Value.ownBlock (.slice a' (es.length + 1) c') = some g' → v.ownBlock = some g' ∨ V.heap.size ≤ g' := fun g' hg' => by
    rw [hgv] at hg'
    simp only [Option.some.injEq] at hg'
    subst hg'
    exact hgg
  refine ⟨a', c', W', hr, ⟨?_, fun k hk => ?_, ?_⟩, hkeep, ⟨hg.os.trans hB.os, hg.tape.trans hB.tape, hg.output.trans hB.output, by omega, fun b hb => ?_⟩, by omega, hgn⟩
  · rw [List.length_append, List.length_singleton, ogC_app]
    have : ogC n [e] = (List.range n).map e.vs := by simp [ogC]
    rw [this]; exact hrow
  · by_cases hk2 : k < es.length
    · obtain ⟨k1, k3, k5, k6, k7⟩ := h.el k hk2
      rw [List.getElem_append_left hk2]
      refine ⟨fun j hj => Own.same _ _ _ _ (fun c hc => ?_) (fun _ h => h) (k1 j hj), k3, by omega, k6, fun g' hg' hx => ?_⟩
      · have m1 := k3 0 j (by omega) (by omega)
        have m2 := k3 (j + 1) n (by omega) (by omega)
        have hc1 := hc.1; have hc2 := hc.2
        rw [hkeep c (by omega) (fun e => k7 c e ⟨by omega, by omega⟩), hB.block c (by omega)]
      · rcases hgn g' hg' with e | e
        · exact k7 g' e hx
        · have := hx.2; omega
    · have hkl : k = es.length := by rw [List.length_append, List.length_singleton] at hk; omega
      subst hkl
      rw [List.getElem_append_right (Nat.le_refl _)]
      simp only [Nat.sub_self, List.getElem_cons_zero]
      refine ⟨fun j hj => Own.same _ _ _ _ (fun c hc => ?_) (fun _ h => h) (ho j hj), hm, by omega, by omega, fun g' hg' hx => ?_⟩
      · have m1 := hm 0 j (by omega) (by omega)
        have m2 := hm (j + 1) n (by omega) (by omega)
        have hc1 := hc.1; have hc2 := hc.2
        exact hkeep c (by omega) (fun e => by have h1 := (hvlow c e).2; omega)
      · have hx1 := hx.1; have hx2 := hx.2
        rcases hgn g' hg' with e | e
        · have h1 := (hvlow g' e).2; omega
        · omega
  · refine List.pairwise_append.2 ⟨h.ds, List.pairwise_singleton _ _, fun a ha b hb => ?_⟩
    obtain rfl := List.mem_singleton.1 hb
    obtain ⟨k, hk, rfl⟩ := List.mem_iff_getElem.1 ha
    have := (h.el k hk).2.2.1
    omega
  · rw [hkeep b (by omega) (fun e => by have := (hvlow b e).1; omega), hB.block b (by omega)]
end Go.Proofs.YtngbhifafdbpkaaGreat
