import Derived.Test.YtdhlndpobpdfmaaZbc
import Derived.Test.YtdhlndpobpdfmaaZar
import Derived.Test.YtdhlndpobpdfmaaZbd
namespace Go.Proofs.Ytdhlndpobpdfmaa
open Go.RowKit
set_option linter.unusedSimpArgs false
structure Rw3 where
  r : RowV
  v : Value
  X : Nat → Prop
def cs3 (ts : List Rw3) : List Value := ts.flatMap (fun t => [.int .i64 t.r.id, t.v])
theorem cs3_cons (t : Rw3) (ts : List Rw3) : cs3 (t :: ts) = .int .i64 t.r.id :: t.v :: cs3 ts := rfl
theorem cs3_len : ∀ ts : List Rw3, (cs3 ts).length = ts.length * 2
  | [] => rfl
  | t :: ts => by rw [cs3_cons]; simp only [List.length_cons, cs3_len ts]; omega
theorem cs3_app (a b : List Rw3) : cs3 (a ++ b) = cs3 a ++ cs3 b := by unfold cs3; rw [List.flatMap_append]
theorem cs3_take (ts : List Rw3) (k : Nat) (h : k ≤ ts.length) : (cs3 ts).take (k * 2) = cs3 (ts.take k) := by
  conv => lhs; rw [← List.take_append_drop k ts, cs3_app]
  have hl : (cs3 (ts.take k)).length = k * 2 := by rw [cs3_len, List.length_take]; omega
  rw [← hl]; exact List.take_left
theorem cs3_drop (ts : List Rw3) (k : Nat) (h : k ≤ ts.length) : (cs3 ts).drop (k * 2) = cs3 (ts.drop k) := by
  conv => lhs; rw [← List.take_append_drop k ts, cs3_app]
  have hl : (cs3 (ts.take k)).length = k * 2 := by rw [cs3_len, List.length_take]; omega
  rw [← hl]; exact List.drop_left
theorem cs3_at : ∀ (ts : List Rw3) (k : Nat) (h : k < ts.length), (cs3 ts)[k * 2]? = some (.int .i64 ts[k].r.id) ∧ (cs3 ts)[k * 2 + 1]? = some ts[k].v
  | [], k, h => absurd h (by simp)
  | t :: ts, 0, _ => by rw [cs3_cons]; exact ⟨rfl, rfl⟩
  | t :: ts, k + 1, h => by
    have := cs3_at ts k (by simpa using h)
    rw [cs3_cons, show (k + 1) * 2 = k * 2 + 1 + 1 by omega]
    simpa using this
structure Tab3 where
  p : Nat
  cap : Nat
  ts : List Rw3
def Tab3.v (T : Tab3) : Value := .slice (some ⟨T.p, 0, none⟩) T.ts.length T.cap
def Tab3.bl (T : Tab3) (c : Nat) : Prop := (c = T.p ∧ 0 < T.cap) ∨ ∃ t ∈ T.ts, t.X c
def Tab3.rows (T : Tab3) : List RowV := T.ts.map (·.r)
theorem Tab3.rows_len (T : Tab3) : T.rows.length = T.ts.length := by unfold Tab3.rows; simp
theorem Tab3.rows_at (T : Tab3) {k : Nat} (h : k < T.rows.length) : T.rows[k] = (T.ts[k]'(by rw [← T.rows_len]; exact h)).r := List.getElem_map (f := fun x : Rw3 => x.r)
structure TabW (W : World) (T : Tab3) : Prop where
  hp : 0 < T.cap → ∃ cur : Array Value, W.heap[T.p]? = some (.cells cur 53 (0, 0)) ∧ cur.size = T.cap * 2 ∧ cur.toList.take (T.ts.length * 2) = cs3 T.ts
  le : T.ts.length ≤ T.cap
  cm : T.cap ≤ maxLen
  ow : ∀ t ∈ T.ts, Own W (dAtomSS t.r.cells) t.X t.v ∧ ¬ t.X T.p
  ds : T.ts.Pairwise (fun a b => ∀ c, a.X c → ¬ b.X c)
  lt : ∀ c, T.bl c → c < W.heap.size
theorem TabW.same {W W' : World} {T : Tab3} (h : TabW W T) (hs : W.heap.size ≤ W'.heap.size) (hb : ∀ c, T.bl c → W'.heap[c]? = W.heap[c]?) : TabW W' T :=
  ⟨fun h0 => by obtain ⟨cur, h1, h2, h3⟩ := h.hp h0; exact ⟨cur, by rw [hb _ (.inl ⟨rfl, h0⟩)]; exact h1, h2, h3⟩, h.le, h.cm,
   fun t ht => ⟨Own.same _ _ _ _ (fun c hc => hb c (.inr ⟨t, ht, hc⟩)) (fun _ h => h) (h.ow t ht).1, (h.ow t ht).2⟩, h.ds, fun c hc => Nat.lt_of_lt_of_le (h.lt c hc) hs⟩
theorem TabW.cells {W : World} {T : Tab3} (h : TabW W T) {k : Nat} (hk : k < T.ts.length) : W.cell? ⟨T.p, k * 2, none⟩ = some (.int .i64 T.ts[k].r.id) ∧ W.cell? ⟨T.p, k * 2 + 1, none⟩ = some T.ts[k].v ∧ W.frozen? ⟨T.p, k * 2, none⟩ = false ∧ W.frozen? ⟨T.p, k * 2 + 1, none⟩ = false := by
  have hle := h.le
  obtain ⟨cur, h1, h2, h3⟩ := h.hp (by omega)
  have hc := cs3_at T.ts k hk
  rw [← h3, List.getElem?_take_of_lt (by omega), List.getElem?_take_of_lt (by omega), Array.getElem?_toList, Array.getElem?_toList] at hc
  exact ⟨by simp only [World.cell?, h1]; exact hc.1, by simp only [World.cell?, h1]; exact hc.2, by simp [World.frozen?, h1], by simp [World.frozen?, h1]⟩
theorem TabW.own {W : World} {T : Tab3} (h : TabW W T) : Own W (dRowS T.rows) T.bl T.v := by
  have hle := h.le
  refine ⟨some ⟨T.p, 0, none⟩, T.cap, by unfold Tab3.v; rw [T.rows_len], ?_⟩
  by_cases h0 : T.rows.length = 0
  · exact .inl h0
  have hp := h.ds
  rw [T.rows_len] at h0
  refine .inr ⟨T.p, 0, fun i j c => j = 1 ∧ ∃ hi : i < T.ts.length, (T.ts[i]).X c, rfl, .inl ⟨rfl, by omega⟩, by omega, fun i j c hc => ?_, fun i j i' j' c hc hc' => ?_, fun i j hi hj => ?_⟩
  · obtain ⟨-, hi, hc⟩ := hc
    exact ⟨.inr ⟨_, List.getElem_mem hi, hc⟩, fun e => (h.ow _ (List.getElem_mem hi)).2 (by rw [← e]; exact hc)⟩
  · obtain ⟨rfl, hi, hc⟩ := hc
    obtain ⟨rfl, hi', hc'⟩ := hc'
    refine ⟨?_, rfl⟩
    rw [List.pairwise_iff_getElem] at hp
    rcases (by omega : i < i' ∨ i = i' ∨ i' < i) with e | e | e
    · exact absurd hc' (hp i i' hi hi' e c hc)
    · exact e
    · exact absurd hc (hp i' i hi' hi e c hc')
  · rw [T.rows_len] at hi
    obtain ⟨c0, c1, f0, f1⟩ := h.cells hi
    rw [lsF_at (by rw [T.rows_len]; exact hi), T.rows_at]
    rw [Nat.zero_add]
    rcases (by omega : j = 0 ∨ j = 1) with rfl | rfl
    · exact ⟨_, c0, f0, rfl⟩
    · exact ⟨_, c1, f1, Own.mono (h.ow _ (List.getElem_mem hi)).1 (fun c hc => ⟨rfl, hi, hc⟩)⟩
theorem TabW.rd {W : World} {T : Tab3} (h : TabW W T) : Rd W T.bl (dRowS T.rows) T.v := h.own.rd'
def Tab3.spl (T : Tab3) (p cap k j : Nat) (nw : List Rw3) : Tab3 := ⟨p, cap, T.ts.take k ++ nw ++ T.ts.drop j⟩
theorem Tab3.spl_rows (T : Tab3) (p cap k j : Nat) (nw : List Rw3) : (T.spl p cap k j nw).rows = T.rows.take k ++ nw.map (·.r) ++ T.rows.drop j := by unfold Tab3.rows Tab3.spl; simp
theorem TabW.spl {W W' : World} {T : Tab3} (h : TabW W T) {p cap k j : Nat} {nw : List Rw3} (hk : k ≤ j) (hF : ∀ c, T.bl c → c ≠ T.p → W'.heap[c]? = W.heap[c]?) (hs : W.heap.size ≤ W'.heap.size)
    (hp : ∃ cur : Array Value, W'.heap[p]? = some (.cells cur 53 (0, 0)) ∧ cur.size = cap * 2 ∧ cur.toList.take ((T.spl p cap k j nw).ts.length * 2) = cs3 (T.spl p cap k j nw).ts) (hle : (T.spl p cap k j nw).ts.length ≤ cap) (hcm : cap ≤ maxLen)
    (hpp : (p = T.p ∧ 0 < T.cap) ∨ W.heap.size ≤ p) (hn1 : nw.length ≤ 1) (hn : ∀ t ∈ nw, Own W' (dAtomSS t.r.cells) t.X t.v ∧ (∀ c, t.X c → W.heap.size ≤ c ∧ c < W'.heap.size) ∧ ¬ t.X p) :
    TabW W' (T.spl p cap k j nw) ∧ ∀ c, (T.spl p cap k j nw).bl c → T.bl c ∨ W.heap.size ≤ c := by
  have hmem : ∀ t ∈ (T.spl p cap k j nw).ts, t ∈ T.ts ∨ t ∈ nw := fun t ht => by
    unfold Tab3.spl at ht
    rcases List.mem_append.1 ht with ht | ht
    · rcases List.mem_append.1 ht with ht | ht
      · exact .inl (List.mem_of_mem_take ht)
      · exact .inr ht
    · exact .inl (List.mem_of_mem_drop ht)
  have hbl : ∀ c, (T.spl p cap k j nw).bl c → T.bl c ∨ W.heap.size ≤ c := fun c hc => by
    rcases hc with ⟨e, h0⟩ | ⟨t, ht, hc⟩
    · have e' : c = p := e
      rcases hpp with ⟨e2, h2⟩ | h2
      · exact .inl (.inl ⟨by rw [e', e2], h2⟩)
      · exact .inr (by rw [e']; exact h2)
    · rcases hmem t ht with ht | ht
      · exact .inl (.inr ⟨t, ht, hc⟩)
      · exact .inr ((hn t ht).2.1 c hc).1
  refine ⟨⟨fun _ => hp, hle, hcm, fun t ht => ?_, ?_, fun c hc => ?_⟩, hbl⟩
  · rcases hmem t ht with ht | ht
    · have ho := h.ow t ht
      have hlt : ∀ c, t.X c → c < W.heap.size := fun c hc => h.lt c (.inr ⟨t, ht, hc⟩)
      refine ⟨Own.same _ _ _ _ (fun c hc => hF c (.inr ⟨t, ht, hc⟩) (fun e => ho.2 (by rw [← e]; exact hc))) (fun _ h => h) ho.1, fun hx => ?_⟩
      have hx' : t.X p := hx
      rcases hpp with ⟨e2, -⟩ | h2
      · exact ho.2 (by rw [← e2]; exact hx')
      · have := hlt _ hx'; omega
    · exact ⟨(hn t ht).1, (hn t ht).2.2⟩
  · have hsub : (T.ts.take k ++ T.ts.drop j).Sublist T.ts := by
      conv => rhs; rw [← List.take_append_drop k T.ts]
      exact (List.Sublist.refl _).append (List.drop_sublist_drop_left _ hk)
    have hd := List.pairwise_append.1 (h.ds.sublist hsub)
    have hno : ∀ a ∈ nw, ∀ b ∈ T.ts, ∀ c, a.X c → ¬ b.X c := fun a ha b hb c hc hc' => by
      have h1 := ((hn a ha).2.1 c hc).1
      have h2 := h.lt c (.inr ⟨b, hb, hc'⟩)
      omega
    have hnn : nw.Pairwise (fun a b => ∀ c, a.X c → ¬ b.X c) := by
      cases nw with
      | nil => exact List.Pairwise.nil
      | cons a l =>
        cases l with
        | nil => exact List.pairwise_singleton _ _
        | cons b l => simp at hn1
    show (T.ts.take k ++ nw ++ T.ts.drop j).Pairwise _
    refine List.pairwise_append.2 ⟨List.pairwise_append.2 ⟨hd.1, hnn, fun a ha b hb c hc hc' => hno b hb a (List.mem_of_mem_take ha) c hc' hc⟩, hd.2.1, fun a ha b hb => ?_⟩
    rcases List.mem_append.1 ha with ha | ha
    · exact hd.2.2 a ha b hb
    · exact hno a ha b (List.mem_of_mem_drop hb)
  · rcases hc with ⟨e, h0⟩ | ⟨t, ht, hc⟩
    · obtain ⟨cur, h1, -⟩ := hp
      have e' : c = p := e
      rw [e']
      exact (Array.getElem?_eq_some_iff.1 h1).1
    · rcases hmem t ht with ht | ht
      · exact Nat.lt_of_lt_of_le (h.lt c (.inr ⟨t, ht, hc⟩)) hs
      · exact ((hn t ht).2.1 c hc).2
structure MSt (W : World) (lo m q : Nat) (Ts : List Tab3) (n : Int) : Prop where
  bx : W.heap[m]? = some (.cells #[.slice (some ⟨q, 0, none⟩) Ts.length Ts.length, .int .i64 n] 30)
  rq : W.heap[q]? = some (.cells (Ts.map Tab3.v).toArray 73)
  tb : ∀ i (h : i < Ts.length), TabW W Ts[i]
  ds : ∀ i j (hi : i < Ts.length) (hj : j < Ts.length), i ≠ j → ∀ c, Ts[i].bl c → ¬ Ts[j].bl c
  nq : ∀ i (h : i < Ts.length), ¬ Ts[i].bl q ∧ ¬ Ts[i].bl m
  qm : q ≠ m
  lo : lo ≤ m ∧ lo ≤ q ∧ ∀ i (h : i < Ts.length) c, Ts[i].bl c → lo ≤ c
def stOf (Ts : List Tab3) (n : Int) : StV := ⟨Ts.map Tab3.rows, n⟩
theorem stOf_at {Ts : List Tab3} {n : Int} {i : Nat} (h : i < Ts.length) : (stOf Ts n).tables[i]'(by simpa [stOf] using h) = Ts[i].rows := by simp [stOf]
theorem stOf_len (Ts : List Tab3) (n : Int) : (stOf Ts n).tables.length = Ts.length := by simp [stOf]
theorem MSt.same {W W' : World} {lo m q : Nat} {Ts : List Tab3} {n : Int} (h : MSt W lo m q Ts n) (hs : W.heap.size ≤ W'.heap.size) (hb : ∀ c, lo ≤ c → c < W.heap.size → W'.heap[c]? = W.heap[c]?) : MSt W' lo m q Ts n :=
  ⟨by rw [hb m h.lo.1 (Array.getElem?_eq_some_iff.1 h.bx).1]; exact h.bx, by rw [hb q h.lo.2.1 (Array.getElem?_eq_some_iff.1 h.rq).1]; exact h.rq,
   fun i hi => (h.tb i hi).same hs (fun c hc => hb c (h.lo.2.2 i hi c hc) ((h.tb i hi).lt c hc)), h.ds, h.nq, h.qm, h.lo⟩
theorem MSt.later {W W' : World} {lo m q : Nat} {Ts : List Tab3} {n : Int} (h : MSt W lo m q Ts n) (hB : Below W.heap.size W W') : MSt W' lo m q Ts n := h.same hB.size (fun c _ hc => hB.block c hc)
theorem MSt.cellQ {W : World} {lo m q : Nat} {Ts : List Tab3} {n : Int} (h : MSt W lo m q Ts n) {i : Nat} (hi : i < Ts.length) : W.cell? ⟨q, i, none⟩ = some Ts[i].v ∧ W.frozen? ⟨q, i, none⟩ = false := by
  refine ⟨?_, by simp [World.frozen?, h.rq]⟩
  simp [World.cell?, h.rq, hi]
theorem MSt.next {W : World} {lo m q : Nat} {Ts : List Tab3} {n : Int} (h : MSt W lo m q Ts n) (n' : Int) : MSt (W.setCell ⟨m, 1, none⟩ (.int .i64 n')) lo m q Ts n' :=
  have hk : ∀ c, c ≠ m → (W.setCell ⟨m, 1, none⟩ (.int .i64 n')).heap[c]? = W.heap[c]? := fun c hc => Below.heap_setCell _ _ _ _ hc
  ⟨by rw [heap_set 1 _ h.bx]; rfl, by rw [hk q h.qm]; exact h.rq, fun i hi => (h.tb i hi).same (by simp [World.setCell]) (fun c hc => hk c (fun e => (h.nq i hi).2 (by rw [← e]; exact hc))), h.ds, h.nq, h.qm, h.lo⟩
theorem MSt.tab {W W' : World} {lo m q : Nat} {Ts : List Tab3} {n : Int} (h : MSt W lo m q Ts n) {i : Nat} (hi : i < Ts.length) {T' : Tab3} (hs : W.heap.size ≤ W'.heap.size) (hF : ∀ c, c < W.heap.size → ¬ (Ts[i].bl c ∨ c = q) → W'.heap[c]? = W.heap[c]?)
    (hq : W'.heap[q]? = some (.cells ((Ts.set i T').map Tab3.v).toArray 73)) (hT : TabW W' T') (hb : ∀ c, T'.bl c → Ts[i].bl c ∨ W.heap.size ≤ c) : MSt W' lo m q (Ts.set i T') n := by
  have hm := (Array.getElem?_eq_some_iff.1 h.bx).1
  have hql := (Array.getElem?_eq_some_iff.1 h.rq).1
  have old : ∀ k (hk : k < Ts.length), k ≠ i → ∀ c, T'.bl c → ¬ Ts[k].bl c := fun k hk hne c hc hc' => by
    rcases hb c hc with h1 | h1
    · exact h.ds i k hi hk (fun e => hne e.symm) c h1 hc'
    · have := (h.tb k hk).lt c hc'; omega
  refine ⟨?_, hq, fun k hk => ?_, fun k j hk hj hne c hc hc' => ?_, fun k hk => ?_, h.qm, h.lo.1, h.lo.2.1, fun k hk c hc => ?_⟩
  · rw [hF m hm (by rintro (h1 | h1); exact (h.nq i hi).2 h1; exact h.qm h1.symm), h.bx, List.length_set]
  · have hk' : k < Ts.length := by rw [List.length_set] at hk; exact hk
    by_cases e : k = i
    · subst e; rw [List.getElem_set_self]; exact hT
    · rw [List.getElem_set_ne (by omega)]
      exact (h.tb k hk').same hs (fun c hc => hF c ((h.tb k hk').lt c hc) (by
        rintro (h1 | h1)
        · exact h.ds i k hi hk' (by omega) c h1 hc
        · exact (h.nq k hk').1 (by rw [← h1]; exact hc)))
  · have hk' : k < Ts.length := by rw [List.length_set] at hk; exact hk
    have hj' : j < Ts.length := by rw [List.length_set] at hj; exact hj
    by_cases e : k = i
    · subst e
      rw [List.getElem_set_self] at hc
      rw [List.getElem_set_ne (by omega)] at hc'
      exact old j hj' (by omega) c hc hc'
    · rw [List.getElem_set_ne (by omega)] at hc
      by_cases e2 : j = i
      · subst e2
        rw [List.getElem_set_self] at hc'
        exact old k hk' e c hc' hc
      · rw [List.getElem_set_ne (by omega)] at hc'
        exact h.ds k j hk' hj' hne c hc hc'
  · have hk' : k < Ts.length := by rw [List.length_set] at hk; exact hk
    by_cases e : k = i
    · subst e
      rw [List.getElem_set_self]
      refine ⟨fun hx => ?_, fun hx => ?_⟩
      · rcases hb _ hx with h1 | h1
        · exact (h.nq k hk').1 h1
        · omega
      · rcases hb _ hx with h1 | h1
        · exact (h.nq k hk').2 h1
        · omega
    · rw [List.getElem_set_ne (by omega)]; exact h.nq k hk'
  · have hk' : k < Ts.length := by rw [List.length_set] at hk; exact hk
    by_cases e : k = i
    · subst e
      rw [List.getElem_set_self] at hc
      rcases hb c hc with h1 | h1
      · exact h.lo.2.2 k hk' c h1
      · have := h.lo.1; omega
    · rw [List.getElem_set_ne (by omega)] at hc
      exact h.lo.2.2 k hk' c hc
theorem MSt.own {W : World} {lo m q : Nat} {Ts : List Tab3} {n : Int} (h : MSt W lo m q Ts n) : Own W (dRowSS (stOf Ts n).tables) (fun c => (lo ≤ c ∧ c < W.heap.size) ∧ c ≠ m) (.slice (some ⟨q, 0, none⟩) (stOf Ts n).tables.length Ts.length) := by
  have hql := (Array.getElem?_eq_some_iff.1 h.rq).1
  refine ⟨_, _, rfl, ?_⟩
  by_cases h0 : (stOf Ts n).tables.length = 0
  · exact .inl h0
  refine .inr ⟨q, 0, fun i j c => j = 0 ∧ ∃ hi : i < Ts.length, Ts[i].bl c, rfl, ⟨⟨h.lo.2.1, hql⟩, h.qm⟩, by omega, fun i j c hc => ?_, fun i j i' j' c hc hc' => ?_, fun i j hi hj => ?_⟩
  · obtain ⟨-, hi, hc⟩ := hc
    exact ⟨⟨⟨h.lo.2.2 i hi c hc, (h.tb i hi).lt c hc⟩, fun e => (h.nq i hi).2 (by rw [← e]; exact hc)⟩, fun e => (h.nq i hi).1 (by rw [← e]; exact hc)⟩
  · obtain ⟨rfl, hi, hc⟩ := hc
    obtain ⟨rfl, hi', hc'⟩ := hc'
    refine ⟨?_, rfl⟩
    by_cases e : i = i'
    · exact e
    · exact absurd hc' (h.ds i i' hi hi' e c hc)
  · rw [stOf_len] at hi
    obtain rfl : j = 0 := by omega
    have hc := h.cellQ hi
    rw [Nat.zero_add, Nat.mul_one, Nat.add_zero]
    refine ⟨_, hc.1, hc.2, ?_⟩
    rw [lsF_at (by rw [stOf_len]; exact hi), stOf_at hi]
    exact Own.mono (h.tb i hi).own (fun c hc => ⟨rfl, hi, hc⟩)
theorem tab_of {W : World} {l : List RowV} {p : Nat} {g : Nat → Value} {Y : Nat → Prop} (hO : Own W (dRowS l) Y (.slice (some ⟨p, 0, none⟩) l.length l.length)) (hr : W.rowIs p 53 (l.length * 2) g) (hl : l.length ≤ maxLen) (hY : ∀ c, Y c → c < W.heap.size) :
    ∃ T : Tab3, T.v = .slice (some ⟨p, 0, none⟩) l.length l.length ∧ T.rows = l ∧ TabW W T ∧ ∀ c, T.bl c → Y c := by
  obtain ⟨a, c, e, h⟩ := hO
  simp only [Value.slice.injEq, true_and] at e
  obtain ⟨rfl, rfl⟩ := e
  rcases h with h | ⟨b, off, X, ha, hB, hn, hX, hd, hc⟩
  · have hnil : l = [] := List.eq_nil_of_length_eq_zero h
    subst hnil
    refine ⟨⟨p, 0, []⟩, rfl, rfl, ⟨fun h => absurd h (by simp), by simp, by simp, fun t ht => absurd ht (by simp), List.Pairwise.nil, fun c hc => ?_⟩, fun c hc => ?_⟩ <;>
    · rcases hc with ⟨-, h⟩ | ⟨t, ht, -⟩
      · exact absurd h (by simp)
      · cases ht
  simp only [Option.some.injEq, Addr.mk.injEq, and_true] at ha
  obtain ⟨rfl, rfl⟩ := ha
  obtain ⟨ts, hts⟩ : ∃ ts : List Rw3, ts = (List.range l.length).map (fun i => ⟨l.getD i rowZ, g (i * 2 + 1), X i 1⟩) := ⟨_, rfl⟩
  have hlen : ts.length = l.length := by rw [hts]; simp
  have hat : ∀ i (h : i < ts.length), ts[i] = ⟨l.getD i rowZ, g (i * 2 + 1), X i 1⟩ := fun i h => by simp [hts]
  have hatl : ∀ i (h : i < l.length), l.getD i rowZ = l[i] := fun i h => by rw [List.getD_eq_getElem?_getD, List.getElem?_eq_getElem h]; rfl
  have hcell : ∀ i (h : i < l.length), g (i * 2) = .int .i64 l[i].id ∧ Own W (dAtomSS l[i].cells) (X i 1) (g (i * 2 + 1)) := fun i h => by
    obtain ⟨u0, c0, -, o0⟩ := hc i 0 h (by omega)
    obtain ⟨u1, c1, -, o1⟩ := hc i 1 h (by omega)
    rw [lsF_at h] at o0 o1
    rw [Nat.zero_add] at c0 c1
    have r0 := hr.cell (i := i * 2) (by omega)
    have r1 := hr.cell (i := i * 2 + 1) (by omega)
    replace c0 : W.cell? ⟨p, i * 2, none⟩ = some u0 := c0
    rw [r0] at c0
    rw [r1] at c1
    simp only [Option.some.injEq] at c0 c1
    rw [c0, c1]
    exact ⟨o0, o1⟩
  obtain ⟨cur, hh, hsz, hcu⟩ := hr
  have hlen' : (⟨p, l.length, ts⟩ : Tab3).ts.length = l.length := hlen
  refine ⟨⟨p, l.length, ts⟩, by unfold Tab3.v; rw [hlen], ?_, ⟨fun _ => ⟨cur, hh, hsz, ?_⟩, by rw [hlen]; exact Nat.le_refl _, hl, fun t ht => ?_, ?_, fun c hc => ?_⟩, fun c hc => ?_⟩
  · refine List.ext_getElem (by unfold Tab3.rows; simp [hlen]) (fun i h1 h2 => ?_)
    rw [Tab3.rows_at]
    show (ts[i]'(by omega)).r = _
    rw [hat]
    exact hatl i h2
  · have hsz' : cur.size = l.length * 2 := hsz
    refine List.ext_getElem? (fun j => ?_)
    by_cases hj : j < ts.length * 2
    · rw [List.getElem?_take_of_lt hj, Array.getElem?_toList, hcu j (by omega)]
      have h2 := cs3_at ts (j / 2) (by omega)
      rw [hat (j / 2) (by omega)] at h2
      have hq := (hcell (j / 2) (by omega)).1
      rw [hatl (j / 2) (by omega)] at h2
      rcases (by omega : j = j / 2 * 2 ∨ j = j / 2 * 2 + 1) with e | e
      · generalize l[j / 2]'(by omega) = z at *
        generalize j / 2 = d at *
        subst e
        exact (congrArg some hq).trans h2.1.symm
      · generalize l[j / 2]'(by omega) = z at *
        generalize j / 2 = d at *
        subst e
        exact h2.2.symm
    · rw [List.getElem?_eq_none (by rw [List.length_take]; omega), List.getElem?_eq_none (by rw [cs3_len]; omega)]
  · obtain ⟨i, hi, rfl⟩ := List.mem_iff_getElem.1 ht
    rw [hat i hi]
    refine ⟨?_, fun h => (hX _ _ _ h).2 rfl⟩
    show Own W (dAtomSS (l.getD i rowZ).cells) (X i 1) (g (i * 2 + 1))
    rw [hatl i (by omega)]
    exact (hcell i (by omega)).2
  · rw [List.pairwise_iff_getElem]
    intro i j hi hj hij c h1 h2
    rw [hat] at h1 h2
    have := (hd _ _ _ _ _ h1 h2).1
    omega
  · rcases hc with ⟨e, -⟩ | ⟨t, ht, hc⟩
    · exact hY c (by rw [e]; exact hB)
    · obtain ⟨i, hi, rfl⟩ := List.mem_iff_getElem.1 ht
      rw [hat] at hc
      exact hY c (hX _ _ _ hc).1
  · rcases hc with ⟨e, -⟩ | ⟨t, ht, hc⟩
    · rw [e]; exact hB
    · obtain ⟨i, hi, rfl⟩ := List.mem_iff_getElem.1 ht
      rw [hat] at hc
      exact (hX _ _ _ hc).1
end Go.Proofs.Ytdhlndpobpdfmaa
