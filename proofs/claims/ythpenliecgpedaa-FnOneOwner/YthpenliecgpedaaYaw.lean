import Derived.Test.YthpenliecgpedaaYav
import Derived.ArgAppend
namespace Go.Proofs.Ythpenliecgpedaa
open Go.RowKit
set_option linter.unusedSimpArgs false
theorem run_append_own4 {P : Program} (w : World) (base : Nat) (t ty e : TypeId) (i : TypeInfo) (z : Value) (size bytes : Nat) (ht : P.underlying t = some (.slice e)) (hi : P.info? e = some i) (hz : i.zero = some z)
    (hsize : i.size = size) (hby : i.bytes = bytes) (hzs : z.cells.size = size) (hsz : 0 < size)
    (v : Value) (n : Nat) (xs : List Value) (hown : w.ownsRow base e size v n xs)
    (a : Addr) (m c : Nat) (news : List Value) (hl : news.length = m * size) (hnews : ∀ j u, news[j]? = some u → w.cell? (a.add j) = some u) (h1 : ∀ u ∈ news, u.oneCell' = true)
    (h63 : n + m ≤ maxLen) (hbytes : (n + m) * bytes ≤ 140737488355328) (hbase : base ≤ w.heap.size) :
    ∃ v' w', (Builtin.append_ #[t, t] ty #[v, .slice (some a) m c]).run P w = .ok v' w' ∧ w'.ownsRow base e size v' (n + m) (xs ++ news) ∧ w.grownBy w' v.ownBlock ∧
      ∀ g, v'.ownBlock = some g → v.ownBlock = some g ∨ w.heap.size ≤ g := by
  by_cases hm : 0 < m
  · obtain ⟨v', w', hr, h2, h3, g, h4, h5⟩ := run_append_own3 (P := P) w base t ty e i z size bytes ht hi hz hsize hby hzs hsz v n xs hown a m c news hl hnews h1 h63 hbytes hbase hm
    exact ⟨v', w', hr, h2, h3, fun g' hg' => by rw [h4] at hg'; cases hg'; exact h5⟩
  · obtain rfl : m = 0 := by omega
    obtain ⟨v', w', hr, h2, h3, h4⟩ := run_append_own (P := P) w base t ty e i z size bytes ht hi hz hsize hby hzs hsz v n xs hown a 0 c news hl hnews h1 h63 hbytes hbase
    refine ⟨v', w', hr, h2, h3, fun g hg => ?_⟩
    rcases hown.2 with ⟨rfl, rfl⟩ | ⟨g2, cap, cur, rfl, hb2, hb, hn, hcap, hcs, hx⟩
    · rw [h4.2 ⟨rfl, rfl⟩] at hg; cases hg
    · subst hsize
      have hr2 := run_append_room_cells (P := P) w t ty e i ht hi g2 0 n cap a 0 c news hl hnews h1 (by omega) (fun j hj => by rw [hl] at hj; omega) (fun j hj => by simp [World.frozen?, hb])
      rw [hr] at hr2
      injection hr2 with e1 e2
      subst e1
      exact .inl hg
structure LE where
  x : LkV
  u : Value
def lcs (es : List LE) : List Value := es.flatMap (fun e => [.string ⟨e.x.nm.toArray⟩, e.u])
theorem lcs_cons (e : LE) (es : List LE) : lcs (e :: es) = .string ⟨e.x.nm.toArray⟩ :: e.u :: lcs es := rfl
theorem lcs_len : ∀ es : List LE, (lcs es).length = es.length * 2
  | [] => rfl
  | e :: es => by rw [lcs_cons, List.length_cons, List.length_cons, lcs_len es, List.length_cons]; omega
theorem lcs_app (a b : List LE) : lcs (a ++ b) = lcs a ++ lcs b := by unfold lcs; rw [List.flatMap_append]
theorem lcs_at : ∀ (es : List LE) (k : Nat) (h : k < es.length), (lcs es)[k * 2]? = some (.string ⟨es[k].x.nm.toArray⟩) ∧ (lcs es)[k * 2 + 1]? = some es[k].u
  | e :: es, 0, _ => ⟨rfl, rfl⟩
  | e :: es, k + 1, h => by
    have ih := lcs_at es k (by simpa using h)
    rw [lcs_cons, show (k + 1) * 2 = k * 2 + 1 + 1 by omega, show k * 2 + 1 + 1 + 1 = (k * 2 + 1) + 1 + 1 by omega]
    simpa using ih
theorem lcs_take : ∀ (es : List LE) (k : Nat), (lcs es).take (k * 2) = lcs (es.take k)
  | [], k => by simp [lcs]
  | e :: es, 0 => by simp [lcs]
  | e :: es, k + 1 => by
    rw [lcs_cons, show (k + 1) * 2 = k * 2 + 1 + 1 by omega, List.take_succ_cons, List.take_succ_cons, lcs_take es k, List.take_succ_cons, lcs_cons]
theorem lcs_drop : ∀ (es : List LE) (k : Nat), (lcs es).drop (k * 2) = lcs (es.drop k)
  | [], k => by simp [lcs]
  | e :: es, 0 => by simp
  | e :: es, k + 1 => by
    rw [lcs_cons, show (k + 1) * 2 = k * 2 + 1 + 1 by omega, List.drop_succ_cons, List.drop_succ_cons, lcs_drop es k, List.drop_succ_cons]
theorem lcs_set : ∀ (es : List LE) (k : Nat) (h : k < es.length) (q : List Int) (u : Value), (lcs es).set (k * 2 + 1) u = lcs (es.set k ⟨⟨es[k].x.nm, q⟩, u⟩)
  | e :: es, 0, _, q, u => rfl
  | e :: es, k + 1, h, q, u => by
    have ih := lcs_set es k (by simpa using h) q u
    rw [lcs_cons, show (k + 1) * 2 + 1 = (k * 2 + 1) + 1 + 1 by omega, List.set_cons_succ, List.set_cons_succ, ih, List.set_cons_succ, lcs_cons]
    rfl
def lks (es : List LE) : List LkV := es.map (·.x)
theorem lks_len (es : List LE) : (lks es).length = es.length := by unfold lks; simp
theorem lks_at (es : List LE) {k : Nat} (h : k < (lks es).length) : (lks es)[k] = (es[k]'(by rw [← lks_len]; exact h)).x := List.getElem_map (f := LE.x)
def ints (q : List Int) : List Value := q.map (fun n => .int .i64 n)
def QOw (base : Nat) (W : World) (q : List Int) (u : Value) : Prop := W.ownsRow base 3 1 u q.length (ints q)
theorem QOw.low {base : Nat} {W : World} {q : List Int} {u : Value} (h : QOw base W q u) {g : Nat} (hg : u.ownBlock = some g) : base ≤ g ∧ g < W.heap.size := by
  rcases h.2 with ⟨rfl, -⟩ | ⟨g2, cap, cur, rfl, hb, hh, -⟩
  · cases hg
  · simp only [Value.ownBlock, Option.some.injEq] at hg
    subst hg
    exact ⟨hb, (Array.getElem?_eq_some_iff.1 hh).1⟩
theorem QOw.shape {base : Nat} {W : World} {q : List Int} {u : Value} (h : QOw base W q u) : ∃ a c, u = .slice a q.length c := by
  rcases h.2 with ⟨rfl, h0⟩ | ⟨g, cap, cur, rfl, -⟩
  · exact ⟨none, 0, by rw [h0]⟩
  · exact ⟨_, _, rfl⟩
theorem QOw.same {base : Nat} {W W' : World} {q : List Int} {u : Value} (h : QOw base W q u) (hB : ∀ g, u.ownBlock = some g → W'.heap[g]? = W.heap[g]?) : QOw base W' q u := ownsRow_same h hB
theorem QOw.own {base : Nat} {W : World} {q : List Int} {u : Value} (h : QOw base W q u) : Own W (dIntS q) (fun c => u.ownBlock = some c) u := by
  rcases h.2 with ⟨rfl, h0⟩ | ⟨g, cap, cur, rfl, hg, hh, r1, r2, r3, r4⟩
  · exact ⟨none, 0, by rw [h0], by omega, .inl h0⟩
  · refine ⟨_, _, rfl, r1, ?_⟩
    by_cases h0 : q.length = 0
    · exact .inl h0
    refine .inr ⟨g, 0, fun _ _ _ => False, rfl, rfl, by omega, fun _ _ _ h => h.elim, fun _ _ _ _ _ h => h.elim, fun i j hi hj => ?_⟩
    obtain rfl : j = 0 := by omega
    have h1 : (ints q)[i]? = some (.int .i64 q[i]) := by unfold ints; rw [List.getElem?_map, List.getElem?_eq_getElem hi]; rfl
    rw [← r4, List.getElem?_take_of_lt (by omega), Array.getElem?_toList] at h1
    refine ⟨.int .i64 q[i], by simp [World.cell?, hh, h1], by simp [World.frozen?, hh], ?_⟩
    rw [show lsF cInt q i 0 = .i q[i] by rw [lsF_at hi]; rfl]
    exact rfl
structure LEs (base : Nat) (W : World) (es : List LE) : Prop where
  qs : ∀ i (h : i < es.length), QOw base W es[i].x.qu es[i].u
  dd : ∀ i (h : i < es.length) j (h' : j < es.length) g, es[i].u.ownBlock = some g → es[j].u.ownBlock = some g → i = j
structure LTab (base : Nat) (W : World) (es : List LE) (v : Value) : Prop where
  ow : W.ownsRow base 54 2 v es.length (lcs es)
  el : LEs base W es
  dv : ∀ i (h : i < es.length) g, es[i].u.ownBlock = some g → v.ownBlock ≠ some g
theorem LEs.same {base : Nat} {W W' : World} {es : List LE} (h : LEs base W es) (hB : ∀ i (hi : i < es.length) g, es[i].u.ownBlock = some g → W'.heap[g]? = W.heap[g]?) : LEs base W' es := ⟨fun i hi => (h.qs i hi).same (hB i hi), h.dd⟩
theorem LEs.nil (base : Nat) (W : World) : LEs base W [] := ⟨fun i h => absurd h (by simp), fun i h => absurd h (by simp)⟩
theorem LTab.same {base : Nat} {W W' : World} {es : List LE} {v : Value} (h : LTab base W es v) (hB : ∀ g, (v.ownBlock = some g ∨ ∃ i, ∃ hi : i < es.length, es[i].u.ownBlock = some g) → W'.heap[g]? = W.heap[g]?) : LTab base W' es v :=
  ⟨ownsRow_same h.ow (fun g hg => hB g (.inl hg)), h.el.same (fun i hi g hg => hB g (.inr ⟨i, hi, hg⟩)), h.dv⟩
theorem LTab.low {base : Nat} {W : World} {es : List LE} {v : Value} (h : LTab base W es v) {g : Nat} (hg : v.ownBlock = some g ∨ ∃ i, ∃ hi : i < es.length, es[i].u.ownBlock = some g) : base ≤ g ∧ g < W.heap.size := by
  rcases hg with hg | ⟨i, hi, hg⟩
  · rcases h.ow.2 with ⟨rfl, -⟩ | ⟨g2, cap, cur, rfl, hb, hh, -⟩
    · cases hg
    · simp only [Value.ownBlock, Option.some.injEq] at hg
      subst hg
      exact ⟨hb, (Array.getElem?_eq_some_iff.1 hh).1⟩
  · exact (h.el.qs i hi).low hg
theorem LTab.later {base : Nat} {W W' : World} {es : List LE} {v : Value} (h : LTab base W es v) (hB : Below W.heap.size W W') : LTab base W' es v := h.same (fun g hg => hB.block g (h.low hg).2)
theorem LTab.shape {base : Nat} {W : World} {es : List LE} {v : Value} (h : LTab base W es v) : ∃ a c, v = .slice a es.length c := by
  rcases h.ow.2 with ⟨rfl, h0⟩ | ⟨g, cap, cur, rfl, -⟩
  · exact ⟨none, 0, by rw [h0]⟩
  · exact ⟨_, _, rfl⟩
theorem LTab.nil (base : Nat) (W : World) : LTab base W [] (.slice none 0 0) := ⟨⟨by simp [lcs], .inl ⟨rfl, rfl⟩⟩, LEs.nil _ _, fun i h => absurd h (by simp)⟩
theorem LTab.start {base : Nat} {W : World} {g : Nat} (hg : base ≤ g) (hh : W.heap[g]? = some (.cells #[] 54)) : LTab base W [] (.slice (some ⟨g, 0, none⟩) 0 0) :=
  ⟨⟨by simp [lcs], .inr ⟨g, 0, #[], rfl, hg, hh, by simp, by omega, by simp, by simp [lcs]⟩⟩, LEs.nil _ _, fun i h => absurd h (by simp)⟩
theorem LTab.at {base : Nat} {W : World} {es : List LE} {v : Value} (h : LTab base W es v) {i : Nat} (hi : i < es.length) : ∃ g c, v = .slice (some ⟨g, 0, none⟩) es.length c ∧ es.length ≤ c ∧ W.cell? ⟨g, i * 2, none⟩ = some (.string ⟨es[i].x.nm.toArray⟩) ∧ W.cell? ⟨g, i * 2 + 1, none⟩ = some es[i].u ∧ W.frozen? ⟨g, i * 2, none⟩ = false ∧ W.frozen? ⟨g, i * 2 + 1, none⟩ = false := by
  rcases h.ow.2 with ⟨rfl, h0⟩ | ⟨g, cap, cur, rfl, hg, hh, r1, r2, r3, r4⟩
  · omega
  obtain ⟨h1, h2⟩ := lcs_at es i hi
  rw [← r4, List.getElem?_take_of_lt (by omega), Array.getElem?_toList] at h1 h2
  exact ⟨g, cap, rfl, r1, by simp [World.cell?, hh, h1], by simp [World.cell?, hh, h2], by simp [World.frozen?, hh], by simp [World.frozen?, hh]⟩
theorem LTab.own {base : Nat} {W : World} {es : List LE} {v : Value} (h : LTab base W es v) : Own W (dLockS (lks es)) (fun c => base ≤ c ∧ c < W.heap.size) v := by
  rcases h.ow.2 with ⟨rfl, h0⟩ | ⟨g, cap, cur, rfl, hg, hh, r1, r2, r3, r4⟩
  · exact ⟨none, 0, by rw [lks_len, h0], by rw [lks_len]; omega, .inl (by rw [lks_len, h0])⟩
  refine ⟨_, _, by rw [lks_len], by rw [lks_len]; exact r1, ?_⟩
  by_cases h0 : (lks es).length = 0
  · exact .inl h0
  refine .inr ⟨g, 0, fun i j c => j = 1 ∧ ∃ hi : i < es.length, es[i].u.ownBlock = some c, rfl, ⟨hg, (Array.getElem?_eq_some_iff.1 hh).1⟩, by omega, fun i j c hc => ?_, fun i j i' j' c hc hc' => ?_, fun i j hi hj => ?_⟩
  · obtain ⟨-, hi, hc⟩ := hc
    exact ⟨h.low (.inr ⟨i, hi, hc⟩), fun e => h.dv i hi c hc (by rw [e]; rfl)⟩
  · obtain ⟨h1, hi, h2⟩ := hc
    obtain ⟨h3, hi', h4⟩ := hc'
    exact ⟨h.el.dd i hi i' hi' c h2 h4, by omega⟩
  · have hi2 : i < es.length := by rw [← lks_len]; exact hi
    obtain ⟨g', c', e', -, c0, c1, z0, z1⟩ := h.at hi2
    simp only [Value.slice.injEq, Option.some.injEq, Addr.mk.injEq, and_true, true_and] at e'
    obtain ⟨rfl, rfl⟩ := e'
    rw [lsF_at hi, lks_at]
    rcases (by omega : j = 0 ∨ j = 1) with rfl | rfl
    · exact ⟨_, by rw [Nat.zero_add, Nat.add_zero]; exact c0, by rw [Nat.zero_add, Nat.add_zero]; exact z0, rfl⟩
    · exact ⟨_, by rw [Nat.zero_add]; exact c1, by rw [Nat.zero_add]; exact z1, (h.el.qs i hi2).own.mono (fun c hc => ⟨rfl, hi2, hc⟩)⟩
theorem infoLk : ∃ i, Try.prog.info? 54 = some i ∧ i.zero = some (.agg #[.string ⟨#[]⟩, .slice none 0 0]) ∧ i.size = 2 ∧ i.bytes = 40 := by
  have h : (Try.prog.info? 54).map (fun i => (i.zero, i.size, i.bytes)) = some (some (.agg #[.string ⟨#[]⟩, .slice none 0 0]), 2, 40) := by kernel_rfl
  obtain ⟨i, hi, hzz⟩ := Option.map_eq_some_iff.1 h
  simp only [Prod.mk.injEq] at hzz
  exact ⟨i, hi, hzz⟩
theorem infoIn : ∃ i, Try.prog.info? 3 = some i ∧ i.zero = some (.int .i64 0) ∧ i.size = 1 ∧ i.bytes = 8 := by
  have h : (Try.prog.info? 3).map (fun i => (i.zero, i.size, i.bytes)) = some (some (.int .i64 0), 1, 8) := by kernel_rfl
  obtain ⟨i, hi, hzz⟩ := Option.map_eq_some_iff.1 h
  simp only [Prod.mk.injEq] at hzz
  exact ⟨i, hi, hzz⟩
theorem lcs_one {es : List LE} (h : ∀ e ∈ es, e.u.oneCell' = true) : ∀ u ∈ lcs es, u.oneCell' = true := by
  intro u hu
  unfold lcs at hu
  obtain ⟨e, he, hu⟩ := List.mem_flatMap.1 hu
  simp only [List.mem_cons, List.not_mem_nil, or_false] at hu
  rcases hu with rfl | rfl
  · rfl
  · exact h e he
theorem LEs.one {base : Nat} {W : World} {es : List LE} (h : LEs base W es) : ∀ e ∈ es, e.u.oneCell' = true := by
  intro e he
  obtain ⟨k, hk, rfl⟩ := List.mem_iff_getElem.1 he
  obtain ⟨a, c, e2⟩ := (h.qs k hk).shape
  rw [e2]; rfl
theorem LTab.app {base : Nat} {V : World} {es es2 : List LE} {v : Value} (h : LTab base V es v) (h2 : LEs base V es2) (hd1 : ∀ i (hi : i < es.length) j (hj : j < es2.length) g, es[i].u.ownBlock = some g → es2[j].u.ownBlock ≠ some g) (hd2 : ∀ j (hj : j < es2.length) g, es2[j].u.ownBlock = some g → v.ownBlock ≠ some g)
    (p : Addr) (pc : Nat) (hp : ∀ j u, (lcs es2)[j]? = some u → V.cell? (p.add j) = some u) (hb : base ≤ V.heap.size) (hl : es.length + es2.length ≤ 100000) :
    ∃ a' c' W', (Builtin.append_ #[23, 23] 23 #[v, .slice (some p) es2.length pc]).run Try.prog V = .ok (.slice a' (es.length + es2.length) c') W' ∧ LTab base W' (es ++ es2) (.slice a' (es.length + es2.length) c') ∧ Frm (fun b => v.ownBlock = some b) V W' ∧ ∀ g, Value.ownBlock (.slice a' (es.length + es2.length) c') = some g → v.ownBlock = some g ∨ V.heap.size ≤ g := by
  obtain ⟨i, hi, hz, hs, hby⟩ := infoLk
  obtain ⟨v', W', hr, hrow, hg, hgg⟩ := run_append_own4 (P := Try.prog) V base 23 23 54 i _ 2 40 Try.underlying23 hi hz hs hby rfl (by omega) v es.length _ h.ow p es2.length pc (lcs es2) (lcs_len _) hp (lcs_one h2.one) (by unfold maxLen; omega) (by omega) hb
  obtain ⟨a', c', rfl⟩ : ∃ a' c', v' = .slice a' (es.length + es2.length) c' := by
    rcases hrow.2 with ⟨rfl, h0⟩ | ⟨g, cap, cur, rfl, -⟩
    · exact ⟨none, 0, by rw [h0]⟩
    · exact ⟨_, _, rfl⟩
  have hF : Frm (fun b => v.ownBlock = some b) V W' := ⟨hg.os, hg.tape, hg.output, hg.size, fun b hb' hn => hg.block b hb' (fun e => hn e.symm)⟩
  have hlo : ∀ j (hj : j < es2.length) g, es2[j].u.ownBlock = some g → g < V.heap.size := fun j hj g hg => ((h2.qs j hj).low hg).2
  refine ⟨a', c', W', hr, ⟨?_, ⟨fun k hk => ?_, fun k hk j hj g h3 h4 => ?_⟩, fun k hk g h3 h4 => ?_⟩, hF, hgg⟩
  · rw [lcs_app, List.length_append]; exact hrow
  · by_cases hk2 : k < es.length
    · rw [List.getElem_append_left hk2]
      exact (h.el.qs k hk2).same (fun g hg' => hF.block g (h.low (.inr ⟨k, hk2, hg'⟩)).2 (h.dv k hk2 g hg'))
    · rw [List.length_append] at hk
      rw [List.getElem_append_right (by omega)]
      exact (h2.qs _ (by omega)).same (fun g hg' => hF.block g (hlo _ (by omega) g hg') (hd2 _ (by omega) g hg'))
  · rw [List.length_append] at hk hj
    by_cases hk2 : k < es.length
    · rw [List.getElem_append_left hk2] at h3
      by_cases hj2 : j < es.length
      · rw [List.getElem_append_left hj2] at h4
        exact h.el.dd k hk2 j hj2 g h3 h4
      · rw [List.getElem_append_right (by omega)] at h4
        exact absurd h4 (hd1 k hk2 _ (by omega) g h3)
    · rw [List.getElem_append_right (by omega)] at h3
      by_cases hj2 : j < es.length
      · rw [List.getElem_append_left hj2] at h4
        exact absurd h3 (hd1 j hj2 _ (by omega) g h4)
      · rw [List.getElem_append_right (by omega)] at h4
        have := h2.dd _ (by omega) _ (by omega) g h3 h4
        omega
  · rw [List.length_append] at hk
    by_cases hk2 : k < es.length
    · rw [List.getElem_append_left hk2] at h3
      rcases hgg g h4 with h5 | h5
      · exact h.dv k hk2 g h3 h5
      · have := (h.low (.inr ⟨k, hk2, h3⟩)).2; omega
    · rw [List.getElem_append_right (by omega)] at h3
      rcases hgg g h4 with h5 | h5
      · exact hd2 _ (by omega) g h3 h5
      · have := hlo _ (by omega) g h3; omega
theorem LTab.setQ {base : Nat} {W W' : World} {es : List LE} {g c : Nat} (h : LTab base W es (.slice (some ⟨g, 0, none⟩) es.length c)) {i : Nat} (hi : i < es.length) (hF : Frm (fun b => es[i].u.ownBlock = some b) W W') (q : List Int) (u : Value) (hu : QOw base W' q u) (hn : ∀ b, u.ownBlock = some b → es[i].u.ownBlock = some b ∨ W.heap.size ≤ b) :
    LTab base (W'.setCell ⟨g, i * 2 + 1, none⟩ u) (es.set i ⟨⟨es[i].x.nm, q⟩, u⟩) (.slice (some ⟨g, 0, none⟩) es.length c) := by
  have hgl := (h.low (g := g) (.inl rfl))
  have hog : ∀ j (hj : j < es.length) b, es[j].u.ownBlock = some b → b ≠ g := fun j hj b hb e => h.dv j hj b hb (by rw [e]; rfl)
  have hug : ∀ b, u.ownBlock = some b → b ≠ g := fun b hb e => by
    rcases hn b hb with h1 | h1
    · exact hog i hi b h1 e
    · omega
  have hoth : ∀ b, b ≠ g → (W'.setCell ⟨g, i * 2 + 1, none⟩ u).heap[b]? = W'.heap[b]? := fun b hb => Below.heap_setCell _ ⟨g, i * 2 + 1, none⟩ u _ (by show b ≠ g; exact hb)
  refine ⟨?_, ⟨fun j hj => ?_, fun j hj k hk b h1 h2 => ?_⟩, fun j hj b h1 h2 => ?_⟩
  · rcases h.ow.2 with ⟨e, -⟩ | ⟨g2, cap, cur, e, hg2, hh, r1, r2, r3, r4⟩
    · cases e
    simp only [Value.slice.injEq, Option.some.injEq, Addr.mk.injEq, and_true, true_and] at e
    obtain ⟨rfl, rfl⟩ := e
    have hW : W'.heap[g]? = some (.cells cur 54) := by rw [hF.block g hgl.2 (fun e => h.dv i hi g e rfl)]; exact hh
    rw [List.length_set, ← lcs_set es i hi q u]
    refine ⟨by rw [List.length_set]; exact lcs_len es, .inr ⟨g, c, cur.setIfInBounds (i * 2 + 1) u, rfl, hg2, heap_set _ _ hW, r1, r2, by simpa using r3, ?_⟩⟩
    rw [Array.toList_setIfInBounds, List.take_set, r4]
  · rw [List.length_set] at hj
    by_cases e : i = j
    · subst e
      rw [List.getElem_set_self]
      exact hu.same (fun b hb => hoth b (hug b hb))
    · rw [List.getElem_set_ne e]
      refine (h.el.qs j hj).same (fun b hb => ?_)
      rw [hoth b (hog j hj b hb)]
      exact hF.block b (h.low (.inr ⟨j, hj, hb⟩)).2 (fun h1 => e (h.el.dd i hi j hj b h1 hb))
  · rw [List.length_set] at hj hk
    have key : ∀ j (hj : j < es.length), i ≠ j → ∀ b, es[j].u.ownBlock = some b → u.ownBlock = some b → False := fun j hj e b h1 h2 => by
      rcases hn b h2 with h3 | h3
      · exact e (h.el.dd i hi j hj b h3 h1)
      · have := (h.low (.inr ⟨j, hj, h1⟩)).2; omega
    by_cases e : i = j
    · by_cases e2 : i = k
      · omega
      · subst e
        rw [List.getElem_set_self] at h1
        rw [List.getElem_set_ne e2] at h2
        exact (key k hk e2 b h2 h1).elim
    · rw [List.getElem_set_ne e] at h1
      by_cases e2 : i = k
      · subst e2
        rw [List.getElem_set_self] at h2
        exact (key j hj e b h1 h2).elim
      · rw [List.getElem_set_ne e2] at h2
        exact h.el.dd j hj k hk b h1 h2
  · rw [List.length_set] at hj
    have h2' : b = g := by cases h2; rfl
    by_cases e : i = j
    · subst e
      rw [List.getElem_set_self] at h1
      exact hug b h1 h2'
    · rw [List.getElem_set_ne e] at h1
      exact hog j hj b h1 h2'
end Go.Proofs.Ythpenliecgpedaa
