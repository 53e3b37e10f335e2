import Derived.Test.YthpenliecgpedaaZbd
import Derived.Test.YthpenliecgpedaaZbe
namespace Go.Proofs.Ythpenliecgpedaa
open Go.RowKit Go.MuLone
set_option linter.unusedSimpArgs false
def delQ (q : List Int) (n : Int) : List Int := q.take (fq q n) ++ q.drop (fq q n + 1)
def lockedN : List UInt8 := [108, 111, 99, 107, 101, 100]
def lvX (l : List LkV) (s : List UInt8) : LkV := atL l (fk l s)
def lvIn (l : List LkV) (n : Int) (s : List UInt8) : Bool := decide (fk l s < l.length) && inK (lvX l s).qu (lvX l s).qu.length n
def lvQ (l : List LkV) (n : Int) (s : List UInt8) : List Int := delQ (lvX l s).qu n
def leaveL (l : List LkV) (n : Int) (s : List UInt8) : List LkV := if lvIn l n s then (if (lvQ l n s).length = 0 then l.take (fk l s) ++ l.drop (fk l s + 1) else l.set (fk l s) ⟨(lvX l s).nm, lvQ l n s⟩) else l
def leaveT (l : List LkV) (n : Int) (s : List UInt8) : List ToV := if lvIn l n s then (if (lvX l s).qu.headD (-1) = n ∧ 0 < (lvQ l n s).length then [⟨(lvQ l n s).headD (-1), lockedN, s⟩] else []) else []
def leaveC (l : List LkV) (n : Int) (s : List UInt8) : Int := if lvIn l n s then 0 else 5
theorem leave_no {l : List LkV} {n : Int} {s : List UInt8} (h : lvIn l n s = false) : leaveL l n s = l ∧ leaveT l n s = [] ∧ leaveC l n s = 5 := by unfold leaveL leaveT leaveC; simp [h]
theorem delQ_filter {q : List Int} {n : Int} (h : QuP q) (hn : fq q n < q.length) : q.filter (fun x => x != n) = delQ q n := by
  have h1 : q = q.take (fq q n) ++ ([q[fq q n]] ++ q.drop (fq q n + 1)) := by
    rw [List.singleton_append, List.getElem_cons_drop, List.take_append_drop]
  have hA : (q.take (fq q n)).filter (fun x => x != n) = q.take (fq q n) := List.filter_eq_self.2 (fun x hx => by
    obtain ⟨j, hj, rfl⟩ := List.mem_iff_getElem.1 hx
    rw [List.length_take] at hj
    rw [List.getElem_take]
    have h2 := fq_lt (q := q) (n := n) (m := j) (by omega)
    simpa using h2)
  have hB : (q.drop (fq q n + 1)).filter (fun x => x != n) = q.drop (fq q n + 1) := List.filter_eq_self.2 (fun x hx => by
    obtain ⟨j, hj, rfl⟩ := List.mem_iff_getElem.1 hx
    rw [List.length_drop] at hj
    rw [List.getElem_drop]
    have h2 := h.once (fq q n + 1 + j) (by omega) (fq q n) (by omega)
    rw [fq_at hn] at h2
    simpa using fun e => h2 e.symm)
  unfold delQ
  conv => lhs; rw [h1]
  rw [List.filter_append, List.filter_append, hA, hB, fq_at hn]
  simp
theorem filter_take {q : List Int} {n : Int} {k : Nat} (hk : k < q.length) : (q.take (k + 1)).filter (fun x => x != n) = (q.take k).filter (fun x => x != n) ++ (if q[k] = n then [] else [q[k]]) := by
  rw [List.take_succ_eq_append_getElem hk, List.filter_append]
  by_cases h : q[k] = n
  · rw [if_pos h]; simp [h]
  · rw [if_neg h]; simp [h]
theorem QOw.base {base b' : Nat} {W : World} {q : List Int} {u : Value} (h : QOw base W q u) (hb : b' ≤ base) : QOw b' W q u := by
  obtain ⟨r1, r2⟩ := h
  refine ⟨r1, r2.imp id ?_⟩
  rintro ⟨g, cap, cur, e, hg, r⟩
  exact ⟨g, cap, cur, e, by omega, r⟩
theorem LTab.base {base b' : Nat} {W : World} {es : List LE} {v : Value} (h : LTab base W es v) (hb : b' ≤ base) : LTab b' W es v := by
  refine ⟨?_, ⟨fun i hi => (h.el.qs i hi).base hb, h.el.dd⟩, h.dv⟩
  obtain ⟨r1, r2⟩ := h.ow
  refine ⟨r1, r2.imp id ?_⟩
  rintro ⟨g, cap, cur, e, hg, r⟩
  exact ⟨g, cap, cur, e, by omega, r⟩
theorem QOw.at {base : Nat} {W : World} {q : List Int} {u : Value} (h : QOw base W q u) {i : Nat} (hi : i < q.length) : ∃ b c, u = .slice (some ⟨b, 0, none⟩) q.length c ∧ q.length ≤ c ∧ base ≤ b ∧ b < W.heap.size ∧ ∀ j (hj : j < q.length), W.cell? ⟨b, j, none⟩ = some (.int .i64 q[j]) := by
  rcases h.2 with ⟨rfl, h0⟩ | ⟨g, cap, cur, rfl, hg, hh, r1, r2, r3, r4⟩
  · omega
  refine ⟨g, cap, rfl, r1, hg, (Array.getElem?_eq_some_iff.1 hh).1, fun j hj => ?_⟩
  have h1 : (ints q)[j]? = some (.int .i64 q[j]) := by unfold ints; rw [List.getElem?_map, List.getElem?_eq_getElem hj]; rfl
  rw [← r4, List.getElem?_take_of_lt (by omega), Array.getElem?_toList] at h1
  simp [World.cell?, hh, h1]
theorem LTab.setQ2 {base : Nat} {W : World} {es : List LE} {g c : Nat} (h : LTab base W es (.slice (some ⟨g, 0, none⟩) es.length c)) {i : Nat} (hi : i < es.length) (q : List Int) (u : Value) (hu : QOw base W q u) (hn : ∀ b, u.ownBlock = some b → b ≠ g ∧ ∀ j (hj : j < es.length), j ≠ i → es[j].u.ownBlock ≠ some b) :
    LTab base (W.setCell ⟨g, i * 2 + 1, none⟩ u) (es.set i ⟨⟨es[i].x.nm, q⟩, u⟩) (.slice (some ⟨g, 0, none⟩) es.length c) := by
  have hog : ∀ j (hj : j < es.length) b, es[j].u.ownBlock = some b → b ≠ g := fun j hj b hb e => h.dv j hj b hb (by rw [e]; rfl)
  have hoth : ∀ b, b ≠ g → (W.setCell ⟨g, i * 2 + 1, none⟩ u).heap[b]? = W.heap[b]? := fun b hb => Below.heap_setCell _ ⟨g, i * 2 + 1, none⟩ u _ (by show b ≠ g; exact hb)
  refine ⟨?_, ⟨fun j hj => ?_, fun j hj k hk b h1 h2 => ?_⟩, fun j hj b h1 h2 => ?_⟩
  · rcases h.ow.2 with ⟨e, -⟩ | ⟨g2, cap, cur, e, hg2, hh, r1, r2, r3, r4⟩
    · cases e
    simp only [Value.slice.injEq, Option.some.injEq, Addr.mk.injEq, and_true, true_and] at e
    obtain ⟨rfl, rfl⟩ := e
    rw [List.length_set, ← lcs_set es i hi q u]
    refine ⟨by rw [List.length_set]; exact lcs_len es, .inr ⟨g, c, cur.setIfInBounds (i * 2 + 1) u, rfl, hg2, heap_set _ _ hh, r1, r2, by simpa using r3, ?_⟩⟩
    rw [Array.toList_setIfInBounds, List.take_set, r4]
  · rw [List.length_set] at hj
    by_cases e : i = j
    · subst e
      rw [List.getElem_set_self]
      exact hu.same (fun b hb => hoth b (hn b hb).1)
    · rw [List.getElem_set_ne e]
      exact (h.el.qs j hj).same (fun b hb => hoth b (hog j hj b hb))
  · rw [List.length_set] at hj hk
    by_cases e : i = j
    · by_cases e2 : i = k
      · omega
      · subst e
        rw [List.getElem_set_self] at h1
        rw [List.getElem_set_ne e2] at h2
        exact absurd h2 ((hn b h1).2 k hk (fun e3 => e2 e3.symm))
    · rw [List.getElem_set_ne e] at h1
      by_cases e2 : i = k
      · subst e2
        rw [List.getElem_set_self] at h2
        exact absurd h1 ((hn b h2).2 j hj (fun e3 => e e3.symm))
      · rw [List.getElem_set_ne e2] at h2
        exact h.el.dd j hj k hk b h1 h2
  · rw [List.length_set] at hj
    have h2' : b = g := by cases h2; rfl
    by_cases e : i = j
    · subst e
      rw [List.getElem_set_self] at h1
      exact (hn b h1).1 h2'
    · rw [List.getElem_set_ne e] at h1
      exact hog j hj b h1 h2'
def delE (es : List LE) (p : Nat) : List LE := es.take p ++ es.drop (p + 1)
theorem delE_len {es : List LE} {p : Nat} (hp : p < es.length) : (delE es p).length + 1 = es.length := by
  unfold delE
  simp only [List.length_append, List.length_take, List.length_drop]
  omega
theorem delE_at {es : List LE} {p : Nat} (hp : p < es.length) {i : Nat} (hi : i < (delE es p).length) : ∃ j, ∃ hj : j < es.length, (delE es p)[i] = es[j] ∧ ((i < p ∧ j = i) ∨ (p ≤ i ∧ j = i + 1)) := by
  have hl := delE_len hp
  unfold delE at *
  by_cases h : i < p
  · refine ⟨i, by omega, ?_, .inl ⟨h, rfl⟩⟩
    rw [List.getElem_append_left (by simp; omega), List.getElem_take]
  · refine ⟨i + 1, by omega, ?_, .inr ⟨by omega, rfl⟩⟩
    rw [List.getElem_append_right (by simp; omega), List.getElem_drop]
    congr 1
    simp
    omega
theorem lks_delE {es : List LE} {l : List LkV} {p : Nat} (h : lks es = l) : lks (delE es p) = l.take p ++ l.drop (p + 1) := by
  unfold delE
  rw [lks_app, ← h]
  unfold lks
  rw [List.map_take, List.map_drop]
theorem LTab.del {base : Nat} {V W' : World} {es : List LE} {g c p c' : Nat} {a' : Option Addr} (h : LTab base V es (.slice (some ⟨g, 0, none⟩) es.length c)) (hp : p < es.length)
    (hO : W'.ownsRow base 54 2 (.slice a' (delE es p).length c') (delE es p).length (lcs (delE es p))) (hF : Frm (· = g) V W') (hn : ∀ b, Value.ownBlock (.slice a' (delE es p).length c') = some b → b = g ∨ V.heap.size ≤ b) :
    LTab base W' (delE es p) (.slice a' (delE es p).length c') := by
  have hes : ∀ j (hj : j < es.length) y, es[j].u.ownBlock = some y → y < V.heap.size ∧ y ≠ g := fun j hj y hy => ⟨(h.low (.inr ⟨j, hj, hy⟩)).2, fun e2 => h.dv j hj y hy (by rw [e2]; rfl)⟩
  refine ⟨hO, ⟨fun i hi => ?_, fun i hi j hj y h1 h2 => ?_⟩, fun i hi y h1 h2 => ?_⟩
  · obtain ⟨j, hj, e1, -⟩ := delE_at hp hi
    rw [e1]; exact (h.el.qs j hj).same (fun y hy => hF.block y (hes j hj y hy).1 (hes j hj y hy).2)
  · obtain ⟨i', hi', e1, k1⟩ := delE_at hp hi
    obtain ⟨j', hj', e2, k2⟩ := delE_at hp hj
    rw [e1] at h1; rw [e2] at h2
    have := h.el.dd i' hi' j' hj' y h1 h2
    omega
  · obtain ⟨j, hj, e1, -⟩ := delE_at hp hi
    rw [e1] at h1
    rcases hn y h2 with e3 | e3
    · exact (hes j hj y h1).2 e3
    · have := (hes j hj y h1).1; omega
def tcs (x : ToV) : List Value := [.int .i64 x.se, .string ⟨x.wd.toArray⟩, .string ⟨x.tn.toArray⟩]
theorem told_own {base : Nat} {W : World} {x : ToV} {a : Option Addr} {c : Nat} (h : W.ownsRow base 57 3 (.slice a 1 c) 1 (tcs x)) : Own W (dToldS [x]) (fun b => Value.ownBlock (.slice a 1 c) = some b) (.slice a [x].length c) := by
  rcases h.2 with ⟨e, h0⟩ | ⟨g, cap, cur, e, hg, hh, r1, r2, r3, r4⟩
  · omega
  simp only [Value.slice.injEq, true_and] at e
  obtain ⟨rfl, rfl⟩ := e
  refine ⟨_, _, rfl, r1, .inr ⟨g, 0, fun _ _ _ => False, rfl, rfl, by omega, fun _ _ _ h => h.elim, fun _ _ _ _ _ h => h.elim, fun i j hi hj => ?_⟩⟩
  obtain rfl : i = 0 := by simpa using hi
  have key : ∀ u, (tcs x)[j]? = some u → W.cell? ⟨g, 0 + 0 * 3 + j, none⟩ = some u ∧ W.frozen? ⟨g, 0 + 0 * 3 + j, none⟩ = false := fun u hu => by
    rw [← r4, List.getElem?_take_of_lt (by omega), Array.getElem?_toList] at hu
    rw [Nat.zero_mul, Nat.zero_add]
    exact ⟨by simp [World.cell?, hh, hu], by simp [World.frozen?, hh]⟩
  rcases (by omega : j = 0 ∨ j = 1 ∨ j = 2) with rfl | rfl | rfl
  · obtain ⟨k1, k2⟩ := key _ rfl; exact ⟨_, k1, k2, rfl⟩
  · obtain ⟨k1, k2⟩ := key _ rfl; exact ⟨_, k1, k2, rfl⟩
  · obtain ⟨k1, k2⟩ := key _ rfl; exact ⟨_, k1, k2, rfl⟩
theorem infoTo : ∃ i, Try.prog.info? 57 = some i ∧ i.zero = some (.agg #[.int .i64 0, .string ⟨#[]⟩, .string ⟨#[]⟩]) ∧ i.size = 3 ∧ i.bytes = 40 := by
  have h : (Try.prog.info? 57).map (fun i => (i.zero, i.size, i.bytes)) = some (some (.agg #[.int .i64 0, .string ⟨#[]⟩, .string ⟨#[]⟩]), 3, 40) := by kernel_rfl
  obtain ⟨i, hi, hzz⟩ := Option.map_eq_some_iff.1 h
  simp only [Prod.mk.injEq] at hzz
  exact ⟨i, hi, hzz⟩
theorem told_push {base : Nat} {V : World} {v : Value} (h : V.ownsRow base 57 3 v 0 []) (x : ToV) (p : Nat) (hp : V.heap[p]? = some (.cells #[.int .i64 x.se, .string ⟨x.wd.toArray⟩, .string ⟨x.tn.toArray⟩] 57)) (hb : base ≤ V.heap.size) :
    ∃ a' c' W', (Builtin.append_ #[29, 29] 29 #[v, .slice (some ⟨p, 0, none⟩) 1 1]).run Try.prog V = .ok (.slice a' 1 c') W' ∧ W'.ownsRow base 57 3 (.slice a' 1 c') 1 (tcs x) ∧ Frm (fun b => v.ownBlock = some b) V W' ∧ ∀ b, Value.ownBlock (.slice a' 1 c') = some b → v.ownBlock = some b ∨ V.heap.size ≤ b := by
  obtain ⟨i, hi, hz, hs, hby⟩ := infoTo
  obtain ⟨v', W', hr, hrow, hg, hgg⟩ := run_append_own4 (P := Try.prog) V base 29 29 57 i _ 3 40 Try.underlying29 hi hz hs hby rfl (by omega) v 0 _ h ⟨p, 0, none⟩ 1 1 (tcs x) rfl (fun j u hj => by
      rw [Addr.add_mid, Nat.zero_add]
      match j, hj with
      | 0, hj => cases hj; exact cell_at (o := 0) hp rfl
      | 1, hj => cases hj; exact cell_at (o := 1) hp rfl
      | 2, hj => cases hj; exact cell_at (o := 2) hp rfl
      | j + 3, hj => simp [tcs] at hj) (fun u hu => by
      simp only [tcs, List.mem_cons, List.not_mem_nil, or_false] at hu
      rcases hu with rfl | rfl | rfl <;> rfl) (by unfold maxLen; omega) (by omega) hb
  obtain ⟨a', c', rfl⟩ : ∃ a' c', v' = .slice a' 1 c' := by
    rcases hrow.2 with ⟨rfl, h0⟩ | ⟨g, cap, cur, rfl, -⟩
    · omega
    · exact ⟨_, _, rfl⟩
  exact ⟨a', c', W', hr, hrow, ⟨hg.os, hg.tape, hg.output, hg.size, fun b hb' hn => hg.block b hb' (fun e => hn e.symm)⟩, hgg⟩
theorem delE_set (es : List LE) (p : Nat) (x : LE) : delE (es.set p x) p = delE es p := by
  unfold delE
  rw [List.take_set_of_le (by omega), List.drop_set_of_lt (by omega)]
theorem leave_in {l : List LkV} {n : Int} {s : List UInt8} (h : lvIn l n s = true) : leaveL l n s = (if (lvQ l n s).length = 0 then l.take (fk l s) ++ l.drop (fk l s + 1) else l.set (fk l s) ⟨(lvX l s).nm, lvQ l n s⟩) ∧ leaveT l n s = (if (lvX l s).qu.headD (-1) = n ∧ 0 < (lvQ l n s).length then [⟨(lvQ l n s).headD (-1), lockedN, s⟩] else []) ∧ leaveC l n s = 0 := by
  unfold leaveL leaveT leaveC
  rw [if_pos h, if_pos h, if_pos h]
  exact ⟨rfl, rfl, rfl⟩
end Go.Proofs.Ythpenliecgpedaa
