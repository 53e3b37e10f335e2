import Derived.Test.YtoalhminembpkaaVbl
import Derived.Test.YtoalhminembpkaaVbm
namespace Go.Proofs.Ytoalhminembpkaa
open Go.RowKit Go.MuLone
set_option linter.unusedSimpArgs false
theorem filter_take {q : List Int} {n : Int} {k : Nat} (hk : k < q.length) : (q.take (k + 1)).filter (fun x => x != n) = (q.take k).filter (fun x => x != n) ++ (if q[k] = n then [] else [q[k]]) := by
  rw [List.take_succ_eq_append_getElem hk, List.filter_append]
  by_cases h : q[k] = n
  · rw [if_pos h]; simp [h]
  · rw [if_neg h]; simp [h]
theorem QOw.base {base b' : Nat} {W : World} {q : List Int} {u : Value} (h : QOw base W q u) (hb : b' ≤ base) : QOw b' W q u := by
  obtain ⟨r1, r2⟩ := h
  refine ⟨r1, r2.imp id ?_⟩
  rintro ⟨g, cap, cur, e, hg, r⟩
  exact ⟨g, cap, cur, e, by omega, r⟩
theorem LTab.base {base b' : Nat} {W : World} {es : List LE} {v : Value} (h : LTab base W es v) (hb : b' ≤ base) : LTab b' W es v := by
  refine ⟨?_, ⟨fun i hi => (h.el.qs i hi).base hb, h.el.dd⟩, h.dv⟩
  obtain ⟨r1, r2⟩ := h.ow
  refine ⟨r1, r2.imp id ?_⟩
  rintro ⟨g, cap, cur, e, hg, r⟩
  exact ⟨g, cap, cur, e, by omega, r⟩
theorem QOw.at {base : Nat} {W : World} {q : List Int} {u : Value} (h : QOw base W q u) {i : Nat} (hi : i < q.length) : ∃ b c, u = .slice (some ⟨b, 0, none⟩) q.length c ∧ q.length ≤ c ∧ base ≤ b ∧ b < W.heap.size ∧ ∀ j (hj : j < q.length), W.cell? ⟨b, j, none⟩ = some (.int .i64 q[j]) := by
  rcases h.2 with ⟨rfl, h0⟩ | ⟨g, cap, cur, rfl, hg, hh, r1, r2, r3, r4⟩
  · omega
  refine ⟨g, cap, rfl, r1, hg, (Array.getElem?_eq_some_iff.1 hh).1, fun j hj => ?_⟩
  have h1 : (ints q)[j]? = some (.int .i64 q[j]) := by unfold ints; rw [List.getElem?_map, List.getElem?_eq_getElem hj]; rfl
  rw [← r4, List.getElem?_take_of_lt (by omega), Array.getElem?_toList] at h1
  simp [World.cell?, hh, h1]
theorem LTab.setQ2 {base : Nat} {W : World} {es : List LE} {g c : Nat} (h : LTab base W es (.slice (some ⟨g, 0, none⟩) es.length c)) {i : Nat} (hi : i < es.length) (q : List Int) (u : Value) (hu : QOw base W q u) (hn : ∀ b, u.ownBlock = some b → b ≠ g ∧ ∀ j (hj : j < es.length), j ≠ i → es[j].u.ownBlock ≠ some b) :
    LTab base (W.setCell ⟨g, i * 2 + 1, none⟩ u) (es.set i ⟨⟨es[i].x.nm, q⟩, u⟩) (.slice (some ⟨g, 0, none⟩) es.length c) := by
  have hog : ∀ j (hj : j < es.length) b, es[j].u.ownBlock = some b → b ≠ g := fun j hj b hb e => h.dv j hj b hb (by rw [e]; rfl)
  have hoth : ∀ b, b ≠ g → (W.setCell ⟨g, i * 2 + 1, none⟩ u).heap[b]? = W.heap[b]? := fun b hb => Below.heap_setCell _ ⟨g, i * 2 + 1, none⟩ u _ (by show b ≠ g; exact hb)
  refine ⟨?_, ⟨fun j hj => ?_, fun j hj k hk b h1 h2 => ?_⟩, fun j hj b h1 h2 => ?_⟩
  · rcases h.ow.2 with ⟨e, -⟩ | ⟨g2, cap, cur, e, hg2, hh, r1, r2, r3, r4⟩
    · cases e
    simp only [Value.slice.injEq, Option.some.injEq, Addr.mk.injEq, and_true, true_and] at e
    obtain ⟨rfl, rfl⟩ := e
    rw [List.length_set, ← lcs_set es i hi q u]
    refine ⟨by rw [List.length_set]; exact lcs_len es, .inr ⟨g, c, cur.setIfInBounds (i * 2 + 1) u, rfl, hg2, heap_set _ _ hh, r1, r2, by simpa using r3, ?_⟩⟩
    rw [Array.toList_setIfInBounds, List.take_set, r4]
  · rw [List.length_set] at hj
    by_cases e : i = j
    · subst e
      rw [List.getElem_set_self]
      exact hu.same (fun b hb => hoth b (hn b hb).1)
    · rw [List.getElem_set_ne e]
      exact (h.el.qs j hj).same (fun b hb => hoth b (hog j hj b hb))
  · rw [List.length_set] at hj hk
    by_cases e : i = j
    · by_cases e2 : i = k
      · omega
      · subst e
        rw [List.getElem_set_self] at h1
        rw [List.getElem_set_ne e2] at h2
        exact absurd h2 ((hn b h1).2 k hk (fun e3 => e2 e3.symm))
    · rw [List.getElem_set_ne e] at h1
      by_cases e2 : i = k
      · subst e2
        rw [List.getElem_set_self] at h2
        exact absurd h1 ((hn b h2).2 j hj (fun e3 => e e3.symm))
      · rw [List.getElem_set_ne e2] at h2
        exact h.el.dd j hj k hk b h1 h2
  · rw [List.length_set] at hj
    have h2' : b = g := by cases h2; rfl
    by_cases e : i = j
    · subst e
      rw [List.getElem_set_self] at h1
      exact (hn b h1).1 h2'
    · rw [List.getElem_set_ne e] at h1
      exact hog j hj b h1 h2'
def tcs (x : ToV) : List Value := [.int .i64 x.se, .string ⟨x.wd.toArray⟩, .string ⟨x.tn.toArray⟩]
theorem told_own {base : Nat} {W : World} {x : ToV} {a : Option Addr} {c : Nat} (h : W.ownsRow base 73 3 (.slice a 1 c) 1 (tcs x)) : Own W (dToldS [x]) (fun b => Value.ownBlock (.slice a 1 c) = some b) (.slice a [x].length c) := by
  rcases h.2 with ⟨e, h0⟩ | ⟨g, cap, cur, e, hg, hh, r1, r2, r3, r4⟩
  · omega
  simp only [Value.slice.injEq, true_and] at e
  obtain ⟨rfl, rfl⟩ := e
  refine ⟨_, _, rfl, r1, .inr ⟨g, 0, fun _ _ _ => False, rfl, rfl, by omega, fun _ _ _ h => h.elim, fun _ _ _ _ _ h => h.elim, fun i j hi hj => ?_⟩⟩
  obtain rfl : i = 0 := by simpa using hi
  have key : ∀ u, (tcs x)[j]? = some u → W.cell? ⟨g, 0 + 0 * 3 + j, none⟩ = some u ∧ W.frozen? ⟨g, 0 + 0 * 3 + j, none⟩ = false := fun u hu => by
    rw [← r4, List.getElem?_take_of_lt (by omega), Array.getElem?_toList] at hu
    rw [Nat.zero_mul, Nat.zero_add]
    exact ⟨by simp [World.cell?, hh, hu], by simp [World.frozen?, hh]⟩
  rcases (by omega : j = 0 ∨ j = 1 ∨ j = 2) with rfl | rfl | rfl
  · obtain ⟨k1, k2⟩ := key _ rfl; exact ⟨_, k1, k2, rfl⟩
  · obtain ⟨k1, k2⟩ := key _ rfl; exact ⟨_, k1, k2, rfl⟩
  · obtain ⟨k1, k2⟩ := key _ rfl; exact ⟨_, k1, k2, rfl⟩
theorem infoTo : ∃ i, Try.prog.info? 73 = some i ∧ i.zero = some (.agg #[.int .i64 0, .string ⟨#[]⟩, .string ⟨#[]⟩]) ∧ i.size = 3 ∧ i.bytes = 40 := by
  have h : (Try.prog.info? 73).map (fun i => (i.zero, i.size, i.bytes)) = some (some (.agg #[.int .i64 0, .string ⟨#[]⟩, .string ⟨#[]⟩]), 3, 40) := by kernel_rfl
  obtain ⟨i, hi, hzz⟩ := Option.map_eq_some_iff.1 h
  simp only [Prod.mk.injEq] at hzz
  exact ⟨i, hi, hzz⟩
theorem told_push {base : Nat} {V : World} {v : Value} (h : V.ownsRow base 73 3 v 0 []) (x : ToV) (p : Nat) (hp : V.heap[p]? = some (.cells #[.int .i64 x.se, .string ⟨x.wd.toArray⟩, .string ⟨x.tn.toArray⟩] 73)) (hb : base ≤ V.heap.size) :
    ∃ a' c' W', (Builtin.append_ #[33, 33] 33 #[v, .slice (some ⟨p, 0, none⟩) 1 1]).run Try.prog V = .ok (.slice a' 1 c') W' ∧ W'.ownsRow base 73 3 (.slice a' 1 c') 1 (tcs x) ∧ Frm (fun b => v.ownBlock = some b) V W' ∧ ∀ b, Value.ownBlock (.slice a' 1 c') = some b → v.ownBlock = some b ∨ V.heap.size ≤ b := by
  obtain ⟨i, hi, hz, hs, hby⟩ := infoTo
  obtain ⟨v', W', hr, hrow, hg, hgg⟩ := run_append_own4 (P := Try.prog) V base 33 33 73 i _ 3 40 Try.underlying33 hi hz hs hby rfl (by omega) v 0 _ h ⟨p, 0, none⟩ 1 1 (tcs x) rfl (fun j u hj => by
      rw [Addr.add_mid, Nat.zero_add]
      match j, hj with
      | 0, hj => cases hj; exact cell_at (o := 0) hp rfl
      | 1, hj => cases hj; exact cell_at (o := 1) hp rfl
      | 2, hj => cases hj; exact cell_at (o := 2) hp rfl
      | j + 3, hj => simp [tcs] at hj) (fun u hu => by
      simp only [tcs, List.mem_cons, List.not_mem_nil, or_false] at hu
      rcases hu with rfl | rfl | rfl <;> rfl) (by unfold maxLen; omega) (by omega) hb
  obtain ⟨a', c', rfl⟩ : ∃ a' c', v' = .slice a' 1 c' := by
    rcases hrow.2 with ⟨rfl, h0⟩ | ⟨g, cap, cur, rfl, -⟩
    · omega
    · exact ⟨_, _, rfl⟩
  exact ⟨a', c', W', hr, hrow, ⟨hg.os, hg.tape, hg.output, hg.size, fun b hb' hn => hg.block b hb' (fun e => hn e.symm)⟩, hgg⟩
end Go.Proofs.Ytoalhminembpkaa
