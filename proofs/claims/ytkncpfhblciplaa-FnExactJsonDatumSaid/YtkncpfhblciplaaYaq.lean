import Derived.Test.YtkncpfhblciplaaYal
import Derived.ArgAppend
import Derived.OwnWalk
namespace Go.Proofs.Ytkncpfhblciplaa
open Go.RowKit
set_option linter.unusedSimpArgs false
def atCs (l : List At) : List Value := (List.range (l.length * 3)).map (atF l)
theorem atCs_len (l : List At) : (atCs l).length = l.length * 3 := by simp [atCs]
theorem atCs_at {l : List At} {m : Nat} (h : m < l.length * 3) : (atCs l)[m]? = some (atF l m) := by simp [atCs, h]
theorem atF_left {l l' : List At} {m : Nat} (h : m < l.length * 3) : atF (l ++ l') m = atF l m := by
  have hi : m / 3 < l.length := by omega
  unfold atF
  rw [at_getD hi, at_getD (l := l ++ l') (by rw [List.length_append]; omega), List.getElem_append_left hi]
theorem atF_right {l l' : List At} {m : Nat} (h : m < l'.length * 3) : atF (l ++ l') (l.length * 3 + m) = atF l' m := by
  have hi : m / 3 < l'.length := by omega
  have e : (l.length * 3 + m) / 3 = l.length + m / 3 := by omega
  have e2 : (l.length * 3 + m) % 3 = m % 3 := by omega
  unfold atF
  rw [e, e2, at_getD hi, at_getD (l := l ++ l') (by rw [List.length_append]; omega), List.getElem_append_right (by omega)]
  simp
theorem atCs_app (l l' : List At) : atCs (l ++ l') = atCs l ++ atCs l' := by
  apply List.ext_getElem?
  intro m
  by_cases h : m < l.length * 3
  · rw [List.getElem?_append_left (by rw [atCs_len]; exact h), atCs_at h, atCs_at (by rw [List.length_append]; omega), atF_left h]
  · by_cases h2 : m < (l ++ l').length * 3
    · obtain ⟨m', rfl⟩ : ∃ m', m = l.length * 3 + m' := ⟨m - l.length * 3, by omega⟩
      rw [List.length_append] at h2
      rw [List.getElem?_append_right (by rw [atCs_len]; omega), atCs_len, Nat.add_sub_cancel_left, atCs_at (l := l') (by omega), atCs_at (by rw [List.length_append]; omega), atF_right (by omega)]
    · rw [List.getElem?_eq_none (by rw [atCs_len]; omega), List.getElem?_eq_none (by rw [List.length_append, atCs_len, atCs_len]; rw [List.length_append] at h2; omega)]
def ABuf (w : World) (B : Nat) (v : Value) (l : List At) : Prop := w.ownsRow B 31 3 v l.length (atCs l)
structure AppA (w : World) (v : Value) (w' : World) (v' : Value) : Prop where
  os : w'.os = w.os
  tape : w'.tape = w.tape
  output : w'.output = w.output
  size : w.heap.size ≤ w'.heap.size
  block : ∀ k, k < w.heap.size → v.ownBlock ≠ some k → w'.heap[k]? = w.heap[k]?
  place : ∀ g, v'.ownBlock = some g → v.ownBlock = some g ∨ w.heap.size ≤ g
theorem AppA.refl (w : World) (v : Value) : AppA w v w v := ⟨rfl, rfl, rfl, Nat.le_refl _, fun _ _ _ => rfl, fun _ h => .inl h⟩
theorem AppA.trans {w w1 w2 : World} {v v1 v2 : Value} (h : AppA w v w1 v1) (k : AppA w1 v1 w2 v2) : AppA w v w2 v2 := by
  have hs := h.size
  refine ⟨k.os.trans h.os, k.tape.trans h.tape, k.output.trans h.output, Nat.le_trans h.size k.size, fun b hb hn => ?_, fun g hg => ?_⟩
  · rw [k.block b (by omega) (fun e => ?_), h.block b hb hn]
    rcases h.place b e with e' | e'
    · exact hn e'
    · omega
  · rcases k.place g hg with e | e
    · exact h.place g e
    · exact .inr (by omega)
theorem AppA.of_below {w w' : World} {v : Value} (h : Below w.heap.size w w') : AppA w v w' v := ⟨h.os, h.tape, h.output, h.size, fun k hk _ => h.block k hk, fun _ h => .inl h⟩
theorem ABuf.lt {w : World} {B : Nat} {v : Value} {l : List At} (h : ABuf w B v l) {g : Nat} (hg : v.ownBlock = some g) : B ≤ g ∧ g < w.heap.size := World.ownsRow.lt h g hg
theorem ABuf.on {w w' : World} {B : Nat} {v : Value} {l : List At} (h : ABuf w B v l) (hb : Below w.heap.size w w') : ABuf w' B v l := by
  refine ⟨h.1, ?_⟩
  rcases h.2 with h0 | ⟨g, cap, cur, e1, hg1, hb1, rest⟩
  · exact .inl h0
  · exact .inr ⟨g, cap, cur, e1, hg1, by rw [hb.block _ (Array.getElem?_eq_some_iff.1 hb1).1]; exact hb1, rest⟩
theorem AppA.below {w w' : World} {B : Nat} {v v' : Value} {l : List At} (h : AppA w v w' v') (hb : ABuf w B v l) (hB : B ≤ w.heap.size) : Below B w w' :=
  ⟨h.os, h.tape, h.output, h.size, fun k hk => h.block k (by omega) (fun e => by have := (hb.lt e).1; omega)⟩
theorem ABuf.own {w : World} {B : Nat} {v : Value} {l : List At} (h : ABuf w B v l) : ∃ a c, v = .slice a l.length c ∧ OwnAts w (fun b => B ≤ b ∧ b < w.heap.size) a l := by
  rcases h.2 with ⟨rfl, h0⟩ | ⟨g, cap, cur, rfl, hg, hb, hn, hcap, hcs, hx⟩
  · exact ⟨none, 0, by rw [h0], .inl h0⟩
  · refine ⟨_, _, rfl, .inr ⟨g, 0, rfl, ⟨hg, (Array.getElem?_eq_some_iff.1 hb).1⟩, fun m hm => ⟨?_, by simp [World.frozen?, hb]⟩⟩⟩
    have h1 := congrArg (·[m]?) hx
    rw [atCs_at hm, List.getElem?_take_of_lt hm, Array.getElem?_toList] at h1
    rw [Nat.zero_add]
    simp [World.cell?, hb, h1]
theorem ABuf.empty (w : World) : ABuf (w.alloc (.cells #[] 31)) w.heap.size (.slice (some ⟨w.heap.size, 0, none⟩) 0 0) [] :=
  ⟨rfl, .inr ⟨w.heap.size, 0, #[], rfl, Nat.le_refl _, heap_newA _ _, Nat.le_refl _, by unfold maxLen; omega, by simp, by simp [atCs]⟩⟩
theorem run_apush {w : World} {B : Nat} {v : Value} {l : List At} (hb : ABuf w B v l) (hB : B ≤ w.heap.size) (l' : List At) (hl : l.length + l'.length ≤ 1000000000) (ad : Addr) (cp : Nat) (ty : TypeId)
    (hv : v ≠ .slice none 0 0) (hnews : ∀ j u, (atCs l')[j]? = some u → w.cell? (ad.add j) = some u) :
    ∃ v' w', (Builtin.append_ #[48, 48] ty #[v, .slice (some ad) l'.length cp]).run Try.prog w = .ok v' w' ∧ ABuf w' B v' (l ++ l') ∧ AppA w v w' v' ∧ v' ≠ .slice none 0 0 := by
  obtain ⟨i, hi, hz, hs, hby⟩ := infoAt'
  have h1 : ∀ u ∈ atCs l', u.oneCell' = true := fun u hu => by
    obtain ⟨m, -, rfl⟩ := List.mem_map.1 hu
    unfold atF
    split
    · rfl
    · split <;> rfl
  have hll : (atCs l').length = l'.length * 3 := atCs_len l'
  obtain ⟨v', w', hr, h2, h3, h4⟩ := run_append_own (P := Try.prog) w B 48 ty 31 i (.agg zeroAt) 3 32 Try.underlying48 hi hz hs hby rfl (by omega) v l.length (atCs l) hb ad l'.length cp (atCs l') hll hnews h1 (by unfold maxLen; omega) (by omega) hB
  refine ⟨v', w', hr, ?_, ⟨h3.os, h3.tape, h3.output, h3.size, fun k hk hn => h3.block k hk (fun e => hn e.symm), ?_⟩, fun e => hv (h4.1 e).1⟩
  · unfold ABuf
    rw [atCs_app, List.length_append]
    exact h2
  · intro p hp
    rcases hb.2 with ⟨rfl, h0'⟩ | ⟨q, cap, cur, rfl, hg, hbq, hn, hcap, hcs, hx⟩
    · exact absurd rfl hv
    · by_cases hroom : l.length + l'.length ≤ cap
      · have hr2 := run_append_room_cells (P := Try.prog) w 48 ty 31 i Try.underlying48 hi q 0 l.length cap ad l'.length cp (atCs l') (by rw [hs]; exact hll) hnews h1 hroom (fun j hj => by
          have hlt : l.length * i.size + j < cur.size := by
            rw [hs]
            rw [hll] at hj
            omega
          simp [World.cell?, hbq, hlt]) (fun j hj => by simp [World.frozen?, hbq])
        rw [hr] at hr2
        injection hr2 with e1 e2
        subst e1
        exact .inl hp
      · obtain ⟨v2, w2, hr2, h22, -⟩ := run_append_arg_grows (P := Try.prog) w 48 ty 31 i (.agg zeroAt) 3 32 Try.underlying48 hi hz hs hby rfl (by omega) ⟨q, 0, none⟩ l.length cap (atCs l) hb.1 (World.ownsRow.cells hb (g := q) rfl) ad l'.length cp (atCs l') hll hnews (by omega) (by unfold maxLen; omega) (by omega)
        rw [hr] at hr2
        injection hr2 with e1 e2
        subst e1
        exact .inr (World.ownsRow.lt h22 p hp).1
theorem wpList_apush {ops : Array Oper} {rest : List Oper} {o : Oper} {a : Act} {w : World} {Q : Exit → Act → World → Prop} (hgd : o.guard = none) (s x : Operand)
    (ho : o.op = .call { callee := .builtin .append, args := #[s, x], argTypes := #[48, 48] })
    (B : Nat) (v : Value) (l l' : List At) (ad : Addr) (m cp : Nat) (hs : a.eval s = v) (hx : a.eval x = .slice (some ad) m cp) (hm : l'.length = m)
    (hb : ABuf w B v l) (hB : B ≤ w.heap.size) (hl : l.length + l'.length ≤ 1000000000) (hv : v ≠ .slice none 0 0) (hc : ∀ j u, (atCs l')[j]? = some u → w.cell? (ad.add j) = some u)
    (h : ∀ v' w', ABuf w' B v' (l ++ l') → AppA w v w' v' → v' ≠ .slice none 0 0 → wpList Try.prog ops Q rest (a.put o.dst v') w') : wpList Try.prog ops Q (o :: rest) a w := by
  subst hm
  refine wpList_plain hgd fun K hK => ?_
  obtain ⟨v', w', hr, h2, h3, h4⟩ := run_apush hb hB l' hl ad cp o.type hv hc
  unfold Oper.wp execOp
  simp only [ho, resolve, invoke, builtin, Sem.run_bind, Sem.run_pure, Result.andThen_ok, List.map_toArray, List.map_cons, List.map_nil, hs, hx, hr]
  exact hK _ _ (h v' w' h2 h3 h4)
theorem news_one (w : World) (x : At) (t : TypeId) : ∀ j u, (atCs [x])[j]? = some u → (w.alloc (.cells #[.int .i64 x.k, .int .i64 x.n, .string ⟨x.t.toArray⟩] t)).cell? ((⟨w.heap.size, 0, none⟩ : Addr).add j) = some u := fun j u hj => by
  have hl := (List.getElem?_eq_some_iff.1 hj).1
  rw [atCs_len] at hl
  simp only [List.length_singleton, Nat.one_mul] at hl
  rw [atCs_at (by simpa using hl)] at hj
  injection hj with hj
  subst hj
  rw [Addr.add_mid, Nat.zero_add]
  have hn := heap_newA w (.cells #[.int .i64 x.k, .int .i64 x.n, .string ⟨x.t.toArray⟩] t)
  rcases (by omega : j = 0 ∨ j = 1 ∨ j = 2) with rfl | rfl | rfl
  · exact cell_at (o := 0) hn rfl
  · exact cell_at (o := 1) hn rfl
  · exact cell_at (o := 2) hn rfl
end Go.Proofs.Ytkncpfhblciplaa
