import Derived.Test.YtodgijhpokjjhaaDoorZaw
import Derived.Test.YtodgijhpokjjhaaDoorZbc
import Derived.ArgAppend
import Derived.Lib.AppendStr
import Derived.Lib.UnsafeStr
import Derived.OwnWalk
import Derived.Great.BuildSlice
namespace Go.Proofs.YtodgijhpokjjhaaDoor
open Go.RowKit
set_option linter.unusedSimpArgs false
def Buf (w : World) (B : Nat) (v : Value) (bs : List UInt8) : Prop := w.ownsRow B 5 1 v bs.length (Lib.byteCells bs)
structure App (w : World) (v : Value) (w' : World) (v' : Value) : Prop where
  os : w'.os = w.os
  tape : w'.tape = w.tape
  output : w'.output = w.output
  size : w.heap.size ≤ w'.heap.size
  block : ∀ k, k < w.heap.size → v.ownBlock ≠ some k → w'.heap[k]? = w.heap[k]?
  place : ∀ g, v'.ownBlock = some g → v.ownBlock = some g ∨ w.heap.size ≤ g
theorem App.refl (w : World) (v : Value) : App w v w v := ⟨rfl, rfl, rfl, Nat.le_refl _, fun _ _ _ => rfl, fun _ h => .inl h⟩
theorem App.trans {w w1 w2 : World} {v v1 v2 : Value} (h : App w v w1 v1) (k : App w1 v1 w2 v2) : App w v w2 v2 := by
  have hs := h.size
  refine ⟨k.os.trans h.os, k.tape.trans h.tape, k.output.trans h.output, Nat.le_trans h.size k.size, fun b hb hn => ?_, fun g hg => ?_⟩
  · rw [k.block b (by omega) (fun e => ?_), h.block b hb hn]
    rcases h.place b e with e' | e'
    · exact hn e'
    · omega
  · rcases k.place g hg with e | e
    · exact h.place g e
    · exact .inr (by omega)
theorem App.of_below {w w' : World} {v : Value} (h : Below w.heap.size w w') : App w v w' v := ⟨h.os, h.tape, h.output, h.size, fun k hk _ => h.block k hk, fun _ h => .inl h⟩
theorem Buf.lt {w : World} {B : Nat} {v : Value} {bs : List UInt8} (h : Buf w B v bs) {g : Nat} (hg : v.ownBlock = some g) : B ≤ g ∧ g < w.heap.size := World.ownsRow.lt h g hg
theorem Buf.on {w w' : World} {B : Nat} {v : Value} {bs : List UInt8} (h : Buf w B v bs) (hb : Below w.heap.size w w') : Buf w' B v bs := by
  refine ⟨h.1, ?_⟩
  rcases h.2 with h0 | ⟨g, cap, cur, e1, hg1, hb1, rest⟩
  · exact .inl h0
  · exact .inr ⟨g, cap, cur, e1, hg1, by rw [hb.block _ (Array.getElem?_eq_some_iff.1 hb1).1]; exact hb1, rest⟩
theorem Buf.alloc {w : World} {B : Nat} {v : Value} {bs : List UInt8} (h : Buf w B v bs) (o : Obj) : Buf (w.alloc o) B v bs := h.on ((Below.refl _ _).alloc (Nat.le_refl _) _)
theorem App.alloc {w w1 : World} {v v1 : Value} (h : App w v w1 v1) (o : Obj) : App w v (w1.alloc o) v1 := h.trans (App.of_below ((Below.refl _ _).alloc (Nat.le_refl _) _))
theorem App.below {w w' : World} {B : Nat} {v v' : Value} {bs : List UInt8} (h : App w v w' v') (hb : Buf w B v bs) (hB : B ≤ w.heap.size) : Below B w w' :=
  ⟨h.os, h.tape, h.output, h.size, fun k hk => h.block k (by omega) (fun e => by have := (hb.lt e).1; omega)⟩
theorem Buf.shape {w : World} {B : Nat} {v : Value} {bs : List UInt8} (h : Buf w B v bs) : ∃ va vc, v = .slice va bs.length vc := own_shape' h
theorem run_pushL {w : World} {B : Nat} {v : Value} {bs : List UInt8} (hb : Buf w B v bs) (hB : B ≤ w.heap.size) (l : List UInt8) (hl : bs.length + l.length ≤ 70368744177664) (h0 : 0 < l.length) (ad : Addr) (cp : Nat) (ty : TypeId)
    (hnews : ∀ j u, (Lib.byteCells l)[j]? = some u → w.cell? (ad.add j) = some u) :
    ∃ v' w', (Builtin.append_ #[22, 22] ty #[v, .slice (some ad) l.length cp]).run Tryd.prog w = .ok v' w' ∧ Buf w' B v' (bs ++ l) ∧ App w v w' v' := by
  obtain ⟨i, hi, hz, hs, hby⟩ := info5'
  have h1 : ∀ u ∈ Lib.byteCells l, u.oneCell' = true := fun u hu => by obtain ⟨b, -, rfl⟩ := List.mem_map.1 hu; rfl
  have hll : (Lib.byteCells l).length = l.length * 1 := by rw [Lib.byteCells_length, Nat.mul_one]
  obtain ⟨v', w', hr, h2, h3, -⟩ := run_append_own (P := Tryd.prog) w B 22 ty 5 i (.int .u8 0) 1 1 Tryd.underlying22 hi hz hs hby rfl (Nat.lt_succ_self 0) v bs.length (Lib.byteCells bs) hb ad l.length cp (Lib.byteCells l) hll hnews h1 (by unfold maxLen; omega) (by omega) hB
  refine ⟨v', w', hr, ?_, ⟨h3.os, h3.tape, h3.output, h3.size, fun k hk hn => h3.block k hk (fun e => hn e.symm), ?_⟩⟩
  · unfold Buf
    rw [Lib.byteCells_append, List.length_append]
    exact h2
  · intro p hp
    have fresh : ∀ {v'' : Value} {w'' : World} {ys : List Value}, w''.ownsRow w.heap.size 5 1 v'' (bs.length + l.length) ys → ∀ g, v''.ownBlock = some g → w.heap.size ≤ g := fun h g hg => (World.ownsRow.lt h g hg).1
    rcases hb.2 with ⟨rfl, h0'⟩ | ⟨q, cap, cur, rfl, hg, hbq, hn, hcap, hcs, hx⟩
    · have hb0 : bs = [] := List.eq_nil_of_length_eq_zero h0'
      subst hb0
      obtain ⟨v2, w2, hr2, h22, -, -⟩ := run_append_own (P := Tryd.prog) w w.heap.size 22 ty 5 i (.int .u8 0) 1 1 Tryd.underlying22 hi hz hs hby rfl (Nat.lt_succ_self 0) (.slice none 0 0) 0 [] ⟨rfl, .inl ⟨rfl, rfl⟩⟩ ad l.length cp (Lib.byteCells l) hll hnews h1 (by unfold maxLen; simp at hl; omega) (by simp at hl; omega) (Nat.le_refl _)
      rw [hr] at hr2
      injection hr2 with e1 e2
      subst e1
      exact .inr (fresh h22 p hp)
    · by_cases hroom : bs.length + l.length ≤ cap
      · have hr2 := run_append_room_cells (P := Tryd.prog) w 22 ty 5 i Tryd.underlying22 hi q 0 bs.length cap ad l.length cp (Lib.byteCells l) (by rw [hs]; exact hll) hnews h1 hroom (fun j hj => by
          have hlt : bs.length * i.size + j < cur.size := by
            rw [hs]
            rw [Lib.byteCells_length] at hj
            omega
          simp [World.cell?, hbq, hlt]) (fun j hj => by simp [World.frozen?, hbq])
        rw [hr] at hr2
        injection hr2 with e1 e2
        subst e1
        exact .inl hp
      · obtain ⟨v2, w2, hr2, h22, -⟩ := run_append_arg_grows (P := Tryd.prog) w 22 ty 5 i (.int .u8 0) 1 1 Tryd.underlying22 hi hz hs hby rfl (Nat.lt_succ_self 0) ⟨q, 0, none⟩ bs.length cap (Lib.byteCells bs) hb.1 (World.ownsRow.cells hb (g := q) rfl) ad l.length cp (Lib.byteCells l) hll hnews (by omega) (by unfold maxLen; omega) (by omega)
        rw [hr] at hr2
        injection hr2 with e1 e2
        subst e1
        exact .inr (fresh h22 p hp)
theorem run_push {w : World} {B : Nat} {v : Value} {bs : List UInt8} (hb : Buf w B v bs) (hB : B ≤ w.heap.size) (hl : bs.length + 1 ≤ 70368744177664) (c : UInt8) (g : Nat) (ty : TypeId) (hc : w.cell? ⟨g, 0, none⟩ = some (.int .u8 (c.toNat : Int))) :
    ∃ v' w', (Builtin.append_ #[22, 22] ty #[v, .slice (some ⟨g, 0, none⟩) 1 1]).run Tryd.prog w = .ok v' w' ∧ Buf w' B v' (bs ++ [c]) ∧ App w v w' v' :=
  run_pushL hb hB [c] hl (Nat.lt_succ_self 0) ⟨g, 0, none⟩ 1 ty (fun j u hj => by
    cases j with
    | zero => simp [Lib.byteCells] at hj; subst hj; simpa [Addr.add_mid] using hc
    | succ j => simp [Lib.byteCells] at hj)
theorem run_puts {w : World} {B : Nat} {v : Value} {bs : List UInt8} (hb : Buf w B v bs) (hB : B ≤ w.heap.size) (s : ByteArray) (hl : bs.length + s.size ≤ 70368744177664) (ty : TypeId) :
    ∃ v' w', (Builtin.append_ #[22, 9] ty #[v, .string s]).run Tryd.prog w = .ok v' w' ∧ Buf w' B v' (bs ++ s.data.toList) ∧ App w v w' v' := by
  obtain ⟨i, hi, hz, hs, hby⟩ := info5'
  obtain ⟨v', w', hr, h2, h3, -⟩ := Lib.run_append_own_string (P := Tryd.prog) w B 22 9 ty 5 i Tryd.underlying22 Tryd.underlying9 hi hz hs hby v bs.length (Lib.byteCells bs) hb s (by unfold maxLen; omega) (by omega) hB
  refine ⟨v', w', hr, ?_, ⟨h3.os, h3.tape, h3.output, h3.size, fun k hk hn => h3.block k hk (fun e => hn e.symm), ?_⟩⟩
  · unfold Buf
    rw [Lib.byteCells_append, List.length_append]
    exact h2
  · intro p hp
    rcases hb.2 with ⟨rfl, h0'⟩ | ⟨q, cap, cur, rfl, hg, hbq, hn, hcap, hcs, hx⟩
    · have hb0 : bs = [] := List.eq_nil_of_length_eq_zero h0'
      subst hb0
      obtain ⟨v2, w2, hr2, h22, -, -⟩ := Lib.run_append_own_string (P := Tryd.prog) w w.heap.size 22 9 ty 5 i Tryd.underlying22 Tryd.underlying9 hi hz hs hby (.slice none 0 0) 0 [] ⟨rfl, .inl ⟨rfl, rfl⟩⟩ s (by unfold maxLen; omega) (by omega) (Nat.le_refl _)
      rw [hr] at hr2
      injection hr2 with e1 e2
      subst e1
      exact .inr (World.ownsRow.lt h22 p hp).1
    · by_cases hroom : bs.length + s.size ≤ cap
      · have hr2 := Lib.run_append_room_string (P := Tryd.prog) w 22 9 ty 5 i Tryd.underlying22 Tryd.underlying9 hi hs q bs.length cap cur hbq s hroom (by omega)
        rw [hr] at hr2
        injection hr2 with e1 e2
        subst e1
        exact .inl hp
      · have hr2 := Lib.run_append_grow_string (P := Tryd.prog) w 22 9 ty 5 i (.int .u8 0) Tryd.underlying22 Tryd.underlying9 hi hz ⟨q, 0, none⟩ bs.length cap (Lib.byteCells bs) (by rw [hs]; exact hb.1) (World.ownsRow.cells hb (g := q) rfl) s (by omega) (by omega) (by rw [hby]; exact growslice_fits (by omega) (by omega))
        rw [hr] at hr2
        injection hr2 with e1 e2
        subst e1
        simp [Value.ownBlock] at hp
        exact .inr (by omega)
theorem wpList_push {ops : Array Oper} {rest : List Oper} {o : Oper} {a : Act} {w : World} {Q : Exit → Act → World → Prop} (hgd : o.guard = none) (s x : Operand)
    (ho : o.op = .call { callee := .builtin .append, args := #[s, x], argTypes := #[22, 22] })
    (B : Nat) (v : Value) (bs : List UInt8) (c : UInt8) (g : Nat) (hs : a.eval s = v) (hx : a.eval x = .slice (some ⟨g, 0, none⟩) 1 1)
    (hb : Buf w B v bs) (hB : B ≤ w.heap.size) (hl : bs.length + 1 ≤ 70368744177664) (hc : w.cell? ⟨g, 0, none⟩ = some (.int .u8 (c.toNat : Int)))
    (h : ∀ v' w', Buf w' B v' (bs ++ [c]) → App w v w' v' → wpList Tryd.prog ops Q rest (a.put o.dst v') w') : wpList Tryd.prog ops Q (o :: rest) a w := by
  refine wpList_plain hgd fun K hK => ?_
  obtain ⟨v', w', hr, h2, h3⟩ := run_push hb hB hl c g o.type hc
  unfold Oper.wp execOp
  simp only [ho, resolve, invoke, builtin, Sem.run_bind, Sem.run_pure, Result.andThen_ok, List.map_toArray, List.map_cons, List.map_nil, hs, hx, hr]
  exact hK _ _ (h v' w' h2 h3)
theorem wpList_pushL {ops : Array Oper} {rest : List Oper} {o : Oper} {a : Act} {w : World} {Q : Exit → Act → World → Prop} (hgd : o.guard = none) (s x : Operand)
    (ho : o.op = .call { callee := .builtin .append, args := #[s, x], argTypes := #[22, 22] })
    (B : Nat) (v : Value) (bs l : List UInt8) (ad : Addr) (m cp : Nat) (hs : a.eval s = v) (hx : a.eval x = .slice (some ad) m cp) (hm : l.length = m)
    (hb : Buf w B v bs) (hB : B ≤ w.heap.size) (hl : bs.length + l.length ≤ 70368744177664) (h0 : 0 < l.length) (hc : ∀ j u, (Lib.byteCells l)[j]? = some u → w.cell? (ad.add j) = some u)
    (h : ∀ v' w', Buf w' B v' (bs ++ l) → App w v w' v' → wpList Tryd.prog ops Q rest (a.put o.dst v') w') : wpList Tryd.prog ops Q (o :: rest) a w := by
  subst hm
  refine wpList_plain hgd fun K hK => ?_
  obtain ⟨v', w', hr, h2, h3⟩ := run_pushL hb hB l hl h0 ad cp o.type hc
  unfold Oper.wp execOp
  simp only [ho, resolve, invoke, builtin, Sem.run_bind, Sem.run_pure, Result.andThen_ok, List.map_toArray, List.map_cons, List.map_nil, hs, hx, hr]
  exact hK _ _ (h v' w' h2 h3)
theorem wpList_puts {ops : Array Oper} {rest : List Oper} {o : Oper} {a : Act} {w : World} {Q : Exit → Act → World → Prop} (hgd : o.guard = none) (sl x : Operand)
    (ho : o.op = .call { callee := .builtin .append, args := #[sl, x], argTypes := #[22, 9] })
    (B : Nat) (v : Value) (bs : List UInt8) (s : ByteArray) (hs : a.eval sl = v) (hx : a.eval x = .string s)
    (hb : Buf w B v bs) (hB : B ≤ w.heap.size) (hl : bs.length + s.size ≤ 70368744177664)
    (h : ∀ v' w', Buf w' B v' (bs ++ s.data.toList) → App w v w' v' → wpList Tryd.prog ops Q rest (a.put o.dst v') w') : wpList Tryd.prog ops Q (o :: rest) a w := by
  refine wpList_plain hgd fun K hK => ?_
  obtain ⟨v', w', hr, h2, h3⟩ := run_puts hb hB s hl o.type
  unfold Oper.wp execOp
  simp only [ho, resolve, invoke, builtin, Sem.run_bind, Sem.run_pure, Result.andThen_ok, List.map_toArray, List.map_cons, List.map_nil, hs, hx, hr]
  exact hK _ _ (h v' w' h2 h3)
theorem step_push {ops : Array Oper} {o : Oper} {a : Act} {w : World} {K : Act → World → Prop} {Q : Exit → Act → World → Prop} {E : Prop} (hgd : o.guard = none) (s x : Operand)
    (ho : o.op = .call { callee := .builtin .append, args := #[s, x], argTypes := #[22, 22] })
    (B : Nat) (v : Value) (bs : List UInt8) (c : UInt8) (g : Nat) (hs : a.eval s = v) (hx : a.eval x = .slice (some ⟨g, 0, none⟩) 1 1)
    (hb : Buf w B v bs) (hB : B ≤ w.heap.size) (hl : bs.length + 1 ≤ 70368744177664) (hc : w.cell? ⟨g, 0, none⟩ = some (.int .u8 (c.toNat : Int)))
    (h : ∀ v' w', Buf w' B v' (bs ++ [c]) → App w v w' v' → K (a.put o.dst v') w') :
    if Region.wanted o (yielded ops a.tmps) = true then Oper.wp Tryd.prog o a w K Q else E := by
  rw [if_pos (by simp [Region.wanted, hgd])]
  obtain ⟨v', w', hr, h2, h3⟩ := run_push hb hB hl c g o.type hc
  unfold Oper.wp execOp
  simp only [ho, resolve, invoke, builtin, Sem.run_bind, Sem.run_pure, Result.andThen_ok, List.map_toArray, List.map_cons, List.map_nil, hs, hx, hr]
  exact h v' w' h2 h3
def One (W : World) (v : Value) (g : Nat) (x : Int) : Prop := W.heap[g]? = some (.cells #[.int .u8 x] 5) ∧ v.ownBlock ≠ some g
theorem One.on {W W' : World} {v : Value} {g : Nat} {x : Int} (h : One W v g x) (hb : Below W.heap.size W W') : One W' v g x := ⟨heap_kept0 h.1 hb, h.2⟩
theorem One.push {W W' : World} {v v' : Value} {g : Nat} {x : Int} (h : One W v g x) (ha : App W v W' v') : One W' v' g x := by
  have hlt := (Array.getElem?_eq_some_iff.1 h.1).1
  refine ⟨by rw [ha.block g hlt h.2]; exact h.1, fun e => ?_⟩
  rcases ha.place g e with e' | e'
  · exact h.2 e'
  · omega
theorem One.cell {W : World} {v : Value} {g : Nat} {x : Int} (h : One W v g x) : W.cell? ⟨g, 0, none⟩ = some (.int .u8 x) := cell_at (o := 0) h.1 rfl
structure St (w : World) (v0 : Value) (B S : Nat) (box : Obj) (W : World) (v : Value) (bs : List UInt8) : Prop where
  buf : Buf W B v bs
  app : App w v0 W v
  at_ : W.heap[S]? = some box
  own : v.ownBlock ≠ some S
  le : B ≤ W.heap.size
  bel : Below B w W
theorem St.on {w W W' : World} {v0 v : Value} {B S : Nat} {box : Obj} {bs : List UInt8} (h : St w v0 B S box W v bs) (hb : Below W.heap.size W W') : St w v0 B S box W' v bs :=
  ⟨h.buf.on hb, h.app.trans (App.of_below hb), heap_kept0 h.at_ hb, h.own, Nat.le_trans h.le hb.size, h.bel.trans (hb.mono h.le)⟩
theorem St.drew {w W : World} {v0 v : Value} {B S : Nat} {box : Obj} {bs : List UInt8} (h : St w v0 B S box W v bs) : St w v0 B S box W.drew v bs := h.on (Below.refl _ _).drew
theorem St.push {w W W' : World} {v0 v v' : Value} {B S : Nat} {box : Obj} {bs bs' : List UInt8} (h : St w v0 B S box W v bs) (hb : Buf W' B v' bs') (ha : App W v W' v') : St w v0 B S box W' v' bs' := by
  have hlt := (Array.getElem?_eq_some_iff.1 h.at_).1
  refine ⟨hb, h.app.trans ha, by rw [ha.block S hlt h.own]; exact h.at_, fun e => ?_, Nat.le_trans h.le ha.size, h.bel.trans (ha.below h.buf h.le)⟩
  rcases ha.place S e with e' | e'
  · exact h.own e'
  · omega
theorem St.one {w W W' : World} {v0 v : Value} {B S g : Nat} {box : Obj} {bs : List UInt8} {x : Int} (h : St w v0 B S box W v bs) (hg : W.heap.size = g) (hx : W'.heap[g]? = some (.cells #[.int .u8 x] 5)) : One W' v g x :=
  ⟨hx, fun e => by have := (h.buf.lt e).2; omega⟩
theorem St.first {w : World} {v : Value} {B : Nat} {bs : List UInt8} (hb : Buf w B v bs) (hB : B ≤ w.heap.size) (o : Obj) : St w v B w.heap.size o (w.alloc o) v bs :=
  ⟨hb.alloc _, (App.refl _ _).alloc _, heap_new0 _ _, fun e => by have := (hb.lt e).2; omega, by simp; omega, (Below.refl _ _).alloc hB _⟩
end Go.Proofs.YtodgijhpokjjhaaDoor
