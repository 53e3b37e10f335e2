import Derived.Test.YtooiejlbnddfmaaFAllI
namespace Go.Proofs.Ytooiejlbnddfmaa
open Go.RowKit
set_option linter.unusedSimpArgs false
theorem Gr.refl (w : World) (v : Value) : Gr w v w v := ⟨rfl, rfl, rfl, Nat.le_refl _, fun _ _ _ => rfl, fun _ h => .inl h⟩
theorem run_push0 {w : World} {B : Nat} {a x : Option Addr} {n c cx : Nat} {xs : List Value} (hb : OB w B 9 (.slice a n c) xs) (ty : TypeId) :
    (Builtin.append_ #[29, 29] ty #[.slice a n c, .slice x 0 cx]).run Try.prog w = .ok (.slice a n c) w := by
  obtain ⟨i, hi, hz, hs, hby⟩ := info9'
  obtain ⟨a', c', e, hn, -⟩ := hb.shape
  injection e with e1 e2 e3
  subst e1 e3
  have hr : n ≤ c := by omega
  have hl : ∀ (y : Addr), (loadCells y 0).run Try.prog w = .ok #[] w := fun y => by simpa using run_loadCells_list (P := Try.prog) w y [] (by simp)
  cases a <;> cases x <;> simp [Builtin.append_, run_underlying Try.underlying29, sizeOf, typeInfo, hi, hs, Builtin.lenOf, hr, Builtin.firstCells, hl, storeCells]
/-- texts of another row more, or none -/
theorem run_pushA {w : World} {B B' : Nat} {a x : Option Addr} {n c m cx : Nat} {l ys : List (List UInt8)} (hb : OB w B 9 (.slice a n c) (sc l)) (hB : B ≤ w.heap.size) (hy : OB w B' 9 (.slice x m cx) (sc ys)) (hl : l.length + ys.length ≤ 1000000000) (ty : TypeId) :
    ∃ a2 c2 w', (Builtin.append_ #[29, 29] ty #[.slice a n c, .slice x m cx]).run Try.prog w = .ok (.slice a2 (l ++ ys).length c2) w' ∧ OB w' B 9 (.slice a2 (l ++ ys).length c2) (sc (l ++ ys)) ∧ Gr w (.slice a n c) w' (.slice a2 (l ++ ys).length c2) := by
  have hm : m = ys.length := by
    obtain ⟨a', c', e, -⟩ := hy.shape
    injection e with e1 e2 e3
    rw [e2, sc_len]
  have hn : n = l.length := by
    obtain ⟨a', c', e, -⟩ := hb.shape
    injection e with e1 e2 e3
    rw [e2, sc_len]
  by_cases h0 : ys = []
  · subst h0
    subst hm
    have := run_push0 (x := x) (cx := cx) hb ty
    rw [List.append_nil, ← hn]
    exact ⟨a, c, w, this, hb, Gr.refl _ _⟩
  · have hp : 0 < ys.length := List.length_pos_iff.2 h0
    rcases hy.2 with ⟨e, -⟩ | ⟨g, cap, cur, e, hg, hbq, rest⟩
    · injection e with e1 e2 e3
      omega
    · injection e with e1 e2 e3
      subst e1 hm
      have hcs := hy.cells
      obtain ⟨v', w', hr, h2, h3⟩ := run_pushS hb hB ys hl hp ⟨g, 0, none⟩ cx ty hcs
      obtain ⟨a2, c2, e2, -⟩ := h2.shape
      rw [sc_len] at e2
      subst e2
      exact ⟨a2, c2, w', hr, h2, h3⟩
theorem wpList_pushA {ops : Array Oper} {rest : List Oper} {o : Oper} {a : Act} {w : World} {Q : Exit → Act → World → Prop} (hgd : o.guard = none) (s x : Operand)
    (ho : o.op = .call { callee := .builtin .append, args := #[s, x], argTypes := #[29, 29] })
    (B B' : Nat) (pa px : Option Addr) (n c m cx : Nat) (l ys : List (List UInt8)) (hs : a.eval s = .slice pa n c) (hx : a.eval x = .slice px m cx)
    (hb : OB w B 9 (.slice pa n c) (sc l)) (hB : B ≤ w.heap.size) (hy : OB w B' 9 (.slice px m cx) (sc ys)) (hl : l.length + ys.length ≤ 1000000000)
    (h : ∀ a2 c2 n2 w', n2 = (l ++ ys).length → OB w' B 9 (.slice a2 n2 c2) (sc (l ++ ys)) → Gr w (.slice pa n c) w' (.slice a2 n2 c2) → wpList Try.prog ops Q rest (a.put o.dst (.slice a2 n2 c2)) w') : wpList Try.prog ops Q (o :: rest) a w := by
  refine wpList_plain hgd fun K hK => ?_
  obtain ⟨a2, c2, w', hr, h2, h3⟩ := run_pushA hb hB hy hl o.type
  unfold Oper.wp execOp
  simp only [ho, resolve, invoke, builtin, Sem.run_bind, Sem.run_pure, Result.andThen_ok, List.map_toArray, List.map_cons, List.map_nil, hs, hx, hr]
  exact hK _ _ (h a2 c2 _ w' rfl h2 h3)
/-- the specification's FeedAll at work -/
structure SA (w : World) (W : World) (f : Fr) (out : List (List UInt8)) (v : Value) : Prop where
  bel : Below w.heap.size w W
  box : W.heap[w.heap.size + 1]? = some (frB f)
  res : W.heap[w.heap.size]? = some (frB fr0)
  ob : OB W (w.heap.size + 2) 9 v (sc out)
  sz : w.heap.size + 2 ≤ W.heap.size
variable {w W W' : World} {f g : Fr} {out out' : List (List UInt8)} {v v' : Value}
theorem SA.on (h : SA w W f out v) (hB : Below W.heap.size W W') : SA w W' f out v :=
  ⟨h.bel.trans (hB.mono h.bel.size), kept h.box hB, kept h.res hB, h.ob.same (fun g hg => hB.block g (h.ob.lt hg).2), Nat.le_trans h.sz hB.size⟩
theorem SA.re (h : SA w W f out v) (hs : W'.heap.size = W.heap.size) (h1 : W'.os = W.os) (h2 : W'.tape = W.tape) (h3 : W'.output = W.output) (hk : ∀ k, k ≠ w.heap.size + 1 → W'.heap[k]? = W.heap[k]?) (hbox : W'.heap[w.heap.size + 1]? = some (frB g)) : SA w W' g out v :=
  ⟨h.bel.trans ⟨h1, h2, h3, by rw [hs]; exact Nat.le_refl _, fun k hk' => hk k (by omega)⟩, hbox, by rw [hk _ (by omega)]; exact h.res, h.ob.same (fun q hq => hk q (by have := (h.ob.lt hq).1; omega)), by rw [hs]; exact h.sz⟩
theorem SA.put1 (h : SA w W f out v) (o : Nat) (x : Value) (g : Fr) (hc : (frCs f).setIfInBounds o x = frCs g) : SA w (W.setCell ⟨w.heap.size + 1, o, none⟩ x) g out v :=
  h.re (size_setO _ _ _ _) rfl rfl rfl (fun k hk => heap_setO _ _ _ _ _ hk) (by
    have := heap_setCell_same W (w.heap.size + 1) o _ _ x h.box
    rw [this]
    exact congrArg (fun c => some (Obj.cells c 26)) hc)
theorem SA.put (h : SA w W f out v) (g : Fr) : SA w (((((W.setCell ⟨w.heap.size + 1, 0, none⟩ (.string ⟨g.buf.toArray⟩)).setCell ⟨w.heap.size + 1, 1, none⟩ (.int .i64 g.d)).setCell ⟨w.heap.size + 1, 2, none⟩ (.bool g.q)).setCell ⟨w.heap.size + 1, 3, none⟩ (.bool g.s)).setCell ⟨w.heap.size + 1, 4, none⟩ (.bool g.c)) g out v :=
  ((((h.put1 0 _ ⟨g.buf, f.d, f.q, f.s, f.c⟩ rfl).put1 1 _ ⟨g.buf, g.d, f.q, f.s, f.c⟩ rfl).put1 2 _ ⟨g.buf, g.d, g.q, f.s, f.c⟩ rfl).put1 3 _ ⟨g.buf, g.d, g.q, g.s, f.c⟩ rfl).put1 4 _ g rfl
theorem put5_other (W : World) (p k : Nat) (y0 y1 y2 y3 y4 : Value) (hk : k ≠ p) : (((((W.setCell ⟨p, 0, none⟩ y0).setCell ⟨p, 1, none⟩ y1).setCell ⟨p, 2, none⟩ y2).setCell ⟨p, 3, none⟩ y3).setCell ⟨p, 4, none⟩ y4).heap[k]? = W.heap[k]? := by
  rw [heap_setO _ _ _ _ _ hk, heap_setO _ _ _ _ _ hk, heap_setO _ _ _ _ _ hk, heap_setO _ _ _ _ _ hk, heap_setO _ _ _ _ _ hk]
theorem SA.push (h : SA w W f out v) (hb : OB W' (w.heap.size + 2) 9 v' (sc out')) (hg : Gr W v W' v') : SA w W' f out' v' := by
  have hne : ∀ k, k < w.heap.size + 2 → W'.heap[k]? = W.heap[k]? := fun k hk => hg.block k (by have := h.sz; omega) (fun e => by have := (h.ob.lt e).1; omega)
  exact ⟨h.bel.trans ⟨hg.os, hg.tape, hg.output, hg.size, fun k hk => hne k (by omega)⟩, by rw [hne _ (by omega)]; exact h.box, by rw [hne _ (by omega)]; exact h.res, hb, Nat.le_trans h.sz hg.size⟩
theorem SA.first (w : World) : SA w (((w.alloc (frB fr0)).alloc (frB fr0)).alloc (.cells #[] 9)) fr0 [] (.slice (some ⟨w.heap.size + 2, 0, none⟩) 0 0) := by
  have h := SF.first w fr0
  exact ⟨h.bel, h.res, h.box, h.ob, h.sz⟩
theorem SA.fz (h : SA w W f out v) (o : Nat) : W.frozen? ⟨w.heap.size + 1, o, none⟩ = false := frozen_at o h.box
theorem SA.fzr (h : SA w W f out v) (o : Nat) : W.frozen? ⟨w.heap.size, o, none⟩ = false := frozen_at o h.res
theorem SA.fin (h : SA w W f out v) (y0 y1 y2 y3 y4 : Value) : Below w.heap.size w (((((W.setCell ⟨w.heap.size, 0, none⟩ y0).setCell ⟨w.heap.size, 1, none⟩ y1).setCell ⟨w.heap.size, 2, none⟩ y2).setCell ⟨w.heap.size, 3, none⟩ y3).setCell ⟨w.heap.size, 4, none⟩ y4) ∧ OB (((((W.setCell ⟨w.heap.size, 0, none⟩ y0).setCell ⟨w.heap.size, 1, none⟩ y1).setCell ⟨w.heap.size, 2, none⟩ y2).setCell ⟨w.heap.size, 3, none⟩ y3).setCell ⟨w.heap.size, 4, none⟩ y4) w.heap.size 9 v (sc out) := by
  have hn : w.heap.size ≤ w.heap.size := Nat.le_refl _
  refine ⟨((((h.bel.setCell hn y0).setCell hn y1).setCell hn y2).setCell hn y3).setCell hn y4, (h.ob.mono (by omega)).same (fun q hq => ?_)⟩
  exact put5_other W w.heap.size q _ _ _ _ _ (by have := (h.ob.lt hq).1; omega)
end Go.Proofs.Ytooiejlbnddfmaa
