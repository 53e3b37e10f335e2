import Derived.Test.YtkncpfhblciplaaYbp
import Derived.Test.YtkncpfhblciplaaYbo
namespace Go.Proofs.Ytkncpfhblciplaa
open Go.RowKit
set_option linter.unusedSimpArgs false
def threeSet (w : World) (b : Nat) (u0 u1 u2 : Value) : World := ((w.setCell ⟨b, 0, none⟩ u0).setCell ⟨b, 1, none⟩ u1).setCell ⟨b, 2, none⟩ u2
theorem three_at {w : World} {b : Nat} {v0 v1 v2 : Value} {T : TypeId} (u0 u1 u2 : Value) (h : w.heap[b]? = some (.cells #[v0, v1, v2] T)) : (threeSet w b u0 u1 u2).heap[b]? = some (.cells #[u0, u1, u2] T) :=
  heap_set 2 u2 (heap_set 1 u1 (heap_set 0 u0 h))
theorem three_heap (w : World) (b : Nat) (u0 u1 u2 : Value) (c : Nat) (hc : c ≠ b) : (threeSet w b u0 u1 u2).heap[c]? = w.heap[c]? := by
  unfold threeSet
  rw [Below.heap_setCell _ _ _ _ hc, Below.heap_setCell _ _ _ _ hc, Below.heap_setCell _ _ _ _ hc]
theorem three_below {w w6 : World} {n b : Nat} (h : Below n w w6) (hb : n ≤ b) (u0 u1 u2 : Value) : Below n w (threeSet w6 b u0 u1 u2) := by
  unfold threeSet
  exact ((h.setCell (by exact hb) _).setCell (by exact hb) _).setCell (by exact hb) _
theorem heap_alloc_keptW {w : World} {b : Nat} {o o' : Obj} (h : w.heap[b]? = some o) : (w.alloc o').heap[b]? = some o := by
  rw [Below.heap_alloc _ _ _ (Array.getElem?_eq_some_iff.1 h).1]; exact h
def TaAns (j : J) (w : World) (e : Ending) (w' : World) : Prop :=
  e = .returned (.tuple #[.agg #[.int .i64 ((paA j).getD atZ).k, .int .i64 ((paA j).getD atZ).n, .string ⟨((paA j).getD atZ).t.toArray⟩], .bool (paA j).isSome]) ∧ Below w.heap.size w w'
theorem TaAns.some {j : J} {x : At} {w w' : World} (h : paA j = some x) (hB : Below w.heap.size w w') : TaAns j w (.returned (.tuple #[.agg #[.int .i64 x.k, .int .i64 x.n, .string ⟨x.t.toArray⟩], .bool true])) w' := ⟨by rw [h]; rfl, hB⟩
theorem TaAns.none {j : J} {w w' : World} (h : paA j = none) (hB : Below w.heap.size w w') : TaAns j w (.returned (.tuple #[.agg #[.int .i64 0, .int .i64 0, .string ⟨#[]⟩], .bool false])) w' := ⟨by rw [h]; rfl, hB⟩
structure TaB (w W : World) (jc ac : Array Value) : Prop where
  bj : W.heap[w.heap.size]? = some (.cells jc 28)
  br : W.heap[w.heap.size + 1]? = some (.cells #[.int .i64 0, .int .i64 0, .string ⟨#[]⟩] 31)
  ba : W.heap[w.heap.size + 1 + 1]? = some (.cells ac 31)
  bel : Below w.heap.size w W
theorem TaB.first (w : World) (jc : Array Value) : TaB w (((w.alloc (.cells jc 28)).alloc (.cells #[.int .i64 0, .int .i64 0, .string ⟨#[]⟩] 31)).alloc (.cells #[.int .i64 0, .int .i64 0, .string ⟨#[]⟩] 31)) jc #[.int .i64 0, .int .i64 0, .string ⟨#[]⟩] := by
  have s1 : (w.alloc (.cells jc 28)).heap.size = w.heap.size + 1 := by simp
  have s2 : ((w.alloc (.cells jc 28)).alloc (.cells #[.int .i64 0, .int .i64 0, .string ⟨#[]⟩] 31)).heap.size = w.heap.size + 1 + 1 := by simp
  have k : ∀ (V : World) (o : Obj) (b : Nat) (x : Obj), V.heap[b]? = Option.some x → (V.alloc o).heap[b]? = Option.some x := fun V o b x h => heap_alloc_keptW h
  exact ⟨k _ _ _ _ (k _ _ _ _ (heap_new' _ _ rfl)), k _ _ _ _ (heap_new' _ _ s1.symm), heap_new' _ _ s2.symm, (((Below.refl _ _).alloc (Nat.le_refl _) _).alloc (by simp) _).alloc (by simp; omega) _⟩
theorem TaB.later {w W W' : World} {jc ac : Array Value} (h : TaB w W jc ac) (hB : Below W.heap.size W W') : TaB w W' jc ac := ⟨heap_kept2 h.bj hB, heap_kept2 h.br hB, heap_kept2 h.ba hB, h.bel.trans (hB.mono h.bel.size)⟩
theorem TaB.seta {w W : World} {jc : Array Value} {v0 v1 v2 : Value} (h : TaB w W jc #[v0, v1, v2]) (u0 u1 u2 : Value) : TaB w (threeSet W (w.heap.size + 1 + 1) u0 u1 u2) jc #[u0, u1, u2] :=
  ⟨by rw [three_heap _ _ _ _ _ _ (by omega)]; exact h.bj, by rw [three_heap _ _ _ _ _ _ (by omega)]; exact h.br, three_at _ _ _ h.ba, three_below h.bel (by omega) _ _ _⟩
set_option maxRecDepth 100000 in
set_option maxHeartbeats 12800000 in
theorem toAtomS (j : J) (cs : List Value) (B : Nat → Prop) (w : World) (hj : Rt j) (hr : RJ w B j cs) :
    Calls Try.prog 50 #[.agg cs.toArray] w (TaAns j w) := by
  have HJ : Hid (RJ w B j cs) := hr
  rw [RJ_eq] at hr
  obtain ⟨ka, kc, ia, ic, rfl, htl, -⟩ := hr
  have HT : Hid (j.t.length ≤ maxLen) := htl
  have HK := Lib.hid hj
  clear htl hj
  go_enter Try.func50, Try.ntmps50
  go_upto_region 2 with fail
  have H0 : Hid (TaB w (((w.alloc (.cells #[.int .i64 j.k, .int .i64 j.n, .string ⟨j.t.toArray⟩, .slice ka j.keys.length kc, .slice ia j.items.length ic] 28)).alloc (.cells #[.int .i64 0, .int .i64 0, .string ⟨#[]⟩] 31)).alloc (.cells #[.int .i64 0, .int .i64 0, .string ⟨#[]⟩] 31)) #[.int .i64 j.k, .int .i64 j.n, .string ⟨j.t.toArray⟩, .slice ka j.keys.length kc, .slice ia j.items.length ic] #[.int .i64 0, .int .i64 0, .string ⟨#[]⟩]) := TaB.first w _
  obtain ⟨W0, hW0⟩ : ∃ W, W = (((w.alloc (.cells #[.int .i64 j.k, .int .i64 j.n, .string ⟨j.t.toArray⟩, .slice ka j.keys.length kc, .slice ia j.items.length ic] 28)).alloc (.cells #[.int .i64 0, .int .i64 0, .string ⟨#[]⟩] 31)).alloc (.cells #[.int .i64 0, .int .i64 0, .string ⟨#[]⟩] 31)) := ⟨_, rfl⟩
  rw [← hW0] at H0 ⊢
  clear hW0
  have x0 := cell_at (o := 0) H0.out.bj rfl
  have x1 := cell_at (o := 1) H0.out.bj rfl
  have x2 := cell_at (o := 2) H0.out.bj rfl
  have x3 := cell_at (o := 3) H0.out.bj rfl
  have x4 := cell_at (o := 4) H0.out.bj rfl
  have g0 := cell_at (o := 0) H0.out.br rfl
  have y0 := frozen_at 0 H0.out.br
  have g1 := cell_at (o := 1) H0.out.br rfl
  have y1 := frozen_at 1 H0.out.br
  have g2 := cell_at (o := 2) H0.out.br rfl
  have y2 := frozen_at 2 H0.out.br
  have m0 := cell_at (o := 0) H0.out.ba rfl
  have z0 := frozen_at 0 H0.out.ba
  have m1 := cell_at (o := 1) H0.out.ba rfl
  have z1 := frozen_at 1 H0.out.ba
  have m2 := cell_at (o := 2) H0.out.ba rfl
  have z2 := frozen_at 2 H0.out.ba
  by_cases h2 : j.k = 2
  case pos =>
    have e2 : (j.k == 2) = true := by rw [h2]; rfl
    have e3 : (j.k == 3) = false := by rw [h2]; rfl
    have e1 : (j.k == 1) = false := by rw [h2]; rfl
    have HP : Hid (paA j = some ⟨1, j.n, []⟩) := paA2 h2
    clear h2
    go_upto_region 13 with fail
    clear x0 x1 x2 x3 x4 g0 g1 g2 y0 y1 y2 m0 m1 m2 z0 z1 z2
    obtain ⟨W3, hW3⟩ : ∃ W, W = (threeSet W0 (w.heap.size + 1 + 1) (.int .i64 1) (.int .i64 j.n) (.string ⟨#[]⟩)) := ⟨_, rfl⟩
    have H3 : Hid (TaB w W3 #[.int .i64 j.k, .int .i64 j.n, .string ⟨j.t.toArray⟩, .slice ka j.keys.length kc, .slice ia j.items.length ic] #[.int .i64 1, .int .i64 j.n, .string ⟨#[]⟩]) := by rw [hW3]; exact H0.out.seta _ _ _
    change _ at hW3
    have hW3b := hW3
    unfold threeSet at hW3b
    rw [← hW3b]
    clear hW3 hW3b
    have x0 := cell_at (o := 0) H3.out.bj rfl
    have x1 := cell_at (o := 1) H3.out.bj rfl
    have x2 := cell_at (o := 2) H3.out.bj rfl
    have x3 := cell_at (o := 3) H3.out.bj rfl
    have x4 := cell_at (o := 4) H3.out.bj rfl
    have g0 := cell_at (o := 0) H3.out.br rfl
    have y0 := frozen_at 0 H3.out.br
    have g1 := cell_at (o := 1) H3.out.br rfl
    have y1 := frozen_at 1 H3.out.br
    have g2 := cell_at (o := 2) H3.out.br rfl
    have y2 := frozen_at 2 H3.out.br
    have m0 := cell_at (o := 0) H3.out.ba rfl
    have z0 := frozen_at 0 H3.out.ba
    have m1 := cell_at (o := 1) H3.out.ba rfl
    have z1 := frozen_at 1 H3.out.ba
    have m2 := cell_at (o := 2) H3.out.ba rfl
    have z2 := frozen_at 2 H3.out.ba
    go_wp2_with fail
    clear x0 x1 x2 x3 x4 g0 g1 g2 y0 y1 y2 m0 m1 m2 z0 z1 z2
    refine (atomOKs ⟨1, j.n, []⟩ W3 (by first | exact HT.out | (unfold maxLen; simp))).mono ?_
    rintro e w4 ⟨rfl, hB4⟩
    rw [pa_ok HK.out HP.out]
    have H4 := Lib.hid (H3.out.later hB4)
    clear hB4 H3
    have x0 := cell_at (o := 0) H4.out.bj rfl
    have x1 := cell_at (o := 1) H4.out.bj rfl
    have x2 := cell_at (o := 2) H4.out.bj rfl
    have x3 := cell_at (o := 3) H4.out.bj rfl
    have x4 := cell_at (o := 4) H4.out.bj rfl
    have g0 := cell_at (o := 0) H4.out.br rfl
    have y0 := frozen_at 0 H4.out.br
    have g1 := cell_at (o := 1) H4.out.br rfl
    have y1 := frozen_at 1 H4.out.br
    have g2 := cell_at (o := 2) H4.out.br rfl
    have y2 := frozen_at 2 H4.out.br
    have m0 := cell_at (o := 0) H4.out.ba rfl
    have z0 := frozen_at 0 H4.out.ba
    have m1 := cell_at (o := 1) H4.out.ba rfl
    have z1 := frozen_at 1 H4.out.ba
    have m2 := cell_at (o := 2) H4.out.ba rfl
    have z2 := frozen_at 2 H4.out.ba
    go_wp2_with fail
    exact bodyPost_ret (v := .tuple #[.agg #[.int .i64 1, .int .i64 j.n, .string ⟨#[]⟩], .bool true]) (by simp [results, Try.results50, go_sem, g0, g1, g2]) rfl (TaAns.some HP.out (three_below H4.out.bel (by omega) _ _ _))
  by_cases h3 : j.k = 3
  case pos =>
    have e2 : (j.k == 2) = false := by rw [h3]; rfl
    have e3 : (j.k == 3) = true := by rw [h3]; rfl
    have e1 : (j.k == 1) = false := by rw [h3]; rfl
    have HP : Hid (paA j = some ⟨2, 0, j.t⟩) := paA3 h3
    clear h3
    go_upto_region 13 with fail
    clear x0 x1 x2 x3 x4 g0 g1 g2 y0 y1 y2 m0 m1 m2 z0 z1 z2
    obtain ⟨W3, hW3⟩ : ∃ W, W = (threeSet W0 (w.heap.size + 1 + 1) (.int .i64 2) (.int .i64 0) (.string ⟨j.t.toArray⟩)) := ⟨_, rfl⟩
    have H3 : Hid (TaB w W3 #[.int .i64 j.k, .int .i64 j.n, .string ⟨j.t.toArray⟩, .slice ka j.keys.length kc, .slice ia j.items.length ic] #[.int .i64 2, .int .i64 0, .string ⟨j.t.toArray⟩]) := by rw [hW3]; exact H0.out.seta _ _ _
    change _ at hW3
    have hW3b := hW3
    unfold threeSet at hW3b
    rw [← hW3b]
    clear hW3 hW3b
    have x0 := cell_at (o := 0) H3.out.bj rfl
    have x1 := cell_at (o := 1) H3.out.bj rfl
    have x2 := cell_at (o := 2) H3.out.bj rfl
    have x3 := cell_at (o := 3) H3.out.bj rfl
    have x4 := cell_at (o := 4) H3.out.bj rfl
    have g0 := cell_at (o := 0) H3.out.br rfl
    have y0 := frozen_at 0 H3.out.br
    have g1 := cell_at (o := 1) H3.out.br rfl
    have y1 := frozen_at 1 H3.out.br
    have g2 := cell_at (o := 2) H3.out.br rfl
    have y2 := frozen_at 2 H3.out.br
    have m0 := cell_at (o := 0) H3.out.ba rfl
    have z0 := frozen_at 0 H3.out.ba
    have m1 := cell_at (o := 1) H3.out.ba rfl
    have z1 := frozen_at 1 H3.out.ba
    have m2 := cell_at (o := 2) H3.out.ba rfl
    have z2 := frozen_at 2 H3.out.ba
    go_wp2_with fail
    clear x0 x1 x2 x3 x4 g0 g1 g2 y0 y1 y2 m0 m1 m2 z0 z1 z2
    refine (atomOKs ⟨2, 0, j.t⟩ W3 (by first | exact HT.out | (unfold maxLen; simp))).mono ?_
    rintro e w4 ⟨rfl, hB4⟩
    rw [pa_ok HK.out HP.out]
    have H4 := Lib.hid (H3.out.later hB4)
    clear hB4 H3
    have x0 := cell_at (o := 0) H4.out.bj rfl
    have x1 := cell_at (o := 1) H4.out.bj rfl
    have x2 := cell_at (o := 2) H4.out.bj rfl
    have x3 := cell_at (o := 3) H4.out.bj rfl
    have x4 := cell_at (o := 4) H4.out.bj rfl
    have g0 := cell_at (o := 0) H4.out.br rfl
    have y0 := frozen_at 0 H4.out.br
    have g1 := cell_at (o := 1) H4.out.br rfl
    have y1 := frozen_at 1 H4.out.br
    have g2 := cell_at (o := 2) H4.out.br rfl
    have y2 := frozen_at 2 H4.out.br
    have m0 := cell_at (o := 0) H4.out.ba rfl
    have z0 := frozen_at 0 H4.out.ba
    have m1 := cell_at (o := 1) H4.out.ba rfl
    have z1 := frozen_at 1 H4.out.ba
    have m2 := cell_at (o := 2) H4.out.ba rfl
    have z2 := frozen_at 2 H4.out.ba
    go_wp2_with fail
    exact bodyPost_ret (v := .tuple #[.agg #[.int .i64 2, .int .i64 0, .string ⟨j.t.toArray⟩], .bool true]) (by simp [results, Try.results50, go_sem, g0, g1, g2]) rfl (TaAns.some HP.out (three_below H4.out.bel (by omega) _ _ _))
  by_cases h1 : j.k = 1
  case pos =>
    have e2 : (j.k == 2) = false := by rw [h1]; rfl
    have e3 : (j.k == 3) = false := by rw [h1]; rfl
    have e1 : (j.k == 1) = true := by rw [h1]; rfl
    have HP : Hid (paA j = some ⟨3, j.n, []⟩) := paA1 h1
    clear h1
    go_upto_region 13 with fail
    clear x0 x1 x2 x3 x4 g0 g1 g2 y0 y1 y2 m0 m1 m2 z0 z1 z2
    obtain ⟨W3, hW3⟩ : ∃ W, W = (threeSet W0 (w.heap.size + 1 + 1) (.int .i64 3) (.int .i64 j.n) (.string ⟨#[]⟩)) := ⟨_, rfl⟩
    have H3 : Hid (TaB w W3 #[.int .i64 j.k, .int .i64 j.n, .string ⟨j.t.toArray⟩, .slice ka j.keys.length kc, .slice ia j.items.length ic] #[.int .i64 3, .int .i64 j.n, .string ⟨#[]⟩]) := by rw [hW3]; exact H0.out.seta _ _ _
    change _ at hW3
    have hW3b := hW3
    unfold threeSet at hW3b
    rw [← hW3b]
    clear hW3 hW3b
    have x0 := cell_at (o := 0) H3.out.bj rfl
    have x1 := cell_at (o := 1) H3.out.bj rfl
    have x2 := cell_at (o := 2) H3.out.bj rfl
    have x3 := cell_at (o := 3) H3.out.bj rfl
    have x4 := cell_at (o := 4) H3.out.bj rfl
    have g0 := cell_at (o := 0) H3.out.br rfl
    have y0 := frozen_at 0 H3.out.br
    have g1 := cell_at (o := 1) H3.out.br rfl
    have y1 := frozen_at 1 H3.out.br
    have g2 := cell_at (o := 2) H3.out.br rfl
    have y2 := frozen_at 2 H3.out.br
    have m0 := cell_at (o := 0) H3.out.ba rfl
    have z0 := frozen_at 0 H3.out.ba
    have m1 := cell_at (o := 1) H3.out.ba rfl
    have z1 := frozen_at 1 H3.out.ba
    have m2 := cell_at (o := 2) H3.out.ba rfl
    have z2 := frozen_at 2 H3.out.ba
    go_wp2_with fail
    clear x0 x1 x2 x3 x4 g0 g1 g2 y0 y1 y2 m0 m1 m2 z0 z1 z2
    refine (atomOKs ⟨3, j.n, []⟩ W3 (by first | exact HT.out | (unfold maxLen; simp))).mono ?_
    rintro e w4 ⟨rfl, hB4⟩
    rw [pa_ok HK.out HP.out]
    have H4 := Lib.hid (H3.out.later hB4)
    clear hB4 H3
    have x0 := cell_at (o := 0) H4.out.bj rfl
    have x1 := cell_at (o := 1) H4.out.bj rfl
    have x2 := cell_at (o := 2) H4.out.bj rfl
    have x3 := cell_at (o := 3) H4.out.bj rfl
    have x4 := cell_at (o := 4) H4.out.bj rfl
    have g0 := cell_at (o := 0) H4.out.br rfl
    have y0 := frozen_at 0 H4.out.br
    have g1 := cell_at (o := 1) H4.out.br rfl
    have y1 := frozen_at 1 H4.out.br
    have g2 := cell_at (o := 2) H4.out.br rfl
    have y2 := frozen_at 2 H4.out.br
    have m0 := cell_at (o := 0) H4.out.ba rfl
    have z0 := frozen_at 0 H4.out.ba
    have m1 := cell_at (o := 1) H4.out.ba rfl
    have z1 := frozen_at 1 H4.out.ba
    have m2 := cell_at (o := 2) H4.out.ba rfl
    have z2 := frozen_at 2 H4.out.ba
    go_wp2_with fail
    exact bodyPost_ret (v := .tuple #[.agg #[.int .i64 3, .int .i64 j.n, .string ⟨#[]⟩], .bool true]) (by simp [results, Try.results50, go_sem, g0, g1, g2]) rfl (TaAns.some HP.out (three_below H4.out.bel (by omega) _ _ _))
  have e2 : (j.k == 2) = false := by simpa using h2
  have e3 : (j.k == 3) = false := by simpa using h3
  have e1 : (j.k == 1) = false := by simpa using h1
  have HA : Hid (paA j = if pairB j = true then wdA (it0 j).t (it1 j) else none) := paA4 h2 h3 h1
  clear h1 h2 h3
  go_wp2_with fail
  clear x0 x1 x2 x3 x4 g0 g1 g2 y0 y1 y2 m0 m1 m2 z0 z1 z2
  refine (pairS j _ uuidW B _ (HJ.out.later H0.out.bel)).mono ?_
  rintro e w1 ⟨cs1, rfl, hx, hB1⟩
  have hx2 := hx
  rw [RJ_eq] at hx2
  obtain ⟨kx, kcx, ix, icx, rfl, -⟩ := hx2
  have HQ : Hid (prJ j uuidW = ((prJ j uuidW).1, (prJ j uuidW).2)) := rfl
  generalize hq1 : (prJ j uuidW).1 = x at *
  generalize hq2 : (prJ j uuidW).2 = b at *
  clear hq1 hq2
  have H1 : Hid (TaB w (w1.alloc (.cells #[.int .i64 x.k, .int .i64 x.n, .string ⟨x.t.toArray⟩, .slice kx x.keys.length kcx, .slice ix x.items.length icx] 28)) #[.int .i64 j.k, .int .i64 j.n, .string ⟨j.t.toArray⟩, .slice ka j.keys.length kc, .slice ia j.items.length ic] #[.int .i64 0, .int .i64 0, .string ⟨#[]⟩]) := (H0.out.later hB1).later ((Below.refl _ _).alloc (Nat.le_refl _) _)
  have hn := heap_new' w1 (.cells #[.int .i64 x.k, .int .i64 x.n, .string ⟨x.t.toArray⟩, .slice kx x.keys.length kcx, .slice ix x.items.length icx] 28) rfl
  have HN := Lib.hid hn
  clear hn hx hB1 HJ
  go_upto_region 4 with fail
  obtain ⟨W1, hW1⟩ : ∃ W, W = (w1.alloc (.cells #[.int .i64 x.k, .int .i64 x.n, .string ⟨x.t.toArray⟩, .slice kx x.keys.length kcx, .slice ix x.items.length icx] 28)) := ⟨_, rfl⟩
  rw [← hW1] at H1 HN ⊢
  clear hW1 H0
  have x0 := cell_at (o := 0) H1.out.bj rfl
  have x1 := cell_at (o := 1) H1.out.bj rfl
  have x2 := cell_at (o := 2) H1.out.bj rfl
  have x3 := cell_at (o := 3) H1.out.bj rfl
  have x4 := cell_at (o := 4) H1.out.bj rfl
  have g0 := cell_at (o := 0) H1.out.br rfl
  have y0 := frozen_at 0 H1.out.br
  have g1 := cell_at (o := 1) H1.out.br rfl
  have y1 := frozen_at 1 H1.out.br
  have g2 := cell_at (o := 2) H1.out.br rfl
  have y2 := frozen_at 2 H1.out.br
  have m0 := cell_at (o := 0) H1.out.ba rfl
  have z0 := frozen_at 0 H1.out.ba
  have m1 := cell_at (o := 1) H1.out.ba rfl
  have z1 := frozen_at 1 H1.out.ba
  have m2 := cell_at (o := 2) H1.out.ba rfl
  have z2 := frozen_at 2 H1.out.ba
  have p0 := cell_at (o := 0) HN.out rfl
  have p1 := cell_at (o := 1) HN.out rfl
  by_cases hb : pairB j = true ∧ (it0 j).t = uuidW
  case neg =>
    have h9 := HQ.out; rw [prJ_no hb] at h9; simp only [Prod.mk.injEq] at h9; obtain ⟨rfl, rfl⟩ := h9
    have HP : Hid (paA j = none) := by
      show paA j = none; rw [HA.out]; by_cases h1 : pairB j = true
      · rw [if_pos h1]; unfold wdA; rw [if_neg (fun h => hb ⟨h1, h.1⟩)]
      · rw [if_neg h1]
    go_wp2_with fail
    exact bodyPost_ret (v := .tuple #[.agg #[.int .i64 0, .int .i64 0, .string ⟨#[]⟩], .bool false]) (by simp [results, Try.results50, go_sem, g0, g1, g2]) rfl (TaAns.none HP.out (three_below H1.out.bel (by omega) _ _ _))
  have h9 := HQ.out; rw [prJ_yes hb.1 hb.2] at h9; simp only [Prod.mk.injEq] at h9; obtain ⟨hx1, rfl⟩ := h9
  rw [hx1, if_pos hb.1] at HA
  clear hx1
  by_cases h2 : x.k = 2
  case neg =>
    have h2b : (x.k != 2) = true := by simpa using h2
    have HP : Hid (paA j = none) := by show _ = _; rw [HA.out]; unfold wdA; rw [if_neg (fun h => h2 h.2.1)]
    go_wp2_with fail
    exact bodyPost_ret (v := .tuple #[.agg #[.int .i64 0, .int .i64 0, .string ⟨#[]⟩], .bool false]) (by simp [results, Try.results50, go_sem, g0, g1, g2]) rfl (TaAns.none HP.out (three_below H1.out.bel (by omega) _ _ _))
  have h2b : (x.k != 2) = false := by rw [h2]; rfl
  have HX : Hid (atOK ⟨4, x.n, []⟩ = inB 1 x.n 1000000) := by show _ = _; rw [show atOK ⟨4, x.n, []⟩ = _ from atOK4 rfl]; simp
  go_upto_region 13 with fail
  clear x0 x1 x2 x3 x4 g0 g1 g2 y0 y1 y2 m0 m1 m2 z0 z1 z2 p0 p1
  obtain ⟨W3, hW3⟩ : ∃ W, W = (threeSet W1 (w.heap.size + 1 + 1) (.int .i64 4) (.int .i64 x.n) (.string ⟨#[]⟩)) := ⟨_, rfl⟩
  have H3 : Hid (TaB w W3 #[.int .i64 j.k, .int .i64 j.n, .string ⟨j.t.toArray⟩, .slice ka j.keys.length kc, .slice ia j.items.length ic] #[.int .i64 4, .int .i64 x.n, .string ⟨#[]⟩]) := by rw [hW3]; exact H1.out.seta _ _ _
  unfold threeSet at hW3
  rw [← hW3]
  clear hW3 H1 HN
  have x0 := cell_at (o := 0) H3.out.bj rfl
  have x1 := cell_at (o := 1) H3.out.bj rfl
  have x2 := cell_at (o := 2) H3.out.bj rfl
  have x3 := cell_at (o := 3) H3.out.bj rfl
  have x4 := cell_at (o := 4) H3.out.bj rfl
  have g0 := cell_at (o := 0) H3.out.br rfl
  have y0 := frozen_at 0 H3.out.br
  have g1 := cell_at (o := 1) H3.out.br rfl
  have y1 := frozen_at 1 H3.out.br
  have g2 := cell_at (o := 2) H3.out.br rfl
  have y2 := frozen_at 2 H3.out.br
  have m0 := cell_at (o := 0) H3.out.ba rfl
  have z0 := frozen_at 0 H3.out.ba
  have m1 := cell_at (o := 1) H3.out.ba rfl
  have z1 := frozen_at 1 H3.out.ba
  have m2 := cell_at (o := 2) H3.out.ba rfl
  have z2 := frozen_at 2 H3.out.ba
  go_wp2_with fail
  clear x0 x1 x2 x3 x4 g0 g1 g2 y0 y1 y2 m0 m1 m2 z0 z1 z2
  refine (atomOKs ⟨4, x.n, []⟩ W3 (by unfold maxLen; simp)).mono ?_
  rintro e w4 ⟨rfl, hB4⟩
  have H4 := Lib.hid (H3.out.later hB4)
  clear hB4 H3
  have x0 := cell_at (o := 0) H4.out.bj rfl
  have x1 := cell_at (o := 1) H4.out.bj rfl
  have x2 := cell_at (o := 2) H4.out.bj rfl
  have x3 := cell_at (o := 3) H4.out.bj rfl
  have x4 := cell_at (o := 4) H4.out.bj rfl
  have g0 := cell_at (o := 0) H4.out.br rfl
  have y0 := frozen_at 0 H4.out.br
  have g1 := cell_at (o := 1) H4.out.br rfl
  have y1 := frozen_at 1 H4.out.br
  have g2 := cell_at (o := 2) H4.out.br rfl
  have y2 := frozen_at 2 H4.out.br
  have m0 := cell_at (o := 0) H4.out.ba rfl
  have z0 := frozen_at 0 H4.out.ba
  have m1 := cell_at (o := 1) H4.out.ba rfl
  have z1 := frozen_at 1 H4.out.ba
  have m2 := cell_at (o := 2) H4.out.ba rfl
  have z2 := frozen_at 2 H4.out.ba
  rw [HX.out]
  cases hi : inB 1 x.n 1000000
  · have HP : Hid (paA j = none) := by show _ = _; rw [HA.out]; unfold wdA; rw [if_neg (fun h => by rw [hi] at h; exact absurd h.2.2 (by simp))]
    go_wp2_with fail
    exact bodyPost_ret (v := .tuple #[.agg #[.int .i64 0, .int .i64 0, .string ⟨#[]⟩], .bool false]) (by simp [results, Try.results50, go_sem, g0, g1, g2]) rfl (TaAns.none HP.out (three_below H4.out.bel (by omega) _ _ _))
  · have HP : Hid (paA j = some ⟨4, x.n, []⟩) := by show _ = _; rw [HA.out]; unfold wdA; rw [if_pos ⟨hb.2, h2, hi⟩]
    go_wp2_with fail
    exact bodyPost_ret (v := .tuple #[.agg #[.int .i64 4, .int .i64 x.n, .string ⟨#[]⟩], .bool true]) (by simp [results, Try.results50, go_sem, g0, g1, g2]) rfl (TaAns.some HP.out (three_below H4.out.bel (by omega) _ _ _))
end Go.Proofs.Ytkncpfhblciplaa
