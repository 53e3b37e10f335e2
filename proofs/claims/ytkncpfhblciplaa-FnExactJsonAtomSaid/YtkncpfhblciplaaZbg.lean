import Derived.Test.YtkncpfhblciplaaZbf
namespace Go.Proofs.Ytkncpfhblciplaa
open Go.RowKit
set_option linter.unusedSimpArgs false
theorem taA (v : Value) (w : World) : (Instr.typeAssert (.iface 31 v) 20 31 true).run Try.prog w = .ok (.tuple #[v, .bool true]) w := by kernel_rfl
theorem taR (v : Value) (w : World) : (Instr.typeAssert (.iface 137 v) 20 31 true).run Try.prog w = .ok (.tuple #[.agg #[.int .i64 0, .int .i64 0, .string ⟨#[]⟩], .bool false]) w := by kernel_rfl
theorem taL (v : Value) (w : World) : (Instr.typeAssert (.iface 135 v) 20 31 true).run Try.prog w = .ok (.tuple #[.agg #[.int .i64 0, .int .i64 0, .string ⟨#[]⟩], .bool false]) w := by kernel_rfl
theorem taN (w : World) : (Instr.typeAssert .nilIface 20 31 true).run Try.prog w = .ok (.tuple #[.agg #[.int .i64 0, .int .i64 0, .string ⟨#[]⟩], .bool false]) w := by kernel_rfl
set_option maxRecDepth 100000 in
set_option maxHeartbeats 6400000 in
theorem readAtomI (j : J) (cs : List Value) (B : Nat → Prop) (w : World) (hz : j.sz ≤ 1048576) (hr : RJ w B j cs) :
    Calls Try.prog 53 #[.agg cs.toArray] w (TaAns j w) := by
  have HJ : Hid (RJ w B j cs) := hr
  have HZ := Lib.hid hz
  rw [RJ_eq] at hr
  obtain ⟨ka, kc, ia, ic, rfl, -⟩ := hr
  clear hz
  go_enter Try.func53, Try.ntmps53
  go_upto_region 1 with fail
  have H0 : Hid (JrB w ((w.alloc (.cells #[.int .i64 j.k, .int .i64 j.n, .string ⟨j.t.toArray⟩, .slice ka j.keys.length kc, .slice ia j.items.length ic] 28)).alloc (.cells #[.int .i64 0, .int .i64 0, .string ⟨#[]⟩] 31)) #[.int .i64 j.k, .int .i64 j.n, .string ⟨j.t.toArray⟩, .slice ka j.keys.length kc, .slice ia j.items.length ic] #[.int .i64 0, .int .i64 0, .string ⟨#[]⟩] 31) := JrB.first w _ _ _
  obtain ⟨W0, hW0⟩ : ∃ W, W = ((w.alloc (.cells #[.int .i64 j.k, .int .i64 j.n, .string ⟨j.t.toArray⟩, .slice ka j.keys.length kc, .slice ia j.items.length ic] 28)).alloc (.cells #[.int .i64 0, .int .i64 0, .string ⟨#[]⟩] 31)) := ⟨_, rfl⟩
  rw [← hW0] at H0 ⊢
  clear hW0
  have x0 := cell_at (o := 0) H0.out.bj rfl
  have x1 := cell_at (o := 1) H0.out.bj rfl
  have x2 := cell_at (o := 2) H0.out.bj rfl
  have x3 := cell_at (o := 3) H0.out.bj rfl
  have x4 := cell_at (o := 4) H0.out.bj rfl
  have g0 := cell_at (o := 0) H0.out.br rfl
  have y0 := frozen_at 0 H0.out.br
  have g1 := cell_at (o := 1) H0.out.br rfl
  have y1 := frozen_at 1 H0.out.br
  have g2 := cell_at (o := 2) H0.out.br rfl
  have y2 := frozen_at 2 H0.out.br
  go_wp2_with fail
  refine ((partsI j).1 _ B _ HZ.out (HJ.out.later H0.out.bel)).mono ?_
  rintro e w1 ⟨v, rfl, hv, hB⟩
  have H1 := Lib.hid (H0.out.later hB)
  clear hB H0 HJ HZ x0 x1 x2 x3 x4 g0 g1 g2 y0 y1 y2
  have x0 := cell_at (o := 0) H1.out.bj rfl
  have x1 := cell_at (o := 1) H1.out.bj rfl
  have x2 := cell_at (o := 2) H1.out.bj rfl
  have x3 := cell_at (o := 3) H1.out.bj rfl
  have x4 := cell_at (o := 4) H1.out.bj rfl
  have g0 := cell_at (o := 0) H1.out.br rfl
  have y0 := frozen_at 0 H1.out.br
  have g1 := cell_at (o := 1) H1.out.br rfl
  have y1 := frozen_at 1 H1.out.br
  have g2 := cell_at (o := 2) H1.out.br rfl
  have y2 := frozen_at 2 H1.out.br
  have HV := Lib.hid hv.one
  clear hv
  have hv := HV.out
  unfold PV1 at hv
  cases h1 : paA j
  case some x =>
    rw [h1] at hv
    have HP := Lib.hid h1
    obtain rfl : v = .iface 31 (atV x) := hv
    unfold atV
    clear h1 HV
    have t9 := taA (.agg #[.int .i64 x.k, .int .i64 x.n, .string ⟨x.t.toArray⟩]) w1
    go_upto_region 2 with fail
    have H2 : Hid (JrB w (w1.alloc (.cells #[.int .i64 x.k, .int .i64 x.n, .string ⟨x.t.toArray⟩] 31)) #[.int .i64 j.k, .int .i64 j.n, .string ⟨j.t.toArray⟩, .slice ka j.keys.length kc, .slice ia j.items.length ic] #[.int .i64 0, .int .i64 0, .string ⟨#[]⟩] 31) := H1.out.later ((Below.refl _ _).alloc (Nat.le_refl _) _)
    have HN := Lib.hid (heap_new' w1 (.cells #[.int .i64 x.k, .int .i64 x.n, .string ⟨x.t.toArray⟩] 31) rfl)
    obtain ⟨W2, hW2⟩ : ∃ W, W = (w1.alloc (.cells #[.int .i64 x.k, .int .i64 x.n, .string ⟨x.t.toArray⟩] 31)) := ⟨_, rfl⟩
    rw [← hW2] at H2 HN ⊢
    clear hW2 H1 t9 x0 x1 x2 x3 x4 g0 g1 g2 y0 y1 y2
    have x0 := cell_at (o := 0) H2.out.bj rfl
    have x1 := cell_at (o := 1) H2.out.bj rfl
    have x2 := cell_at (o := 2) H2.out.bj rfl
    have x3 := cell_at (o := 3) H2.out.bj rfl
    have x4 := cell_at (o := 4) H2.out.bj rfl
    have g0 := cell_at (o := 0) H2.out.br rfl
    have y0 := frozen_at 0 H2.out.br
    have g1 := cell_at (o := 1) H2.out.br rfl
    have y1 := frozen_at 1 H2.out.br
    have g2 := cell_at (o := 2) H2.out.br rfl
    have y2 := frozen_at 2 H2.out.br
    have p0 := cell_at (o := 0) HN.out rfl
    have p1 := cell_at (o := 1) HN.out rfl
    have p2 := cell_at (o := 2) HN.out rfl
    go_wp2_with fail
    exact bodyPost_ret (v := .tuple #[.agg #[.int .i64 x.k, .int .i64 x.n, .string ⟨x.t.toArray⟩], .bool true]) (by simp [results, Try.results53, go_sem, g0, g1, g2]) rfl (TaAns.some HP.out (three_below H2.out.bel (by omega) _ _ _))
  have HP := Lib.hid h1
  rw [h1] at hv
  clear h1 HV
  cases h2 : paN j
  case some t =>
    rw [h2] at hv
    obtain rfl : v = .iface 137 (.string ⟨t.toArray⟩) := hv
    clear h2
    have t9 := taR (.string ⟨t.toArray⟩) w1
    go_upto_region 2 with fail
    have H2 : Hid (JrB w (w1.alloc (.cells #[.int .i64 0, .int .i64 0, .string ⟨#[]⟩] 31)) #[.int .i64 j.k, .int .i64 j.n, .string ⟨j.t.toArray⟩, .slice ka j.keys.length kc, .slice ia j.items.length ic] #[.int .i64 0, .int .i64 0, .string ⟨#[]⟩] 31) := H1.out.later ((Below.refl _ _).alloc (Nat.le_refl _) _)
    have HN := Lib.hid (heap_new' w1 (.cells #[.int .i64 0, .int .i64 0, .string ⟨#[]⟩] 31) rfl)
    obtain ⟨W2, hW2⟩ : ∃ W, W = (w1.alloc (.cells #[.int .i64 0, .int .i64 0, .string ⟨#[]⟩] 31)) := ⟨_, rfl⟩
    rw [← hW2] at H2 HN ⊢
    clear hW2 H1 t9 x0 x1 x2 x3 x4 g0 g1 g2 y0 y1 y2
    have x0 := cell_at (o := 0) H2.out.bj rfl
    have x1 := cell_at (o := 1) H2.out.bj rfl
    have x2 := cell_at (o := 2) H2.out.bj rfl
    have x3 := cell_at (o := 3) H2.out.bj rfl
    have x4 := cell_at (o := 4) H2.out.bj rfl
    have g0 := cell_at (o := 0) H2.out.br rfl
    have y0 := frozen_at 0 H2.out.br
    have g1 := cell_at (o := 1) H2.out.br rfl
    have y1 := frozen_at 1 H2.out.br
    have g2 := cell_at (o := 2) H2.out.br rfl
    have y2 := frozen_at 2 H2.out.br
    have p0 := cell_at (o := 0) HN.out rfl
    have p1 := cell_at (o := 1) HN.out rfl
    have p2 := cell_at (o := 2) HN.out rfl
    go_wp2_with fail
    exact bodyPost_ret (v := .tuple #[.agg #[.int .i64 0, .int .i64 0, .string ⟨#[]⟩], .bool false]) (by simp [results, Try.results53, go_sem, g0, g1, g2]) rfl (TaAns.none HP.out (three_below H2.out.bel (by omega) _ _ _))
  rw [h2] at hv
  clear h2
  cases h3 : paL j
  case some l =>
    rw [h3] at hv
    obtain ⟨u, rfl⟩ : ∃ u, v = .iface 135 u := hv
    clear h3
    have t9 := taL u w1
    go_upto_region 2 with fail
    have H2 : Hid (JrB w (w1.alloc (.cells #[.int .i64 0, .int .i64 0, .string ⟨#[]⟩] 31)) #[.int .i64 j.k, .int .i64 j.n, .string ⟨j.t.toArray⟩, .slice ka j.keys.length kc, .slice ia j.items.length ic] #[.int .i64 0, .int .i64 0, .string ⟨#[]⟩] 31) := H1.out.later ((Below.refl _ _).alloc (Nat.le_refl _) _)
    have HN := Lib.hid (heap_new' w1 (.cells #[.int .i64 0, .int .i64 0, .string ⟨#[]⟩] 31) rfl)
    obtain ⟨W2, hW2⟩ : ∃ W, W = (w1.alloc (.cells #[.int .i64 0, .int .i64 0, .string ⟨#[]⟩] 31)) := ⟨_, rfl⟩
    rw [← hW2] at H2 HN ⊢
    clear hW2 H1 t9 x0 x1 x2 x3 x4 g0 g1 g2 y0 y1 y2
    have x0 := cell_at (o := 0) H2.out.bj rfl
    have x1 := cell_at (o := 1) H2.out.bj rfl
    have x2 := cell_at (o := 2) H2.out.bj rfl
    have x3 := cell_at (o := 3) H2.out.bj rfl
    have x4 := cell_at (o := 4) H2.out.bj rfl
    have g0 := cell_at (o := 0) H2.out.br rfl
    have y0 := frozen_at 0 H2.out.br
    have g1 := cell_at (o := 1) H2.out.br rfl
    have y1 := frozen_at 1 H2.out.br
    have g2 := cell_at (o := 2) H2.out.br rfl
    have y2 := frozen_at 2 H2.out.br
    have p0 := cell_at (o := 0) HN.out rfl
    have p1 := cell_at (o := 1) HN.out rfl
    have p2 := cell_at (o := 2) HN.out rfl
    go_wp2_with fail
    exact bodyPost_ret (v := .tuple #[.agg #[.int .i64 0, .int .i64 0, .string ⟨#[]⟩], .bool false]) (by simp [results, Try.results53, go_sem, g0, g1, g2]) rfl (TaAns.none HP.out (three_below H2.out.bel (by omega) _ _ _))
  rw [h3] at hv
  obtain rfl : v = .nilIface := hv
  clear h3
  have t9 := taN w1
  go_upto_region 2 with fail
  have H2 : Hid (JrB w (w1.alloc (.cells #[.int .i64 0, .int .i64 0, .string ⟨#[]⟩] 31)) #[.int .i64 j.k, .int .i64 j.n, .string ⟨j.t.toArray⟩, .slice ka j.keys.length kc, .slice ia j.items.length ic] #[.int .i64 0, .int .i64 0, .string ⟨#[]⟩] 31) := H1.out.later ((Below.refl _ _).alloc (Nat.le_refl _) _)
  have HN := Lib.hid (heap_new' w1 (.cells #[.int .i64 0, .int .i64 0, .string ⟨#[]⟩] 31) rfl)
  obtain ⟨W2, hW2⟩ : ∃ W, W = (w1.alloc (.cells #[.int .i64 0, .int .i64 0, .string ⟨#[]⟩] 31)) := ⟨_, rfl⟩
  rw [← hW2] at H2 HN ⊢
  clear hW2 H1 t9 x0 x1 x2 x3 x4 g0 g1 g2 y0 y1 y2
  have x0 := cell_at (o := 0) H2.out.bj rfl
  have x1 := cell_at (o := 1) H2.out.bj rfl
  have x2 := cell_at (o := 2) H2.out.bj rfl
  have x3 := cell_at (o := 3) H2.out.bj rfl
  have x4 := cell_at (o := 4) H2.out.bj rfl
  have g0 := cell_at (o := 0) H2.out.br rfl
  have y0 := frozen_at 0 H2.out.br
  have g1 := cell_at (o := 1) H2.out.br rfl
  have y1 := frozen_at 1 H2.out.br
  have g2 := cell_at (o := 2) H2.out.br rfl
  have y2 := frozen_at 2 H2.out.br
  have p0 := cell_at (o := 0) HN.out rfl
  have p1 := cell_at (o := 1) HN.out rfl
  have p2 := cell_at (o := 2) HN.out rfl
  go_wp2_with fail
  exact bodyPost_ret (v := .tuple #[.agg #[.int .i64 0, .int .i64 0, .string ⟨#[]⟩], .bool false]) (by simp [results, Try.results53, go_sem, g0, g1, g2]) rfl (TaAns.none HP.out (three_below H2.out.bel (by omega) _ _ _))
set_option maxRecDepth 100000 in
set_option maxHeartbeats 6400000 in
theorem readAsAtom (j : J) (cs : List Value) (B : Nat → Prop) (w : World) (hz : j.sz ≤ 1048576) (hr : RJ w B j cs) :
    Calls Try.prog 52 #[.agg cs.toArray, .func (.func 53) #[] #[]] w (JaAns j w) := by
  have HJ : Hid (RJ w B j cs) := hr
  have HZ := Lib.hid hz
  rw [RJ_eq] at hr
  obtain ⟨ka, kc, ia, ic, rfl, -⟩ := hr
  clear hz
  go_enter Try.func52, Try.ntmps52
  go_upto_region 1 with fail
  have H0 : Hid (JrB w ((w.alloc (.cells #[.int .i64 j.k, .int .i64 j.n, .string ⟨j.t.toArray⟩, .slice ka j.keys.length kc, .slice ia j.items.length ic] 28)).alloc (.cells #[.int .i64 0, .int .i64 0, .string ⟨#[]⟩] 31)) #[.int .i64 j.k, .int .i64 j.n, .string ⟨j.t.toArray⟩, .slice ka j.keys.length kc, .slice ia j.items.length ic] #[.int .i64 0, .int .i64 0, .string ⟨#[]⟩] 31) := JrB.first w _ _ _
  obtain ⟨W0, hW0⟩ : ∃ W, W = ((w.alloc (.cells #[.int .i64 j.k, .int .i64 j.n, .string ⟨j.t.toArray⟩, .slice ka j.keys.length kc, .slice ia j.items.length ic] 28)).alloc (.cells #[.int .i64 0, .int .i64 0, .string ⟨#[]⟩] 31)) := ⟨_, rfl⟩
  rw [← hW0] at H0 ⊢
  clear hW0
  go_upto_region 2 with fail
  have HN0 := Lib.hid (heap_new' W0 (.cells #[.int .i64 0, .int .i64 0, .string ⟨#[]⟩] 31) rfl)
  have HA : Hid (JrB w (W0.alloc (.cells #[.int .i64 0, .int .i64 0, .string ⟨#[]⟩] 31)) #[.int .i64 j.k, .int .i64 j.n, .string ⟨j.t.toArray⟩, .slice ka j.keys.length kc, .slice ia j.items.length ic] #[.int .i64 0, .int .i64 0, .string ⟨#[]⟩] 31) := H0.out.later ((Below.refl _ _).alloc (Nat.le_refl _) _)
  obtain ⟨q0, hq0⟩ : ∃ n, n = W0.heap.size := ⟨_, rfl⟩
  have hq1 : w.heap.size + 1 < q0 := by rw [hq0]; exact (Array.getElem?_eq_some_iff.1 H0.out.br).1
  obtain ⟨W1, hW1⟩ : ∃ W, W = (W0.alloc (.cells #[.int .i64 0, .int .i64 0, .string ⟨#[]⟩] 31)) := ⟨_, rfl⟩
  have H1 : Hid (JrB w W1 #[.int .i64 j.k, .int .i64 j.n, .string ⟨j.t.toArray⟩, .slice ka j.keys.length kc, .slice ia j.items.length ic] #[.int .i64 0, .int .i64 0, .string ⟨#[]⟩] 31 ∧ W1.heap[q0]? = some (.cells #[.int .i64 0, .int .i64 0, .string ⟨#[]⟩] 31) ∧ w.heap.size + 1 < q0) := by rw [hW1, hq0]; exact ⟨HA.out, HN0.out, by rw [← hq0]; exact hq1⟩
  rw [← hW1, ← hq0]
  clear hW1 hq0 hq1 H0 HA HN0
  have x0 := cell_at (o := 0) H1.out.1.bj rfl
  have x1 := cell_at (o := 1) H1.out.1.bj rfl
  have x2 := cell_at (o := 2) H1.out.1.bj rfl
  have x3 := cell_at (o := 3) H1.out.1.bj rfl
  have x4 := cell_at (o := 4) H1.out.1.bj rfl
  have g0 := cell_at (o := 0) H1.out.1.br rfl
  have y0 := frozen_at 0 H1.out.1.br
  have g1 := cell_at (o := 1) H1.out.1.br rfl
  have y1 := frozen_at 1 H1.out.1.br
  have g2 := cell_at (o := 2) H1.out.1.br rfl
  have y2 := frozen_at 2 H1.out.1.br
  have n0 := cell_at (o := 0) H1.out.2.1 rfl
  have n1 := cell_at (o := 1) H1.out.2.1 rfl
  have n2 := cell_at (o := 2) H1.out.2.1 rfl
  go_wp2_with fail
  refine (jsonOK j _ B _ (HJ.out.later H1.out.1.bel)).mono ?_
  rintro e w2 ⟨rfl, hB⟩
  have H2 : Hid (JrB w w2 #[.int .i64 j.k, .int .i64 j.n, .string ⟨j.t.toArray⟩, .slice ka j.keys.length kc, .slice ia j.items.length ic] #[.int .i64 0, .int .i64 0, .string ⟨#[]⟩] 31 ∧ w2.heap[q0]? = some (.cells #[.int .i64 0, .int .i64 0, .string ⟨#[]⟩] 31) ∧ w.heap.size + 1 < q0) := ⟨H1.out.1.later hB, heap_kept2 H1.out.2.1 hB, H1.out.2.2⟩
  clear hB H1 x0 x1 x2 x3 x4 g0 g1 g2 y0 y1 y2 n0 n1 n2
  have x0 := cell_at (o := 0) H2.out.1.bj rfl
  have x1 := cell_at (o := 1) H2.out.1.bj rfl
  have x2 := cell_at (o := 2) H2.out.1.bj rfl
  have x3 := cell_at (o := 3) H2.out.1.bj rfl
  have x4 := cell_at (o := 4) H2.out.1.bj rfl
  have g0 := cell_at (o := 0) H2.out.1.br rfl
  have y0 := frozen_at 0 H2.out.1.br
  have g1 := cell_at (o := 1) H2.out.1.br rfl
  have y1 := frozen_at 1 H2.out.1.br
  have g2 := cell_at (o := 2) H2.out.1.br rfl
  have y2 := frozen_at 2 H2.out.1.br
  have n0 := cell_at (o := 0) H2.out.2.1 rfl
  have n1 := cell_at (o := 1) H2.out.2.1 rfl
  have n2 := cell_at (o := 2) H2.out.2.1 rfl
  cases hok : okB j
  case false =>
    have HP := Lib.hid (jaR_bad hok)
    clear hok HJ
    go_wp2_with fail
    exact bodyPost_ret (v := .tuple #[.agg #[.int .i64 0, .int .i64 0, .string ⟨#[]⟩], .int .i64 1]) (by simp [results, Try.results52, go_sem, g0, g1, g2]) rfl (JaAns.of HP.out (three_below H2.out.1.bel (by omega) _ _ _))
  have HK := Lib.hid hok
  clear hok
  have RA : Hid (Calls Try.prog 53 #[.agg #[.int .i64 j.k, .int .i64 j.n, .string ⟨j.t.toArray⟩, .slice ka j.keys.length kc, .slice ia j.items.length ic]] w2 (TaAns j w2)) := readAtomI j _ B _ HZ.out (HJ.out.later H2.out.1.bel)
  go_wp2_with fail
  refine RA.out.mono ?_
  rintro e w3 ⟨rfl, hB⟩
  have HP : Hid (jaR j = match paA j with | some x => (x, 0) | none => (atZ, 3)) := by show jaR j = _; unfold jaR; rw [HK.out]; rfl
  have H3 : Hid (JrB w w3 #[.int .i64 j.k, .int .i64 j.n, .string ⟨j.t.toArray⟩, .slice ka j.keys.length kc, .slice ia j.items.length ic] #[.int .i64 0, .int .i64 0, .string ⟨#[]⟩] 31 ∧ w3.heap[q0]? = some (.cells #[.int .i64 0, .int .i64 0, .string ⟨#[]⟩] 31) ∧ w.heap.size + 1 < q0) := ⟨H2.out.1.later hB, heap_kept2 H2.out.2.1 hB, H2.out.2.2⟩
  clear hB H2 HJ HK HZ RA x0 x1 x2 x3 x4 g0 g1 g2 y0 y1 y2 n0 n1 n2
  cases hp : paA j
  case none =>
    rw [hp] at HP
    have H4 : Hid (JrB w (w3.alloc (.cells #[.int .i64 0, .int .i64 0, .string ⟨#[]⟩] 31)) #[.int .i64 j.k, .int .i64 j.n, .string ⟨j.t.toArray⟩, .slice ka j.keys.length kc, .slice ia j.items.length ic] #[.int .i64 0, .int .i64 0, .string ⟨#[]⟩] 31 ∧ (w3.alloc (.cells #[.int .i64 0, .int .i64 0, .string ⟨#[]⟩] 31)).heap[q0]? = some (.cells #[.int .i64 0, .int .i64 0, .string ⟨#[]⟩] 31) ∧ w.heap.size + 1 < q0) := ⟨H3.out.1.later ((Below.refl _ _).alloc (Nat.le_refl _) _), heap_alloc_keptW H3.out.2.1, H3.out.2.2⟩
    have HN := Lib.hid (heap_new' w3 (.cells #[.int .i64 0, .int .i64 0, .string ⟨#[]⟩] 31) rfl)
    clear hp H3
    simp only [Option.getD_none, Option.getD_some, Option.isSome_none, Option.isSome_some, atZ]
    go_upto_region 5 with fail
    obtain ⟨W3, hW3⟩ : ∃ W, W = (w3.alloc (.cells #[.int .i64 0, .int .i64 0, .string ⟨#[]⟩] 31)) := ⟨_, rfl⟩
    rw [← hW3] at H4 HN ⊢
    clear hW3
    have x0 := cell_at (o := 0) H4.out.1.bj rfl
    have x1 := cell_at (o := 1) H4.out.1.bj rfl
    have x2 := cell_at (o := 2) H4.out.1.bj rfl
    have x3 := cell_at (o := 3) H4.out.1.bj rfl
    have x4 := cell_at (o := 4) H4.out.1.bj rfl
    have g0 := cell_at (o := 0) H4.out.1.br rfl
    have y0 := frozen_at 0 H4.out.1.br
    have g1 := cell_at (o := 1) H4.out.1.br rfl
    have y1 := frozen_at 1 H4.out.1.br
    have g2 := cell_at (o := 2) H4.out.1.br rfl
    have y2 := frozen_at 2 H4.out.1.br
    have n0 := cell_at (o := 0) H4.out.2.1 rfl
    have n1 := cell_at (o := 1) H4.out.2.1 rfl
    have n2 := cell_at (o := 2) H4.out.2.1 rfl
    have p0 := cell_at (o := 0) HN.out rfl
    have p1 := cell_at (o := 1) HN.out rfl
    have p2 := cell_at (o := 2) HN.out rfl
    go_wp2_with fail
    exact bodyPost_ret (v := .tuple #[.agg #[.int .i64 0, .int .i64 0, .string ⟨#[]⟩], .int .i64 3]) (by simp [results, Try.results52, go_sem, g0, g1, g2]) rfl (JaAns.of HP.out (three_below H4.out.1.bel (by omega) _ _ _))
  case some x =>
    rw [hp] at HP
    have H4 : Hid (JrB w (w3.alloc (.cells #[.int .i64 x.k, .int .i64 x.n, .string ⟨x.t.toArray⟩] 31)) #[.int .i64 j.k, .int .i64 j.n, .string ⟨j.t.toArray⟩, .slice ka j.keys.length kc, .slice ia j.items.length ic] #[.int .i64 0, .int .i64 0, .string ⟨#[]⟩] 31 ∧ (w3.alloc (.cells #[.int .i64 x.k, .int .i64 x.n, .string ⟨x.t.toArray⟩] 31)).heap[q0]? = some (.cells #[.int .i64 0, .int .i64 0, .string ⟨#[]⟩] 31) ∧ w.heap.size + 1 < q0) := ⟨H3.out.1.later ((Below.refl _ _).alloc (Nat.le_refl _) _), heap_alloc_keptW H3.out.2.1, H3.out.2.2⟩
    have HN := Lib.hid (heap_new' w3 (.cells #[.int .i64 x.k, .int .i64 x.n, .string ⟨x.t.toArray⟩] 31) rfl)
    clear hp H3
    simp only [Option.getD_some, Option.isSome_some]
    go_upto_region 5 with fail
    obtain ⟨W3, hW3⟩ : ∃ W, W = (w3.alloc (.cells #[.int .i64 x.k, .int .i64 x.n, .string ⟨x.t.toArray⟩] 31)) := ⟨_, rfl⟩
    rw [← hW3] at H4 HN ⊢
    clear hW3
    have x0 := cell_at (o := 0) H4.out.1.bj rfl
    have x1 := cell_at (o := 1) H4.out.1.bj rfl
    have x2 := cell_at (o := 2) H4.out.1.bj rfl
    have x3 := cell_at (o := 3) H4.out.1.bj rfl
    have x4 := cell_at (o := 4) H4.out.1.bj rfl
    have g0 := cell_at (o := 0) H4.out.1.br rfl
    have y0 := frozen_at 0 H4.out.1.br
    have g1 := cell_at (o := 1) H4.out.1.br rfl
    have y1 := frozen_at 1 H4.out.1.br
    have g2 := cell_at (o := 2) H4.out.1.br rfl
    have y2 := frozen_at 2 H4.out.1.br
    have n0 := cell_at (o := 0) H4.out.2.1 rfl
    have n1 := cell_at (o := 1) H4.out.2.1 rfl
    have n2 := cell_at (o := 2) H4.out.2.1 rfl
    have p0 := cell_at (o := 0) HN.out rfl
    have p1 := cell_at (o := 1) HN.out rfl
    have p2 := cell_at (o := 2) HN.out rfl
    go_wp2_with fail
    exact bodyPost_ret (v := .tuple #[.agg #[.int .i64 x.k, .int .i64 x.n, .string ⟨x.t.toArray⟩], .int .i64 0]) (by simp [results, Try.results52, go_sem, g0, g1, g2]) rfl (JaAns.of HP.out (three_below H4.out.1.bel (by omega) _ _ _))
set_option maxRecDepth 100000 in
set_option maxHeartbeats 6400000 in
theorem jsonAtomI (j : J) (cs : List Value) (B : Nat → Prop) (w : World) (hz : j.sz ≤ 1048576) (hr : RJ w B j cs) :
    Calls Try.prog 18 #[.agg cs.toArray] w (JaAns j w) := by
  have HJ : Hid (RJ w B j cs) := hr
  have HZ := Lib.hid hz
  rw [RJ_eq] at hr
  obtain ⟨ka, kc, ia, ic, rfl, -⟩ := hr
  clear hz
  go_enter Try.func18, Try.ntmps18
  go_upto_region 1 with fail
  have H0 : Hid (JrB w ((w.alloc (.cells #[.int .i64 j.k, .int .i64 j.n, .string ⟨j.t.toArray⟩, .slice ka j.keys.length kc, .slice ia j.items.length ic] 28)).alloc (.cells #[.int .i64 0, .int .i64 0, .string ⟨#[]⟩] 31)) #[.int .i64 j.k, .int .i64 j.n, .string ⟨j.t.toArray⟩, .slice ka j.keys.length kc, .slice ia j.items.length ic] #[.int .i64 0, .int .i64 0, .string ⟨#[]⟩] 31) := JrB.first w _ _ _
  obtain ⟨W0, hW0⟩ : ∃ W, W = ((w.alloc (.cells #[.int .i64 j.k, .int .i64 j.n, .string ⟨j.t.toArray⟩, .slice ka j.keys.length kc, .slice ia j.items.length ic] 28)).alloc (.cells #[.int .i64 0, .int .i64 0, .string ⟨#[]⟩] 31)) := ⟨_, rfl⟩
  rw [← hW0] at H0 ⊢
  clear hW0
  have x0 := cell_at (o := 0) H0.out.bj rfl
  have x1 := cell_at (o := 1) H0.out.bj rfl
  have x2 := cell_at (o := 2) H0.out.bj rfl
  have x3 := cell_at (o := 3) H0.out.bj rfl
  have x4 := cell_at (o := 4) H0.out.bj rfl
  have g0 := cell_at (o := 0) H0.out.br rfl
  have y0 := frozen_at 0 H0.out.br
  have g1 := cell_at (o := 1) H0.out.br rfl
  have y1 := frozen_at 1 H0.out.br
  have g2 := cell_at (o := 2) H0.out.br rfl
  have y2 := frozen_at 2 H0.out.br
  go_wp2_with fail
  refine (readAsAtom j _ B _ HZ.out (HJ.out.later H0.out.bel)).mono ?_
  rintro e w1 ⟨rfl, hB⟩
  have H1 := Lib.hid (H0.out.later hB)
  clear hB H0 HJ HZ x0 x1 x2 x3 x4 g0 g1 g2 y0 y1 y2
  have x0 := cell_at (o := 0) H1.out.bj rfl
  have x1 := cell_at (o := 1) H1.out.bj rfl
  have x2 := cell_at (o := 2) H1.out.bj rfl
  have x3 := cell_at (o := 3) H1.out.bj rfl
  have x4 := cell_at (o := 4) H1.out.bj rfl
  have g0 := cell_at (o := 0) H1.out.br rfl
  have y0 := frozen_at 0 H1.out.br
  have g1 := cell_at (o := 1) H1.out.br rfl
  have y1 := frozen_at 1 H1.out.br
  have g2 := cell_at (o := 2) H1.out.br rfl
  have y2 := frozen_at 2 H1.out.br
  have HP : Hid (jaR j = ((jaR j).1, (jaR j).2)) := rfl
  generalize (jaR j).1 = x at *
  generalize (jaR j).2 = n at *
  go_wp2_with fail
  exact bodyPost_ret (v := .tuple #[.agg #[.int .i64 x.k, .int .i64 x.n, .string ⟨x.t.toArray⟩], .int .i64 n]) (by simp [results, Try.results18, go_sem, g0, g1, g2]) rfl (JaAns.of HP.out (three_below H1.out.bel (by omega) _ _ _))
end Go.Proofs.Ytkncpfhblciplaa
