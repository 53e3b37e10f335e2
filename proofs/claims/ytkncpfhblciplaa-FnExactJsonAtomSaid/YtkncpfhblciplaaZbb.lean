import Derived.Test.YtkncpfhblciplaaZba
namespace Go.Proofs.Ytkncpfhblciplaa
open Go.RowKit
set_option linter.unusedSimpArgs false
def JaAns (j : J) (w : World) (e : Ending) (w' : World) : Prop := e = .returned (.tuple #[.agg #[.int .i64 (jaR j).1.k, .int .i64 (jaR j).1.n, .string ⟨(jaR j).1.t.toArray⟩], .int .i64 (jaR j).2]) ∧ Below w.heap.size w w'
theorem jaR_bad {j : J} (h : okB j = false) : jaR j = (atZ, 1) := by unfold jaR; rw [h]; rfl
theorem JaAns.of {j : J} {x : At} {n : Int} (h : jaR j = (x, n)) {w w' : World} (hB : Below w.heap.size w w') : JaAns j w (.returned (.tuple #[.agg #[.int .i64 x.k, .int .i64 x.n, .string ⟨x.t.toArray⟩], .int .i64 n])) w' := ⟨by rw [h], hB⟩
structure JrB (w W : World) (jc rc : Array Value) (T : TypeId) : Prop where
  bj : W.heap[w.heap.size]? = some (.cells jc 28)
  br : W.heap[w.heap.size + 1]? = some (.cells rc T)
  bel : Below w.heap.size w W
theorem JrB.first (w : World) (jc rc : Array Value) (T : TypeId) : JrB w ((w.alloc (.cells jc 28)).alloc (.cells rc T)) jc rc T := by
  obtain ⟨b0, b1, -, hB⟩ := two (w4 := ((w.alloc (.cells jc 28)).alloc (.cells rc T))) (w := w) (Below.refl _ _)
  exact ⟨b0, b1, hB⟩
theorem JrB.later {w W W' : World} {jc rc : Array Value} {T : TypeId} (h : JrB w W jc rc T) (hB : Below W.heap.size W W') : JrB w W' jc rc T := ⟨heap_kept2 h.bj hB, heap_kept2 h.br hB, h.bel.trans (hB.mono h.bel.size)⟩
set_option maxRecDepth 100000 in
set_option maxHeartbeats 6400000 in
theorem jsonAtomS (j : J) (cs : List Value) (B : Nat → Prop) (w : World) (hr : RJ w B j cs) :
    Calls Try.prog 16 #[.agg cs.toArray] w (JaAns j w) := by
  have HJ : Hid (RJ w B j cs) := hr
  rw [RJ_eq] at hr
  obtain ⟨ka, kc, ia, ic, rfl, -⟩ := hr
  go_enter Try.func16, Try.ntmps16
  go_upto_region 1 with fail
  have H0 : Hid (JrB w ((w.alloc (.cells #[.int .i64 j.k, .int .i64 j.n, .string ⟨j.t.toArray⟩, .slice ka j.keys.length kc, .slice ia j.items.length ic] 28)).alloc (.cells #[.int .i64 0, .int .i64 0, .string ⟨#[]⟩] 31)) #[.int .i64 j.k, .int .i64 j.n, .string ⟨j.t.toArray⟩, .slice ka j.keys.length kc, .slice ia j.items.length ic] #[.int .i64 0, .int .i64 0, .string ⟨#[]⟩] 31) := JrB.first w _ _ _
  obtain ⟨W0, hW0⟩ : ∃ W, W = ((w.alloc (.cells #[.int .i64 j.k, .int .i64 j.n, .string ⟨j.t.toArray⟩, .slice ka j.keys.length kc, .slice ia j.items.length ic] 28)).alloc (.cells #[.int .i64 0, .int .i64 0, .string ⟨#[]⟩] 31)) := ⟨_, rfl⟩
  rw [← hW0] at H0 ⊢
  clear hW0
  have x0 := cell_at (o := 0) H0.out.bj rfl
  have x1 := cell_at (o := 1) H0.out.bj rfl
  have x2 := cell_at (o := 2) H0.out.bj rfl
  have x3 := cell_at (o := 3) H0.out.bj rfl
  have x4 := cell_at (o := 4) H0.out.bj rfl
  have g0 := cell_at (o := 0) H0.out.br rfl
  have y0 := frozen_at 0 H0.out.br
  have g1 := cell_at (o := 1) H0.out.br rfl
  have y1 := frozen_at 1 H0.out.br
  have g2 := cell_at (o := 2) H0.out.br rfl
  have y2 := frozen_at 2 H0.out.br
  go_wp2_with fail
  clear x0 x1 x2 x3 x4 g0 g1 g2 y0 y1 y2
  refine (jsonOKs j _ B _ (HJ.out.later H0.out.bel)).mono ?_
  rintro e w1 ⟨rfl, hB⟩
  have H1 := Lib.hid (H0.out.later hB)
  clear hB H0
  have x0 := cell_at (o := 0) H1.out.bj rfl
  have x1 := cell_at (o := 1) H1.out.bj rfl
  have x2 := cell_at (o := 2) H1.out.bj rfl
  have x3 := cell_at (o := 3) H1.out.bj rfl
  have x4 := cell_at (o := 4) H1.out.bj rfl
  have g0 := cell_at (o := 0) H1.out.br rfl
  have y0 := frozen_at 0 H1.out.br
  have g1 := cell_at (o := 1) H1.out.br rfl
  have y1 := frozen_at 1 H1.out.br
  have g2 := cell_at (o := 2) H1.out.br rfl
  have y2 := frozen_at 2 H1.out.br
  cases hok : okB j
  case false =>
    have HP := Lib.hid (jaR_bad hok)
    clear hok HJ
    go_wp2_with fail
    exact bodyPost_ret (v := .tuple #[.agg #[.int .i64 0, .int .i64 0, .string ⟨#[]⟩], .int .i64 1]) (by simp [results, Try.results16, go_sem, g0, g1, g2]) rfl (JaAns.of HP.out (three_below H1.out.bel (by omega) _ _ _))
  have HK := Lib.hid hok
  clear hok
  go_wp2_with fail
  clear x0 x1 x2 x3 x4 g0 g1 g2 y0 y1 y2
  refine (toAtomS j _ B _ (ok_rt HK.out) (HJ.out.later H1.out.bel)).mono ?_
  rintro e w2 ⟨rfl, hB⟩
  have HP : Hid (jaR j = match paA j with | some x => (x, 0) | none => (atZ, 3)) := by show jaR j = _; unfold jaR; rw [HK.out]; rfl
  have H2 := Lib.hid (H1.out.later hB)
  clear hB H1 HJ HK
  cases hp : paA j
  case none =>
    rw [hp] at HP
    have H3 : Hid (JrB w (w2.alloc (.cells #[.int .i64 0, .int .i64 0, .string ⟨#[]⟩] 31)) #[.int .i64 j.k, .int .i64 j.n, .string ⟨j.t.toArray⟩, .slice ka j.keys.length kc, .slice ia j.items.length ic] #[.int .i64 0, .int .i64 0, .string ⟨#[]⟩] 31) := H2.out.later ((Below.refl _ _).alloc (Nat.le_refl _) _)
    have hn := heap_new' w2 (.cells #[.int .i64 0, .int .i64 0, .string ⟨#[]⟩] 31) rfl
    have HN := Lib.hid hn
    clear hn hp H2
    simp only [Option.getD_none, Option.getD_some, Option.isSome_none, Option.isSome_some, atZ]
    go_upto_region 4 with fail
    obtain ⟨W3, hW3⟩ : ∃ W, W = (w2.alloc (.cells #[.int .i64 0, .int .i64 0, .string ⟨#[]⟩] 31)) := ⟨_, rfl⟩
    rw [← hW3] at H3 HN ⊢
    clear hW3
    have x0 := cell_at (o := 0) H3.out.bj rfl
    have x1 := cell_at (o := 1) H3.out.bj rfl
    have x2 := cell_at (o := 2) H3.out.bj rfl
    have x3 := cell_at (o := 3) H3.out.bj rfl
    have x4 := cell_at (o := 4) H3.out.bj rfl
    have g0 := cell_at (o := 0) H3.out.br rfl
    have y0 := frozen_at 0 H3.out.br
    have g1 := cell_at (o := 1) H3.out.br rfl
    have y1 := frozen_at 1 H3.out.br
    have g2 := cell_at (o := 2) H3.out.br rfl
    have y2 := frozen_at 2 H3.out.br
    have p0 := cell_at (o := 0) HN.out rfl
    have p1 := cell_at (o := 1) HN.out rfl
    have p2 := cell_at (o := 2) HN.out rfl
    go_wp2_with fail
    exact bodyPost_ret (v := .tuple #[.agg #[.int .i64 0, .int .i64 0, .string ⟨#[]⟩], .int .i64 3]) (by simp [results, Try.results16, go_sem, g0, g1, g2]) rfl (JaAns.of HP.out (three_below H3.out.bel (by omega) _ _ _))
  case some x =>
    rw [hp] at HP
    have H3 : Hid (JrB w (w2.alloc (.cells #[.int .i64 x.k, .int .i64 x.n, .string ⟨x.t.toArray⟩] 31)) #[.int .i64 j.k, .int .i64 j.n, .string ⟨j.t.toArray⟩, .slice ka j.keys.length kc, .slice ia j.items.length ic] #[.int .i64 0, .int .i64 0, .string ⟨#[]⟩] 31) := H2.out.later ((Below.refl _ _).alloc (Nat.le_refl _) _)
    have hn := heap_new' w2 (.cells #[.int .i64 x.k, .int .i64 x.n, .string ⟨x.t.toArray⟩] 31) rfl
    have HN := Lib.hid hn
    clear hn hp H2
    simp only [Option.getD_some, Option.isSome_some]
    go_upto_region 4 with fail
    obtain ⟨W3, hW3⟩ : ∃ W, W = (w2.alloc (.cells #[.int .i64 x.k, .int .i64 x.n, .string ⟨x.t.toArray⟩] 31)) := ⟨_, rfl⟩
    rw [← hW3] at H3 HN ⊢
    clear hW3
    have x0 := cell_at (o := 0) H3.out.bj rfl
    have x1 := cell_at (o := 1) H3.out.bj rfl
    have x2 := cell_at (o := 2) H3.out.bj rfl
    have x3 := cell_at (o := 3) H3.out.bj rfl
    have x4 := cell_at (o := 4) H3.out.bj rfl
    have g0 := cell_at (o := 0) H3.out.br rfl
    have y0 := frozen_at 0 H3.out.br
    have g1 := cell_at (o := 1) H3.out.br rfl
    have y1 := frozen_at 1 H3.out.br
    have g2 := cell_at (o := 2) H3.out.br rfl
    have y2 := frozen_at 2 H3.out.br
    have p0 := cell_at (o := 0) HN.out rfl
    have p1 := cell_at (o := 1) HN.out rfl
    have p2 := cell_at (o := 2) HN.out rfl
    go_wp2_with fail
    exact bodyPost_ret (v := .tuple #[.agg #[.int .i64 x.k, .int .i64 x.n, .string ⟨x.t.toArray⟩], .int .i64 0]) (by simp [results, Try.results16, go_sem, g0, g1, g2]) rfl (JaAns.of HP.out (three_below H3.out.bel (by omega) _ _ _))
end Go.Proofs.Ytkncpfhblciplaa
