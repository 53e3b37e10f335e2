import Derived.Test.YtkncpfhblciplaaXbi
namespace Go.Proofs.Ytkncpfhblciplaa
open Go.RowKit
set_option linter.unusedSimpArgs false
structure ArB (w W : World) (ac rc : Array Value) : Prop where
  ba : W.heap[w.heap.size]? = some (.cells ac 31)
  br : W.heap[w.heap.size + 1]? = some (.cells rc 28)
  bel : Below w.heap.size w W
theorem ArB.first (w : World) (ac rc : Array Value) : ArB w ((w.alloc (.cells ac 31)).alloc (.cells rc 28)) ac rc := by
  obtain ⟨b0, b1, -, hB⟩ := two (w4 := ((w.alloc (.cells ac 31)).alloc (.cells rc 28))) (w := w) (Below.refl _ _)
  exact ⟨b0, b1, hB⟩
theorem ArB.later {w W W' : World} {ac rc : Array Value} (h : ArB w W ac rc) (hB : Below W.heap.size W W') : ArB w W' ac rc := ⟨heap_kept2 h.ba hB, heap_kept2 h.br hB, h.bel.trans (hB.mono h.bel.size)⟩
theorem ArB.drew {w W : World} {ac rc : Array Value} (h : ArB w W ac rc) : ArB w W.drew ac rc := h.later (Below.refl _ _).drew
theorem fin_rj {j : J} {w W : World} {ac rc : Array Value} {u0 u1 u2 u3 u4 : Value} (h : ArB w W ac rc) (hr : RJ W (fun b => w.heap.size + 1 < b) j [u0, u1, u2, u3, u4]) : RJ (fiveAt W (w.heap.size + 1) u0 u1 u2 u3 u4) (fun b => w.heap.size ≤ b ∧ b < (fiveAt W (w.heap.size + 1) u0 u1 u2 u3 u4).heap.size) j [u0, u1, u2, u3, u4] ∧ Below w.heap.size w (fiveAt W (w.heap.size + 1) u0 u1 u2 u3 u4) :=
  ⟨RJ.same (fun b hb => fiveAt_heap _ _ _ _ _ _ _ _ (by omega)) (fun b hb => ⟨by have := hb.1; omega, by rw [fiveAt_size]; exact hb.2⟩) _ _ (RJ.inside _ _ hr), fiveAt_below h.bel (by omega) _ _ _ _ _⟩
theorem MjAns.fin {j : J} {w W : World} {ac rc : Array Value} {u0 u1 u2 u3 u4 : Value} (h : ArB w W ac rc) (hr : RJ W (fun b => w.heap.size + 1 < b) j [u0, u1, u2, u3, u4]) : MjAns j w (.returned (.agg #[u0, u1, u2, u3, u4])) (fiveAt W (w.heap.size + 1) u0 u1 u2 u3 u4) :=
  ⟨[u0, u1, u2, u3, u4], rfl, (fin_rj h hr).1, (fin_rj h hr).2⟩
set_option maxRecDepth 100000 in
set_option maxHeartbeats 12800000 in
theorem atomJS (x : At) (w : World) (ht : x.t.length ≤ maxLen) : Calls Try.prog 41 #[.agg #[.int .i64 x.k, .int .i64 x.n, .string ⟨x.t.toArray⟩]] w (MjAns (ajJ x) w) := by
  have HT := Lib.hid ht
  have H0 := Lib.hid (ArB.first w #[.int .i64 x.k, .int .i64 x.n, .string ⟨x.t.toArray⟩] #[.int .i64 0, .int .i64 0, .string ⟨#[]⟩, .slice none 0 0, .slice none 0 0])
  clear ht
  go_enter Try.func41, Try.ntmps41
  go_upto_region 1 with fail
  obtain ⟨W0, hW0⟩ : ∃ W, W = ((w.alloc (.cells #[.int .i64 x.k, .int .i64 x.n, .string ⟨x.t.toArray⟩] 31)).alloc (.cells #[.int .i64 0, .int .i64 0, .string ⟨#[]⟩, .slice none 0 0, .slice none 0 0] 28)) := ⟨_, rfl⟩
  rw [← hW0] at H0 ⊢
  clear hW0
  have x0 := cell_at (o := 0) H0.out.ba rfl
  have x1 := cell_at (o := 1) H0.out.ba rfl
  have x2 := cell_at (o := 2) H0.out.ba rfl
  have g0 := cell_at (o := 0) H0.out.br rfl
  have y0 := frozen_at 0 H0.out.br
  have g1 := cell_at (o := 1) H0.out.br rfl
  have y1 := frozen_at 1 H0.out.br
  have g2 := cell_at (o := 2) H0.out.br rfl
  have y2 := frozen_at 2 H0.out.br
  have g3 := cell_at (o := 3) H0.out.br rfl
  have y3 := frozen_at 3 H0.out.br
  have g4 := cell_at (o := 4) H0.out.br rfl
  have y4 := frozen_at 4 H0.out.br
  by_cases h1 : x.k = 1
  case pos =>
    have e1 : (x.k == 1) = true := by rw [h1]; rfl
    have e2 : (x.k == 2) = false := by rw [h1]; rfl
    have e3 : (x.k == 3) = false := by rw [h1]; rfl
    have HA := Lib.hid (ajJ1 h1)
    clear h1
    go_wp2_with fail
    refine (nS x.n _).mono ?_
    rintro e w1 ⟨rfl, hB⟩
    have H1 := Lib.hid (H0.out.later hB)
    clear hB H0 x0 x1 x2 g0 y0 g1 y1 g2 y2 g3 y3 g4 y4
    have x0 := cell_at (o := 0) H1.out.ba rfl
    have x1 := cell_at (o := 1) H1.out.ba rfl
    have x2 := cell_at (o := 2) H1.out.ba rfl
    have g0 := cell_at (o := 0) H1.out.br rfl
    have y0 := frozen_at 0 H1.out.br
    have g1 := cell_at (o := 1) H1.out.br rfl
    have y1 := frozen_at 1 H1.out.br
    have g2 := cell_at (o := 2) H1.out.br rfl
    have y2 := frozen_at 2 H1.out.br
    have g3 := cell_at (o := 3) H1.out.br rfl
    have y3 := frozen_at 3 H1.out.br
    have g4 := cell_at (o := 4) H1.out.br rfl
    have y4 := frozen_at 4 H1.out.br
    go_wp2_with fail
    exact bodyPost_ret (v := .agg #[.int .i64 2, .int .i64 x.n, .string ⟨#[]⟩, .slice none 0 0, .slice none 0 0]) (by simp [results, Try.results41, go_sem, g0, g1, g2, g3, g4]) rfl (by rw [HA.out]; exact MjAns.fin H1.out (rj_flat _ _ _ _ _ (by first | exact HT.out | simp [maxLen])))
  by_cases h2 : x.k = 2
  case pos =>
    have e1 : (x.k == 1) = false := by rw [h2]; rfl
    have e2 : (x.k == 2) = true := by rw [h2]; rfl
    have e3 : (x.k == 3) = false := by rw [h2]; rfl
    have HA := Lib.hid (ajJ2 h2)
    clear h2
    go_wp2_with fail
    refine (tS x.t _).mono ?_
    rintro e w1 ⟨rfl, hB⟩
    have H1 := Lib.hid (H0.out.later hB)
    clear hB H0 x0 x1 x2 g0 y0 g1 y1 g2 y2 g3 y3 g4 y4
    have x0 := cell_at (o := 0) H1.out.ba rfl
    have x1 := cell_at (o := 1) H1.out.ba rfl
    have x2 := cell_at (o := 2) H1.out.ba rfl
    have g0 := cell_at (o := 0) H1.out.br rfl
    have y0 := frozen_at 0 H1.out.br
    have g1 := cell_at (o := 1) H1.out.br rfl
    have y1 := frozen_at 1 H1.out.br
    have g2 := cell_at (o := 2) H1.out.br rfl
    have y2 := frozen_at 2 H1.out.br
    have g3 := cell_at (o := 3) H1.out.br rfl
    have y3 := frozen_at 3 H1.out.br
    have g4 := cell_at (o := 4) H1.out.br rfl
    have y4 := frozen_at 4 H1.out.br
    go_wp2_with fail
    exact bodyPost_ret (v := .agg #[.int .i64 3, .int .i64 0, .string ⟨x.t.toArray⟩, .slice none 0 0, .slice none 0 0]) (by simp [results, Try.results41, go_sem, g0, g1, g2, g3, g4]) rfl (by rw [HA.out]; exact MjAns.fin H1.out (rj_flat _ _ _ _ _ (by first | exact HT.out | simp [maxLen])))
  by_cases h3 : x.k = 3
  case pos =>
    have e1 : (x.k == 1) = false := by rw [h3]; rfl
    have e2 : (x.k == 2) = false := by rw [h3]; rfl
    have e3 : (x.k == 3) = true := by rw [h3]; rfl
    obtain ⟨nn, hnn⟩ : ∃ nn : Int, nn = (if (x.n == 1) = true then 1 else 0) := ⟨_, rfl⟩
    have HNN := Lib.hid hnn
    have HA : Hid (ajJ x = flJ 1 nn []) := by show _ = _; rw [ajJ3 h3, hnn]; by_cases h : x.n = 1 <;> simp [h]
    clear hnn
    clear h3
    go_wp2_with fail
    refine (bS0 (x.n == 1) nn HNN.out _).mono ?_
    rintro e w1 ⟨rfl, hB⟩
    have H1 := Lib.hid (H0.out.later hB)
    clear hB H0 x0 x1 x2 g0 y0 g1 y1 g2 y2 g3 y3 g4 y4
    have x0 := cell_at (o := 0) H1.out.ba rfl
    have x1 := cell_at (o := 1) H1.out.ba rfl
    have x2 := cell_at (o := 2) H1.out.ba rfl
    have g0 := cell_at (o := 0) H1.out.br rfl
    have y0 := frozen_at 0 H1.out.br
    have g1 := cell_at (o := 1) H1.out.br rfl
    have y1 := frozen_at 1 H1.out.br
    have g2 := cell_at (o := 2) H1.out.br rfl
    have y2 := frozen_at 2 H1.out.br
    have g3 := cell_at (o := 3) H1.out.br rfl
    have y3 := frozen_at 3 H1.out.br
    have g4 := cell_at (o := 4) H1.out.br rfl
    have y4 := frozen_at 4 H1.out.br
    go_wp2_with fail
    exact bodyPost_ret (v := .agg #[.int .i64 1, .int .i64 nn, .string ⟨#[]⟩, .slice none 0 0, .slice none 0 0]) (by simp [results, Try.results41, go_sem, g0, g1, g2, g3, g4]) rfl (by rw [HA.out]; exact MjAns.fin H1.out (rj_flat _ _ _ _ _ (by first | exact HT.out | simp [maxLen])))
  have e1 : (x.k == 1) = false := by simpa using h1
  have e2 : (x.k == 2) = false := by simpa using h2
  have e3 : (x.k == 3) = false := by simpa using h3
  have HA := Lib.hid (ajJ4 h1 h2 h3)
  clear h1 h2 h3
  have TT : Hid (∀ W, Calls Try.prog 74 #[.string ⟨#[117, 117, 105, 100]⟩] W fun e w' => e = .returned (.agg #[.int .i64 3, .int .i64 0, .string ⟨#[117, 117, 105, 100]⟩, .slice none 0 0, .slice none 0 0]) ∧ Below W.heap.size W w') := fun W => tS uuidW W
  have HD := Lib.hid H0.out.drew
  go_wp2_with fail
  go_region_with (first
    | (go_at_call 74; refine (TT.out _).mono ?_; rintro e wT ⟨rfl, hB⟩; (first | (have HT2 := Lib.hid (HN2.out.later hB)) | (have HT2 := Lib.hid (HD.out.later hB)) | (have HT2 := Lib.hid (H0.out.later hB))); clear hB; clear x0 x1 x2; have x0 := cell_at (o := 0) HT2.out.ba rfl; have x1 := cell_at (o := 1) HT2.out.ba rfl; have x2 := cell_at (o := 2) HT2.out.ba rfl)
    | (go_at_call 73; refine (nS x.n _).mono ?_; rintro e wN ⟨rfl, hB⟩; (first | (have HN2 := Lib.hid (HT2.out.later hB)) | (have HN2 := Lib.hid (HD.out.later hB)) | (have HN2 := Lib.hid (H0.out.later hB))); clear hB; clear x0 x1 x2; have x0 := cell_at (o := 0) HN2.out.ba rfl; have x1 := cell_at (o := 1) HN2.out.ba rfl; have x2 := cell_at (o := 2) HN2.out.ba rfl)
    | (go_at_call 76; (first | (refine (pairLS x.n _ _ (heap_new' wN (.cells #[.int .i64 3, .int .i64 0, .string ⟨#[117, 117, 105, 100]⟩, .slice none 0 0, .slice none 0 0, .int .i64 2, .int .i64 x.n, .string ⟨#[]⟩, .slice none 0 0, .slice none 0 0] 28) rfl)).mono ?_; rintro e w9 ⟨cs9, rfl, hr, hB⟩; have HL := Lib.hid (ArB.later (HN2.out.later (one_box wN (#[.int .i64 3, .int .i64 0, .string ⟨#[117, 117, 105, 100]⟩, .slice none 0 0, .slice none 0 0, .int .i64 2, .int .i64 x.n, .string ⟨#[]⟩, .slice none 0 0, .slice none 0 0]) 28).2) hB)) | (refine (pairLS x.n _ _ (heap_new' wT (.cells #[.int .i64 3, .int .i64 0, .string ⟨#[117, 117, 105, 100]⟩, .slice none 0 0, .slice none 0 0, .int .i64 2, .int .i64 x.n, .string ⟨#[]⟩, .slice none 0 0, .slice none 0 0] 28) rfl)).mono ?_; rintro e w9 ⟨cs9, rfl, hr, hB⟩; have HL := Lib.hid (ArB.later (HT2.out.later (one_box wT (#[.int .i64 3, .int .i64 0, .string ⟨#[117, 117, 105, 100]⟩, .slice none 0 0, .slice none 0 0, .int .i64 2, .int .i64 x.n, .string ⟨#[]⟩, .slice none 0 0, .slice none 0 0]) 28).2) hB))); have HR9 := Lib.hid hr; rw [RJ_eq] at hr; obtain ⟨k9, kc9, i9, ic9, rfl, -⟩ := hr; have hz9 := (HL.out.br); have g0 := cell_at (o := 0) hz9 rfl; have g1 := cell_at (o := 1) hz9 rfl; have g2 := cell_at (o := 2) hz9 rfl; have g3 := cell_at (o := 3) hz9 rfl; have g4 := cell_at (o := 4) hz9 rfl; have y0 := frozen_at 0 hz9; have y1 := frozen_at 1 hz9; have y2 := frozen_at 2 hz9; have y3 := frozen_at 3 hz9; have y4 := frozen_at 4 hz9; clear hz9 hB))
  all_goals
    go_wp2_with fail
    refine bodyPost_ret (v := .agg #[.int .i64 4, .int .i64 0, .string ⟨#[]⟩, .slice k9 0 kc9, .slice i9 2 ic9]) (by simp [results, Try.results41, go_sem, g0, g1, g2, g3, g4]) rfl (by rw [HA.out]; exact MjAns.fin HL.out (RJ.same (fun _ _ => rfl) (fun b hb => by (first | (have h1 := (Array.getElem?_eq_some_iff.1 HN2.out.br).1; have h2 := hb.1; simp at h2; omega) | (have h1 := (Array.getElem?_eq_some_iff.1 HT2.out.br).1; have h2 := hb.1; simp at h2; omega))) _ _ HR9.out))
def AjAns (x : At) (w : World) (e : Ending) (w' : World) : Prop := ∃ cs, e = .returned (.tuple #[.agg cs.toArray, .int .i64 (ajR x).2]) ∧ RJ w' (fun b => w.heap.size ≤ b ∧ b < w'.heap.size) (ajR x).1 cs ∧ Below w.heap.size w w'
set_option maxRecDepth 100000 in
set_option maxHeartbeats 12800000 in
theorem atomJsonS (x : At) (w : World) (ht : x.t.length ≤ maxLen) : Calls Try.prog 9 #[.agg #[.int .i64 x.k, .int .i64 x.n, .string ⟨x.t.toArray⟩]] w (AjAns x w) := by
  have HT := Lib.hid ht
  have H0 := Lib.hid (ArB.first w #[.int .i64 x.k, .int .i64 x.n, .string ⟨x.t.toArray⟩] #[.int .i64 0, .int .i64 0, .string ⟨#[]⟩, .slice none 0 0, .slice none 0 0])
  clear ht
  go_enter Try.func9, Try.ntmps9
  go_upto_region 1 with fail
  obtain ⟨W0, hW0⟩ : ∃ W, W = ((w.alloc (.cells #[.int .i64 x.k, .int .i64 x.n, .string ⟨x.t.toArray⟩] 31)).alloc (.cells #[.int .i64 0, .int .i64 0, .string ⟨#[]⟩, .slice none 0 0, .slice none 0 0] 28)) := ⟨_, rfl⟩
  rw [← hW0] at H0 ⊢
  clear hW0
  have x0 := cell_at (o := 0) H0.out.ba rfl
  have x1 := cell_at (o := 1) H0.out.ba rfl
  have x2 := cell_at (o := 2) H0.out.ba rfl
  have g0 := cell_at (o := 0) H0.out.br rfl
  have y0 := frozen_at 0 H0.out.br
  have g1 := cell_at (o := 1) H0.out.br rfl
  have y1 := frozen_at 1 H0.out.br
  have g2 := cell_at (o := 2) H0.out.br rfl
  have y2 := frozen_at 2 H0.out.br
  have g3 := cell_at (o := 3) H0.out.br rfl
  have y3 := frozen_at 3 H0.out.br
  have g4 := cell_at (o := 4) H0.out.br rfl
  have y4 := frozen_at 4 H0.out.br
  go_wp2_with fail
  refine (atomOKs x _ HT.out).mono ?_
  rintro e w1 ⟨rfl, hB⟩
  have H1 := Lib.hid (H0.out.later hB)
  clear hB H0 x0 x1 x2 g0 y0 g1 y1 g2 y2 g3 y3 g4 y4
  have x0 := cell_at (o := 0) H1.out.ba rfl
  have x1 := cell_at (o := 1) H1.out.ba rfl
  have x2 := cell_at (o := 2) H1.out.ba rfl
  have g0 := cell_at (o := 0) H1.out.br rfl
  have y0 := frozen_at 0 H1.out.br
  have g1 := cell_at (o := 1) H1.out.br rfl
  have y1 := frozen_at 1 H1.out.br
  have g2 := cell_at (o := 2) H1.out.br rfl
  have y2 := frozen_at 2 H1.out.br
  have g3 := cell_at (o := 3) H1.out.br rfl
  have y3 := frozen_at 3 H1.out.br
  have g4 := cell_at (o := 4) H1.out.br rfl
  have y4 := frozen_at 4 H1.out.br
  cases hok : atOK x
  case false =>
    have HR := Lib.hid (ajR_bad hok)
    clear hok
    go_wp2_with fail
    exact bodyPost_ret (v := .tuple #[.agg #[.int .i64 0, .int .i64 0, .string ⟨#[]⟩, .slice none 0 0, .slice none 0 0], .int .i64 1]) (by simp [results, Try.results9, go_sem, g0, g1, g2, g3, g4]) rfl ⟨(#[.int .i64 0, .int .i64 0, .string ⟨#[]⟩, .slice none 0 0, .slice none 0 0]).toList, by rw [HR.out], by rw [HR.out]; exact rj_zero _ _, fiveAt_below H1.out.bel (by omega) _ _ _ _ _⟩
  have HR := Lib.hid (ajR_ok hok)
  have HSZ : Hid ((ajJ x).sz ≤ 1048576) := by have := ajJ_sz (atOK_text hok); show _ ≤ _; omega
  clear hok
  go_wp2_with fail
  refine (atomJS x _ HT.out).mono ?_
  rintro e w2 ⟨cs2, rfl, hr2, hB⟩
  have H2 := Lib.hid (H1.out.later hB)
  have HR2 := Lib.hid hr2
  clear hB hr2
  go_wp2_with fail
  refine (ownS (ajJ x) cs2 _ _ HSZ.out HR2.out).mono ?_
  rintro e w3 ⟨cs3, rfl, hr3, hB⟩
  have H3 := Lib.hid (H2.out.later hB)
  have HR3 : Hid (RJ w3 (fun b => w.heap.size + 1 < b) (ajJ x) cs3) := RJ.same (fun _ _ => rfl) (fun b hb => by have h1 := (Array.getElem?_eq_some_iff.1 H2.out.br).1; have := hb.1; omega) _ _ hr3
  clear hB hr3 H2 HR2 H1 x0 x1 x2 g0 y0 g1 y1 g2 y2 g3 y3 g4 y4
  have hr4 := HR3.out
  rw [RJ_eq] at hr4
  obtain ⟨k9, kc9, i9, ic9, rfl, -⟩ := hr4
  have x0 := cell_at (o := 0) H3.out.ba rfl
  have x1 := cell_at (o := 1) H3.out.ba rfl
  have x2 := cell_at (o := 2) H3.out.ba rfl
  have g0 := cell_at (o := 0) H3.out.br rfl
  have y0 := frozen_at 0 H3.out.br
  have g1 := cell_at (o := 1) H3.out.br rfl
  have y1 := frozen_at 1 H3.out.br
  have g2 := cell_at (o := 2) H3.out.br rfl
  have y2 := frozen_at 2 H3.out.br
  have g3 := cell_at (o := 3) H3.out.br rfl
  have y3 := frozen_at 3 H3.out.br
  have g4 := cell_at (o := 4) H3.out.br rfl
  have y4 := frozen_at 4 H3.out.br
  generalize ajJ x = j at *
  go_wp2_with fail
  refine bodyPost_ret (v := .tuple #[.agg #[.int .i64 j.k, .int .i64 j.n, .string ⟨j.t.toArray⟩, .slice k9 j.keys.length kc9, .slice i9 j.items.length ic9], .int .i64 0]) (by simp [results, Try.results9, go_sem, g0, g1, g2, g3, g4]) rfl ?_
  obtain ⟨h9, hB9⟩ := fin_rj H3.out HR3.out
  exact ⟨_, by rw [HR.out], by rw [HR.out]; exact h9, hB9⟩
end Go.Proofs.Ytkncpfhblciplaa
