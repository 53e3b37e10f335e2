import Derived.Test.YtkncpfhblciplaaXbl
import Derived.Test.YtkncpfhblciplaaXbm
import Derived.Test.YtkncpfhblciplaaXan
import Derived.Test.YtkncpfhblciplaaXap
namespace Go.Proofs.Ytkncpfhblciplaa
open Go.RowKit
set_option linter.unusedSimpArgs false
theorem ajR_sz (x : At) : (ajR x).1.sz ≤ 1048576 := by
  cases h : atOK x
  · rw [ajR_bad h]; simp [dflt, J.sz_eq, szK]
  · rw [ajR_ok h]; have := ajJ_sz (atOK_text h); show (ajJ x).sz ≤ _; omega
structure MemE (w W : World) (A G : J) (x : At) (csA csG : List Value) (s1 s2 : Nat) : Prop where
  bel : Below w.heap.size w W
  gs : W.heap[w.heap.size]? = some (.cells #[.int .i64 x.k, .int .i64 x.n, .string ⟨x.t.toArray⟩] 23)
  ra : RJ W (· < s1) A csA
  ga : W.heap[s1]? = some (.cells csA.toArray 28)
  og : OwnJ W G (fun b => s1 < b ∧ b < s2) csG
  gg : W.heap[s2]? = some (.cells csG.toArray 28)
  ord : w.heap.size < s1 ∧ s1 < s2
variable {w W W' : World} {A G : J} {x : At} {csA csG : List Value} {s1 s2 : Nat}
theorem MemE.later (h : MemE w W A G x csA csG s1 s2) (hB : Below W.heap.size W W') : MemE w W' A G x csA csG s1 s2 := by
  have ho := h.ord
  have hl := (Array.getElem?_eq_some_iff.1 h.gg).1
  exact ⟨h.bel.trans (hB.mono h.bel.size), heap_kept2 h.gs hB, RJ.same (fun b hb => hB.block b (by omega)) (fun _ h => h) _ _ h.ra, heap_kept2 h.ga hB, OwnJ.same _ _ _ _ (fun b hb => hB.block b (by omega)) (fun _ h => h) h.og, heap_kept2 h.gg hB, ho⟩
theorem MemE.markg {G' : J} (h : MemE w W A G x csA csG s1 s2) (hF : Frm (fun b => s1 < b ∧ b < s2) W W') (hG : OwnJ W' G' (fun b => s1 < b ∧ b < s2) csG) : MemE w W' A G' x csA csG s1 s2 := by
  have ho := h.ord
  have hl := (Array.getElem?_eq_some_iff.1 h.gg).1
  exact ⟨h.bel.trans (hF.below h.bel.size (fun b hb => by omega)), (hF.block _ (by omega) (by omega)).trans h.gs, RJ.same (fun b hb => hF.block b (by omega) (by omega)) (fun _ h => h) _ _ h.ra, (hF.block _ (by omega) (by omega)).trans h.ga, hG, (hF.block _ (by omega) (by omega)).trans h.gg, ho⟩
set_option maxRecDepth 100000 in
set_option maxHeartbeats 12800000 in
theorem lawAtomJson (x : At) (w : World) (ht : x.t.length ≤ maxLen) :
    Calls Try.prog 3 #[.agg #[.int .i64 x.k, .int .i64 x.n, .string ⟨x.t.toArray⟩]] w fun e w' => e = .returned (.bool true) ∧ Below w.heap.size w w' := by
  have HT := Lib.hid ht
  clear ht
  have hb := Lib.hid (one_box w #[.int .i64 x.k, .int .i64 x.n, .string ⟨x.t.toArray⟩] 23)
  go_enter Try.func3, Try.ntmps3
  go_upto_region 1 with fail
  obtain ⟨W0, hW0⟩ : ∃ W, W = w.alloc (.cells #[.int .i64 x.k, .int .i64 x.n, .string ⟨x.t.toArray⟩] 23) := ⟨_, rfl⟩
  rw [← hW0] at hb ⊢
  clear hW0
  have x0 := cell_at (o := 0) hb.out.1 rfl
  have x1 := cell_at (o := 1) hb.out.1 rfl
  have x2 := cell_at (o := 2) hb.out.1 rfl
  go_wp2_with fail
  refine (szAtom x 1048576 _ (by omega) (by omega) HT.out).mono ?_
  rintro e w1 ⟨rfl, hB⟩
  have H1 : Hid (Below w.heap.size w w1 ∧ w1.heap[w.heap.size]? = some (.cells #[.int .i64 x.k, .int .i64 x.n, .string ⟨x.t.toArray⟩] 23)) := ⟨hb.out.2.trans (hB.mono hb.out.2.size), heap_kept2 hb.out.1 hB⟩
  clear hB hb x0 x1 x2
  by_cases hz : (1048576 : Int) - (x.t.length : Int) < 0
  case pos =>
    rw [less_no hz]
    go_wp2_with fail
    go_ret
    exact ⟨rfl, H1.out.1⟩
  rw [less_yes (by omega)]
  have x0 := cell_at (o := 0) H1.out.2 rfl
  have x1 := cell_at (o := 1) H1.out.2 rfl
  have x2 := cell_at (o := 2) H1.out.2 rfl
  go_wp2_with fail
  refine (toAtom x _).mono ?_
  rintro e w2 ⟨rfl, hB⟩
  have H2 : Hid (Below w.heap.size w w2 ∧ w2.heap[w.heap.size]? = some (.cells #[.int .i64 x.k, .int .i64 x.n, .string ⟨x.t.toArray⟩] 23)) := ⟨H1.out.1.trans (hB.mono H1.out.1.size), heap_kept2 H1.out.2 hB⟩
  clear hB H1 x0 x1 x2
  go_wp2_with fail
  refine (atomJsonS x _ HT.out).mono ?_
  rintro e w3 ⟨csA, rfl, hr, hB⟩
  have HRA := Lib.hid hr
  rw [RJ_eq] at hr
  obtain ⟨ka, kc, ia, ic, rfl, -⟩ := hr
  obtain ⟨A, hA⟩ : ∃ A, A = (ajR x).1 := ⟨_, rfl⟩
  obtain ⟨cc, hcc⟩ : ∃ c, c = (ajR x).2 := ⟨_, rfl⟩
  have HAC : Hid ((A = (ajR x).1 ∧ cc = (ajR x).2) ∧ A.sz ≤ 1048576) := ⟨⟨hA, hcc⟩, by rw [hA]; exact ajR_sz x⟩
  rw [← hA] at HRA
  rw [← hA, ← hcc]
  clear hA hcc
  have h3 : Below w.heap.size w w3 := H2.out.1.trans (hB.mono H2.out.1.size)
  have HA3 : Hid (Below w.heap.size w (w3.alloc (.cells #[.int .i64 A.k, .int .i64 A.n, .string ⟨A.t.toArray⟩, .slice ka A.keys.length kc, .slice ia A.items.length ic] 28)) ∧ (w3.alloc (.cells #[.int .i64 A.k, .int .i64 A.n, .string ⟨A.t.toArray⟩, .slice ka A.keys.length kc, .slice ia A.items.length ic] 28)).heap[w.heap.size]? = some (.cells #[.int .i64 x.k, .int .i64 x.n, .string ⟨x.t.toArray⟩] 23) ∧ RJ (w3.alloc (.cells #[.int .i64 A.k, .int .i64 A.n, .string ⟨A.t.toArray⟩, .slice ka A.keys.length kc, .slice ia A.items.length ic] 28)) (· < w3.heap.size) A [.int .i64 A.k, .int .i64 A.n, .string ⟨A.t.toArray⟩, .slice ka A.keys.length kc, .slice ia A.items.length ic] ∧ (w3.alloc (.cells #[.int .i64 A.k, .int .i64 A.n, .string ⟨A.t.toArray⟩, .slice ka A.keys.length kc, .slice ia A.items.length ic] 28)).heap[w3.heap.size]? = some (.cells #[.int .i64 A.k, .int .i64 A.n, .string ⟨A.t.toArray⟩, .slice ka A.keys.length kc, .slice ia A.items.length ic] 28) ∧ w.heap.size < w3.heap.size) := ⟨h3.trans ((one_box w3 _ _).2.mono h3.size), heap_kept2 (heap_kept2 H2.out.2 hB) (one_box w3 _ _).2, RJ.same (fun b hb => (one_box w3 _ _).2.block b hb.2) (fun b hb => hb.2) _ _ HRA.out, (one_box w3 _ _).1, Nat.lt_of_lt_of_le (Array.getElem?_eq_some_iff.1 H2.out.2).1 hB.size⟩
  clear h3 hB H2 HRA
  go_upto_region 6 with fail
  obtain ⟨s1, hs1⟩ : ∃ n, n = w3.heap.size := ⟨_, rfl⟩
  rw [← hs1] at HA3 ⊢
  obtain ⟨W3, hW3⟩ : ∃ W, W = (w3.alloc (.cells #[.int .i64 A.k, .int .i64 A.n, .string ⟨A.t.toArray⟩, .slice ka A.keys.length kc, .slice ia A.items.length ic] 28)) := ⟨_, rfl⟩
  rw [← hW3] at HA3 ⊢
  clear hW3 hs1
  have x0 := cell_at (o := 0) HA3.out.2.1 rfl
  have x1 := cell_at (o := 1) HA3.out.2.1 rfl
  have x2 := cell_at (o := 2) HA3.out.2.1 rfl
  go_wp2_with fail
  refine (toAtom x _).mono ?_
  rintro e w4 ⟨rfl, hB4⟩
  go_wp2_with fail
  refine (atomJsonI x _ HT.out).mono ?_
  rintro e w5 ⟨csG, rfl, ho, hB5⟩
  have HOG := Lib.hid ho
  rw [OwnJ_eq] at ho
  obtain ⟨kg, kcg, ig, icg, -, -, rfl, -⟩ := ho
  rw [← HAC.out.1.1] at HOG
  rw [← HAC.out.1.1, ← HAC.out.1.2]
  have hB45 : Below W3.heap.size W3 w5 := hB4.trans (hB5.mono hB4.size)
  have hB6 : Below W3.heap.size W3 (w5.alloc (.cells #[.int .i64 A.k, .int .i64 A.n, .string ⟨A.t.toArray⟩, .slice kg A.keys.length kcg, .slice ig A.items.length icg] 28)) := hB45.trans ((one_box w5 _ _).2.mono hB45.size)
  have M5 : Hid (MemE w (w5.alloc (.cells #[.int .i64 A.k, .int .i64 A.n, .string ⟨A.t.toArray⟩, .slice kg A.keys.length kcg, .slice ig A.items.length icg] 28)) A A x [.int .i64 A.k, .int .i64 A.n, .string ⟨A.t.toArray⟩, .slice ka A.keys.length kc, .slice ia A.items.length ic] [.int .i64 A.k, .int .i64 A.n, .string ⟨A.t.toArray⟩, .slice kg A.keys.length kcg, .slice ig A.items.length icg] s1 w5.heap.size) := by
    have h1 := (Array.getElem?_eq_some_iff.1 HA3.out.2.2.2.1).1
    have h4 := hB4.size; have h5 := hB5.size
    exact ⟨HA3.out.1.trans (hB6.mono HA3.out.1.size), heap_kept2 HA3.out.2.1 hB6, RJ.same (fun b hb => hB6.block b (by omega)) (fun _ h => h) _ _ HA3.out.2.2.1, heap_kept2 HA3.out.2.2.2.1 hB6, OwnJ.same _ _ _ _ (fun b hb => (one_box w5 _ _).2.block b hb.2) (fun b hb => ⟨by omega, hb.2⟩) HOG.out, (one_box w5 _ _).1, HA3.out.2.2.2.2, by omega⟩
  clear hB45 hB6 hB5 hB4 HOG HA3 x0 x1 x2
  go_upto_region 7 with fail
  obtain ⟨s2, hs2⟩ : ∃ n, n = w5.heap.size := ⟨_, rfl⟩
  rw [← hs2] at M5 ⊢
  obtain ⟨W5, hW5⟩ : ∃ W, W = (w5.alloc (.cells #[.int .i64 A.k, .int .i64 A.n, .string ⟨A.t.toArray⟩, .slice kg A.keys.length kcg, .slice ig A.items.length icg] 28)) := ⟨_, rfl⟩
  rw [← hW5] at M5 ⊢
  clear hW5 hs2
  have a0 := cell_at (o := 0) M5.out.ga rfl
  have a1 := cell_at (o := 1) M5.out.ga rfl
  have a2 := cell_at (o := 2) M5.out.ga rfl
  have a3 := cell_at (o := 3) M5.out.ga rfl
  have a4 := cell_at (o := 4) M5.out.ga rfl
  have g0 := cell_at (o := 0) M5.out.gg rfl
  have g1 := cell_at (o := 1) M5.out.gg rfl
  have g2 := cell_at (o := 2) M5.out.gg rfl
  have g3 := cell_at (o := 3) M5.out.gg rfl
  have g4 := cell_at (o := 4) M5.out.gg rfl
  have ncc := neq_selfK cc
  go_wp2_with fail
  refine (eqJson A _ _ (fun _ => True) (fun _ => True) _ (OwnJ.rj _ _ _ M5.out.og).any M5.out.ra.any).mono ?_
  rintro e w6 ⟨rfl, hB⟩
  have M6 := Lib.hid (M5.out.later hB)
  clear hB M5 a0 a1 a2 a3 a4 g0 g1 g2 g3 g4
  have g0 := cell_at (o := 0) M6.out.gg rfl
  have g1 := cell_at (o := 1) M6.out.gg rfl
  have g2 := cell_at (o := 2) M6.out.gg rfl
  have g3 := cell_at (o := 3) M6.out.gg rfl
  have g4 := cell_at (o := 4) M6.out.gg rfl
  go_wp2_with fail
  refine (markJson A _ 1 _ _ (by omega) (mnT_lt HAC.out.2) (fun b hb => by have h1 := (Array.getElem?_eq_some_iff.1 M6.out.gg).1; omega) M6.out.og).mono ?_
  rintro e w7 ⟨rfl, hO, hF⟩
  have M7 := Lib.hid (M6.out.markg hF hO)
  clear hO hF M6 g0 g1 g2 g3 g4
  have HM : Hid (1 + mnT A < 1000000000000) := mnT_lt HAC.out.2
  have HD : Hid (∀ W (B : Nat → Prop), RJ W B (mkT A 1) [.int .i64 A.k, .int .i64 A.n, .string ⟨A.t.toArray⟩, .slice kg A.keys.length kcg, .slice ig A.items.length icg] → Calls Try.prog 14 #[.agg #[.int .i64 A.k, .int .i64 A.n, .string ⟨A.t.toArray⟩, .slice kg A.keys.length kcg, .slice ig A.items.length icg], .int .i64 1] W fun e w' => e = .returned (.int .i64 (1 + mnT A : Nat)) ∧ Below W.heap.size W w') := fun W B h => heldJson A _ 1 B W (by omega) HM.out h
  obtain ⟨kk, hkk⟩ : ∃ k : Nat, k = 1 + mnT A := ⟨_, rfl⟩
  rw [← hkk] at HD ⊢
  clear hkk HM
  have d11 : decide ((kk : Int) < 0) = false := by simp
  have n11 := neq_selfK (kk : Int)
  have g0 := cell_at (o := 0) M7.out.gg rfl
  have g1 := cell_at (o := 1) M7.out.gg rfl
  have g2 := cell_at (o := 2) M7.out.gg rfl
  have g3 := cell_at (o := 3) M7.out.gg rfl
  have g4 := cell_at (o := 4) M7.out.gg rfl
  go_wp2_with fail
  refine (HD.out _ _ (OwnJ.rj _ _ _ M7.out.og)).mono ?_
  rintro e w8 ⟨rfl, hB⟩
  have M8 := Lib.hid (M7.out.later hB)
  clear hB M7 g0 g1 g2 g3 g4
  have x0 := cell_at (o := 0) M8.out.gs rfl
  have x1 := cell_at (o := 1) M8.out.gs rfl
  have x2 := cell_at (o := 2) M8.out.gs rfl
  go_wp2_with fail
  refine (toAtom x _).mono ?_
  rintro e w9 ⟨rfl, hB⟩
  have M9 := Lib.hid (M8.out.later hB)
  clear hB M8 x0 x1 x2
  go_wp2_with fail
  refine (atomJsonI x _ HT.out).mono ?_
  rintro e w10 ⟨csH, rfl, ho, hB⟩
  have HRH := Lib.hid (OwnJ.rj _ _ _ ho)
  rw [OwnJ_eq] at ho
  obtain ⟨kh, kch, ih, ich, -, -, rfl, -⟩ := ho
  rw [← HAC.out.1.1] at HRH
  rw [← HAC.out.1.1, ← HAC.out.1.2]
  have M10 : Hid (MemE w (w10.alloc (.cells #[.int .i64 A.k, .int .i64 A.n, .string ⟨A.t.toArray⟩, .slice kh A.keys.length kch, .slice ih A.items.length ich] 28)) A (mkT A 1) x [.int .i64 A.k, .int .i64 A.n, .string ⟨A.t.toArray⟩, .slice ka A.keys.length kc, .slice ia A.items.length ic] [.int .i64 A.k, .int .i64 A.n, .string ⟨A.t.toArray⟩, .slice kg A.keys.length kcg, .slice ig A.items.length icg] s1 s2 ∧ RJ (w10.alloc (.cells #[.int .i64 A.k, .int .i64 A.n, .string ⟨A.t.toArray⟩, .slice kh A.keys.length kch, .slice ih A.items.length ich] 28)) (fun _ => True) A [.int .i64 A.k, .int .i64 A.n, .string ⟨A.t.toArray⟩, .slice kh A.keys.length kch, .slice ih A.items.length ich] ∧ (w10.alloc (.cells #[.int .i64 A.k, .int .i64 A.n, .string ⟨A.t.toArray⟩, .slice kh A.keys.length kch, .slice ih A.items.length ich] 28)).heap[w10.heap.size]? = some (.cells #[.int .i64 A.k, .int .i64 A.n, .string ⟨A.t.toArray⟩, .slice kh A.keys.length kch, .slice ih A.items.length ich] 28)) := ⟨(M9.out.later hB).later (one_box w10 _ _).2, (HRH.out.later (one_box w10 _ _).2).any, (one_box w10 _ _).1⟩
  clear hB M9 HRH
  go_upto_region 18 with fail
  obtain ⟨s3, hs3⟩ : ∃ n, n = w10.heap.size := ⟨_, rfl⟩
  rw [← hs3] at M10 ⊢
  obtain ⟨W10, hW10⟩ : ∃ W, W = (w10.alloc (.cells #[.int .i64 A.k, .int .i64 A.n, .string ⟨A.t.toArray⟩, .slice kh A.keys.length kch, .slice ih A.items.length ich] 28)) := ⟨_, rfl⟩
  rw [← hW10] at M10 ⊢
  clear hW10 hs3
  have a0 := cell_at (o := 0) M10.out.1.ga rfl
  have a1 := cell_at (o := 1) M10.out.1.ga rfl
  have a2 := cell_at (o := 2) M10.out.1.ga rfl
  have a3 := cell_at (o := 3) M10.out.1.ga rfl
  have a4 := cell_at (o := 4) M10.out.1.ga rfl
  have h0 := cell_at (o := 0) M10.out.2.2 rfl
  have h1 := cell_at (o := 1) M10.out.2.2 rfl
  have h2 := cell_at (o := 2) M10.out.2.2 rfl
  have h3 := cell_at (o := 3) M10.out.2.2 rfl
  have h4 := cell_at (o := 4) M10.out.2.2 rfl
  go_wp2_with fail
  refine (eqJson A _ _ (fun _ => True) (fun _ => True) _ M10.out.2.1 M10.out.1.ra.any).mono ?_
  rintro e w11 ⟨rfl, hB⟩
  have M11 := Lib.hid (M10.out.1.later hB)
  clear hB M10 a0 a1 a2 a3 a4 h0 h1 h2 h3 h4
  have g0 := cell_at (o := 0) M11.out.gg rfl
  have g1 := cell_at (o := 1) M11.out.gg rfl
  have g2 := cell_at (o := 2) M11.out.gg rfl
  have g3 := cell_at (o := 3) M11.out.gg rfl
  have g4 := cell_at (o := 4) M11.out.gg rfl
  go_wp2_with fail
  refine (HD.out _ _ (OwnJ.rj _ _ _ M11.out.og)).mono ?_
  rintro e w12 ⟨rfl, hB⟩
  have M12 := Lib.hid (M11.out.later hB)
  clear hB M11 g0 g1 g2 g3 g4
  go_wp2_with fail
  go_ret
  exact ⟨rfl, M12.out.bel⟩
end Go.Proofs.Ytkncpfhblciplaa
