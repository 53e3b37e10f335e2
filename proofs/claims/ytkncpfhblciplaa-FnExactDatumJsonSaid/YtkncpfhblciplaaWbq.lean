import Derived.Test.YtkncpfhblciplaaWbp
namespace Go.Proofs.Ytkncpfhblciplaa
open Go.RowKit
set_option linter.unusedSimpArgs false
theorem fin_own {j : J} {w W : World} {r : Nat} {u0 u1 u2 u3 u4 : Value} (hB : Below w.heap.size w W) (hr : w.heap.size ≤ r) (ho : OwnJ W j (fun b => r < b ∧ b < W.heap.size) [u0, u1, u2, u3, u4]) : OwnJ (fiveAt W r u0 u1 u2 u3 u4) j (fun b => w.heap.size ≤ b ∧ b < (fiveAt W r u0 u1 u2 u3 u4).heap.size) [u0, u1, u2, u3, u4] ∧ Below w.heap.size w (fiveAt W r u0 u1 u2 u3 u4) :=
  ⟨OwnJ.same _ _ _ _ (fun b hb => fiveAt_heap _ _ _ _ _ _ _ _ (by omega)) (fun b hb => ⟨by omega, by rw [fiveAt_size]; exact hb.2⟩) ho, fiveAt_below hB hr _ _ _ _ _⟩
theorem JoE.fin {j : J} {w W : World} {r : Nat} {u0 u1 u2 u3 u4 : Value} (hB : Below w.heap.size w W) (hr : w.heap.size ≤ r) (ho : OwnJ W j (fun b => r < b ∧ b < W.heap.size) [u0, u1, u2, u3, u4]) : JoE j w (.returned (.agg #[u0, u1, u2, u3, u4])) (fiveAt W r u0 u1 u2 u3 u4) :=
  ⟨[u0, u1, u2, u3, u4], rfl, (fin_own hB hr ho).1, (fin_own hB hr ho).2⟩
set_option maxRecDepth 100000 in
set_option maxHeartbeats 12800000 in
theorem atomJI (x : At) (w : World) (ht : x.t.length ≤ maxLen) : Calls Try.prog 81 #[.agg #[.int .i64 x.k, .int .i64 x.n, .string ⟨x.t.toArray⟩]] w (JoE (ajJ x) w) := by
  have HT := Lib.hid ht
  have H0 := Lib.hid (ArB.first w #[.int .i64 x.k, .int .i64 x.n, .string ⟨x.t.toArray⟩] #[.int .i64 0, .int .i64 0, .string ⟨#[]⟩, .slice none 0 0, .slice none 0 0])
  clear ht
  go_enter Try.func81, Try.ntmps81
  go_upto_region 1 with fail
  obtain ⟨W0, hW0⟩ : ∃ W, W = ((w.alloc (.cells #[.int .i64 x.k, .int .i64 x.n, .string ⟨x.t.toArray⟩] 31)).alloc (.cells #[.int .i64 0, .int .i64 0, .string ⟨#[]⟩, .slice none 0 0, .slice none 0 0] 28)) := ⟨_, rfl⟩
  rw [← hW0] at H0 ⊢
  clear hW0
  have x0 := cell_at (o := 0) H0.out.ba rfl
  have x1 := cell_at (o := 1) H0.out.ba rfl
  have x2 := cell_at (o := 2) H0.out.ba rfl
  have g0 := cell_at (o := 0) H0.out.br rfl
  have y0 := frozen_at 0 H0.out.br
  have g1 := cell_at (o := 1) H0.out.br rfl
  have y1 := frozen_at 1 H0.out.br
  have g2 := cell_at (o := 2) H0.out.br rfl
  have y2 := frozen_at 2 H0.out.br
  have g3 := cell_at (o := 3) H0.out.br rfl
  have y3 := frozen_at 3 H0.out.br
  have g4 := cell_at (o := 4) H0.out.br rfl
  have y4 := frozen_at 4 H0.out.br
  by_cases h1 : x.k = 1
  case pos =>
    have e1 : (x.k == 1) = true := by rw [h1]; rfl
    have e2 : (x.k == 2) = false := by rw [h1]; rfl
    have e3 : (x.k == 3) = false := by rw [h1]; rfl
    have HA := Lib.hid (ajJ1 h1)
    clear h1
    go_wp2_with fail
    refine (jsonOfI x.n _).mono ?_
    rintro e w1 ⟨cs1, rfl, ho, hB⟩
    obtain ⟨k9, kc9, i9, ic9, rfl⟩ := (OwnJ.rj _ _ _ ho).cells
    have H1 := Lib.hid (H0.out.later hB)
    have HO : Hid (OwnJ w1 (flJ 2 x.n []) (fun b => w.heap.size + 1 < b ∧ b < w1.heap.size) _) := OwnJ.same _ _ _ _ (fun _ _ => rfl) (fun b hb => ⟨by have h1 := (Array.getElem?_eq_some_iff.1 H0.out.br).1; have := hb.1; omega, hb.2⟩) ho
    clear ho hB x0 x1 x2 g0 y0 g1 y1 g2 y2 g3 y3 g4 y4
    have x0 := cell_at (o := 0) H1.out.ba rfl
    have x1 := cell_at (o := 1) H1.out.ba rfl
    have x2 := cell_at (o := 2) H1.out.ba rfl
    have g0 := cell_at (o := 0) H1.out.br rfl
    have y0 := frozen_at 0 H1.out.br
    have g1 := cell_at (o := 1) H1.out.br rfl
    have y1 := frozen_at 1 H1.out.br
    have g2 := cell_at (o := 2) H1.out.br rfl
    have y2 := frozen_at 2 H1.out.br
    have g3 := cell_at (o := 3) H1.out.br rfl
    have y3 := frozen_at 3 H1.out.br
    have g4 := cell_at (o := 4) H1.out.br rfl
    have y4 := frozen_at 4 H1.out.br
    obtain ⟨j, hj⟩ : ∃ j, j = flJ 2 x.n [] := ⟨_, rfl⟩
    have HJ : Hid (ajJ x = j) := HA.out.trans hj.symm
    rw [← hj] at HO ⊢
    clear hj
    go_wp2_with fail
    exact bodyPost_ret (v := .agg #[.int .i64 j.k, .int .i64 j.n, .string ⟨j.t.toArray⟩, .slice k9 j.keys.length kc9, .slice i9 j.items.length ic9]) (by simp [results, Try.results81, go_sem, g0, g1, g2, g3, g4]) rfl (by rw [HJ.out]; exact JoE.fin H1.out.bel (by omega) HO.out)
  by_cases h2 : x.k = 2
  case pos =>
    have e1 : (x.k == 1) = false := by rw [h2]; rfl
    have e2 : (x.k == 2) = true := by rw [h2]; rfl
    have e3 : (x.k == 3) = false := by rw [h2]; rfl
    have HA := Lib.hid (ajJ2 h2)
    clear h2
    go_wp2_with fail
    refine (jsonOfT x.t HT.out _).mono ?_
    rintro e w1 ⟨cs1, rfl, ho, hB⟩
    obtain ⟨k9, kc9, i9, ic9, rfl⟩ := (OwnJ.rj _ _ _ ho).cells
    have H1 := Lib.hid (H0.out.later hB)
    have HO : Hid (OwnJ w1 (flJ 3 0 x.t) (fun b => w.heap.size + 1 < b ∧ b < w1.heap.size) _) := OwnJ.same _ _ _ _ (fun _ _ => rfl) (fun b hb => ⟨by have h1 := (Array.getElem?_eq_some_iff.1 H0.out.br).1; have := hb.1; omega, hb.2⟩) ho
    clear ho hB x0 x1 x2 g0 y0 g1 y1 g2 y2 g3 y3 g4 y4
    have x0 := cell_at (o := 0) H1.out.ba rfl
    have x1 := cell_at (o := 1) H1.out.ba rfl
    have x2 := cell_at (o := 2) H1.out.ba rfl
    have g0 := cell_at (o := 0) H1.out.br rfl
    have y0 := frozen_at 0 H1.out.br
    have g1 := cell_at (o := 1) H1.out.br rfl
    have y1 := frozen_at 1 H1.out.br
    have g2 := cell_at (o := 2) H1.out.br rfl
    have y2 := frozen_at 2 H1.out.br
    have g3 := cell_at (o := 3) H1.out.br rfl
    have y3 := frozen_at 3 H1.out.br
    have g4 := cell_at (o := 4) H1.out.br rfl
    have y4 := frozen_at 4 H1.out.br
    obtain ⟨j, hj⟩ : ∃ j, j = flJ 3 0 x.t := ⟨_, rfl⟩
    have HJ : Hid (ajJ x = j) := HA.out.trans hj.symm
    rw [← hj] at HO ⊢
    clear hj
    go_wp2_with fail
    exact bodyPost_ret (v := .agg #[.int .i64 j.k, .int .i64 j.n, .string ⟨j.t.toArray⟩, .slice k9 j.keys.length kc9, .slice i9 j.items.length ic9]) (by simp [results, Try.results81, go_sem, g0, g1, g2, g3, g4]) rfl (by rw [HJ.out]; exact JoE.fin H1.out.bel (by omega) HO.out)
  by_cases h3 : x.k = 3
  case pos =>
    have e1 : (x.k == 1) = false := by rw [h3]; rfl
    have e2 : (x.k == 2) = false := by rw [h3]; rfl
    have e3 : (x.k == 3) = true := by rw [h3]; rfl
    have HA : Hid (ajJ x = flJ 1 (if (x.n == 1) = true then 1 else 0) []) := by show _ = _; rw [ajJ3 h3]; by_cases h : x.n = 1 <;> simp [h]
    clear h3
    go_wp2_with fail
    refine (jsonOfB (x.n == 1) _).mono ?_
    rintro e w1 ⟨cs1, rfl, ho, hB⟩
    obtain ⟨k9, kc9, i9, ic9, rfl⟩ := (OwnJ.rj _ _ _ ho).cells
    have H1 := Lib.hid (H0.out.later hB)
    have HO : Hid (OwnJ w1 (flJ 1 (if (x.n == 1) = true then 1 else 0) []) (fun b => w.heap.size + 1 < b ∧ b < w1.heap.size) _) := OwnJ.same _ _ _ _ (fun _ _ => rfl) (fun b hb => ⟨by have h1 := (Array.getElem?_eq_some_iff.1 H0.out.br).1; have := hb.1; omega, hb.2⟩) ho
    clear ho hB x0 x1 x2 g0 y0 g1 y1 g2 y2 g3 y3 g4 y4
    have x0 := cell_at (o := 0) H1.out.ba rfl
    have x1 := cell_at (o := 1) H1.out.ba rfl
    have x2 := cell_at (o := 2) H1.out.ba rfl
    have g0 := cell_at (o := 0) H1.out.br rfl
    have y0 := frozen_at 0 H1.out.br
    have g1 := cell_at (o := 1) H1.out.br rfl
    have y1 := frozen_at 1 H1.out.br
    have g2 := cell_at (o := 2) H1.out.br rfl
    have y2 := frozen_at 2 H1.out.br
    have g3 := cell_at (o := 3) H1.out.br rfl
    have y3 := frozen_at 3 H1.out.br
    have g4 := cell_at (o := 4) H1.out.br rfl
    have y4 := frozen_at 4 H1.out.br
    obtain ⟨j, hj⟩ : ∃ j, j = flJ 1 (if (x.n == 1) = true then 1 else 0) [] := ⟨_, rfl⟩
    have HJ : Hid (ajJ x = j) := HA.out.trans hj.symm
    rw [← hj] at HO ⊢
    clear hj
    go_wp2_with fail
    exact bodyPost_ret (v := .agg #[.int .i64 j.k, .int .i64 j.n, .string ⟨j.t.toArray⟩, .slice k9 j.keys.length kc9, .slice i9 j.items.length ic9]) (by simp [results, Try.results81, go_sem, g0, g1, g2, g3, g4]) rfl (by rw [HJ.out]; exact JoE.fin H1.out.bel (by omega) HO.out)
  have e1 : (x.k == 1) = false := by simpa using h1
  have e2 : (x.k == 2) = false := by simpa using h2
  have e3 : (x.k == 3) = false := by simpa using h3
  have HA := Lib.hid (ajJ4 h1 h2 h3)
  clear h1 h2 h3
  have HP : Hid (ArB w (W0.alloc (.cells #[.iface 9 (.string ⟨#[117, 117, 105, 100]⟩), .iface 3 (.int .i64 x.n)] 20)) #[.int .i64 x.k, .int .i64 x.n, .string ⟨x.t.toArray⟩] #[.int .i64 0, .int .i64 0, .string ⟨#[]⟩, .slice none 0 0, .slice none 0 0]) := H0.out.later (one_box W0 _ _).2
  have HC : Hid (Calls Try.prog 101 #[.slice (some ⟨W0.heap.size, 0, none⟩) 2 2] (W0.alloc (.cells #[.iface 9 (.string ⟨#[117, 117, 105, 100]⟩), .iface 3 (.int .i64 x.n)] 20)) (JoE ⟨4, 0, [], [], [flJ 3 0 uuidW, flJ 2 x.n []]⟩ (W0.alloc (.cells #[.iface 9 (.string ⟨#[117, 117, 105, 100]⟩), .iface 3 (.int .i64 x.n)] 20)))) := listOfAny [flJ 3 0 uuidW, flJ 2 x.n []] W0.heap.size 2 _ (by simp) (fun i hi => by
    match i, hi with
    | 0, _ => exact ⟨_, cell_at (o := 0) (one_box W0 _ _).1 rfl, fun W _ => jsonOfT uuidW (by simp [uuidW, maxLen]) W⟩
    | 1, _ => exact ⟨_, cell_at (o := 1) (one_box W0 _ _).1 rfl, fun W _ => jsonOfI x.n W⟩)
  go_wp2_with fail
  refine (HC.out).mono ?_
  rintro e w1 ⟨cs1, rfl, ho, hB⟩
  obtain ⟨k9, kc9, i9, ic9, rfl⟩ := (OwnJ.rj _ _ _ ho).cells
  have H1 := Lib.hid (HP.out.later hB)
  have HO : Hid (OwnJ w1 ((⟨4, 0, [], [], [flJ 3 0 uuidW, flJ 2 x.n []]⟩ : J)) (fun b => w.heap.size + 1 < b ∧ b < w1.heap.size) _) := OwnJ.same _ _ _ _ (fun _ _ => rfl) (fun b hb => ⟨by have h1 := (Array.getElem?_eq_some_iff.1 HP.out.br).1; have := hb.1; omega, hb.2⟩) ho
  clear ho hB x0 x1 x2 g0 y0 g1 y1 g2 y2 g3 y3 g4 y4
  have x0 := cell_at (o := 0) H1.out.ba rfl
  have x1 := cell_at (o := 1) H1.out.ba rfl
  have x2 := cell_at (o := 2) H1.out.ba rfl
  have g0 := cell_at (o := 0) H1.out.br rfl
  have y0 := frozen_at 0 H1.out.br
  have g1 := cell_at (o := 1) H1.out.br rfl
  have y1 := frozen_at 1 H1.out.br
  have g2 := cell_at (o := 2) H1.out.br rfl
  have y2 := frozen_at 2 H1.out.br
  have g3 := cell_at (o := 3) H1.out.br rfl
  have y3 := frozen_at 3 H1.out.br
  have g4 := cell_at (o := 4) H1.out.br rfl
  have y4 := frozen_at 4 H1.out.br
  obtain ⟨j, hj⟩ : ∃ j, j = (⟨4, 0, [], [], [flJ 3 0 uuidW, flJ 2 x.n []]⟩ : J) := ⟨_, rfl⟩
  have HJ : Hid (ajJ x = j) := HA.out.trans hj.symm
  rw [← hj] at HO ⊢
  clear hj
  go_wp2_with fail
  exact bodyPost_ret (v := .agg #[.int .i64 j.k, .int .i64 j.n, .string ⟨j.t.toArray⟩, .slice k9 j.keys.length kc9, .slice i9 j.items.length ic9]) (by simp [results, Try.results81, go_sem, g0, g1, g2, g3, g4]) rfl (by rw [HJ.out]; exact JoE.fin H1.out.bel (by omega) HO.out)
set_option maxRecDepth 100000 in
set_option maxHeartbeats 12800000 in
theorem jsonOfA (x : At) (w : World) (ht : x.t.length ≤ maxLen) : Calls Try.prog 43 #[.iface 31 (.agg #[.int .i64 x.k, .int .i64 x.n, .string ⟨x.t.toArray⟩])] w (JoE (ajJ x) w) := by
  have HT := Lib.hid ht
  clear ht
  have hb := Lib.hid (one_box w #[.int .i64 0, .int .i64 0, .string ⟨#[]⟩, .slice none 0 0, .slice none 0 0] 28)
  go_enter Try.func43, Try.ntmps43
  go_upto_region 1 with fail
  obtain ⟨W0, hW0⟩ : ∃ W, W = w.alloc (.cells #[.int .i64 0, .int .i64 0, .string ⟨#[]⟩, .slice none 0 0, .slice none 0 0] 28) := ⟨_, rfl⟩
  rw [← hW0] at hb ⊢
  clear hW0
  have ta0 := jaAB (.agg #[.int .i64 x.k, .int .i64 x.n, .string ⟨x.t.toArray⟩]) W0
  have ta1 := jaAI (.agg #[.int .i64 x.k, .int .i64 x.n, .string ⟨x.t.toArray⟩]) W0
  have ta2 := jaAT (.agg #[.int .i64 x.k, .int .i64 x.n, .string ⟨x.t.toArray⟩]) W0
  have ta3 := jaAA (.agg #[.int .i64 x.k, .int .i64 x.n, .string ⟨x.t.toArray⟩]) W0
  go_upto_region 13 with fail
  have HW : Hid (Below w.heap.size w (W0.alloc (.cells #[.int .i64 x.k, .int .i64 x.n, .string ⟨x.t.toArray⟩] 31)) ∧ (W0.alloc (.cells #[.int .i64 x.k, .int .i64 x.n, .string ⟨x.t.toArray⟩] 31)).heap[w.heap.size]? = some (.cells #[.int .i64 0, .int .i64 0, .string ⟨#[]⟩, .slice none 0 0, .slice none 0 0] 28) ∧ (W0.alloc (.cells #[.int .i64 x.k, .int .i64 x.n, .string ⟨x.t.toArray⟩] 31)).heap[W0.heap.size]? = some (.cells #[.int .i64 x.k, .int .i64 x.n, .string ⟨x.t.toArray⟩] 31)) := ⟨hb.out.2.trans ((one_box W0 _ _).2.mono hb.out.2.size), heap_kept2 hb.out.1 (one_box W0 _ _).2, (one_box W0 _ _).1⟩
  obtain ⟨q1, hq1⟩ : ∃ n, n = W0.heap.size := ⟨_, rfl⟩
  rw [← hq1] at HW ⊢
  obtain ⟨W1, hW1⟩ : ∃ W, W = W0.alloc (.cells #[.int .i64 x.k, .int .i64 x.n, .string ⟨x.t.toArray⟩] 31) := ⟨_, rfl⟩
  rw [← hW1] at HW ⊢
  clear hW1 hq1 hb ta0 ta1 ta2 ta3
  have z0 := cell_at (o := 0) HW.out.2.2 rfl
  have z1 := cell_at (o := 1) HW.out.2.2 rfl
  have z2 := cell_at (o := 2) HW.out.2.2 rfl
  go_wp2_with fail
  refine (atomJI x _ HT.out).mono ?_
  rintro e w2 ⟨cs1, rfl, ho, hB⟩
  obtain ⟨k9, kc9, i9, ic9, rfl⟩ := (OwnJ.rj _ _ _ ho).cells
  have HO : Hid (OwnJ w2 (ajJ x) (fun b => w.heap.size < b ∧ b < w2.heap.size) _) := OwnJ.same _ _ _ _ (fun _ _ => rfl) (fun b hb => ⟨by have h1 := (Array.getElem?_eq_some_iff.1 HW.out.2.1).1; have := hb.1; omega, hb.2⟩) ho
  have H2 : Hid (Below w.heap.size w w2 ∧ w2.heap[w.heap.size]? = some (.cells #[.int .i64 0, .int .i64 0, .string ⟨#[]⟩, .slice none 0 0, .slice none 0 0] 28)) := ⟨HW.out.1.trans (hB.mono HW.out.1.size), heap_kept2 HW.out.2.1 hB⟩
  clear ho hB HW z0 z1 z2
  have g0 := cell_at (o := 0) H2.out.2 rfl
  have y0 := frozen_at 0 H2.out.2
  have g1 := cell_at (o := 1) H2.out.2 rfl
  have y1 := frozen_at 1 H2.out.2
  have g2 := cell_at (o := 2) H2.out.2 rfl
  have y2 := frozen_at 2 H2.out.2
  have g3 := cell_at (o := 3) H2.out.2 rfl
  have y3 := frozen_at 3 H2.out.2
  have g4 := cell_at (o := 4) H2.out.2 rfl
  have y4 := frozen_at 4 H2.out.2
  generalize ajJ x = j at *
  go_wp2_with fail
  exact bodyPost_ret (v := .agg #[.int .i64 j.k, .int .i64 j.n, .string ⟨j.t.toArray⟩, .slice k9 j.keys.length kc9, .slice i9 j.items.length ic9]) (by simp [results, Try.results43, go_sem, g0, g1, g2, g3, g4]) rfl (JoE.fin H2.out.1 (Nat.le_refl _) HO.out)
end Go.Proofs.Ytkncpfhblciplaa
