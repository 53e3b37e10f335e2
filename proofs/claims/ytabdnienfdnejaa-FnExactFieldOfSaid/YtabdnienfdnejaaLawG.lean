import Derived.Test.YtabdnienfdnejaaLawF
namespace Go.Proofs.Ytabdnienfdnejaa
open Go.RowKit
set_option linter.unusedSimpArgs false
theorem neq_self (c : Int) : (c != c) = false := by simp
set_option maxRecDepth 100000 in
set_option maxHeartbeats 6400000 in
theorem lawField (j : J) (cs : List Value) (name : ByteArray) (w : World) (hn : name.size ≤ maxLen) (hr : RJ w (· < w.heap.size) j cs) :
    Calls Try.prog 3 #[.agg cs.toArray, .string name] w fun e w' => e = .returned (.bool true) ∧ Below w.heap.size w w' := by
  have HN : Hid (name.size ≤ maxLen) := hn
  unfold maxLen at hn
  have HJ : Hid (RJ w (· < w.heap.size) j cs) := hr
  rw [RJ_eq] at hr
  obtain ⟨ka, kc, ia, ic, rfl, -⟩ := hr
  have hB0 : Below w.heap.size w (w.alloc (.cells #[.int .i64 j.k, .int .i64 j.n, .string ⟨j.t.toArray⟩, .slice ka j.keys.length kc, .slice ia j.items.length ic] 25)) := (Below.refl _ _).alloc (Nat.le_refl _) _
  have G0 : Hid ((w.alloc (.cells #[.int .i64 j.k, .int .i64 j.n, .string ⟨j.t.toArray⟩, .slice ka j.keys.length kc, .slice ia j.items.length ic] 25)).heap[w.heap.size]? = _) := heap_new w _
  by_cases hlong : 1048576 < name.size
  · have hl : decide (1048576 < (name.size : Int)) = true := by simp; omega
    go_enter Try.func3, Try.ntmps3
    go_wp2_with fail
    go_ret
    exact ⟨rfl, hB0⟩
  have hl : decide (1048576 < (name.size : Int)) = false := by simp; omega
  have HB0 : Hid (Below w.heap.size w _) := hB0
  clear hlong hB0
  go_enter Try.func3, Try.ntmps3
  go_wp2_with fail
  refine (szJson j _ 1048576 w.heap.size _ (by omega) (by omega) (by simp) (HJ.out.below HB0.out)).mono ?_
  rintro e w2 ⟨rfl, hB2⟩
  have g2 := heap_kept2 G0.out hB2
  have hb2 : Below w.heap.size w w2 := HB0.out.trans (hB2.mono (by simp))
  clear hB2 HB0 G0
  by_cases hz : (1048576 : Int) - (j.sz : Int) < 0
  · rw [less_no hz]
    clear g2
    go_wp2_with fail
    go_ret
    exact ⟨rfl, hb2⟩
  rw [less_yes (by omega)]
  have hsz : j.sz ≤ 1048576 := by omega
  have x0 := cell_at (o := 0) g2 rfl
  have x1 := cell_at (o := 1) g2 rfl
  have x2 := cell_at (o := 2) g2 rfl
  have x3 := cell_at (o := 3) g2 rfl
  have x4 := cell_at (o := 4) g2 rfl
  have G2 : Hid (w2.heap[w.heap.size]? = _) := g2
  have HB2 : Hid (Below w.heap.size w w2) := hb2
  clear g2 hb2
  go_wp2_with fail
  refine (toJson j _ w.heap.size _ HB2.out.size hsz (HJ.out.below HB2.out)).mono ?_
  rintro e w3 ⟨cs1, rfl, hJ1, hB3⟩
  have G3 : Hid (w3.heap[w.heap.size]? = _) := heap_kept2 G2.out hB3
  have HB3 : Hid (Below w.heap.size w w3) := HB2.out.trans (hB3.mono HB2.out.size)
  have HJ1 : Hid (RJ w3 _ j cs1) := hJ1
  clear x0 x1 x2 x3 x4 hB3 G2 HB2 hJ1
  go_wp2_with fail
  refine (fieldS j cs1 name _ _ hsz HN.out HJ1.out).mono ?_
  rintro e w4 ⟨csA, rfl, hRA, hB4⟩
  have HA : Hid ((fieldA j name.toList (decide (65536 < name.size))).1.sz ≤ 1048576) := field_sz _ _ hsz
  obtain ⟨A, hA⟩ : ∃ A, (fieldA j name.toList (decide (65536 < name.size))).1 = A := ⟨_, rfl⟩
  obtain ⟨c, hc⟩ : ∃ c, (fieldA j name.toList (decide (65536 < name.size))).2 = c := ⟨_, rfl⟩
  have HFA : Hid ((fieldA j name.toList (decide (65536 < name.size))).1 = A ∧ (fieldA j name.toList (decide (65536 < name.size))).2 = c) := ⟨hA, hc⟩
  rw [hA] at hRA HA
  rw [hc]
  clear hA hc
  obtain ⟨kA, kcA, iA, icA, rfl⟩ := hRA.cells
  have g4 : w4.heap[w.heap.size]? = _ := heap_kept2 G3.out hB4
  have hb4 : Below w.heap.size w w4 := HB3.out.trans (hB4.mono HB3.out.size)
  have lt4 := (Array.getElem?_eq_some_iff.1 g4).1
  have HRA : Hid (RJ w4 (· < w4.heap.size) A _) := RJ.same (fun _ _ => rfl) (fun b hb => hb.2) _ _ hRA
  have G4 : Hid (w4.heap[w.heap.size]? = _) := g4
  have HB4 : Hid (Below w.heap.size w w4) := hb4
  clear hRA g4 hb4 hB4 G3 HB3 HJ1
  obtain ⟨w5, hw5⟩ : ∃ w5, w5 = w4.alloc (.cells #[.int .i64 A.k, .int .i64 A.n, .string ⟨A.t.toArray⟩, .slice kA A.keys.length kcA, .slice iA A.items.length icA] 29) := ⟨_, rfl⟩
  have G5 : Hid (w5.heap[w.heap.size]? = some (.cells #[.int .i64 j.k, .int .i64 j.n, .string ⟨j.t.toArray⟩, .slice ka j.keys.length kc, .slice ia j.items.length ic] 25)) := by show w5.heap[w.heap.size]? = _; rw [hw5]; exact heap_alloc_kept G4.out
  have F5 : Hid (w5.heap[w4.heap.size]? = some (.cells #[.int .i64 A.k, .int .i64 A.n, .string ⟨A.t.toArray⟩, .slice kA A.keys.length kcA, .slice iA A.items.length icA] 29)) := by show w5.heap[w4.heap.size]? = _; rw [hw5]; exact heap_new _ _
  have hs5 : w5.heap.size = w4.heap.size + 1 := by rw [hw5]; simp
  have h45 : Below w4.heap.size w4 w5 := by rw [hw5]; exact (Below.refl _ _).alloc (Nat.le_refl _) _
  have HB5 : Hid (Below w.heap.size w w5) := HB4.out.trans (h45.mono HB4.out.size)
  have HRA5 : Hid (RJ w5 (· < w4.heap.size) A _) := HRA.out.later h45
  have x0 := cell_at (o := 0) G5.out rfl
  have x1 := cell_at (o := 1) G5.out rfl
  have x2 := cell_at (o := 2) G5.out rfl
  have x3 := cell_at (o := 3) G5.out rfl
  have x4 := cell_at (o := 4) G5.out rfl
  clear h45 G4 HB4 HRA
  go_upto_region 8 with fail
  rw [← hw5]
  clear hw5
  go_wp2_with fail
  refine (toJsonO j _ w.heap.size _ HB5.out.size hsz (HJ.out.below HB5.out)).mono ?_
  rintro e w6 ⟨csX, rfl, hOX, hB6⟩
  obtain ⟨kX, kcX, iX, icX, rfl⟩ := hOX.cells
  have G6 : Hid (w6.heap[w.heap.size]? = _) := heap_kept2 G5.out hB6
  have F6 : Hid (w6.heap[w4.heap.size]? = _) := heap_kept2 F5.out hB6
  have HB6 : Hid (Below w.heap.size w w6) := HB5.out.trans (hB6.mono HB5.out.size)
  have HRA6 : Hid (RJ w6 (· < w4.heap.size) A _) := HRA5.out.later hB6
  have HOX : Hid (OwnJ w6 j (fun b => w4.heap.size < b ∧ b < w6.heap.size) _) := OwnJ.same _ _ _ _ (fun _ _ => rfl) (fun b hb => ⟨by have := hb.1; omega, hb.2⟩) hOX
  have hs6 := hB6.size
  clear x0 x1 x2 x3 x4 hOX hB6 G5 F5 HB5 HRA5
  obtain ⟨w7, hw7⟩ : ∃ w7, w7 = w6.alloc (.cells #[.int .i64 j.k, .int .i64 j.n, .string ⟨j.t.toArray⟩, .slice kX j.keys.length kcX, .slice iX j.items.length icX] 29) := ⟨_, rfl⟩
  have h67 : Below w6.heap.size w6 w7 := by rw [hw7]; exact (Below.refl _ _).alloc (Nat.le_refl _) _
  have hs7 : w7.heap.size = w6.heap.size + 1 := by rw [hw7]; simp
  have E7 : Hid (w7.heap[w6.heap.size]? = some (.cells #[.int .i64 j.k, .int .i64 j.n, .string ⟨j.t.toArray⟩, .slice kX j.keys.length kcX, .slice iX j.items.length icX] 29)) := by show w7.heap[w6.heap.size]? = _; rw [hw7]; exact heap_new _ _
  have G7 : Hid (w7.heap[w.heap.size]? = _) := heap_kept2 G6.out h67
  have F7 : Hid (w7.heap[w4.heap.size]? = _) := heap_kept2 F6.out h67
  have HB7 : Hid (Below w.heap.size w w7) := HB6.out.trans (h67.mono HB6.out.size)
  have HRA7 : Hid (RJ w7 (· < w4.heap.size) A _) := HRA6.out.later h67
  have HOX7 : Hid (OwnJ w7 j (fun b => w4.heap.size < b ∧ b < w6.heap.size) _) := OwnJ.same _ _ _ _ (fun b hb => h67.block b hb.2) (fun _ h => h) HOX.out
  have x0 := cell_at (o := 0) E7.out rfl
  have x1 := cell_at (o := 1) E7.out rfl
  have x2 := cell_at (o := 2) E7.out rfl
  have x3 := cell_at (o := 3) E7.out rfl
  have x4 := cell_at (o := 4) E7.out rfl
  clear h67 G6 F6 HB6 HRA6 HOX
  go_upto_region 9 with fail
  rw [← hw7]
  clear hw7
  go_wp2_with fail
  refine (fieldI j _ name _ _ hsz HN.out (OwnJ.rj _ _ _ HOX7.out)).mono ?_
  rintro e w8 ⟨csG, rfl, hOG, hB8⟩
  rw [HFA.out.1] at hOG
  rw [HFA.out.2]
  obtain ⟨kG, kcG, iG, icG, rfl⟩ := hOG.cells
  have hs8 := hB8.size
  obtain ⟨w9, hw9⟩ : ∃ w9, w9 = w8.alloc (.cells #[.int .i64 A.k, .int .i64 A.n, .string ⟨A.t.toArray⟩, .slice kG A.keys.length kcG, .slice iG A.items.length icG] 29) := ⟨_, rfl⟩
  have h89 : Below w8.heap.size w8 w9 := by rw [hw9]; exact (Below.refl _ _).alloc (Nat.le_refl _) _
  have h79 : Below w7.heap.size w7 w9 := hB8.trans (h89.mono hB8.size)
  have M9 : Hid (Mem w w9 j A j A w4.heap.size w6.heap.size w8.heap.size _ _ _ _) := ⟨HJ.out, HB7.out.trans (h79.mono HB7.out.size), heap_kept2 G7.out h79, heap_kept2 F7.out h79, heap_kept2 E7.out h79, by rw [hw9]; exact heap_new _ _, HRA7.out.later h79,
    OwnJ.same _ _ _ _ (fun b hb => h79.block b (by omega)) (fun _ h => h) HOX7.out, OwnJ.same _ _ _ _ (fun b hb => h89.block b hb.2) (fun b hb => ⟨by have := hb.1; omega, hb.2⟩) hOG, ⟨lt4, by omega, by omega⟩⟩
  clear hB8 h89 h79 hOG HB7 G7 F7 E7 HRA7 HOX7 x0 x1 x2 x3 x4
  have hnx := neq_self c
  go_upto_region 10 with fail
  rw [← hw9]
  clear hw9
  generalize w4.heap.size = a0 at *
  generalize w6.heap.size = x0 at *
  generalize w8.heap.size = g0 at *
  clear hs5 hs6 hs7 hs8 lt4
  have y0 := cell_at (o := 0) M9.out.gg rfl
  have y1 := cell_at (o := 1) M9.out.gg rfl
  have y2 := cell_at (o := 2) M9.out.gg rfl
  have y3 := cell_at (o := 3) M9.out.gg rfl
  have y4 := cell_at (o := 4) M9.out.gg rfl
  have z0 := cell_at (o := 0) M9.out.ga rfl
  have z1 := cell_at (o := 1) M9.out.ga rfl
  have z2 := cell_at (o := 2) M9.out.ga rfl
  have z3 := cell_at (o := 3) M9.out.ga rfl
  have z4 := cell_at (o := 4) M9.out.ga rfl
  go_wp2_with fail
  refine (eqJson A _ _ (fun _ => True) (fun _ => True) _ (OwnJ.rj _ _ _ M9.out.og).any M9.out.ra.any).mono ?_
  rintro e w10 ⟨rfl, hB10⟩
  have M10 : Hid (Mem w w10 j A j A a0 x0 g0 _ _ _ _) := M9.out.later hB10
  clear hB10 M9
  clear y0 y1 y2 y3 y4 z0 z1 z2 z3 z4
  go_upto_region 12 with fail
  go_cut [52] from 48 to 52 (fun s wx => s = .bool false ∧ Hid (Mem w wx j A j A a0 x0 g0 [.int .i64 j.k, .int .i64 j.n, .string ⟨j.t.toArray⟩, .slice ka j.keys.length kc, .slice ia j.items.length ic] [.int .i64 A.k, .int .i64 A.n, .string ⟨A.t.toArray⟩, .slice kA A.keys.length kcA, .slice iA A.items.length icA]
    [.int .i64 j.k, .int .i64 j.n, .string ⟨j.t.toArray⟩, .slice kX j.keys.length kcX, .slice iX j.items.length icX] [.int .i64 A.k, .int .i64 A.n, .string ⟨A.t.toArray⟩, .slice kG A.keys.length kcG, .slice iG A.items.length icG]))
  case first =>
    have y0 := cell_at (o := 0) M10.out.gx rfl
    have y1 := cell_at (o := 1) M10.out.gx rfl
    have y2 := cell_at (o := 2) M10.out.gx rfl
    have y3 := cell_at (o := 3) M10.out.gx rfl
    have y4 := cell_at (o := 4) M10.out.gx rfl
    have z0 := cell_at (o := 0) M10.out.gs rfl
    have z1 := cell_at (o := 1) M10.out.gs rfl
    have z2 := cell_at (o := 2) M10.out.gs rfl
    have z3 := cell_at (o := 3) M10.out.gs rfl
    have z4 := cell_at (o := 4) M10.out.gs rfl
    have MD : Hid (Mem w w10.drew j A j A a0 x0 g0 _ _ _ _) := M10.out.later (Below.refl _ _).drew
    go_region_with (first
      | (go_at_call 6; refine (toJson j _ w.heap.size _ ?_ hsz ?_).mono ?_; exact MD.out.bel.size; exact MD.out.now; rintro e w11 ⟨cs3, rfl, hJ3, hB11⟩; have MM : Hid (Mem w w11 j A j A a0 x0 g0 _ _ _ _) := MD.out.later hB11; have u0 := cell_at (o := 0) MM.out.gx rfl; have u1 := cell_at (o := 1) MM.out.gx rfl; have u2 := cell_at (o := 2) MM.out.gx rfl; have u3 := cell_at (o := 3) MM.out.gx rfl; have u4 := cell_at (o := 4) MM.out.gx rfl; clear hB11)
      | (go_at_call 8; refine (eqJson j _ _ (fun _ => True) (fun _ => True) _ ?_ ?_).mono ?_; exact (OwnJ.rj _ _ _ MM.out.ox).any; exact hJ3.any; rintro e w12 ⟨rfl, hB12⟩))
    all_goals
      have HM : Hid (Mem w w12 j A j A a0 x0 g0 _ _ _ _) := MM.out.later hB12
      clear hJ3 hB12 u0 u1 u2 u3 u4 y0 y1 y2 y3 y4 z0 z1 z2 z3 z4
      go_wp2_with fail
      go_meet
      exact ⟨rfl, HM.out⟩
  case rest =>
    obtain ⟨rfl, M12⟩ := hcut
    clear M10
    have hmx := mnT_lt hsz
    have hma := mnT_lt HA.out
    have y0 := cell_at (o := 0) M12.out.gx rfl
    have y1 := cell_at (o := 1) M12.out.gx rfl
    have y2 := cell_at (o := 2) M12.out.gx rfl
    have y3 := cell_at (o := 3) M12.out.gx rfl
    have y4 := cell_at (o := 4) M12.out.gx rfl
    go_wp2_with fail
    refine (markJson j _ 1 _ _ (by omega) hmx (fun b hb => by have := M12.out.len; have := M12.out.ord; omega) M12.out.ox).mono ?_
    rintro e w13 ⟨rfl, hO13, hF13⟩
    have M13 : Hid (Mem w w13 j A _ A a0 x0 g0 _ _ _ _) := M12.out.markx hF13 hO13
    clear hO13 hF13 M12
    clear y0 y1 y2 y3 y4
    generalize 1 + mnT j = kk at *
    have hkk : decide ((kk : Int) < 0) = false := by simp
    have y0 := cell_at (o := 0) M13.out.gg rfl
    have y1 := cell_at (o := 1) M13.out.gg rfl
    have y2 := cell_at (o := 2) M13.out.gg rfl
    have y3 := cell_at (o := 3) M13.out.gg rfl
    have y4 := cell_at (o := 4) M13.out.gg rfl
    have z0 := cell_at (o := 0) M13.out.ga rfl
    have z1 := cell_at (o := 1) M13.out.ga rfl
    have z2 := cell_at (o := 2) M13.out.ga rfl
    have z3 := cell_at (o := 3) M13.out.ga rfl
    have z4 := cell_at (o := 4) M13.out.ga rfl
    go_wp2_with fail
    refine (eqJson A _ _ (fun _ => True) (fun _ => True) _ (OwnJ.rj _ _ _ M13.out.og).any M13.out.ra.any).mono ?_
    rintro e w14 ⟨rfl, hB14⟩
    have M14 : Hid (Mem w w14 j A _ A a0 x0 g0 _ _ _ _) := M13.out.later hB14
    clear hB14 M13
    clear y0 y1 y2 y3 y4 z0 z1 z2 z3 z4
    have y0 := cell_at (o := 0) M14.out.gg rfl
    have y1 := cell_at (o := 1) M14.out.gg rfl
    have y2 := cell_at (o := 2) M14.out.gg rfl
    have y3 := cell_at (o := 3) M14.out.gg rfl
    have y4 := cell_at (o := 4) M14.out.gg rfl
    go_wp2_with fail
    refine (markJson A _ 1 _ _ (by omega) hma (fun b hb => by have := M14.out.len; have := M14.out.ord; omega) M14.out.og).mono ?_
    rintro e w15 ⟨rfl, hO15, hF15⟩
    have M15 : Hid (Mem w w15 j A _ (mkT A 1) a0 x0 g0 _ _ _ _) := M14.out.markg hF15 hO15
    clear hO15 hF15 M14
    have HMA : Hid (1 + mnT A < 1000000000000) := hma
    clear hma
    obtain ⟨ka2, hka2⟩ : ∃ k, 1 + mnT A = k := ⟨_, rfl⟩
    have HK2 : Hid (1 + mnT A = ka2) := hka2
    rw [hka2]
    clear hka2
    have hkk2 : decide ((ka2 : Int) < 0) = false := by simp
    have hkn := neq_self (ka2 : Int)
    clear y0 y1 y2 y3 y4
    have y0 := cell_at (o := 0) M15.out.gg rfl
    have y1 := cell_at (o := 1) M15.out.gg rfl
    have y2 := cell_at (o := 2) M15.out.gg rfl
    have y3 := cell_at (o := 3) M15.out.gg rfl
    have y4 := cell_at (o := 4) M15.out.gg rfl
    go_wp2_with fail
    refine (heldJson A _ 1 _ _ (by omega) HMA.out (OwnJ.rj _ _ _ M15.out.og)).mono ?_
    rintro e w16 ⟨rfl, hB16⟩
    have M16 : Hid (Mem w w16 j A _ (mkT A 1) a0 x0 g0 _ _ _ _) := M15.out.later hB16
    clear hB16 M15
    clear y0 y1 y2 y3 y4
    rw [HK2.out]
    have y0 := cell_at (o := 0) M16.out.gs rfl
    have y1 := cell_at (o := 1) M16.out.gs rfl
    have y2 := cell_at (o := 2) M16.out.gs rfl
    have y3 := cell_at (o := 3) M16.out.gs rfl
    have y4 := cell_at (o := 4) M16.out.gs rfl
    go_wp2_with fail
    refine (toJson j _ w.heap.size _ M16.out.bel.size hsz M16.out.now).mono ?_
    rintro e w17 ⟨cs4, rfl, hJ4, hB17⟩
    have M17 : Hid (Mem w w17 j A _ (mkT A 1) a0 x0 g0 _ _ _ _) := M16.out.later hB17
    have HJ4 : Hid (RJ w17 _ j cs4) := hJ4
    clear hB17 M16 hJ4
    clear y0 y1 y2 y3 y4
    go_wp2_with fail
    refine (fieldI j _ name _ _ hsz HN.out HJ4.out).mono ?_
    rintro e w18 ⟨csH, rfl, hOH, hB18⟩
    rw [HFA.out.1] at hOH
    rw [HFA.out.2]
    obtain ⟨kH, kcH, iH, icH, rfl⟩ := hOH.cells
    obtain ⟨w19, hw19⟩ : ∃ w19, w19 = w18.alloc (.cells #[.int .i64 A.k, .int .i64 A.n, .string ⟨A.t.toArray⟩, .slice kH A.keys.length kcH, .slice iH A.items.length icH] 29) := ⟨_, rfl⟩
    have h1819 : Below w18.heap.size w18 w19 := by rw [hw19]; exact (Below.refl _ _).alloc (Nat.le_refl _) _
    have M19 : Hid (Mem w w19 j A _ (mkT A 1) a0 x0 g0 _ _ _ _) := (M17.out.later hB18).later h1819
    have HH : Hid (RJ w19 _ A _) := (OwnJ.rj _ _ _ hOH).later h1819
    have hg19 : w19.heap[w18.heap.size]? = some (.cells #[.int .i64 A.k, .int .i64 A.n, .string ⟨A.t.toArray⟩, .slice kH A.keys.length kcH, .slice iH A.items.length icH] 29) := by rw [hw19]; exact heap_new _ _
    have y0 := cell_at (o := 0) hg19 rfl
    have y1 := cell_at (o := 1) hg19 rfl
    have y2 := cell_at (o := 2) hg19 rfl
    have y3 := cell_at (o := 3) hg19 rfl
    have y4 := cell_at (o := 4) hg19 rfl
    have z0 := cell_at (o := 0) M19.out.ga rfl
    have z1 := cell_at (o := 1) M19.out.ga rfl
    have z2 := cell_at (o := 2) M19.out.ga rfl
    have z3 := cell_at (o := 3) M19.out.ga rfl
    have z4 := cell_at (o := 4) M19.out.ga rfl
    clear hg19 h1819 hOH hB18 M17 HJ4
    go_upto_region 27 with fail
    rw [← hw19]
    clear hw19
    generalize w18.heap.size = h0 at *
    go_wp2_with fail
    refine (eqJson A _ _ (fun _ => True) (fun _ => True) _ HH.out.any M19.out.ra.any).mono ?_
    rintro e w20 ⟨rfl, hB20⟩
    have M20 : Hid (Mem w w20 j A _ (mkT A 1) a0 x0 g0 _ _ _ _) := M19.out.later hB20
    clear hB20 M19
    clear y0 y1 y2 y3 y4 z0 z1 z2 z3 z4
    have y0 := cell_at (o := 0) M20.out.gg rfl
    have y1 := cell_at (o := 1) M20.out.gg rfl
    have y2 := cell_at (o := 2) M20.out.gg rfl
    have y3 := cell_at (o := 3) M20.out.gg rfl
    have y4 := cell_at (o := 4) M20.out.gg rfl
    go_wp2_with fail
    refine (heldJson A _ 1 _ _ (by omega) HMA.out (OwnJ.rj _ _ _ M20.out.og)).mono ?_
    rintro e w21 ⟨rfl, hB21⟩
    rw [HK2.out]
    have HB : Hid (Below w.heap.size w w21) := (M20.out.later hB21).bel
    clear hB21 M20
    clear y0 y1 y2 y3 y4
    go_wp2_with fail
    go_ret
    exact ⟨rfl, HB.out⟩
end Go.Proofs.Ytabdnienfdnejaa
