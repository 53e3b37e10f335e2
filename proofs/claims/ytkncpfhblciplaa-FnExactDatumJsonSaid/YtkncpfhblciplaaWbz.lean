import Derived.Test.YtkncpfhblciplaaWbx
import Derived.Test.YtkncpfhblciplaaWbq
import Derived.Test.YtkncpfhblciplaaWby
import Derived.Test.YtkncpfhblciplaaWbl
namespace Go.Proofs.Ytkncpfhblciplaa
open Go.RowKit
set_option linter.unusedSimpArgs false
structure MemF (w W : World) (l X : List At) (A G : J) (pa px : Option Addr) (csA csG : List Value) (s1 s2 s3 : Nat) : Prop where
  arg : Ats w (· < w.heap.size) pa l
  bel : Below w.heap.size w W
  ra : RJ W (· < s1) A csA
  ga : W.heap[s1]? = some (.cells csA.toArray 28)
  ox : OwnAts W (fun b => s1 < b ∧ b < s2) px X
  og : OwnJ W G (fun b => s2 ≤ b ∧ b < s3) csG
  gg : W.heap[s3]? = some (.cells csG.toArray 28)
  ord : w.heap.size ≤ s1 ∧ s1 < s2 ∧ s2 ≤ s3
variable {w W W' : World} {l X : List At} {A G : J} {pa px : Option Addr} {csA csG : List Value} {s1 s2 s3 : Nat}
theorem MemF.now (h : MemF w W l X A G pa px csA csG s1 s2 s3) : Ats W (· < w.heap.size) pa l := h.arg.below h.bel
theorem MemF.later (h : MemF w W l X A G pa px csA csG s1 s2 s3) (hB : Below W.heap.size W W') : MemF w W' l X A G pa px csA csG s1 s2 s3 := by
  have ho := h.ord
  have hl := (Array.getElem?_eq_some_iff.1 h.gg).1
  exact ⟨h.arg, h.bel.trans (hB.mono h.bel.size), RJ.same (fun b hb => hB.block b (by omega)) (fun _ h => h) _ _ h.ra, heap_kept2 h.ga hB, h.ox.same (fun b hb => hB.block b (by omega)) (fun _ h => h), OwnJ.same _ _ _ _ (fun b hb => hB.block b (by omega)) (fun _ h => h) h.og, heap_kept2 h.gg hB, ho⟩
theorem MemF.markx {X' : List At} (h : MemF w W l X A G pa px csA csG s1 s2 s3) (hF : Frm (fun b => s1 < b ∧ b < s2) W W') (hX : OwnAts W' (fun b => s1 < b ∧ b < s2) px X') : MemF w W' l X' A G pa px csA csG s1 s2 s3 := by
  have ho := h.ord
  have hl := (Array.getElem?_eq_some_iff.1 h.gg).1
  exact ⟨h.arg, h.bel.trans (hF.below h.bel.size (fun b hb => by omega)), RJ.same (fun b hb => hF.block b (by omega) (by omega)) (fun _ h => h) _ _ h.ra, (hF.block _ (by omega) (by omega)).trans h.ga, hX, OwnJ.same _ _ _ _ (fun b hb => hF.block b (by omega) (by omega)) (fun _ h => h) h.og, (hF.block _ (by omega) (by omega)).trans h.gg, ho⟩
theorem MemF.markg {G' : J} (h : MemF w W l X A G pa px csA csG s1 s2 s3) (hF : Frm (fun b => s2 ≤ b ∧ b < s3) W W') (hG : OwnJ W' G' (fun b => s2 ≤ b ∧ b < s3) csG) : MemF w W' l X A G' pa px csA csG s1 s2 s3 := by
  have ho := h.ord
  have hl := (Array.getElem?_eq_some_iff.1 h.gg).1
  exact ⟨h.arg, h.bel.trans (hF.below h.bel.size (fun b hb => by omega)), RJ.same (fun b hb => hF.block b (by omega) (by omega)) (fun _ h => h) _ _ h.ra, (hF.block _ (by omega) (by omega)).trans h.ga, h.ox.same (fun b hb => hF.block b (by omega) (by omega)) (fun _ h => h), hG, (hF.block _ (by omega) (by omega)).trans h.gg, ho⟩
set_option maxRecDepth 100000 in
set_option maxHeartbeats 12800000 in
theorem lawDatumJson (l : List At) (pa : Option Addr) (ca : Nat) (w : World) (hl : l.length ≤ maxLen) (hx : ∀ x ∈ l, x.t.length ≤ maxLen) (hA : Ats w (· < w.heap.size) pa l) :
    Calls Try.prog 5 #[.slice pa l.length ca] w fun e w' => e = .returned (.bool true) ∧ Below w.heap.size w w' := by
  have HA : Hid (Ats w (· < w.heap.size) pa l) := hA
  have HX : Hid (∀ x ∈ l, x.t.length ≤ maxLen) := hx
  have HL : Hid (l.length ≤ maxLen) := hl
  clear hA hx hl
  go_enter Try.func5, Try.ntmps5
  go_wp2_with fail
  refine (szAtoms l pa ca 1048576 w.heap.size w (by omega) (by omega) HL.out HX.out (Nat.le_refl _) HA.out).mono ?_
  rintro e w1 ⟨rfl, hB1⟩
  by_cases hz : (1048576 : Int) - (szA l : Int) < 0
  · rw [less_no hz]
    go_wp2_with fail
    go_ret
    exact ⟨rfl, hB1⟩
  rw [less_yes (by omega)]
  have hza : l.length ≤ 1048576 := by unfold szA at hz; omega
  obtain ⟨L, hL⟩ : ∃ L : Int, L = 1048576 - (szA l : Int) := ⟨_, rfl⟩
  rw [← hL]
  have hl0 : decide (L < 0) = false := by simp; omega
  have HZ : Hid (l.length ≤ 1048576) := hza
  have HB1 : Hid (Below w.heap.size w w1) := hB1
  clear hL hz hza hB1
  go_wp2_with fail
  refine (toAtoms l pa ca w.heap.size w1 HB1.out.size HZ.out (HA.out.below HB1.out)).mono ?_
  rintro e w2 ⟨rfl, ho2, hB2⟩
  have H2 : Hid (OwnAts w2 (fun b => w1.heap.size ≤ b ∧ b < w2.heap.size) (some ⟨w1.heap.size, 0, none⟩) l ∧ Below w.heap.size w w2) := ⟨ho2, HB1.out.trans (hB2.mono HB1.out.size)⟩
  clear ho2 hB2 HB1
  generalize w1.heap.size = q1 at *
  go_wp2_with fail
  refine (datumJsonS l (some ⟨q1, 0, none⟩) l.length w2.heap.size w2 HL.out HX.out (Nat.le_refl _) (H2.out.1.ats.same (fun _ _ => rfl) (fun b hb => hb.2))).mono ?_
  rintro e w3 ⟨csA, rfl, hr, hB⟩
  have HRA := Lib.hid hr
  rw [RJ_eq] at hr
  obtain ⟨ka, kc, ia, ic, rfl, -⟩ := hr
  obtain ⟨A, hA⟩ : ∃ A, A = (djR l).1 := ⟨_, rfl⟩
  obtain ⟨cc, hcc⟩ : ∃ c, c = (djR l).2 := ⟨_, rfl⟩
  have HAC : Hid ((A = (djR l).1 ∧ cc = (djR l).2) ∧ A.sz ≤ 1048576) := ⟨⟨hA, hcc⟩, by rw [hA]; exact djR_sz l⟩
  rw [← hA] at HRA
  rw [← hA, ← hcc]
  clear hA hcc
  have h3 : Below w.heap.size w w3 := H2.out.2.trans (hB.mono H2.out.2.size)
  have HA3 : Hid (Below w.heap.size w (w3.alloc (.cells #[.int .i64 A.k, .int .i64 A.n, .string ⟨A.t.toArray⟩, .slice ka A.keys.length kc, .slice ia A.items.length ic] 28)) ∧ RJ (w3.alloc (.cells #[.int .i64 A.k, .int .i64 A.n, .string ⟨A.t.toArray⟩, .slice ka A.keys.length kc, .slice ia A.items.length ic] 28)) (· < w3.heap.size) A [.int .i64 A.k, .int .i64 A.n, .string ⟨A.t.toArray⟩, .slice ka A.keys.length kc, .slice ia A.items.length ic] ∧ (w3.alloc (.cells #[.int .i64 A.k, .int .i64 A.n, .string ⟨A.t.toArray⟩, .slice ka A.keys.length kc, .slice ia A.items.length ic] 28)).heap[w3.heap.size]? = some (.cells #[.int .i64 A.k, .int .i64 A.n, .string ⟨A.t.toArray⟩, .slice ka A.keys.length kc, .slice ia A.items.length ic] 28) ∧ w.heap.size ≤ w3.heap.size) := ⟨h3.trans ((one_box w3 _ _).2.mono h3.size), RJ.same (fun b hb => (one_box w3 _ _).2.block b hb.2) (fun b hb => hb.2) _ _ HRA.out, (one_box w3 _ _).1, h3.size⟩
  clear h3 hB H2 HRA
  go_upto_region 6 with fail
  obtain ⟨s1, hs1⟩ : ∃ n, n = w3.heap.size := ⟨_, rfl⟩
  rw [← hs1] at HA3 ⊢
  obtain ⟨W3, hW3⟩ : ∃ W, W = (w3.alloc (.cells #[.int .i64 A.k, .int .i64 A.n, .string ⟨A.t.toArray⟩, .slice ka A.keys.length kc, .slice ia A.items.length ic] 28)) := ⟨_, rfl⟩
  rw [← hW3] at HA3 ⊢
  clear hW3 hs1
  go_wp2_with fail
  refine (toAtoms l pa ca w.heap.size W3 HA3.out.1.size HZ.out (HA.out.below HA3.out.1)).mono ?_
  rintro e w4 ⟨rfl, ho4, hB4⟩
  have H4 : Hid (Below W3.heap.size W3 w4 ∧ OwnAts w4 (fun b => s1 < b ∧ b < w4.heap.size) (some ⟨W3.heap.size, 0, none⟩) l) := ⟨hB4, ho4.same (fun _ _ => rfl) (fun b hb => ⟨by have h1 := (Array.getElem?_eq_some_iff.1 HA3.out.2.2.1).1; have := hb.1; omega, hb.2⟩)⟩
  clear ho4 hB4
  obtain ⟨px, hpx⟩ : ∃ n, n = W3.heap.size := ⟨_, rfl⟩
  have HPX : Hid (px = W3.heap.size) := hpx
  rw [← hpx]
  clear hpx
  go_wp2_with fail
  refine (datumJsonI l (some ⟨px, 0, none⟩) l.length w4.heap.size w4 HL.out HX.out (Nat.le_refl _) (by rw [HPX.out]; exact H4.out.2.ats.same (fun _ _ => rfl) (fun b hb => hb.2))).mono ?_
  rintro e w5 ⟨csG, rfl, ho, hB5⟩
  have HOG := Lib.hid ho
  rw [OwnJ_eq] at ho
  obtain ⟨kg, kcg, ig, icg, -, -, rfl, -⟩ := ho
  rw [← HAC.out.1.1] at HOG
  rw [← HAC.out.1.1, ← HAC.out.1.2]
  have hB45 : Below W3.heap.size W3 w5 := H4.out.1.trans (hB5.mono H4.out.1.size)
  have hB56 : Below w4.heap.size w4 (w5.alloc (.cells #[.int .i64 A.k, .int .i64 A.n, .string ⟨A.t.toArray⟩, .slice kg A.keys.length kcg, .slice ig A.items.length icg] 28)) := hB5.trans ((one_box w5 _ _).2.mono hB5.size)
  have hB6 : Below W3.heap.size W3 (w5.alloc (.cells #[.int .i64 A.k, .int .i64 A.n, .string ⟨A.t.toArray⟩, .slice kg A.keys.length kcg, .slice ig A.items.length icg] 28)) := hB45.trans ((one_box w5 _ _).2.mono hB45.size)
  have M5 : Hid (MemF w (w5.alloc (.cells #[.int .i64 A.k, .int .i64 A.n, .string ⟨A.t.toArray⟩, .slice kg A.keys.length kcg, .slice ig A.items.length icg] 28)) l l A A pa (some ⟨px, 0, none⟩) [.int .i64 A.k, .int .i64 A.n, .string ⟨A.t.toArray⟩, .slice ka A.keys.length kc, .slice ia A.items.length ic] [.int .i64 A.k, .int .i64 A.n, .string ⟨A.t.toArray⟩, .slice kg A.keys.length kcg, .slice ig A.items.length icg] s1 w4.heap.size w5.heap.size) := by
    have h1 := (Array.getElem?_eq_some_iff.1 HA3.out.2.2.1).1
    have h4 := H4.out.1.size; have h5 := hB5.size
    exact ⟨HA.out, HA3.out.1.trans (hB6.mono HA3.out.1.size), RJ.same (fun b hb => hB6.block b (by omega)) (fun _ h => h) _ _ HA3.out.2.1, heap_kept2 HA3.out.2.2.1 hB6, by rw [HPX.out]; exact H4.out.2.same (fun b hb => hB56.block b hb.2) (fun _ h => h), OwnJ.same _ _ _ _ (fun b hb => (one_box w5 _ _).2.block b hb.2) (fun _ h => h) HOG.out, (one_box w5 _ _).1, HA3.out.2.2.2, by omega, h5⟩
  clear hB45 hB56 hB6 hB5 HOG H4 HA3 HPX
  go_upto_region 8 with fail
  obtain ⟨s2, hs2⟩ : ∃ n, n = w4.heap.size := ⟨_, rfl⟩
  rw [← hs2] at M5
  obtain ⟨s3, hs3⟩ : ∃ n, n = w5.heap.size := ⟨_, rfl⟩
  rw [← hs3] at M5 ⊢
  obtain ⟨W5, hW5⟩ : ∃ W, W = (w5.alloc (.cells #[.int .i64 A.k, .int .i64 A.n, .string ⟨A.t.toArray⟩, .slice kg A.keys.length kcg, .slice ig A.items.length icg] 28)) := ⟨_, rfl⟩
  rw [← hW5] at M5 ⊢
  clear hW5 hs2 hs3
  have a0 := cell_at (o := 0) M5.out.ga rfl
  have a1 := cell_at (o := 1) M5.out.ga rfl
  have a2 := cell_at (o := 2) M5.out.ga rfl
  have a3 := cell_at (o := 3) M5.out.ga rfl
  have a4 := cell_at (o := 4) M5.out.ga rfl
  have g0 := cell_at (o := 0) M5.out.gg rfl
  have g1 := cell_at (o := 1) M5.out.gg rfl
  have g2 := cell_at (o := 2) M5.out.gg rfl
  have g3 := cell_at (o := 3) M5.out.gg rfl
  have g4 := cell_at (o := 4) M5.out.gg rfl
  have ncc := neq_selfK cc
  have EQ : Hid (∀ (W : World) (B B2 : Nat → Prop) (cs cs2 : List Value), RJ W B A cs → RJ W B2 A cs2 → Calls Try.prog 12 #[.agg cs.toArray, .agg cs2.toArray] W fun e w' => e = .returned (.bool true) ∧ Below W.heap.size W w') := fun W B B2 cs cs2 h h2 => eqJson A _ _ (fun _ => True) (fun _ => True) _ h.any h2.any
  go_wp2_with fail
  refine (EQ.out _ _ _ _ _ (OwnJ.rj _ _ _ M5.out.og) M5.out.ra).mono ?_
  rintro e w6 ⟨rfl, hB⟩
  have M6 := Lib.hid (M5.out.later hB)
  clear hB M5 a0 a1 a2 a3 a4 g0 g1 g2 g3 g4
  go_wp2_with fail
  refine (toAtoms l pa ca w.heap.size w6 M6.out.bel.size HZ.out M6.out.now).mono ?_
  rintro e w7 ⟨rfl, ho7, hB7⟩
  have M7 := Lib.hid (M6.out.later hB7)
  have O7 := Lib.hid ho7.ats.any
  clear ho7 hB7 M6
  go_wp2_with fail
  refine (eqAtoms l _ _ _ _ (fun _ => True) (fun _ => True) _ HL.out M7.out.ox.ats.any O7.out).mono ?_
  rintro e w8 ⟨rfl, hB8⟩
  have M8 := Lib.hid (M7.out.later hB8)
  clear hB8 M7 O7
  go_wp2_with fail
  refine (markAtoms l _ _ 1 _ _ HL.out (by omega) (by have := HZ.out; omega) M8.out.ox).mono ?_
  rintro e w9 ⟨rfl, ho9, hF9⟩
  have M9 := Lib.hid (M8.out.markx hF9 ho9)
  clear ho9 hF9 M8
  generalize 1 + 3 * l.length = k9 at *
  have d9 : decide ((k9 : Int) < 0) = false := by simp
  have a0 := cell_at (o := 0) M9.out.ga rfl
  have a1 := cell_at (o := 1) M9.out.ga rfl
  have a2 := cell_at (o := 2) M9.out.ga rfl
  have a3 := cell_at (o := 3) M9.out.ga rfl
  have a4 := cell_at (o := 4) M9.out.ga rfl
  have g0 := cell_at (o := 0) M9.out.gg rfl
  have g1 := cell_at (o := 1) M9.out.gg rfl
  have g2 := cell_at (o := 2) M9.out.gg rfl
  have g3 := cell_at (o := 3) M9.out.gg rfl
  have g4 := cell_at (o := 4) M9.out.gg rfl
  have M9D := Lib.hid (M9.out.later (Below.refl _ _).drew)
  go_wp2_with fail
  refine (EQ.out _ _ _ _ _ (OwnJ.rj _ _ _ M9.out.og) M9.out.ra).mono ?_
  rintro e w10 ⟨rfl, hB10⟩
  have M10 := Lib.hid (M9.out.later hB10)
  clear hB10
  clear a0 a1 a2 a3 a4 g0 g1 g2 g3 g4
  have g0 := cell_at (o := 0) M10.out.gg rfl
  have g1 := cell_at (o := 1) M10.out.gg rfl
  have g2 := cell_at (o := 2) M10.out.gg rfl
  have g3 := cell_at (o := 3) M10.out.gg rfl
  have g4 := cell_at (o := 4) M10.out.gg rfl
  go_wp2_with fail
  refine (markJson A _ 1 _ _ (by omega) (mnT_lt HAC.out.2) (fun b hb => by have h1 := (Array.getElem?_eq_some_iff.1 M10.out.gg).1; omega) M10.out.og).mono ?_
  rintro e w11 ⟨rfl, hO, hF⟩
  have M11 := Lib.hid (M10.out.markg hF hO)
  clear hO hF M10 M9D M9 g0 g1 g2 g3 g4
  have HM : Hid (1 + mnT A < 1000000000000) := mnT_lt HAC.out.2
  have HD : Hid (∀ W (B : Nat → Prop), RJ W B (mkT A 1) [.int .i64 A.k, .int .i64 A.n, .string ⟨A.t.toArray⟩, .slice kg A.keys.length kcg, .slice ig A.items.length icg] → Calls Try.prog 14 #[.agg #[.int .i64 A.k, .int .i64 A.n, .string ⟨A.t.toArray⟩, .slice kg A.keys.length kcg, .slice ig A.items.length icg], .int .i64 1] W fun e w' => e = .returned (.int .i64 (1 + mnT A : Nat)) ∧ Below W.heap.size W w') := fun W B h => heldJson A _ 1 B W (by omega) HM.out h
  obtain ⟨kk, hkk⟩ : ∃ k : Nat, k = 1 + mnT A := ⟨_, rfl⟩
  rw [← hkk] at HD ⊢
  clear hkk HM
  have d11 : decide ((kk : Int) < 0) = false := by simp
  have n11 := neq_selfK (kk : Int)
  have g0 := cell_at (o := 0) M11.out.gg rfl
  have g1 := cell_at (o := 1) M11.out.gg rfl
  have g2 := cell_at (o := 2) M11.out.gg rfl
  have g3 := cell_at (o := 3) M11.out.gg rfl
  have g4 := cell_at (o := 4) M11.out.gg rfl
  go_wp2_with fail
  refine (HD.out _ _ (OwnJ.rj _ _ _ M11.out.og)).mono ?_
  rintro e w12 ⟨rfl, hB⟩
  have M12 := Lib.hid (M11.out.later hB)
  clear hB M11 g0 g1 g2 g3 g4
  go_wp2_with fail
  refine (toAtoms l pa ca w.heap.size w12 M12.out.bel.size HZ.out M12.out.now).mono ?_
  rintro e w13 ⟨rfl, ho13, hB13⟩
  have M13 := Lib.hid (M12.out.later hB13)
  have O13 : Hid (Ats w13 (· < w13.heap.size) (some ⟨w12.heap.size, 0, none⟩) l) := ho13.ats.same (fun _ _ => rfl) (fun b hb => hb.2)
  clear ho13 hB13 M12
  generalize w12.heap.size = q12 at *
  go_wp2_with fail
  refine (datumJsonI l (some ⟨q12, 0, none⟩) l.length w13.heap.size w13 HL.out HX.out (Nat.le_refl _) O13.out).mono ?_
  rintro e w14 ⟨csH, rfl, ho, hB⟩
  have HRH := Lib.hid (OwnJ.rj _ _ _ ho)
  rw [OwnJ_eq] at ho
  obtain ⟨kh, kch, ih, ich, -, -, rfl, -⟩ := ho
  rw [← HAC.out.1.1] at HRH
  rw [← HAC.out.1.1, ← HAC.out.1.2]
  have M14 : Hid (MemF w (w14.alloc (.cells #[.int .i64 A.k, .int .i64 A.n, .string ⟨A.t.toArray⟩, .slice kh A.keys.length kch, .slice ih A.items.length ich] 28)) l (marksA l.length 1) A (mkT A 1) pa (some ⟨px, 0, none⟩) [.int .i64 A.k, .int .i64 A.n, .string ⟨A.t.toArray⟩, .slice ka A.keys.length kc, .slice ia A.items.length ic] [.int .i64 A.k, .int .i64 A.n, .string ⟨A.t.toArray⟩, .slice kg A.keys.length kcg, .slice ig A.items.length icg] s1 s2 s3 ∧ RJ (w14.alloc (.cells #[.int .i64 A.k, .int .i64 A.n, .string ⟨A.t.toArray⟩, .slice kh A.keys.length kch, .slice ih A.items.length ich] 28)) (fun _ => True) A [.int .i64 A.k, .int .i64 A.n, .string ⟨A.t.toArray⟩, .slice kh A.keys.length kch, .slice ih A.items.length ich] ∧ (w14.alloc (.cells #[.int .i64 A.k, .int .i64 A.n, .string ⟨A.t.toArray⟩, .slice kh A.keys.length kch, .slice ih A.items.length ich] 28)).heap[w14.heap.size]? = some (.cells #[.int .i64 A.k, .int .i64 A.n, .string ⟨A.t.toArray⟩, .slice kh A.keys.length kch, .slice ih A.items.length ich] 28)) := ⟨(M13.out.later hB).later (one_box w14 _ _).2, (HRH.out.later (one_box w14 _ _).2).any, (one_box w14 _ _).1⟩
  clear hB M13 HRH O13
  go_upto_region 25 with fail
  obtain ⟨s4, hs4⟩ : ∃ n, n = w14.heap.size := ⟨_, rfl⟩
  rw [← hs4] at M14 ⊢
  obtain ⟨W14, hW14⟩ : ∃ W, W = (w14.alloc (.cells #[.int .i64 A.k, .int .i64 A.n, .string ⟨A.t.toArray⟩, .slice kh A.keys.length kch, .slice ih A.items.length ich] 28)) := ⟨_, rfl⟩
  rw [← hW14] at M14 ⊢
  clear hW14 hs4
  have a0 := cell_at (o := 0) M14.out.1.ga rfl
  have a1 := cell_at (o := 1) M14.out.1.ga rfl
  have a2 := cell_at (o := 2) M14.out.1.ga rfl
  have a3 := cell_at (o := 3) M14.out.1.ga rfl
  have a4 := cell_at (o := 4) M14.out.1.ga rfl
  have h0 := cell_at (o := 0) M14.out.2.2 rfl
  have h1 := cell_at (o := 1) M14.out.2.2 rfl
  have h2 := cell_at (o := 2) M14.out.2.2 rfl
  have h3 := cell_at (o := 3) M14.out.2.2 rfl
  have h4 := cell_at (o := 4) M14.out.2.2 rfl
  go_wp2_with fail
  refine (EQ.out _ _ _ _ _ M14.out.2.1 M14.out.1.ra).mono ?_
  rintro e w15 ⟨rfl, hB⟩
  have M15 := Lib.hid (M14.out.1.later hB)
  clear hB M14 a0 a1 a2 a3 a4 h0 h1 h2 h3 h4
  have g0 := cell_at (o := 0) M15.out.gg rfl
  have g1 := cell_at (o := 1) M15.out.gg rfl
  have g2 := cell_at (o := 2) M15.out.gg rfl
  have g3 := cell_at (o := 3) M15.out.gg rfl
  have g4 := cell_at (o := 4) M15.out.gg rfl
  go_wp2_with fail
  refine (HD.out _ _ (OwnJ.rj _ _ _ M15.out.og)).mono ?_
  rintro e w16 ⟨rfl, hB⟩
  have M16 := Lib.hid (M15.out.later hB)
  clear hB M15 g0 g1 g2 g3 g4
  go_wp2_with fail
  go_ret
  exact ⟨rfl, M16.out.bel⟩
end Go.Proofs.Ytkncpfhblciplaa
