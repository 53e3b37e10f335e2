import Derived.Test.YtbaelhehjepepaaCSrc
import Derived.Test.YtbaelhehjepepaaCFt
import Derived.Test.YtbaelhehjepepaaCDf
import Derived.Test.YtbaelhehjepepaaKSr7
import Derived.Test.YtbaelhehjepepaaKSr6
import Derived.Test.YtbaelhehjepepaaKSr4
namespace Go.Proofs.Ytbaelhehjepepaa
open Go.RowKit
set_option linter.unusedSimpArgs false
theorem Ats.upF {W W' : World} {q : Option Addr} {L : List At} (h : Ats W (· < W.heap.size) q L) (hB : Below W.heap.size W W') : Ats W' (· < W'.heap.size) q L := h.same (fun b hb => hB.block b hb) (fun _ hb => Nat.lt_of_lt_of_le hb hB.size)
theorem Byts.upF {w W : World} {q : Option Addr} {l : List UInt8} (h : Byts w (· < w.heap.size) q l) (hB : Below w.heap.size w W) : Byts W (· < w.heap.size) q l := h.same (fun b hb => hB.block b hb) (fun _ h => h)
theorem colB_parts {x : Cl} (h : colB x = true) : nameB x.nm = true ∧ (0 ≤ x.mn ∧ x.mn ≤ 1) ∧ (1 ≤ x.mx ∧ x.mx ≤ 8) ∧ kindB x = true := by
  unfold colB inB at h
  simpa using h
theorem colB_ref {x : Cl} (h : colB x = true) : x.rf.length ≤ 40 := by
  obtain ⟨-, -, -, hk⟩ := colB_parts h
  have hkk := colB_kind h
  rcases (by omega : x.k = 1 ∨ x.k = 4 ∨ (x.k = 2 ∨ x.k = 3)) with k | k | k
  · rw [kind1 k] at hk; simp at hk; simp [hk.2.2.2.1]
  · rw [kind4 k] at hk; simp at hk; exact name_len hk.2.2.2
  · rw [kind23 k] at hk; simp at hk; simp [hk.2.2.1]
theorem datum_one {y : At} (h : atOK y = true) : datumB [y] = true := by
  rw [datumB_yes (fun i hi => by
    obtain rfl : i = 0 := by simpa using hi
    exact step_zero (by simp) h)]
  simp
theorem datum_nil : datumB [] = true := by simp [datumB]
/-- a default fits its column -/
theorem fit_default {x : Cl} (h : colB x = true) : datumB (dfL x) = true ∧ fitC x (dfL x) = 0 := by
  obtain ⟨-, hmn, hmx, hk⟩ := colB_parts h
  have hkk := colB_kind h
  by_cases hm : x.mn = 0
  · have e : dfL x = [] := by unfold dfL; rw [if_pos hm]
    rw [e]
    refine ⟨datum_nil, fit0 (by simp) (by unfold inB; simp; omega) (fun k hk => absurd hk (by simp))⟩
  have e : dfL x = [⟨x.k, dfN x, []⟩] := by unfold dfL; rw [if_neg hm]
  rw [e]
  have h1 : atOK ⟨x.k, dfN x, []⟩ = true ∧ outB x ⟨x.k, dfN x, []⟩ = false := by
    rcases (by omega : x.k = 1 ∨ x.k = 4 ∨ x.k = 2 ∨ x.k = 3) with k | k | k | k
    · rw [kind1 k] at hk
      simp [inB] at hk
      rw [atOK1 k]
      have hd : dfN x = max x.lo (min x.hi 0) := by unfold dfN; rw [if_pos k]
      unfold outB inB
      simp only [hd]
      simp
      omega
    · rw [kind4 k] at hk; simp at hk; omega
    · have hd : dfN x = 0 := by unfold dfN; rw [if_neg (by omega)]
      rw [atOK2 k, hd]
      exact ⟨rfl, by unfold outB; simp; omega⟩
    · have hd : dfN x = 0 := by unfold dfN; rw [if_neg (by omega)]
      rw [atOK3 k, hd]
      exact ⟨rfl, by unfold outB; simp; omega⟩
  refine ⟨datum_one h1.1, fit0 (by simp) (by unfold inB; simp; omega) (fun i hi => ?_)⟩
  obtain rfl : i = 0 := by simpa using hi
  exact h1.2
theorem fit_ok {x : Cl} {l : List At} (h : fitC x l = 0) : x.mn ≤ (l.length : Int) ∧ (l.length : Int) ≤ x.mx := by
  unfold fitC at h
  split at h
  · omega
  · split at h
    · omega
    · rename_i hh
      simpa [inB] using hh
set_option maxHeartbeats 1600000 in
theorem colDrawnS (l : List UInt8) (a : Option Addr) (c S : Nat) (w : World) (hS : S ≤ w.heap.size) (hb : Byts w (· < S) a l) :
    Calls Try.prog 4 #[.slice a l.length c] w fun e w' => ∃ x : Cl, e = .returned (.agg #[.string ⟨x.nm.toArray⟩, .int .i64 x.k, .int .i64 x.mn, .int .i64 x.mx, .int .i64 x.lo, .int .i64 x.hi, .string ⟨x.rf.toArray⟩, .bool x.st]) ∧ colB x = true ∧ Below w.heap.size w w' := by
  have hA : Below w.heap.size w (w.alloc clZero) := (Below.refl _ _).alloc (Nat.le_refl _) _
  have e1 : (w.alloc clZero).heap.size = w.heap.size + 1 := by simp
  have NW := Lib.hid (srcNew (c := c) (w.alloc clZero) (by omega) (hb.same (fun b h => hA.block b (by omega)) (fun _ h => h)))
  rw [e1] at NW
  have HA := Lib.hid hA
  have HZ := Lib.hid (heap_newC w clZero)
  clear hb hS hA e1
  go_enter Try.func4, Try.ntmps4
  go_wp2_with fail
  refine NW.out.mono ?_
  rintro e w1 ⟨s, rfl, hs, hB⟩
  have D1 := Lib.hid (srcColumn hs)
  have HB := Lib.hid hB
  clear hs hB
  go_wp2_with fail
  refine D1.out.mono ?_
  rintro e w2 ⟨x, m', s', rfl, hc, -, -, hF⟩
  have hz : w2.heap[w.heap.size]? = some clZero := by
    have e1 : (w.alloc clZero).heap.size = w.heap.size + 1 := by simp
    have hs := HB.out.size
    rw [hF.block _ (by omega) (by omega), HB.out.block _ (by omega)]
    exact HZ.out
  have HC := Lib.hid hc
  have HE : Hid (Below w.heap.size w w2) := by
    have hs := HB.out.size
    have e1 : (w.alloc clZero).heap.size = w.heap.size + 1 := by simp
    exact HA.out.trans ((HB.out.mono (by omega)).trans (hF.below (by omega) (fun b hb => by omega)))
  have r0 := cell_at (o := 0) hz rfl
  have r1 := cell_at (o := 1) hz rfl
  have r2 := cell_at (o := 2) hz rfl
  have r3 := cell_at (o := 3) hz rfl
  have r4 := cell_at (o := 4) hz rfl
  have r5 := cell_at (o := 5) hz rfl
  have r6 := cell_at (o := 6) hz rfl
  have r7 := cell_at (o := 7) hz rfl
  have g0 := frozen_at 0 hz
  have g1 := frozen_at 1 hz
  have g2 := frozen_at 2 hz
  have g3 := frozen_at 3 hz
  have g4 := frozen_at 4 hz
  have g5 := frozen_at 5 hz
  have g6 := frozen_at 6 hz
  have g7 := frozen_at 7 hz
  clear hc hF hz HB HA HZ D1 NW
  go_wp2_with fail
  refine bodyPost_ret (v := .agg #[.string ⟨x.nm.toArray⟩, .int .i64 x.k, .int .i64 x.mn, .int .i64 x.mx, .int .i64 x.lo, .int .i64 x.hi, .string ⟨x.rf.toArray⟩, .bool x.st]) (by simp [results, Try.results4, go_sem, *]) rfl ?_
  exact ⟨x, rfl, HC.out, (((((((HE.out.setCell (Nat.le_refl _) _).setCell (Nat.le_refl _) _).setCell (Nat.le_refl _) _).setCell (Nat.le_refl _) _).setCell (Nat.le_refl _) _).setCell (Nat.le_refl _) _).setCell (Nat.le_refl _) _).setCell (Nat.le_refl _) _⟩
/-- an answer: a list in memory and the code 0 -/
def LAns (W : World) (L : List At) (e : Ending) (w' : World) : Prop := ∃ q cp, e = .returned (.tuple #[.slice q L.length cp, .int .i64 0]) ∧ Ats w' (· < w'.heap.size) q L ∧ Below W.heap.size W w'
theorem DAns2.two {W w' : World} {L : List At} {e : Ending} (h : DAns2 W L 0 e w') : LAns W L e w' := by
  obtain ⟨q, cp, e, ho, hb⟩ := h
  exact ⟨q, cp, e, ho.ats.same (fun _ _ => rfl) (fun _ hb => hb.2), hb⟩
set_option maxRecDepth 100000 in
set_option maxHeartbeats 6400000 in
theorem lawFnFits (l1 l2 : List UInt8) (pa pb : Option Addr) (ca cb : Nat) (w : World) (h1 : Byts w (· < w.heap.size) pa l1) (h2 : Byts w (· < w.heap.size) pb l2) :
    Calls Try.prog 3 #[.slice pa l1.length ca, .slice pb l2.length cb] w fun e w' => e = .returned (.bool true) ∧ Below w.heap.size w w' := by
  by_cases g1 : 1048576 < l1.length
  · have d1 : decide (1048576 < (l1.length : Int)) = true := decide_eq_true (by omega)
    have d2 : decide (1048576 < l1.length) = true := decide_eq_true g1
    go_enter Try.func3, Try.ntmps3
    go_wp2_with fail
    go_ret
    exact ⟨rfl, Below.refl _ _⟩
  have d1 : decide (1048576 < (l1.length : Int)) = false := decide_eq_false (by omega)
  have d2 : decide (1048576 < l1.length) = false := decide_eq_false g1
  by_cases g2 : 1048576 < l2.length
  · have d3 : decide (1048576 < (l2.length : Int)) = true := decide_eq_true (by omega)
    have d4 : decide (1048576 < l2.length) = true := decide_eq_true g2
    go_enter Try.func3, Try.ntmps3
    go_wp2_with fail
    go_ret
    exact ⟨rfl, Below.refl _ _⟩
  have d3 : decide (1048576 < (l2.length : Int)) = false := decide_eq_false (by omega)
  have d4 : decide (1048576 < l2.length) = false := decide_eq_false g2
  have CD := Lib.hid (colDrawnS l1 pa ca w.heap.size w (Nat.le_refl _) h1)
  have AT : Hid (∀ W, Below w.heap.size w W → Calls Try.prog 9 #[.slice pb l2.length cb, .int .i64 0, .int .i64 4] W fun e W' => ∃ k : Nat, e = .returned (.int .i64 (k : Int)) ∧ k < 4 ∧ Below W.heap.size W W') := fun W h => atS l2 pb cb 4 _ W (h2.upF h) (by omega) (by omega) (by omega)
  have DB : Hid (∀ W k, Below w.heap.size w W → 1 ≤ k → k ≤ 4 → Calls Try.prog 8 #[.slice pb l2.length cb, .int .i64 ((k : Nat) : Int)] W (DatumAns W k)) := fun W k h hk1 hk4 => drawnS l2 pb cb k w.heap.size W h.size (h2.upF h) hk1 hk4
  clear h1 h2 g1 g2
  go_enter Try.func3, Try.ntmps3
  go_wp2_with fail
  refine CD.out.mono ?_
  rintro e w1 ⟨x, rfl, hc, hB1⟩
  have HC := Lib.hid hc
  have HB1 := Lib.hid hB1
  have HX1 := Lib.hid (boxC 24 w1 x)
  have hln : x.nm.length ≤ maxLen ∧ x.rf.length ≤ maxLen := by
    have := name_len (colB_parts hc).1
    have := colB_ref hc
    unfold maxLen; omega
  have hdR : dfR x = dfL x := by unfold dfR; rw [if_pos hc]
  have hdC : dfC x = 0 := by unfold dfC; rw [if_pos hc]
  obtain ⟨hd1, hd2⟩ := fit_default hc
  have hdl : (dfL x).length ≤ 1 := by rw [← hdR]; exact dfR_len x
  have DI : Hid (∀ W, Calls Try.prog 5 #[.agg #[.string ⟨x.nm.toArray⟩, .int .i64 x.k, .int .i64 x.mn, .int .i64 x.mx, .int .i64 x.lo, .int .i64 x.hi, .string ⟨x.rf.toArray⟩, .bool x.st]] W (LAns W (dfL x))) := fun W => (defaultOfI x W hln.1 hln.2).mono (fun e w' h => by rw [hdR, hdC] at h; exact h.two)
  have DS : Hid (∀ W, Calls Try.prog 6 #[.agg #[.string ⟨x.nm.toArray⟩, .int .i64 x.k, .int .i64 x.mn, .int .i64 x.mx, .int .i64 x.lo, .int .i64 x.hi, .string ⟨x.rf.toArray⟩, .bool x.st]] W (LAns W (dfL x))) := fun W => (defaultOfS x W hln.1 hln.2).mono (fun e w' h => by rw [hdR, hdC] at h; exact h.two)
  have hdt : ∀ y ∈ dfL x, y.t.length ≤ maxLen := by
    intro y hy
    unfold dfL at hy
    split at hy
    · exact absurd hy List.not_mem_nil
    · simp only [List.mem_singleton] at hy
      subst hy
      unfold maxLen
      simp
  have FD : Hid (∀ W q cp, Ats W (· < W.heap.size) q (dfL x) → Calls Try.prog 7 #[.agg #[.string ⟨x.nm.toArray⟩, .int .i64 x.k, .int .i64 x.mn, .int .i64 x.mx, .int .i64 x.lo, .int .i64 x.hi, .string ⟨x.rf.toArray⟩, .bool x.st], .slice q (dfL x).length cp] W fun e w' => e = .returned (.tuple #[.int .i64 0, .int .i64 0]) ∧ Below W.heap.size W w') := fun W q cp h =>
    (fitsFI x (dfL x) q cp W.heap.size W hln.1 hln.2 (by unfold maxLen; omega) hdt (Nat.le_refl _) h).mono (fun e w' ⟨he, hB⟩ => ⟨by
      have a1 : ftR x (dfL x) = 0 := by unfold ftR; rw [if_neg (by omega), if_pos ⟨hc, hd1⟩, hd2]
      have a2 : ftC x (dfL x) = 0 := by unfold ftC; rw [if_neg (by omega), if_pos ⟨hc, hd1⟩]
      rw [he, a1, a2], hB⟩)
  have SD : Hid (∀ W q q' c c', Ats W (· < W.heap.size) q (dfL x) → Ats W (· < W.heap.size) q' (dfL x) → Calls Try.prog 11 #[.slice q (dfL x).length c, .slice q' (dfL x).length c'] W fun e w' => e = .returned (.bool true) ∧ Below W.heap.size W w') := fun W q q' c c' h h' => sameDatumS _ q q' c c' _ _ W (by omega) h h'
  have FX : Hid (∀ (L : List At) k, Drn k L → L.length ≤ 4 → ∀ W q cp, Ats W (· < W.heap.size) q L → Calls Try.prog 7 #[.agg #[.string ⟨x.nm.toArray⟩, .int .i64 x.k, .int .i64 x.mn, .int .i64 x.mx, .int .i64 x.lo, .int .i64 x.hi, .string ⟨x.rf.toArray⟩, .bool x.st], .slice q L.length cp] W fun e w' => e = .returned (.tuple #[.int .i64 (fitC x L), .int .i64 0]) ∧ Below W.heap.size W w') := fun L k hL hl W q cp h =>
    (fitsFI x L q cp W.heap.size W hln.1 hln.2 (by unfold maxLen; omega) hL.text (Nat.le_refl _) h).mono (fun e w' ⟨he, hB⟩ => ⟨by
      have a1 : ftR x L = fitC x L := by unfold ftR; rw [if_neg (by omega), if_pos ⟨hc, hL.datum (by omega)⟩]
      have a2 : ftC x L = 0 := by unfold ftC; rw [if_neg (by omega), if_pos ⟨hc, hL.datum (by omega)⟩]
      rw [he, a1, a2], hB⟩)
  have FY : Hid (∀ (L : List At) k, Drn k L → L.length ≤ 4 → ∀ W q cp, Ats W (· < W.heap.size) q L → Calls Try.prog 10 #[.agg #[.string ⟨x.nm.toArray⟩, .int .i64 x.k, .int .i64 x.mn, .int .i64 x.mx, .int .i64 x.lo, .int .i64 x.hi, .string ⟨x.rf.toArray⟩, .bool x.st], .slice q L.length cp] W fun e w' => e = .returned (.tuple #[.int .i64 (fitC x L), .int .i64 0]) ∧ Below W.heap.size W w') := fun L k hL hl W q cp h =>
    (fitsFS x L q cp W.heap.size W hln.1 hln.2 (by unfold maxLen; omega) hL.text (Nat.le_refl _) h).mono (fun e w' ⟨he, hB⟩ => ⟨by
      have a1 : ftR x L = fitC x L := by unfold ftR; rw [if_neg (by omega), if_pos ⟨hc, hL.datum (by omega)⟩]
      have a2 : ftC x L = 0 := by unfold ftC; rw [if_neg (by omega), if_pos ⟨hc, hL.datum (by omega)⟩]
      rw [he, a1, a2], hB⟩)
  have CO : Hid (∀ W, Calls Try.prog 12 #[.agg #[.string ⟨x.nm.toArray⟩, .int .i64 x.k, .int .i64 x.mn, .int .i64 x.mx, .int .i64 x.lo, .int .i64 x.hi, .string ⟨x.rf.toArray⟩, .bool x.st]] W fun e w' => e = .returned (.bool true) ∧ Below W.heap.size W w') := fun W => (columnOKi x W hln.1 hln.2).mono (fun e w' ⟨he, hB⟩ => ⟨by rw [he, hc], hB⟩)
  clear hc hB1 hdR hdC hd1 hd2 hdl hdt hln CD
  generalize dfL x = D at *
  go_wp2_with fail
  refine (DI.out _).mono ?_
  rintro e w2 ⟨qd, cd, rfl, hA2, hB2⟩
  have M2 : Hid (BoxC 24 w1 w2 x ∧ Ats w2 (· < w2.heap.size) qd D) := ⟨HX1.out.later hB2, hA2⟩
  clear hA2 hB2 HX1
  have x0 := cell_at (o := 0) M2.out.1.1 rfl
  have x1 := cell_at (o := 1) M2.out.1.1 rfl
  have x2 := cell_at (o := 2) M2.out.1.1 rfl
  have x3 := cell_at (o := 3) M2.out.1.1 rfl
  have x4 := cell_at (o := 4) M2.out.1.1 rfl
  have x5 := cell_at (o := 5) M2.out.1.1 rfl
  have x6 := cell_at (o := 6) M2.out.1.1 rfl
  have x7 := cell_at (o := 7) M2.out.1.1 rfl
  go_wp2_with fail
  refine (DS.out _).mono ?_
  rintro e w3 ⟨qw, cw, rfl, hA3, hB3⟩
  have M3 : Hid (BoxC 24 w1 w3 x ∧ Ats w3 (· < w3.heap.size) qd D ∧ Ats w3 (· < w3.heap.size) qw D) := ⟨M2.out.1.later hB3, M2.out.2.upF hB3, hA3⟩
  clear hA3 hB3 M2 x0 x1 x2 x3 x4 x5 x6 x7
  have x0 := cell_at (o := 0) M3.out.1.1 rfl
  have x1 := cell_at (o := 1) M3.out.1.1 rfl
  have x2 := cell_at (o := 2) M3.out.1.1 rfl
  have x3 := cell_at (o := 3) M3.out.1.1 rfl
  have x4 := cell_at (o := 4) M3.out.1.1 rfl
  have x5 := cell_at (o := 5) M3.out.1.1 rfl
  have x6 := cell_at (o := 6) M3.out.1.1 rfl
  have x7 := cell_at (o := 7) M3.out.1.1 rfl
  go_wp2_with fail
  refine (FD.out _ _ _ M3.out.2.1).mono ?_
  rintro e w4 ⟨rfl, hB4⟩
  have M4 : Hid (BoxC 24 w1 w4 x ∧ Ats w4 (· < w4.heap.size) qd D ∧ Ats w4 (· < w4.heap.size) qw D) := ⟨M3.out.1.later hB4, M3.out.2.1.upF hB4, M3.out.2.2.upF hB4⟩
  clear hB4 M3 x0 x1 x2 x3 x4 x5 x6 x7
  go_wp2_with fail
  refine (AT.out _ (HB1.out.trans (M4.out.1.2.mono HB1.out.size))).mono ?_
  rintro e w5 ⟨k0, rfl, hk0, hB5⟩
  have M5 : Hid (BoxC 24 w1 w5 x ∧ Ats w5 (· < w5.heap.size) qd D ∧ Ats w5 (· < w5.heap.size) qw D) := ⟨M4.out.1.later hB5, M4.out.2.1.upF hB5, M4.out.2.2.upF hB5⟩
  clear hB5 M4
  obtain ⟨k, hk⟩ : ∃ k : Nat, k = 1 + k0 := ⟨_, rfl⟩
  have f1 : IntKind.i64.wrap (1 + (k0 : Int)) = (k : Int) := by rw [IntKind.wrap_i64]; omega
  have HK : Hid (1 ≤ k ∧ k ≤ 4) := by show _ ∧ _; omega
  clear hk hk0
  go_wp2_with fail
  refine (DB.out _ k (HB1.out.trans (M5.out.1.2.mono HB1.out.size)) HK.out.1 HK.out.2).mono ?_
  rintro e w6 ⟨g, cg, L, rfl, hL4, hLd, hLt, hB6⟩
  have M6 : Hid (BoxC 24 w1 w6 x ∧ Ats w6 (· < w6.heap.size) qd D ∧ Ats w6 (· < w6.heap.size) qw D ∧ Ats w6 (· < w6.heap.size) (some ⟨g, 0, none⟩) L) := ⟨M5.out.1.later hB6, M5.out.2.1.upF hB6, M5.out.2.2.upF hB6, hLt⟩
  have FXL := Lib.hid (FX.out L k hLd hL4)
  have FYL := Lib.hid (FY.out L k hLd hL4)
  have HFO := Lib.hid (fit_ok (x := x) (l := L))
  clear hLt hB6 M5 hLd FX FY
  have x0 := cell_at (o := 0) M6.out.1.1 rfl
  have x1 := cell_at (o := 1) M6.out.1.1 rfl
  have x2 := cell_at (o := 2) M6.out.1.1 rfl
  have x3 := cell_at (o := 3) M6.out.1.1 rfl
  have x4 := cell_at (o := 4) M6.out.1.1 rfl
  have x5 := cell_at (o := 5) M6.out.1.1 rfl
  have x6 := cell_at (o := 6) M6.out.1.1 rfl
  have x7 := cell_at (o := 7) M6.out.1.1 rfl
  go_wp2_with fail
  refine (FXL.out _ _ _ M6.out.2.2.2).mono ?_
  rintro e w7 ⟨rfl, hB7⟩
  have M7 : Hid (BoxC 24 w1 w7 x ∧ Ats w7 (· < w7.heap.size) qd D ∧ Ats w7 (· < w7.heap.size) qw D ∧ Ats w7 (· < w7.heap.size) (some ⟨g, 0, none⟩) L) := ⟨M6.out.1.later hB7, M6.out.2.1.upF hB7, M6.out.2.2.1.upF hB7, M6.out.2.2.2.upF hB7⟩
  clear hB7 M6 x0 x1 x2 x3 x4 x5 x6 x7
  have x0 := cell_at (o := 0) M7.out.1.1 rfl
  have x1 := cell_at (o := 1) M7.out.1.1 rfl
  have x2 := cell_at (o := 2) M7.out.1.1 rfl
  have x3 := cell_at (o := 3) M7.out.1.1 rfl
  have x4 := cell_at (o := 4) M7.out.1.1 rfl
  have x5 := cell_at (o := 5) M7.out.1.1 rfl
  have x6 := cell_at (o := 6) M7.out.1.1 rfl
  have x7 := cell_at (o := 7) M7.out.1.1 rfl
  go_wp2_with fail
  refine (FYL.out _ _ _ M7.out.2.2.2).mono ?_
  rintro e w8 ⟨rfl, hB8⟩
  have M8 : Hid (BoxC 24 w1 w8 x ∧ Ats w8 (· < w8.heap.size) qd D ∧ Ats w8 (· < w8.heap.size) qw D) := ⟨M7.out.1.later hB8, M7.out.2.1.upF hB8, M7.out.2.2.1.upF hB8⟩
  clear hB8 M7 x0 x1 x2 x3 x4 x5 x6 x7 FXL FYL
  generalize fitC x L = q at *
  have qq : (q == q) = true := by simp
  go_wp2_with fail
  refine (SD.out _ _ _ _ _ M8.out.2.1 M8.out.2.2).mono ?_
  rintro e w9 ⟨rfl, hB9⟩
  have hx := M8.out.1.later hB9
  clear hB9 M8
  have x0 := cell_at (o := 0) hx.1 rfl
  have x1 := cell_at (o := 1) hx.1 rfl
  have x2 := cell_at (o := 2) hx.1 rfl
  have x3 := cell_at (o := 3) hx.1 rfl
  have x4 := cell_at (o := 4) hx.1 rfl
  have x5 := cell_at (o := 5) hx.1 rfl
  have x6 := cell_at (o := 6) hx.1 rfl
  have x7 := cell_at (o := 7) hx.1 rfl
  by_cases hq : q = 0
  · obtain ⟨a1, a2⟩ := HFO.out hq
    have hq' : (q != 0) = false := by simpa using hq
    have b1 : decide (x.mn ≤ (L.length : Int)) = true := decide_eq_true a1
    have b2 : decide ((L.length : Int) ≤ x.mx) = true := decide_eq_true a2
    clear hq a1 a2 HFO
    go_wp2_with (go_at_call 12; refine (CO.out _).mono ?_; rintro e w10 ⟨rfl, hB10⟩; have hx := hx.later hB10; have x0 := cell_at (o := 0) hx.1 rfl; have x1 := cell_at (o := 1) hx.1 rfl; have x2 := cell_at (o := 2) hx.1 rfl; have x3 := cell_at (o := 3) hx.1 rfl; have x4 := cell_at (o := 4) hx.1 rfl; have x5 := cell_at (o := 5) hx.1 rfl; have x6 := cell_at (o := 6) hx.1 rfl; have x7 := cell_at (o := 7) hx.1 rfl)
    go_ret
    exact ⟨rfl, HB1.out.trans (hx.2.mono HB1.out.size)⟩
  · have hq' : (q != 0) = true := by simpa using hq
    clear hq HFO
    go_wp2_with (go_at_call 12; refine (CO.out _).mono ?_; rintro e w10 ⟨rfl, hB10⟩; have hx := hx.later hB10; have x0 := cell_at (o := 0) hx.1 rfl; have x1 := cell_at (o := 1) hx.1 rfl; have x2 := cell_at (o := 2) hx.1 rfl; have x3 := cell_at (o := 3) hx.1 rfl; have x4 := cell_at (o := 4) hx.1 rfl; have x5 := cell_at (o := 5) hx.1 rfl; have x6 := cell_at (o := 6) hx.1 rfl; have x7 := cell_at (o := 7) hx.1 rfl)
    go_ret
    exact ⟨rfl, HB1.out.trans (hx.2.mono HB1.out.size)⟩
end Go.Proofs.Ytbaelhehjepepaa
