import Derived.Test.YtjhkignnfdlcjaaKLAt
import Derived.Deep.CutRange
namespace Go.Proofs.Ytjhkignnfdlcjaa
open Go.RowKit
set_option linter.unusedSimpArgs false
/-- two atoms in boxes of the call's own -/
def BoxP (t : TypeId) (w W : World) (x y : At) : Prop := W.heap[w.heap.size]? = some (.cells #[.int .i64 x.k, .int .i64 x.n, .string ⟨x.t.toArray⟩] t) ∧ W.heap[w.heap.size + 1]? = some (.cells #[.int .i64 y.k, .int .i64 y.n, .string ⟨y.t.toArray⟩] t) ∧ Below w.heap.size w W
theorem BoxP.later {t : TypeId} {w W W' : World} {x y : At} (h : BoxP t w W x y) (hB : Below W.heap.size W W') : BoxP t w W' x y := ⟨heap_keptA h.1 hB, heap_keptA h.2.1 hB, h.2.2.trans (hB.mono h.2.2.size)⟩
theorem BoxP.drew {t : TypeId} {w W : World} {x y : At} (h : BoxP t w W x y) : BoxP t w W.drew x y := h.later (Below.refl _ _).drew
theorem boxP (t : TypeId) (w : World) (x y : At) : BoxP t w ((w.alloc (.cells #[.int .i64 x.k, .int .i64 x.n, .string ⟨x.t.toArray⟩] t)).alloc (.cells #[.int .i64 y.k, .int .i64 y.n, .string ⟨y.t.toArray⟩] t)) x y := by
  have h := heap_newA (w.alloc (.cells #[.int .i64 x.k, .int .i64 x.n, .string ⟨x.t.toArray⟩] t)) (.cells #[.int .i64 y.k, .int .i64 y.n, .string ⟨y.t.toArray⟩] t)
  rw [show (w.alloc (.cells #[.int .i64 x.k, .int .i64 x.n, .string ⟨x.t.toArray⟩] t)).heap.size = w.heap.size + 1 by simp] at h
  refine ⟨?_, h, ((Below.refl _ _).alloc (Nat.le_refl _) _).alloc (by simp) _⟩
  rw [Below.heap_alloc _ _ _ (by simp)]
  exact heap_newA _ _
noncomputable def ordR (x y : At) : Int := if atOK x = true ∧ atOK y = true then cmpA x y else 0
noncomputable def ordC (x y : At) : Int := if atOK x = true ∧ atOK y = true then 0 else 1
theorem ret_ii' {a b c d : Int} (h : a = b) (h' : c = d) : Ending.returned (.tuple #[.int .i64 a, .int .i64 c]) = .returned (.tuple #[.int .i64 b, .int .i64 d]) := by rw [h, h']
def OrdSaid (f : Nat) : Prop := ∀ (x y : At) (w : World), x.t.length ≤ maxLen → y.t.length ≤ maxLen →
    Calls Try.prog f #[.agg #[.int .i64 x.k, .int .i64 x.n, .string ⟨x.t.toArray⟩], .agg #[.int .i64 y.k, .int .i64 y.n, .string ⟨y.t.toArray⟩]] w fun e w' => e = .returned (.tuple #[.int .i64 (ordR x y), .int .i64 (ordC x y)]) ∧ Below w.heap.size w w'
set_option maxRecDepth 100000 in
set_option maxHeartbeats 3200000 in
theorem ordS : OrdSaid 11 := by
  intro x y w hxt hyt
  have hx := boxP 26 w x y
  have AX : Hid (∀ W, BoxP 26 w W x y → Calls Try.prog 8 #[.agg #[.int .i64 x.k, .int .i64 x.n, .string ⟨x.t.toArray⟩]] W fun e w' => e = .returned (.bool (atOK x)) ∧ BoxP 26 w w' x y) := fun W h => (atomOKs x W hxt).mono (fun e w' ⟨he, hB⟩ => ⟨he, h.later hB⟩)
  have AY : Hid (∀ W, BoxP 26 w W x y → Calls Try.prog 8 #[.agg #[.int .i64 y.k, .int .i64 y.n, .string ⟨y.t.toArray⟩]] W fun e w' => e = .returned (.bool (atOK y)) ∧ BoxP 26 w w' x y) := fun W h => (atomOKs y W hyt).mono (fun e w' ⟨he, hB⟩ => ⟨he, h.later hB⟩)
  have OR : Hid (∀ W, BoxP 26 w W x y → Calls Try.prog 25 #[.agg #[.int .i64 x.k, .int .i64 x.n, .string ⟨x.t.toArray⟩], .agg #[.int .i64 y.k, .int .i64 y.n, .string ⟨y.t.toArray⟩]] W fun e w' => e = .returned (.int .i64 (cmpA x y)) ∧ BoxP 26 w w' x y) := fun W h => (orderS x y W).mono (fun e w' ⟨he, hB⟩ => ⟨he, h.later hB⟩)
  clear hxt hyt
  have x0 := cell_at (o := 0) hx.1 rfl
  have x1 := cell_at (o := 1) hx.1 rfl
  have x2 := cell_at (o := 2) hx.1 rfl
  have y0 := cell_at (o := 0) hx.2.1 rfl
  have y1 := cell_at (o := 1) hx.2.1 rfl
  have y2 := cell_at (o := 2) hx.2.1 rfl
  cases ax : atOK x
  · have HC : Hid ((0 : Int) = ordR x y ∧ (1 : Int) = ordC x y) := by constructor <;> simp [ordR, ordC, ax]
    rw [ax] at AX
    clear ax
    go_enter Try.func11, Try.ntmps11
    go_wp2_with (first | (go_at_call 8; (with_reducible refine (AX.out _ ?_).mono ?_); exact hx; rintro e w1 ⟨rfl, hx⟩; have x0 := cell_at (o := 0) hx.1 rfl; have x1 := cell_at (o := 1) hx.1 rfl; have x2 := cell_at (o := 2) hx.1 rfl; have y0 := cell_at (o := 0) hx.2.1 rfl; have y1 := cell_at (o := 1) hx.2.1 rfl; have y2 := cell_at (o := 2) hx.2.1 rfl))
    go_ret2
    exact ⟨ret_ii' HC.out.1 HC.out.2, hx.2.2⟩
  rw [ax] at AX
  cases ay : atOK y
  · have HC : Hid ((0 : Int) = ordR x y ∧ (1 : Int) = ordC x y) := by constructor <;> simp [ordR, ordC, ay]
    rw [ay] at AY
    clear ax ay
    go_enter Try.func11, Try.ntmps11
    go_wp2_with (first | (go_at_call 8; (with_reducible refine (AX.out _ ?_).mono ?_); exact hx; rintro e w1 ⟨rfl, hx⟩; have x0 := cell_at (o := 0) hx.1 rfl; have x1 := cell_at (o := 1) hx.1 rfl; have x2 := cell_at (o := 2) hx.1 rfl; have y0 := cell_at (o := 0) hx.2.1 rfl; have y1 := cell_at (o := 1) hx.2.1 rfl; have y2 := cell_at (o := 2) hx.2.1 rfl) | (go_at_call 8; (with_reducible refine (AY.out _ ?_).mono ?_); exact hx; rintro e w2 ⟨rfl, hx⟩; have x0 := cell_at (o := 0) hx.1 rfl; have x1 := cell_at (o := 1) hx.1 rfl; have x2 := cell_at (o := 2) hx.1 rfl; have y0 := cell_at (o := 0) hx.2.1 rfl; have y1 := cell_at (o := 1) hx.2.1 rfl; have y2 := cell_at (o := 2) hx.2.1 rfl))
    go_ret2
    exact ⟨ret_ii' HC.out.1 HC.out.2, hx.2.2⟩
  rw [ay] at AY
  have HC : Hid (cmpA x y = ordR x y ∧ (0 : Int) = ordC x y) := by constructor <;> simp [ordR, ordC, ax, ay]
  clear ax ay
  generalize cmpA x y = q at *
  go_enter Try.func11, Try.ntmps11
  go_wp2_with (first | (go_at_call 8; (with_reducible refine (AX.out _ ?_).mono ?_); exact hx; rintro e w1 ⟨rfl, hx⟩; have x0 := cell_at (o := 0) hx.1 rfl; have x1 := cell_at (o := 1) hx.1 rfl; have x2 := cell_at (o := 2) hx.1 rfl; have y0 := cell_at (o := 0) hx.2.1 rfl; have y1 := cell_at (o := 1) hx.2.1 rfl; have y2 := cell_at (o := 2) hx.2.1 rfl) | (go_at_call 8; (with_reducible refine (AY.out _ ?_).mono ?_); exact hx; rintro e w2 ⟨rfl, hx⟩; have x0 := cell_at (o := 0) hx.1 rfl; have x1 := cell_at (o := 1) hx.1 rfl; have x2 := cell_at (o := 2) hx.1 rfl; have y0 := cell_at (o := 0) hx.2.1 rfl; have y1 := cell_at (o := 1) hx.2.1 rfl; have y2 := cell_at (o := 2) hx.2.1 rfl) | (go_at_call 25; refine (OR.out _ hx).mono ?_; rintro e w3 ⟨rfl, hx⟩))
  go_ret2
  exact ⟨ret_ii' HC.out.1 HC.out.2, hx.2.2⟩
set_option maxRecDepth 100000 in
set_option maxHeartbeats 6400000 in
theorem lawOrder (HI0 : OrdSaid 12) (x y : At) (w : World) (hxt : x.t.length ≤ maxLen) (hyt : y.t.length ≤ maxLen) :
    Calls Try.prog 4 #[.agg #[.int .i64 x.k, .int .i64 x.n, .string ⟨x.t.toArray⟩], .agg #[.int .i64 y.k, .int .i64 y.n, .string ⟨y.t.toArray⟩]] w fun e w' => e = .returned (.bool true) ∧ Below w.heap.size w w' := by
  have hx := boxP 23 w x y
  have HXT : Hid (x.t.length ≤ maxLen) := hxt
  have HYT : Hid (y.t.length ≤ maxLen) := hyt
  have TX : Hid (∀ W, BoxP 23 w W x y → Calls Try.prog 9 #[.agg #[.int .i64 x.k, .int .i64 x.n, .string ⟨x.t.toArray⟩]] W fun e w' => e = .returned (.agg #[.int .i64 x.k, .int .i64 x.n, .string ⟨x.t.toArray⟩]) ∧ BoxP 23 w w' x y) := fun W h => (toAtom x W).mono (fun e w' ⟨he, hB⟩ => ⟨he, h.later hB⟩)
  have TY : Hid (∀ W, BoxP 23 w W x y → Calls Try.prog 9 #[.agg #[.int .i64 y.k, .int .i64 y.n, .string ⟨y.t.toArray⟩]] W fun e w' => e = .returned (.agg #[.int .i64 y.k, .int .i64 y.n, .string ⟨y.t.toArray⟩]) ∧ BoxP 23 w w' x y) := fun W h => (toAtom y W).mono (fun e w' ⟨he, hB⟩ => ⟨he, h.later hB⟩)
  obtain ⟨r, hr⟩ : ∃ r, r = ordR x y := ⟨_, rfl⟩
  obtain ⟨cc, hc⟩ : ∃ c, c = ordC x y := ⟨_, rfl⟩
  have SS : Hid (∀ W, BoxP 23 w W x y → Calls Try.prog 11 #[.agg #[.int .i64 x.k, .int .i64 x.n, .string ⟨x.t.toArray⟩], .agg #[.int .i64 y.k, .int .i64 y.n, .string ⟨y.t.toArray⟩]] W fun e w' => e = .returned (.tuple #[.int .i64 r, .int .i64 cc]) ∧ BoxP 23 w w' x y) := fun W h => by rw [hr, hc]; exact (ordS x y W hxt hyt).mono (fun e w' ⟨he, hB⟩ => ⟨he, h.later hB⟩)
  have SI : Hid (∀ W, BoxP 23 w W x y → Calls Try.prog 12 #[.agg #[.int .i64 x.k, .int .i64 x.n, .string ⟨x.t.toArray⟩], .agg #[.int .i64 y.k, .int .i64 y.n, .string ⟨y.t.toArray⟩]] W fun e w' => e = .returned (.tuple #[.int .i64 r, .int .i64 cc]) ∧ BoxP 23 w w' x y) := fun W h => by rw [hr, hc]; exact (HI0 x y W hxt hyt).mono (fun e w' ⟨he, hB⟩ => ⟨he, h.later hB⟩)
  have nr : (r != r) = false := by simp
  have nc : (cc != cc) = false := by simp
  clear hr hc HI0 hxt hyt
  have x0 := cell_at (o := 0) hx.1 rfl
  have x1 := cell_at (o := 1) hx.1 rfl
  have x2 := cell_at (o := 2) hx.1 rfl
  have y0 := cell_at (o := 0) hx.2.1 rfl
  have y1 := cell_at (o := 1) hx.2.1 rfl
  have y2 := cell_at (o := 2) hx.2.1 rfl
  go_enter Try.func4, Try.ntmps4
  go_wp2_with fail
  refine (szAtom x 1048576 _ (by omega) (by omega) HXT.out).mono ?_
  rintro e w1 ⟨rfl, hB1⟩
  replace hx := hx.later hB1
  clear hB1 x0 x1 x2 y0 y1 y2
  by_cases hz : (1048576 : Int) - (x.t.length : Int) < 0
  · rw [less_no hz]
    go_wp2_with fail
    go_ret
    exact ⟨rfl, hx.2.2⟩
  rw [less_yes (by omega)]
  obtain ⟨L, hL⟩ : ∃ L : Int, L = 1048576 - (x.t.length : Int) := ⟨_, rfl⟩
  rw [← hL]
  have hL0 : 0 ≤ L := by omega
  have hL1 : L ≤ 1048576 := by omega
  have hl : decide (L < 0) = false := by simp; omega
  clear hL hz
  have x0 := cell_at (o := 0) hx.1 rfl
  have x1 := cell_at (o := 1) hx.1 rfl
  have x2 := cell_at (o := 2) hx.1 rfl
  have y0 := cell_at (o := 0) hx.2.1 rfl
  have y1 := cell_at (o := 1) hx.2.1 rfl
  have y2 := cell_at (o := 2) hx.2.1 rfl
  go_wp2_with fail
  refine (szAtom y L _ hL0 hL1 HYT.out).mono ?_
  rintro e w2 ⟨rfl, hB2⟩
  replace hx := hx.later hB2
  clear hB2 x0 x1 x2 y0 y1 y2
  by_cases hz : L - (y.t.length : Int) < 0
  · rw [less_no hz]
    go_wp2_with fail
    go_ret
    exact ⟨rfl, hx.2.2⟩
  rw [less_yes (by omega)]
  obtain ⟨M, hM⟩ : ∃ M : Int, M = L - (y.t.length : Int) := ⟨_, rfl⟩
  rw [← hM]
  have hm : decide (M < 0) = false := by simp; omega
  clear hM hz hL0 hL1 hl
  go_upto_region 8 with fail
  go_cut [6, 7] from 20 to 27 (fun s s2 wx => s = .int .i64 r ∧ s2 = .int .i64 cc ∧ Hid (BoxP 23 w wx x y))
  case first =>
    have x0 := cell_at (o := 0) hx.1 rfl
    have x1 := cell_at (o := 1) hx.1 rfl
    have x2 := cell_at (o := 2) hx.1 rfl
    have y0 := cell_at (o := 0) hx.2.1 rfl
    have y1 := cell_at (o := 1) hx.2.1 rfl
    have y2 := cell_at (o := 2) hx.2.1 rfl
    go_region_with (first
      | (go_at_call 9; (with_reducible refine (TX.out _ ?_).mono ?_); (first | exact hx | exact hx.drew); rintro e w3 ⟨rfl, hx⟩; have x0 := cell_at (o := 0) hx.1 rfl; have x1 := cell_at (o := 1) hx.1 rfl; have x2 := cell_at (o := 2) hx.1 rfl; have y0 := cell_at (o := 0) hx.2.1 rfl; have y1 := cell_at (o := 1) hx.2.1 rfl; have y2 := cell_at (o := 2) hx.2.1 rfl)
      | (go_at_call 9; (with_reducible refine (TY.out _ ?_).mono ?_); (first | exact hx | exact hx.drew); rintro e w4 ⟨rfl, hx⟩; have x0 := cell_at (o := 0) hx.1 rfl; have x1 := cell_at (o := 1) hx.1 rfl; have x2 := cell_at (o := 2) hx.1 rfl; have y0 := cell_at (o := 0) hx.2.1 rfl; have y1 := cell_at (o := 1) hx.2.1 rfl; have y2 := cell_at (o := 2) hx.2.1 rfl)
      | (go_at_call 11; (with_reducible refine (SS.out _ ?_).mono ?_); (first | exact hx | exact hx.drew); rintro e w5 ⟨rfl, hx⟩))
    all_goals
      have HX := Lib.hid hx
      clear hx
      clear x0 x1 x2 y0 y1 y2
      go_wp2_with fail
      go_meet
      exact ⟨rfl, rfl, HX.out⟩
  case rest =>
    clear hx
    obtain ⟨rfl, rfl, HX⟩ := hcut
    have hx := HX.out
    go_upto_region 9 with fail
    go_cut [8, 9] from 28 to 35 (fun s s2 wx => s = .int .i64 r ∧ s2 = .int .i64 cc ∧ Hid (BoxP 23 w wx x y))
    case first =>
      have x0 := cell_at (o := 0) hx.1 rfl
      have x1 := cell_at (o := 1) hx.1 rfl
      have x2 := cell_at (o := 2) hx.1 rfl
      have y0 := cell_at (o := 0) hx.2.1 rfl
      have y1 := cell_at (o := 1) hx.2.1 rfl
      have y2 := cell_at (o := 2) hx.2.1 rfl
      go_region_with (first
        | (go_at_call 9; (with_reducible refine (TX.out _ ?_).mono ?_); (first | exact hx | exact hx.drew); rintro e w3 ⟨rfl, hx⟩; have x0 := cell_at (o := 0) hx.1 rfl; have x1 := cell_at (o := 1) hx.1 rfl; have x2 := cell_at (o := 2) hx.1 rfl; have y0 := cell_at (o := 0) hx.2.1 rfl; have y1 := cell_at (o := 1) hx.2.1 rfl; have y2 := cell_at (o := 2) hx.2.1 rfl)
        | (go_at_call 9; (with_reducible refine (TY.out _ ?_).mono ?_); (first | exact hx | exact hx.drew); rintro e w4 ⟨rfl, hx⟩; have x0 := cell_at (o := 0) hx.1 rfl; have x1 := cell_at (o := 1) hx.1 rfl; have x2 := cell_at (o := 2) hx.1 rfl; have y0 := cell_at (o := 0) hx.2.1 rfl; have y1 := cell_at (o := 1) hx.2.1 rfl; have y2 := cell_at (o := 2) hx.2.1 rfl)
        | (go_at_call 12; (with_reducible refine (SI.out _ ?_).mono ?_); (first | exact hx | exact hx.drew); rintro e w5 ⟨rfl, hx⟩))
      all_goals
        have HX := Lib.hid hx
        clear hx
        clear x0 x1 x2 y0 y1 y2
        go_wp2_with fail
        go_meet
        exact ⟨rfl, rfl, HX.out⟩
    case rest =>
      clear hx HX
      obtain ⟨rfl, rfl, HX⟩ := hcut
      go_wp2_with fail
      go_ret
      exact ⟨rfl, HX.out.2.2⟩
end Go.Proofs.Ytjhkignnfdlcjaa
