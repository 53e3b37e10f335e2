import Derived.Test.YtkncpfhblciplaaYbo
import Derived.Test.YtkncpfhblciplaaYbn
import Derived.Deep.CutRange
import Derived.BigQuiet
import Derived.Lib.Hide
namespace Go.Proofs.Ytkncpfhblciplaa
open Go.RowKit
set_option linter.unusedSimpArgs false
def prJ (j : J) (s : List UInt8) : J × Bool := if pairB j = true ∧ (it0 j).t = s then (it1 j, true) else (dflt, false)
theorem prJ_no {j : J} {s : List UInt8} (h : ¬ (pairB j = true ∧ (it0 j).t = s)) : prJ j s = (dflt, false) := by unfold prJ; rw [if_neg h]
theorem prJ_yes {j : J} {s : List UInt8} (h : pairB j = true) (h2 : (it0 j).t = s) : prJ j s = (it1 j, true) := by unfold prJ; rw [if_pos ⟨h, h2⟩]
def PrAns (j : J) (s : List UInt8) (B : Nat → Prop) (w : World) (e : Ending) (w' : World) : Prop :=
  ∃ cs', e = .returned (.tuple #[.agg cs'.toArray, .bool (prJ j s).2]) ∧ RJ w' B (prJ j s).1 cs' ∧ Below w.heap.size w w'
theorem cell_later {w W : World} {a : Addr} {v : Value} (hB : Below w.heap.size w W) (h : w.cell? a = some v) : W.cell? a = some v := by rw [World.cell?_of_block (w := w) (a := a) (hB.block _ (World.block_lt_of_cell? _ _ h))]; exact h
set_option maxRecDepth 100000 in
set_option maxHeartbeats 6400000 in
theorem pairS (j : J) (cs : List Value) (s : List UInt8) (B : Nat → Prop) (w : World) (hr : RJ w B j cs) :
    Calls Try.prog 84 #[.agg cs.toArray, .string ⟨s.toArray⟩] w (PrAns j s B w) := by
  rw [RJ_eq] at hr
  obtain ⟨ka, kc, ia, ic, rfl, -, -, -, -, -, hjs⟩ := hr
  have HI : Hid (Jsons w B ia j.items) := hjs
  clear hjs
  go_enter Try.func84, Try.ntmps84
  go_upto_region 1 with fail
  obtain ⟨W0, hW0⟩ : ∃ W, W = ((w.alloc (.cells #[.int .i64 j.k, .int .i64 j.n, .string ⟨j.t.toArray⟩, .slice ka j.keys.length kc, .slice ia j.items.length ic] 28)).alloc (.cells #[.int .i64 0, .int .i64 0, .string ⟨#[]⟩, .slice none 0 0, .slice none 0 0] 28)) := ⟨_, rfl⟩
  obtain ⟨b0, b1, hz1, hB⟩ := two (w4 := W0) (w := w) (by rw [hW0]; exact Below.refl _ _)
  rw [← hW0]
  clear hW0
  have x0 := cell_at (o := 0) b0 rfl
  have x4 := cell_at (o := 4) b0 rfl
  have g0 := cell_at (o := 0) b1 rfl
  have g1 := cell_at (o := 1) b1 rfl
  have g2 := cell_at (o := 2) b1 rfl
  have g3 := cell_at (o := 3) b1 rfl
  have g4 := cell_at (o := 4) b1 rfl
  have y0 := frozen_at 0 b1
  have y1 := frozen_at 1 b1
  have y2 := frozen_at 2 b1
  have y3 := frozen_at 3 b1
  have y4 := frozen_at 4 b1
  have HB := Lib.hid hB
  clear b0 b1 hB hz1
  by_cases h4 : j.k = 4
  · have h4' : (j.k != 4) = false := by rw [h4]; rfl
    by_cases h2 : j.items.length = 2
    · have h2' : ((j.items.length : Int) != 2) = false := by rw [h2]; rfl
      have hi0 : (0 : Int) < (j.items.length : Int) := by omega
      have hi1 : (1 : Int) < (j.items.length : Int) := by omega
      obtain ⟨b, off, kx, kcx, ix, icx, rfl, -, c0, -, c2, -, -, -⟩ := HI.out.item 0 (by omega)
      obtain ⟨b', off', ky, kcy, iy, icy, e, -, e0, e1, e2, e3, e4, hr1⟩ := HI.out.item 1 (by omega)
      simp only [Option.some.injEq, Addr.mk.injEq, and_true] at e
      obtain ⟨rfl, rfl⟩ := e
      rw [it_at0 (by omega)] at c0 c2
      rw [it_at1 (by omega)] at e0 e1 e2 e3 e4 hr1
      simp only [Nat.zero_mul, Nat.one_mul, Nat.add_zero] at c0 c2 e0 e1 e2 e3 e4
      replace c0 := cell_later HB.out c0
      replace c2 := cell_later HB.out c2
      replace e0 := cell_later HB.out e0
      replace e1 := cell_later HB.out e1
      replace e2 := cell_later HB.out e2
      replace e3 := cell_later HB.out e3
      replace e4 := cell_later HB.out e4
      have HR1 := Lib.hid hr1
      clear hr1
      by_cases h3 : (it0 j).k = 3
      · have h3' : ((it0 j).k != 3) = false := by rw [h3]; rfl
        have HP : Hid (pairB j = true) := decide_eq_true ⟨h4, h2, h3⟩
        clear h4 h3
        by_cases hs : (it0 j).t = s
        · have HX : Hid (prJ j s = (it1 j, true)) := prJ_yes HP.out hs
          have hs' : ((it0 j).t == s) = true := by simp [hs]
          generalize it1 j = x at *
          go_wp2_with fail
          refine bodyPost_ret (v := .tuple #[.agg #[.int .i64 x.k, .int .i64 x.n, .string ⟨x.t.toArray⟩, .slice ky x.keys.length kcy, .slice iy x.items.length icy], .bool true]) (by simp [results, Try.results84, go_sem, g0, g1, g2, g3, g4]) rfl ⟨_, by rw [HX.out], ?_, five_below HB.out _ _ _ _ _⟩
          rw [HX.out]
          exact HR1.out.later (five_below HB.out _ _ _ _ _)
        · have HX : Hid (prJ j s = (dflt, false)) := prJ_no (fun h => hs h.2)
          have hs' : ((it0 j).t == s) = false := by simpa using hs
          go_wp2_with fail
          refine bodyPost_ret (v := .tuple #[.agg #[.int .i64 0, .int .i64 0, .string ⟨#[]⟩, .slice none 0 0, .slice none 0 0], .bool false]) (by simp [results, Try.results84, go_sem, g0, g1, g2, g3, g4]) rfl ⟨_, by rw [HX.out], by rw [HX.out]; exact rj_zero _ _, five_below HB.out _ _ _ _ _⟩
      · have h3' : ((it0 j).k != 3) = true := by simpa using h3
        have HX : Hid (prJ j s = (dflt, false)) := prJ_no (fun h => h3 (pairB_yes h.1).2.2)
        go_wp2_with fail
        refine bodyPost_ret (v := .tuple #[.agg #[.int .i64 0, .int .i64 0, .string ⟨#[]⟩, .slice none 0 0, .slice none 0 0], .bool false]) (by simp [results, Try.results84, go_sem, g0, g1, g2, g3, g4]) rfl ⟨_, by rw [HX.out], by rw [HX.out]; exact rj_zero _ _, five_below HB.out _ _ _ _ _⟩
    · have h2' : ((j.items.length : Int) != 2) = true := by simp; omega
      have HX : Hid (prJ j s = (dflt, false)) := prJ_no (fun h => h2 (pairB_yes h.1).2.1)
      go_wp2_with fail
      refine bodyPost_ret (v := .tuple #[.agg #[.int .i64 0, .int .i64 0, .string ⟨#[]⟩, .slice none 0 0, .slice none 0 0], .bool false]) (by simp [results, Try.results84, go_sem, g0, g1, g2, g3, g4]) rfl ⟨_, by rw [HX.out], by rw [HX.out]; exact rj_zero _ _, five_below HB.out _ _ _ _ _⟩
  · have h4' : (j.k != 4) = true := by simpa using h4
    have HX : Hid (prJ j s = (dflt, false)) := prJ_no (fun h => h4 (pairB_yes h.1).1)
    go_wp2_with fail
    refine bodyPost_ret (v := .tuple #[.agg #[.int .i64 0, .int .i64 0, .string ⟨#[]⟩, .slice none 0 0, .slice none 0 0], .bool false]) (by simp [results, Try.results84, go_sem, g0, g1, g2, g3, g4]) rfl ⟨_, by rw [HX.out], by rw [HX.out]; exact rj_zero _ _, five_below HB.out _ _ _ _ _⟩
end Go.Proofs.Ytkncpfhblciplaa
