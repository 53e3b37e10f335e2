import Derived.Test.YtkncpfhblciplaaWbh
import Derived.Test.YtkncpfhblciplaaWbm
namespace Go.Proofs.Ytkncpfhblciplaa
open Go.RowKit
set_option linter.unusedSimpArgs false
def flJ (k n : Int) (t : List UInt8) : J := ⟨k, n, t, [], []⟩
def ajJ (x : At) : J := if x.k = 1 then flJ 2 x.n [] else if x.k = 2 then flJ 3 0 x.t else if x.k = 3 then flJ 1 (if x.n = 1 then 1 else 0) [] else ⟨4, 0, [], [], [flJ 3 0 uuidW, flJ 2 x.n []]⟩
theorem ajJ1 {x : At} (h : x.k = 1) : ajJ x = flJ 2 x.n [] := by unfold ajJ; rw [if_pos h]
theorem ajJ2 {x : At} (h : x.k = 2) : ajJ x = flJ 3 0 x.t := by unfold ajJ; rw [if_neg (by omega), if_pos h]
theorem ajJ3 {x : At} (h : x.k = 3) : ajJ x = flJ 1 (if x.n = 1 then 1 else 0) [] := by unfold ajJ; rw [if_neg (by omega), if_neg (by omega), if_pos h]
theorem ajJ4 {x : At} (h1 : x.k ≠ 1) (h2 : x.k ≠ 2) (h3 : x.k ≠ 3) : ajJ x = ⟨4, 0, [], [], [flJ 3 0 uuidW, flJ 2 x.n []]⟩ := by unfold ajJ; rw [if_neg h1, if_neg h2, if_neg h3]
theorem ajJ_sz {x : At} (h : x.t.length ≤ 200) : (ajJ x).sz ≤ 1000 := by
  unfold ajJ
  split
  · simp [flJ, J.sz_eq, szK]
  split
  · simp [flJ, J.sz_eq, szK]; omega
  split
  · simp [flJ, J.sz_eq, szK]
  · simp [flJ, J.sz_eq, szK, uuidW]
theorem rj_flat (w : World) (B : Nat → Prop) (k n : Int) (t : List UInt8) (ht : t.length ≤ maxLen) : RJ w B (flJ k n t) [.int .i64 k, .int .i64 n, .string ⟨t.toArray⟩, .slice none 0 0, .slice none 0 0] := by
  rw [RJ_eq]
  exact ⟨none, 0, none, 0, rfl, ht, by simp [flJ], by simp [flJ], by simp [flJ], .inl rfl, .inl rfl⟩
theorem own_flat (w : World) (B : Nat → Prop) (k n : Int) (t : List UInt8) (ht : t.length ≤ maxLen) : OwnJ w (flJ k n t) B [.int .i64 k, .int .i64 n, .string ⟨t.toArray⟩, .slice none 0 0, .slice none 0 0] := by
  rw [OwnJ_eq]
  exact ⟨none, 0, none, 0, fun _ => False, fun _ => False, rfl, ht, by simp [flJ], by simp [flJ], by simp [flJ], .inl rfl, fun _ h => h.elim, fun _ h => h.elim, .inl rfl⟩
def fiveAt (w : World) (b : Nat) (u0 u1 u2 u3 u4 : Value) : World := ((((w.setCell ⟨b, 0, none⟩ u0).setCell ⟨b, 1, none⟩ u1).setCell ⟨b, 2, none⟩ u2).setCell ⟨b, 3, none⟩ u3).setCell ⟨b, 4, none⟩ u4
theorem fiveAt_heap (w : World) (b : Nat) (u0 u1 u2 u3 u4 : Value) (c : Nat) (hc : c ≠ b) : (fiveAt w b u0 u1 u2 u3 u4).heap[c]? = w.heap[c]? := by
  unfold fiveAt
  rw [Below.heap_setCell _ _ _ _ hc, Below.heap_setCell _ _ _ _ hc, Below.heap_setCell _ _ _ _ hc, Below.heap_setCell _ _ _ _ hc, Below.heap_setCell _ _ _ _ hc]
theorem fiveAt_size (w : World) (b : Nat) (u0 u1 u2 u3 u4 : Value) : (fiveAt w b u0 u1 u2 u3 u4).heap.size = w.heap.size := by simp [fiveAt, World.setCell]
theorem fiveAt_below {w w6 : World} {n b : Nat} (h : Below n w w6) (hb : n ≤ b) (u0 u1 u2 u3 u4 : Value) : Below n w (fiveAt w6 b u0 u1 u2 u3 u4) := by
  unfold fiveAt
  exact ((((h.setCell (by exact hb) _).setCell (by exact hb) _).setCell (by exact hb) _).setCell (by exact hb) _).setCell (by exact hb) _
theorem one_box (w : World) (cs : Array Value) (T : TypeId) : (w.alloc (.cells cs T)).heap[w.heap.size]? = some (.cells cs T) ∧ Below w.heap.size w (w.alloc (.cells cs T)) := ⟨heap_new' _ _ rfl, (Below.refl _ _).alloc (Nat.le_refl _) _⟩
theorem bitS' (b : Bool) (w : World) : Calls Try.prog 100 #[.bool b] w fun e w' => e = .returned (.int .i64 (if b then 1 else 0)) ∧ w' = w := by
  cases b
  all_goals
    go_enter Try.func100, Try.ntmps100
    go_wp2_with fail
    go_ret
    exact ⟨rfl, rfl⟩
set_option maxRecDepth 100000 in
set_option maxHeartbeats 3200000 in
theorem tS (t : List UInt8) (w : World) : Calls Try.prog 74 #[.string ⟨t.toArray⟩] w fun e w' => e = .returned (.agg #[.int .i64 3, .int .i64 0, .string ⟨t.toArray⟩, .slice none 0 0, .slice none 0 0]) ∧ Below w.heap.size w w' := by
  have hb := Lib.hid (one_box w #[.int .i64 0, .int .i64 0, .string ⟨#[]⟩, .slice none 0 0, .slice none 0 0] 28)
  go_enter Try.func74, Try.ntmps74
  go_upto_region 1 with fail
  obtain ⟨W0, hW0⟩ : ∃ W, W = w.alloc (.cells #[.int .i64 0, .int .i64 0, .string ⟨#[]⟩, .slice none 0 0, .slice none 0 0] 28) := ⟨_, rfl⟩
  rw [← hW0] at hb ⊢
  clear hW0
  have g0 := cell_at (o := 0) hb.out.1 rfl
  have y0 := frozen_at 0 hb.out.1
  have g1 := cell_at (o := 1) hb.out.1 rfl
  have y1 := frozen_at 1 hb.out.1
  have g2 := cell_at (o := 2) hb.out.1 rfl
  have y2 := frozen_at 2 hb.out.1
  have g3 := cell_at (o := 3) hb.out.1 rfl
  have y3 := frozen_at 3 hb.out.1
  have g4 := cell_at (o := 4) hb.out.1 rfl
  have y4 := frozen_at 4 hb.out.1
  go_wp2_with fail
  exact bodyPost_ret (v := .agg #[.int .i64 3, .int .i64 0, .string ⟨t.toArray⟩, .slice none 0 0, .slice none 0 0]) (by simp [results, Try.results74, go_sem, g0, g1, g2, g3, g4]) rfl ⟨rfl, fiveAt_below hb.out.2 (Nat.le_refl _) _ _ _ _ _⟩
set_option maxRecDepth 100000 in
set_option maxHeartbeats 3200000 in
theorem nS (n : Int) (w : World) : Calls Try.prog 73 #[.int .i64 n] w fun e w' => e = .returned (.agg #[.int .i64 2, .int .i64 n, .string ⟨#[]⟩, .slice none 0 0, .slice none 0 0]) ∧ Below w.heap.size w w' := by
  have hb := Lib.hid (one_box w #[.int .i64 0, .int .i64 0, .string ⟨#[]⟩, .slice none 0 0, .slice none 0 0] 28)
  go_enter Try.func73, Try.ntmps73
  go_upto_region 1 with fail
  obtain ⟨W0, hW0⟩ : ∃ W, W = w.alloc (.cells #[.int .i64 0, .int .i64 0, .string ⟨#[]⟩, .slice none 0 0, .slice none 0 0] 28) := ⟨_, rfl⟩
  rw [← hW0] at hb ⊢
  clear hW0
  have g0 := cell_at (o := 0) hb.out.1 rfl
  have y0 := frozen_at 0 hb.out.1
  have g1 := cell_at (o := 1) hb.out.1 rfl
  have y1 := frozen_at 1 hb.out.1
  have g2 := cell_at (o := 2) hb.out.1 rfl
  have y2 := frozen_at 2 hb.out.1
  have g3 := cell_at (o := 3) hb.out.1 rfl
  have y3 := frozen_at 3 hb.out.1
  have g4 := cell_at (o := 4) hb.out.1 rfl
  have y4 := frozen_at 4 hb.out.1
  go_wp2_with fail
  exact bodyPost_ret (v := .agg #[.int .i64 2, .int .i64 n, .string ⟨#[]⟩, .slice none 0 0, .slice none 0 0]) (by simp [results, Try.results73, go_sem, g0, g1, g2, g3, g4]) rfl ⟨rfl, fiveAt_below hb.out.2 (Nat.le_refl _) _ _ _ _ _⟩
set_option maxRecDepth 100000 in
set_option maxHeartbeats 3200000 in
theorem bS0 (b : Bool) (nn : Int) (hnn : nn = if b then 1 else 0) (w : World) : Calls Try.prog 75 #[.bool b] w fun e w' => e = .returned (.agg #[.int .i64 1, .int .i64 nn, .string ⟨#[]⟩, .slice none 0 0, .slice none 0 0]) ∧ Below w.heap.size w w' := by
  have BT : Hid (∀ W, Calls Try.prog 100 #[.bool b] W fun e w' => e = .returned (.int .i64 nn) ∧ w' = W) := fun W => by rw [hnn]; exact bitS' b W
  clear hnn
  have hb := Lib.hid (one_box w #[.int .i64 0, .int .i64 0, .string ⟨#[]⟩, .slice none 0 0, .slice none 0 0] 28)
  go_enter Try.func75, Try.ntmps75
  go_upto_region 1 with fail
  obtain ⟨W0, hW0⟩ : ∃ W, W = w.alloc (.cells #[.int .i64 0, .int .i64 0, .string ⟨#[]⟩, .slice none 0 0, .slice none 0 0] 28) := ⟨_, rfl⟩
  rw [← hW0] at hb ⊢
  clear hW0
  have g0 := cell_at (o := 0) hb.out.1 rfl
  have y0 := frozen_at 0 hb.out.1
  have g1 := cell_at (o := 1) hb.out.1 rfl
  have y1 := frozen_at 1 hb.out.1
  have g2 := cell_at (o := 2) hb.out.1 rfl
  have y2 := frozen_at 2 hb.out.1
  have g3 := cell_at (o := 3) hb.out.1 rfl
  have y3 := frozen_at 3 hb.out.1
  have g4 := cell_at (o := 4) hb.out.1 rfl
  have y4 := frozen_at 4 hb.out.1
  go_wp2_with fail
  refine (BT.out _).mono ?_
  rintro e w1 ⟨rfl, rfl⟩
  go_wp2_with fail
  exact bodyPost_ret (v := .agg #[.int .i64 1, .int .i64 nn, .string ⟨#[]⟩, .slice none 0 0, .slice none 0 0]) (by simp [results, Try.results75, go_sem, g0, g1, g2, g3, g4]) rfl ⟨rfl, fiveAt_below hb.out.2 (Nat.le_refl _) _ _ _ _ _⟩
end Go.Proofs.Ytkncpfhblciplaa
