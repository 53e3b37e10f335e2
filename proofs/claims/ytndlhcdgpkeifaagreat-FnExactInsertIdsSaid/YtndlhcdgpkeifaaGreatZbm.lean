import Derived.Test.YtndlhcdgpkeifaaGreatZas
import Derived.Test.YtndlhcdgpkeifaaGreatZaz
namespace Go.Proofs.YtndlhcdgpkeifaaGreat
open Go.RowKit
set_option linter.unusedSimpArgs false
set_option maxRecDepth 100000 in
set_option maxHeartbeats 6400000 in
theorem opM1 (tb : List UInt8) (nm : List UInt8) (row : List SetV) (a4 : Option Addr) (c4 : Nat) (w : World) :
    Calls Tryz.prog 113 #[.agg #[.string ⟨tb.toArray⟩, .string ⟨nm.toArray⟩, .slice a4 row.length c4]] w fun e w' => e = .returned (.agg #[.int .i64 1, .string ⟨tb.toArray⟩, .string ⟨nm.toArray⟩, .slice none 0 0, .slice a4 row.length c4, .slice none 0 0, .slice none 0 0, .bool false]) ∧ Below w.heap.size w w' := by
  have h1 := heap_keptD (heap_newD w (.cells #[.string ⟨tb.toArray⟩, .string ⟨nm.toArray⟩, .slice a4 row.length c4] 112)) (below_allocD _ (.cells #[.int .i64 0, .string ⟨#[]⟩, .string ⟨#[]⟩, .slice none 0 0, .slice none 0 0, .slice none 0 0, .slice none 0 0, .bool false] 48))
  have h2 := heap_newD (w.alloc (.cells #[.string ⟨tb.toArray⟩, .string ⟨nm.toArray⟩, .slice a4 row.length c4] 112)) (.cells #[.int .i64 0, .string ⟨#[]⟩, .string ⟨#[]⟩, .slice none 0 0, .slice none 0 0, .slice none 0 0, .slice none 0 0, .bool false] 48)
  rw [size_allocD] at h2
  obtain ⟨W, hW⟩ : ∃ W, W = ((w.alloc (.cells #[.string ⟨tb.toArray⟩, .string ⟨nm.toArray⟩, .slice a4 row.length c4] 112)).alloc (.cells #[.int .i64 1, .string ⟨tb.toArray⟩, .string ⟨nm.toArray⟩, .slice none 0 0, .slice a4 row.length c4, .slice none 0 0, .slice none 0 0, .bool false] 48)) := ⟨_, rfl⟩
  have h3 : W.heap[w.heap.size + 1]? = some (.cells #[.int .i64 1, .string ⟨tb.toArray⟩, .string ⟨nm.toArray⟩, .slice none 0 0, .slice a4 row.length c4, .slice none 0 0, .slice none 0 0, .bool false] 48) := by
    have h := heap_newD (w.alloc (.cells #[.string ⟨tb.toArray⟩, .string ⟨nm.toArray⟩, .slice a4 row.length c4] 112)) (.cells #[.int .i64 1, .string ⟨tb.toArray⟩, .string ⟨nm.toArray⟩, .slice none 0 0, .slice a4 row.length c4, .slice none 0 0, .slice none 0 0, .bool false] 48)
    rw [size_allocD] at h; rw [hW]; exact h
  have HB : Hid (Below w.heap.size w W) := by rw [hW]; exact ((Below.refl _ _).alloc (Nat.le_refl _) _).alloc (by simp) _
  have H3 := Lib.hid h3
  have HW := Lib.hid hW
  have x0 := cell_at (o := 0) h1 rfl
  have x1 := cell_at (o := 1) h1 rfl
  have x2 := cell_at (o := 2) h1 rfl
  have z0 := cell_at (o := 0) h2 rfl
  have f0 := frozen_at 0 h2
  have z1 := cell_at (o := 1) h2 rfl
  have f1 := frozen_at 1 h2
  have z2 := cell_at (o := 2) h2 rfl
  have f2 := frozen_at 2 h2
  have z3 := cell_at (o := 3) h2 rfl
  have f3 := frozen_at 3 h2
  have z4 := cell_at (o := 4) h2 rfl
  have f4 := frozen_at 4 h2
  have z5 := cell_at (o := 5) h2 rfl
  have f5 := frozen_at 5 h2
  have z6 := cell_at (o := 6) h2 rfl
  have f6 := frozen_at 6 h2
  have z7 := cell_at (o := 7) h2 rfl
  have f7 := frozen_at 7 h2
  clear h1 h2 h3 hW
  go_enter Tryz.func113, Tryz.ntmps113
  go_wp2_with fail
  rw [← HW.out]
  clear x0 x1 x2 z0 f0 z1 f1 z2 f2 z3 f3 z4 f4 z5 f5 z6 f6 z7 f7
  have z0 := cell_at (o := 0) H3.out rfl
  have z1 := cell_at (o := 1) H3.out rfl
  have z2 := cell_at (o := 2) H3.out rfl
  have z3 := cell_at (o := 3) H3.out rfl
  have z4 := cell_at (o := 4) H3.out rfl
  have z5 := cell_at (o := 5) H3.out rfl
  have z6 := cell_at (o := 6) H3.out rfl
  have z7 := cell_at (o := 7) H3.out rfl
  refine bodyPost_ret (v := .agg #[.int .i64 1, .string ⟨tb.toArray⟩, .string ⟨nm.toArray⟩, .slice none 0 0, .slice a4 row.length c4, .slice none 0 0, .slice none 0 0, .bool false]) (by simp [results, Tryz.results113, go_sem, *]) rfl ?_
  exact ⟨rfl, HB.out⟩
set_option maxRecDepth 100000 in
set_option maxHeartbeats 6400000 in
theorem opM2 (tb : List UInt8) (wh : List CondV) (a3 : Option Addr) (c3 : Nat) (cs : List (List UInt8)) (a6 : Option Addr) (c6 : Nat) (w : World) :
    Calls Tryz.prog 114 #[.agg #[.string ⟨tb.toArray⟩, .slice a3 wh.length c3, .slice a6 cs.length c6]] w fun e w' => e = .returned (.agg #[.int .i64 2, .string ⟨tb.toArray⟩, .string ⟨#[]⟩, .slice a3 wh.length c3, .slice none 0 0, .slice none 0 0, .slice a6 cs.length c6, .bool false]) ∧ Below w.heap.size w w' := by
  have h1 := heap_keptD (heap_newD w (.cells #[.string ⟨tb.toArray⟩, .slice a3 wh.length c3, .slice a6 cs.length c6] 114)) (below_allocD _ (.cells #[.int .i64 0, .string ⟨#[]⟩, .string ⟨#[]⟩, .slice none 0 0, .slice none 0 0, .slice none 0 0, .slice none 0 0, .bool false] 48))
  have h2 := heap_newD (w.alloc (.cells #[.string ⟨tb.toArray⟩, .slice a3 wh.length c3, .slice a6 cs.length c6] 114)) (.cells #[.int .i64 0, .string ⟨#[]⟩, .string ⟨#[]⟩, .slice none 0 0, .slice none 0 0, .slice none 0 0, .slice none 0 0, .bool false] 48)
  rw [size_allocD] at h2
  obtain ⟨W, hW⟩ : ∃ W, W = ((w.alloc (.cells #[.string ⟨tb.toArray⟩, .slice a3 wh.length c3, .slice a6 cs.length c6] 114)).alloc (.cells #[.int .i64 2, .string ⟨tb.toArray⟩, .string ⟨#[]⟩, .slice a3 wh.length c3, .slice none 0 0, .slice none 0 0, .slice a6 cs.length c6, .bool false] 48)) := ⟨_, rfl⟩
  have h3 : W.heap[w.heap.size + 1]? = some (.cells #[.int .i64 2, .string ⟨tb.toArray⟩, .string ⟨#[]⟩, .slice a3 wh.length c3, .slice none 0 0, .slice none 0 0, .slice a6 cs.length c6, .bool false] 48) := by
    have h := heap_newD (w.alloc (.cells #[.string ⟨tb.toArray⟩, .slice a3 wh.length c3, .slice a6 cs.length c6] 114)) (.cells #[.int .i64 2, .string ⟨tb.toArray⟩, .string ⟨#[]⟩, .slice a3 wh.length c3, .slice none 0 0, .slice none 0 0, .slice a6 cs.length c6, .bool false] 48)
    rw [size_allocD] at h; rw [hW]; exact h
  have HB : Hid (Below w.heap.size w W) := by rw [hW]; exact ((Below.refl _ _).alloc (Nat.le_refl _) _).alloc (by simp) _
  have H3 := Lib.hid h3
  have HW := Lib.hid hW
  have x0 := cell_at (o := 0) h1 rfl
  have x1 := cell_at (o := 1) h1 rfl
  have x2 := cell_at (o := 2) h1 rfl
  have z0 := cell_at (o := 0) h2 rfl
  have f0 := frozen_at 0 h2
  have z1 := cell_at (o := 1) h2 rfl
  have f1 := frozen_at 1 h2
  have z2 := cell_at (o := 2) h2 rfl
  have f2 := frozen_at 2 h2
  have z3 := cell_at (o := 3) h2 rfl
  have f3 := frozen_at 3 h2
  have z4 := cell_at (o := 4) h2 rfl
  have f4 := frozen_at 4 h2
  have z5 := cell_at (o := 5) h2 rfl
  have f5 := frozen_at 5 h2
  have z6 := cell_at (o := 6) h2 rfl
  have f6 := frozen_at 6 h2
  have z7 := cell_at (o := 7) h2 rfl
  have f7 := frozen_at 7 h2
  clear h1 h2 h3 hW
  go_enter Tryz.func114, Tryz.ntmps114
  go_wp2_with fail
  rw [← HW.out]
  clear x0 x1 x2 z0 f0 z1 f1 z2 f2 z3 f3 z4 f4 z5 f5 z6 f6 z7 f7
  have z0 := cell_at (o := 0) H3.out rfl
  have z1 := cell_at (o := 1) H3.out rfl
  have z2 := cell_at (o := 2) H3.out rfl
  have z3 := cell_at (o := 3) H3.out rfl
  have z4 := cell_at (o := 4) H3.out rfl
  have z5 := cell_at (o := 5) H3.out rfl
  have z6 := cell_at (o := 6) H3.out rfl
  have z7 := cell_at (o := 7) H3.out rfl
  refine bodyPost_ret (v := .agg #[.int .i64 2, .string ⟨tb.toArray⟩, .string ⟨#[]⟩, .slice a3 wh.length c3, .slice none 0 0, .slice none 0 0, .slice a6 cs.length c6, .bool false]) (by simp [results, Tryz.results114, go_sem, *]) rfl ?_
  exact ⟨rfl, HB.out⟩
set_option maxRecDepth 100000 in
set_option maxHeartbeats 6400000 in
theorem opM3 (tb : List UInt8) (wh : List CondV) (a3 : Option Addr) (c3 : Nat) (row : List SetV) (a4 : Option Addr) (c4 : Nat) (w : World) :
    Calls Tryz.prog 115 #[.agg #[.string ⟨tb.toArray⟩, .slice a3 wh.length c3, .slice a4 row.length c4]] w fun e w' => e = .returned (.agg #[.int .i64 3, .string ⟨tb.toArray⟩, .string ⟨#[]⟩, .slice a3 wh.length c3, .slice a4 row.length c4, .slice none 0 0, .slice none 0 0, .bool false]) ∧ Below w.heap.size w w' := by
  have h1 := heap_keptD (heap_newD w (.cells #[.string ⟨tb.toArray⟩, .slice a3 wh.length c3, .slice a4 row.length c4] 116)) (below_allocD _ (.cells #[.int .i64 0, .string ⟨#[]⟩, .string ⟨#[]⟩, .slice none 0 0, .slice none 0 0, .slice none 0 0, .slice none 0 0, .bool false] 48))
  have h2 := heap_newD (w.alloc (.cells #[.string ⟨tb.toArray⟩, .slice a3 wh.length c3, .slice a4 row.length c4] 116)) (.cells #[.int .i64 0, .string ⟨#[]⟩, .string ⟨#[]⟩, .slice none 0 0, .slice none 0 0, .slice none 0 0, .slice none 0 0, .bool false] 48)
  rw [size_allocD] at h2
  obtain ⟨W, hW⟩ : ∃ W, W = ((w.alloc (.cells #[.string ⟨tb.toArray⟩, .slice a3 wh.length c3, .slice a4 row.length c4] 116)).alloc (.cells #[.int .i64 3, .string ⟨tb.toArray⟩, .string ⟨#[]⟩, .slice a3 wh.length c3, .slice a4 row.length c4, .slice none 0 0, .slice none 0 0, .bool false] 48)) := ⟨_, rfl⟩
  have h3 : W.heap[w.heap.size + 1]? = some (.cells #[.int .i64 3, .string ⟨tb.toArray⟩, .string ⟨#[]⟩, .slice a3 wh.length c3, .slice a4 row.length c4, .slice none 0 0, .slice none 0 0, .bool false] 48) := by
    have h := heap_newD (w.alloc (.cells #[.string ⟨tb.toArray⟩, .slice a3 wh.length c3, .slice a4 row.length c4] 116)) (.cells #[.int .i64 3, .string ⟨tb.toArray⟩, .string ⟨#[]⟩, .slice a3 wh.length c3, .slice a4 row.length c4, .slice none 0 0, .slice none 0 0, .bool false] 48)
    rw [size_allocD] at h; rw [hW]; exact h
  have HB : Hid (Below w.heap.size w W) := by rw [hW]; exact ((Below.refl _ _).alloc (Nat.le_refl _) _).alloc (by simp) _
  have H3 := Lib.hid h3
  have HW := Lib.hid hW
  have x0 := cell_at (o := 0) h1 rfl
  have x1 := cell_at (o := 1) h1 rfl
  have x2 := cell_at (o := 2) h1 rfl
  have z0 := cell_at (o := 0) h2 rfl
  have f0 := frozen_at 0 h2
  have z1 := cell_at (o := 1) h2 rfl
  have f1 := frozen_at 1 h2
  have z2 := cell_at (o := 2) h2 rfl
  have f2 := frozen_at 2 h2
  have z3 := cell_at (o := 3) h2 rfl
  have f3 := frozen_at 3 h2
  have z4 := cell_at (o := 4) h2 rfl
  have f4 := frozen_at 4 h2
  have z5 := cell_at (o := 5) h2 rfl
  have f5 := frozen_at 5 h2
  have z6 := cell_at (o := 6) h2 rfl
  have f6 := frozen_at 6 h2
  have z7 := cell_at (o := 7) h2 rfl
  have f7 := frozen_at 7 h2
  clear h1 h2 h3 hW
  go_enter Tryz.func115, Tryz.ntmps115
  go_wp2_with fail
  rw [← HW.out]
  clear x0 x1 x2 z0 f0 z1 f1 z2 f2 z3 f3 z4 f4 z5 f5 z6 f6 z7 f7
  have z0 := cell_at (o := 0) H3.out rfl
  have z1 := cell_at (o := 1) H3.out rfl
  have z2 := cell_at (o := 2) H3.out rfl
  have z3 := cell_at (o := 3) H3.out rfl
  have z4 := cell_at (o := 4) H3.out rfl
  have z5 := cell_at (o := 5) H3.out rfl
  have z6 := cell_at (o := 6) H3.out rfl
  have z7 := cell_at (o := 7) H3.out rfl
  refine bodyPost_ret (v := .agg #[.int .i64 3, .string ⟨tb.toArray⟩, .string ⟨#[]⟩, .slice a3 wh.length c3, .slice a4 row.length c4, .slice none 0 0, .slice none 0 0, .bool false]) (by simp [results, Tryz.results115, go_sem, *]) rfl ?_
  exact ⟨rfl, HB.out⟩
set_option maxRecDepth 100000 in
set_option maxHeartbeats 6400000 in
theorem opM4 (tb : List UInt8) (wh : List CondV) (a3 : Option Addr) (c3 : Nat) (mu : List MutV) (a5 : Option Addr) (c5 : Nat) (w : World) :
    Calls Tryz.prog 116 #[.agg #[.string ⟨tb.toArray⟩, .slice a3 wh.length c3, .slice a5 mu.length c5]] w fun e w' => e = .returned (.agg #[.int .i64 4, .string ⟨tb.toArray⟩, .string ⟨#[]⟩, .slice a3 wh.length c3, .slice none 0 0, .slice a5 mu.length c5, .slice none 0 0, .bool false]) ∧ Below w.heap.size w w' := by
  have h1 := heap_keptD (heap_newD w (.cells #[.string ⟨tb.toArray⟩, .slice a3 wh.length c3, .slice a5 mu.length c5] 118)) (below_allocD _ (.cells #[.int .i64 0, .string ⟨#[]⟩, .string ⟨#[]⟩, .slice none 0 0, .slice none 0 0, .slice none 0 0, .slice none 0 0, .bool false] 48))
  have h2 := heap_newD (w.alloc (.cells #[.string ⟨tb.toArray⟩, .slice a3 wh.length c3, .slice a5 mu.length c5] 118)) (.cells #[.int .i64 0, .string ⟨#[]⟩, .string ⟨#[]⟩, .slice none 0 0, .slice none 0 0, .slice none 0 0, .slice none 0 0, .bool false] 48)
  rw [size_allocD] at h2
  obtain ⟨W, hW⟩ : ∃ W, W = ((w.alloc (.cells #[.string ⟨tb.toArray⟩, .slice a3 wh.length c3, .slice a5 mu.length c5] 118)).alloc (.cells #[.int .i64 4, .string ⟨tb.toArray⟩, .string ⟨#[]⟩, .slice a3 wh.length c3, .slice none 0 0, .slice a5 mu.length c5, .slice none 0 0, .bool false] 48)) := ⟨_, rfl⟩
  have h3 : W.heap[w.heap.size + 1]? = some (.cells #[.int .i64 4, .string ⟨tb.toArray⟩, .string ⟨#[]⟩, .slice a3 wh.length c3, .slice none 0 0, .slice a5 mu.length c5, .slice none 0 0, .bool false] 48) := by
    have h := heap_newD (w.alloc (.cells #[.string ⟨tb.toArray⟩, .slice a3 wh.length c3, .slice a5 mu.length c5] 118)) (.cells #[.int .i64 4, .string ⟨tb.toArray⟩, .string ⟨#[]⟩, .slice a3 wh.length c3, .slice none 0 0, .slice a5 mu.length c5, .slice none 0 0, .bool false] 48)
    rw [size_allocD] at h; rw [hW]; exact h
  have HB : Hid (Below w.heap.size w W) := by rw [hW]; exact ((Below.refl _ _).alloc (Nat.le_refl _) _).alloc (by simp) _
  have H3 := Lib.hid h3
  have HW := Lib.hid hW
  have x0 := cell_at (o := 0) h1 rfl
  have x1 := cell_at (o := 1) h1 rfl
  have x2 := cell_at (o := 2) h1 rfl
  have z0 := cell_at (o := 0) h2 rfl
  have f0 := frozen_at 0 h2
  have z1 := cell_at (o := 1) h2 rfl
  have f1 := frozen_at 1 h2
  have z2 := cell_at (o := 2) h2 rfl
  have f2 := frozen_at 2 h2
  have z3 := cell_at (o := 3) h2 rfl
  have f3 := frozen_at 3 h2
  have z4 := cell_at (o := 4) h2 rfl
  have f4 := frozen_at 4 h2
  have z5 := cell_at (o := 5) h2 rfl
  have f5 := frozen_at 5 h2
  have z6 := cell_at (o := 6) h2 rfl
  have f6 := frozen_at 6 h2
  have z7 := cell_at (o := 7) h2 rfl
  have f7 := frozen_at 7 h2
  clear h1 h2 h3 hW
  go_enter Tryz.func116, Tryz.ntmps116
  go_wp2_with fail
  rw [← HW.out]
  clear x0 x1 x2 z0 f0 z1 f1 z2 f2 z3 f3 z4 f4 z5 f5 z6 f6 z7 f7
  have z0 := cell_at (o := 0) H3.out rfl
  have z1 := cell_at (o := 1) H3.out rfl
  have z2 := cell_at (o := 2) H3.out rfl
  have z3 := cell_at (o := 3) H3.out rfl
  have z4 := cell_at (o := 4) H3.out rfl
  have z5 := cell_at (o := 5) H3.out rfl
  have z6 := cell_at (o := 6) H3.out rfl
  have z7 := cell_at (o := 7) H3.out rfl
  refine bodyPost_ret (v := .agg #[.int .i64 4, .string ⟨tb.toArray⟩, .string ⟨#[]⟩, .slice a3 wh.length c3, .slice none 0 0, .slice a5 mu.length c5, .slice none 0 0, .bool false]) (by simp [results, Tryz.results116, go_sem, *]) rfl ?_
  exact ⟨rfl, HB.out⟩
set_option maxRecDepth 100000 in
set_option maxHeartbeats 6400000 in
theorem opM5 (tb : List UInt8) (wh : List CondV) (a3 : Option Addr) (c3 : Nat) (w : World) :
    Calls Tryz.prog 117 #[.agg #[.string ⟨tb.toArray⟩, .slice a3 wh.length c3]] w fun e w' => e = .returned (.agg #[.int .i64 5, .string ⟨tb.toArray⟩, .string ⟨#[]⟩, .slice a3 wh.length c3, .slice none 0 0, .slice none 0 0, .slice none 0 0, .bool false]) ∧ Below w.heap.size w w' := by
  have h1 := heap_keptD (heap_newD w (.cells #[.string ⟨tb.toArray⟩, .slice a3 wh.length c3] 120)) (below_allocD _ (.cells #[.int .i64 0, .string ⟨#[]⟩, .string ⟨#[]⟩, .slice none 0 0, .slice none 0 0, .slice none 0 0, .slice none 0 0, .bool false] 48))
  have h2 := heap_newD (w.alloc (.cells #[.string ⟨tb.toArray⟩, .slice a3 wh.length c3] 120)) (.cells #[.int .i64 0, .string ⟨#[]⟩, .string ⟨#[]⟩, .slice none 0 0, .slice none 0 0, .slice none 0 0, .slice none 0 0, .bool false] 48)
  rw [size_allocD] at h2
  obtain ⟨W, hW⟩ : ∃ W, W = ((w.alloc (.cells #[.string ⟨tb.toArray⟩, .slice a3 wh.length c3] 120)).alloc (.cells #[.int .i64 5, .string ⟨tb.toArray⟩, .string ⟨#[]⟩, .slice a3 wh.length c3, .slice none 0 0, .slice none 0 0, .slice none 0 0, .bool false] 48)) := ⟨_, rfl⟩
  have h3 : W.heap[w.heap.size + 1]? = some (.cells #[.int .i64 5, .string ⟨tb.toArray⟩, .string ⟨#[]⟩, .slice a3 wh.length c3, .slice none 0 0, .slice none 0 0, .slice none 0 0, .bool false] 48) := by
    have h := heap_newD (w.alloc (.cells #[.string ⟨tb.toArray⟩, .slice a3 wh.length c3] 120)) (.cells #[.int .i64 5, .string ⟨tb.toArray⟩, .string ⟨#[]⟩, .slice a3 wh.length c3, .slice none 0 0, .slice none 0 0, .slice none 0 0, .bool false] 48)
    rw [size_allocD] at h; rw [hW]; exact h
  have HB : Hid (Below w.heap.size w W) := by rw [hW]; exact ((Below.refl _ _).alloc (Nat.le_refl _) _).alloc (by simp) _
  have H3 := Lib.hid h3
  have HW := Lib.hid hW
  have x0 := cell_at (o := 0) h1 rfl
  have x1 := cell_at (o := 1) h1 rfl
  have z0 := cell_at (o := 0) h2 rfl
  have f0 := frozen_at 0 h2
  have z1 := cell_at (o := 1) h2 rfl
  have f1 := frozen_at 1 h2
  have z2 := cell_at (o := 2) h2 rfl
  have f2 := frozen_at 2 h2
  have z3 := cell_at (o := 3) h2 rfl
  have f3 := frozen_at 3 h2
  have z4 := cell_at (o := 4) h2 rfl
  have f4 := frozen_at 4 h2
  have z5 := cell_at (o := 5) h2 rfl
  have f5 := frozen_at 5 h2
  have z6 := cell_at (o := 6) h2 rfl
  have f6 := frozen_at 6 h2
  have z7 := cell_at (o := 7) h2 rfl
  have f7 := frozen_at 7 h2
  clear h1 h2 h3 hW
  go_enter Tryz.func117, Tryz.ntmps117
  go_wp2_with fail
  rw [← HW.out]
  clear x0 x1 z0 f0 z1 f1 z2 f2 z3 f3 z4 f4 z5 f5 z6 f6 z7 f7
  have z0 := cell_at (o := 0) H3.out rfl
  have z1 := cell_at (o := 1) H3.out rfl
  have z2 := cell_at (o := 2) H3.out rfl
  have z3 := cell_at (o := 3) H3.out rfl
  have z4 := cell_at (o := 4) H3.out rfl
  have z5 := cell_at (o := 5) H3.out rfl
  have z6 := cell_at (o := 6) H3.out rfl
  have z7 := cell_at (o := 7) H3.out rfl
  refine bodyPost_ret (v := .agg #[.int .i64 5, .string ⟨tb.toArray⟩, .string ⟨#[]⟩, .slice a3 wh.length c3, .slice none 0 0, .slice none 0 0, .slice none 0 0, .bool false]) (by simp [results, Tryz.results117, go_sem, *]) rfl ?_
  exact ⟨rfl, HB.out⟩
set_option maxRecDepth 100000 in
set_option maxHeartbeats 6400000 in
theorem opM6 (tb : List UInt8) (wh : List CondV) (a3 : Option Addr) (c3 : Nat) (row : List SetV) (a4 : Option Addr) (c4 : Nat) (un : Bool) (w : World) :
    Calls Tryz.prog 118 #[.agg #[.string ⟨tb.toArray⟩, .slice a3 wh.length c3, .slice a4 row.length c4, .bool un]] w fun e w' => e = .returned (.agg #[.int .i64 6, .string ⟨tb.toArray⟩, .string ⟨#[]⟩, .slice a3 wh.length c3, .slice a4 row.length c4, .slice none 0 0, .slice none 0 0, .bool un]) ∧ Below w.heap.size w w' := by
  have h1 := heap_keptD (heap_newD w (.cells #[.string ⟨tb.toArray⟩, .slice a3 wh.length c3, .slice a4 row.length c4, .bool un] 122)) (below_allocD _ (.cells #[.int .i64 0, .string ⟨#[]⟩, .string ⟨#[]⟩, .slice none 0 0, .slice none 0 0, .slice none 0 0, .slice none 0 0, .bool false] 48))
  have h2 := heap_newD (w.alloc (.cells #[.string ⟨tb.toArray⟩, .slice a3 wh.length c3, .slice a4 row.length c4, .bool un] 122)) (.cells #[.int .i64 0, .string ⟨#[]⟩, .string ⟨#[]⟩, .slice none 0 0, .slice none 0 0, .slice none 0 0, .slice none 0 0, .bool false] 48)
  rw [size_allocD] at h2
  obtain ⟨W, hW⟩ : ∃ W, W = ((w.alloc (.cells #[.string ⟨tb.toArray⟩, .slice a3 wh.length c3, .slice a4 row.length c4, .bool un] 122)).alloc (.cells #[.int .i64 6, .string ⟨tb.toArray⟩, .string ⟨#[]⟩, .slice a3 wh.length c3, .slice a4 row.length c4, .slice none 0 0, .slice none 0 0, .bool un] 48)) := ⟨_, rfl⟩
  have h3 : W.heap[w.heap.size + 1]? = some (.cells #[.int .i64 6, .string ⟨tb.toArray⟩, .string ⟨#[]⟩, .slice a3 wh.length c3, .slice a4 row.length c4, .slice none 0 0, .slice none 0 0, .bool un] 48) := by
    have h := heap_newD (w.alloc (.cells #[.string ⟨tb.toArray⟩, .slice a3 wh.length c3, .slice a4 row.length c4, .bool un] 122)) (.cells #[.int .i64 6, .string ⟨tb.toArray⟩, .string ⟨#[]⟩, .slice a3 wh.length c3, .slice a4 row.length c4, .slice none 0 0, .slice none 0 0, .bool un] 48)
    rw [size_allocD] at h; rw [hW]; exact h
  have HB : Hid (Below w.heap.size w W) := by rw [hW]; exact ((Below.refl _ _).alloc (Nat.le_refl _) _).alloc (by simp) _
  have H3 := Lib.hid h3
  have HW := Lib.hid hW
  have x0 := cell_at (o := 0) h1 rfl
  have x1 := cell_at (o := 1) h1 rfl
  have x2 := cell_at (o := 2) h1 rfl
  have x3 := cell_at (o := 3) h1 rfl
  have z0 := cell_at (o := 0) h2 rfl
  have f0 := frozen_at 0 h2
  have z1 := cell_at (o := 1) h2 rfl
  have f1 := frozen_at 1 h2
  have z2 := cell_at (o := 2) h2 rfl
  have f2 := frozen_at 2 h2
  have z3 := cell_at (o := 3) h2 rfl
  have f3 := frozen_at 3 h2
  have z4 := cell_at (o := 4) h2 rfl
  have f4 := frozen_at 4 h2
  have z5 := cell_at (o := 5) h2 rfl
  have f5 := frozen_at 5 h2
  have z6 := cell_at (o := 6) h2 rfl
  have f6 := frozen_at 6 h2
  have z7 := cell_at (o := 7) h2 rfl
  have f7 := frozen_at 7 h2
  clear h1 h2 h3 hW
  go_enter Tryz.func118, Tryz.ntmps118
  go_wp2_with fail
  rw [← HW.out]
  clear x0 x1 x2 x3 z0 f0 z1 f1 z2 f2 z3 f3 z4 f4 z5 f5 z6 f6 z7 f7
  have z0 := cell_at (o := 0) H3.out rfl
  have z1 := cell_at (o := 1) H3.out rfl
  have z2 := cell_at (o := 2) H3.out rfl
  have z3 := cell_at (o := 3) H3.out rfl
  have z4 := cell_at (o := 4) H3.out rfl
  have z5 := cell_at (o := 5) H3.out rfl
  have z6 := cell_at (o := 6) H3.out rfl
  have z7 := cell_at (o := 7) H3.out rfl
  refine bodyPost_ret (v := .agg #[.int .i64 6, .string ⟨tb.toArray⟩, .string ⟨#[]⟩, .slice a3 wh.length c3, .slice a4 row.length c4, .slice none 0 0, .slice none 0 0, .bool un]) (by simp [results, Tryz.results118, go_sem, *]) rfl ?_
  exact ⟨rfl, HB.out⟩
set_option maxRecDepth 100000 in
set_option maxHeartbeats 6400000 in
theorem opM7  (w : World) :
    Calls Tryz.prog 119 #[.agg #[]] w fun e w' => e = .returned (.agg #[.int .i64 7, .string ⟨#[]⟩, .string ⟨#[]⟩, .slice none 0 0, .slice none 0 0, .slice none 0 0, .slice none 0 0, .bool false]) ∧ Below w.heap.size w w' := by
  have h1 := heap_keptD (heap_newD w (.cells #[] 124)) (below_allocD _ (.cells #[.int .i64 0, .string ⟨#[]⟩, .string ⟨#[]⟩, .slice none 0 0, .slice none 0 0, .slice none 0 0, .slice none 0 0, .bool false] 48))
  have h2 := heap_newD (w.alloc (.cells #[] 124)) (.cells #[.int .i64 0, .string ⟨#[]⟩, .string ⟨#[]⟩, .slice none 0 0, .slice none 0 0, .slice none 0 0, .slice none 0 0, .bool false] 48)
  rw [size_allocD] at h2
  obtain ⟨W, hW⟩ : ∃ W, W = ((w.alloc (.cells #[] 124)).alloc (.cells #[.int .i64 7, .string ⟨#[]⟩, .string ⟨#[]⟩, .slice none 0 0, .slice none 0 0, .slice none 0 0, .slice none 0 0, .bool false] 48)) := ⟨_, rfl⟩
  have h3 : W.heap[w.heap.size + 1]? = some (.cells #[.int .i64 7, .string ⟨#[]⟩, .string ⟨#[]⟩, .slice none 0 0, .slice none 0 0, .slice none 0 0, .slice none 0 0, .bool false] 48) := by
    have h := heap_newD (w.alloc (.cells #[] 124)) (.cells #[.int .i64 7, .string ⟨#[]⟩, .string ⟨#[]⟩, .slice none 0 0, .slice none 0 0, .slice none 0 0, .slice none 0 0, .bool false] 48)
    rw [size_allocD] at h; rw [hW]; exact h
  have HB : Hid (Below w.heap.size w W) := by rw [hW]; exact ((Below.refl _ _).alloc (Nat.le_refl _) _).alloc (by simp) _
  have H3 := Lib.hid h3
  have HW := Lib.hid hW
  have z0 := cell_at (o := 0) h2 rfl
  have f0 := frozen_at 0 h2
  have z1 := cell_at (o := 1) h2 rfl
  have f1 := frozen_at 1 h2
  have z2 := cell_at (o := 2) h2 rfl
  have f2 := frozen_at 2 h2
  have z3 := cell_at (o := 3) h2 rfl
  have f3 := frozen_at 3 h2
  have z4 := cell_at (o := 4) h2 rfl
  have f4 := frozen_at 4 h2
  have z5 := cell_at (o := 5) h2 rfl
  have f5 := frozen_at 5 h2
  have z6 := cell_at (o := 6) h2 rfl
  have f6 := frozen_at 6 h2
  have z7 := cell_at (o := 7) h2 rfl
  have f7 := frozen_at 7 h2
  clear h1 h2 h3 hW
  go_enter Tryz.func119, Tryz.ntmps119
  go_wp2_with fail
  rw [← HW.out]
  clear  z0 f0 z1 f1 z2 f2 z3 f3 z4 f4 z5 f5 z6 f6 z7 f7
  have z0 := cell_at (o := 0) H3.out rfl
  have z1 := cell_at (o := 1) H3.out rfl
  have z2 := cell_at (o := 2) H3.out rfl
  have z3 := cell_at (o := 3) H3.out rfl
  have z4 := cell_at (o := 4) H3.out rfl
  have z5 := cell_at (o := 5) H3.out rfl
  have z6 := cell_at (o := 6) H3.out rfl
  have z7 := cell_at (o := 7) H3.out rfl
  refine bodyPost_ret (v := .agg #[.int .i64 7, .string ⟨#[]⟩, .string ⟨#[]⟩, .slice none 0 0, .slice none 0 0, .slice none 0 0, .slice none 0 0, .bool false]) (by simp [results, Tryz.results119, go_sem, *]) rfl ?_
  exact ⟨rfl, HB.out⟩
set_option maxRecDepth 100000 in
set_option maxHeartbeats 6400000 in
theorem opM8  (w : World) :
    Calls Tryz.prog 120 #[.agg #[]] w fun e w' => e = .returned (.agg #[.int .i64 8, .string ⟨#[]⟩, .string ⟨#[]⟩, .slice none 0 0, .slice none 0 0, .slice none 0 0, .slice none 0 0, .bool false]) ∧ Below w.heap.size w w' := by
  have h1 := heap_keptD (heap_newD w (.cells #[] 125)) (below_allocD _ (.cells #[.int .i64 0, .string ⟨#[]⟩, .string ⟨#[]⟩, .slice none 0 0, .slice none 0 0, .slice none 0 0, .slice none 0 0, .bool false] 48))
  have h2 := heap_newD (w.alloc (.cells #[] 125)) (.cells #[.int .i64 0, .string ⟨#[]⟩, .string ⟨#[]⟩, .slice none 0 0, .slice none 0 0, .slice none 0 0, .slice none 0 0, .bool false] 48)
  rw [size_allocD] at h2
  obtain ⟨W, hW⟩ : ∃ W, W = ((w.alloc (.cells #[] 125)).alloc (.cells #[.int .i64 8, .string ⟨#[]⟩, .string ⟨#[]⟩, .slice none 0 0, .slice none 0 0, .slice none 0 0, .slice none 0 0, .bool false] 48)) := ⟨_, rfl⟩
  have h3 : W.heap[w.heap.size + 1]? = some (.cells #[.int .i64 8, .string ⟨#[]⟩, .string ⟨#[]⟩, .slice none 0 0, .slice none 0 0, .slice none 0 0, .slice none 0 0, .bool false] 48) := by
    have h := heap_newD (w.alloc (.cells #[] 125)) (.cells #[.int .i64 8, .string ⟨#[]⟩, .string ⟨#[]⟩, .slice none 0 0, .slice none 0 0, .slice none 0 0, .slice none 0 0, .bool false] 48)
    rw [size_allocD] at h; rw [hW]; exact h
  have HB : Hid (Below w.heap.size w W) := by rw [hW]; exact ((Below.refl _ _).alloc (Nat.le_refl _) _).alloc (by simp) _
  have H3 := Lib.hid h3
  have HW := Lib.hid hW
  have z0 := cell_at (o := 0) h2 rfl
  have f0 := frozen_at 0 h2
  have z1 := cell_at (o := 1) h2 rfl
  have f1 := frozen_at 1 h2
  have z2 := cell_at (o := 2) h2 rfl
  have f2 := frozen_at 2 h2
  have z3 := cell_at (o := 3) h2 rfl
  have f3 := frozen_at 3 h2
  have z4 := cell_at (o := 4) h2 rfl
  have f4 := frozen_at 4 h2
  have z5 := cell_at (o := 5) h2 rfl
  have f5 := frozen_at 5 h2
  have z6 := cell_at (o := 6) h2 rfl
  have f6 := frozen_at 6 h2
  have z7 := cell_at (o := 7) h2 rfl
  have f7 := frozen_at 7 h2
  clear h1 h2 h3 hW
  go_enter Tryz.func120, Tryz.ntmps120
  go_wp2_with fail
  rw [← HW.out]
  clear  z0 f0 z1 f1 z2 f2 z3 f3 z4 f4 z5 f5 z6 f6 z7 f7
  have z0 := cell_at (o := 0) H3.out rfl
  have z1 := cell_at (o := 1) H3.out rfl
  have z2 := cell_at (o := 2) H3.out rfl
  have z3 := cell_at (o := 3) H3.out rfl
  have z4 := cell_at (o := 4) H3.out rfl
  have z5 := cell_at (o := 5) H3.out rfl
  have z6 := cell_at (o := 6) H3.out rfl
  have z7 := cell_at (o := 7) H3.out rfl
  refine bodyPost_ret (v := .agg #[.int .i64 8, .string ⟨#[]⟩, .string ⟨#[]⟩, .slice none 0 0, .slice none 0 0, .slice none 0 0, .slice none 0 0, .bool false]) (by simp [results, Tryz.results120, go_sem, *]) rfl ?_
  exact ⟨rfl, HB.out⟩
set_option maxRecDepth 100000 in
set_option maxHeartbeats 6400000 in
theorem opM9 (nm : List UInt8) (w : World) :
    Calls Tryz.prog 121 #[.agg #[.string ⟨nm.toArray⟩]] w fun e w' => e = .returned (.agg #[.int .i64 9, .string ⟨#[]⟩, .string ⟨nm.toArray⟩, .slice none 0 0, .slice none 0 0, .slice none 0 0, .slice none 0 0, .bool false]) ∧ Below w.heap.size w w' := by
  have h1 := heap_keptD (heap_newD w (.cells #[.string ⟨nm.toArray⟩] 127)) (below_allocD _ (.cells #[.int .i64 0, .string ⟨#[]⟩, .string ⟨#[]⟩, .slice none 0 0, .slice none 0 0, .slice none 0 0, .slice none 0 0, .bool false] 48))
  have h2 := heap_newD (w.alloc (.cells #[.string ⟨nm.toArray⟩] 127)) (.cells #[.int .i64 0, .string ⟨#[]⟩, .string ⟨#[]⟩, .slice none 0 0, .slice none 0 0, .slice none 0 0, .slice none 0 0, .bool false] 48)
  rw [size_allocD] at h2
  obtain ⟨W, hW⟩ : ∃ W, W = ((w.alloc (.cells #[.string ⟨nm.toArray⟩] 127)).alloc (.cells #[.int .i64 9, .string ⟨#[]⟩, .string ⟨nm.toArray⟩, .slice none 0 0, .slice none 0 0, .slice none 0 0, .slice none 0 0, .bool false] 48)) := ⟨_, rfl⟩
  have h3 : W.heap[w.heap.size + 1]? = some (.cells #[.int .i64 9, .string ⟨#[]⟩, .string ⟨nm.toArray⟩, .slice none 0 0, .slice none 0 0, .slice none 0 0, .slice none 0 0, .bool false] 48) := by
    have h := heap_newD (w.alloc (.cells #[.string ⟨nm.toArray⟩] 127)) (.cells #[.int .i64 9, .string ⟨#[]⟩, .string ⟨nm.toArray⟩, .slice none 0 0, .slice none 0 0, .slice none 0 0, .slice none 0 0, .bool false] 48)
    rw [size_allocD] at h; rw [hW]; exact h
  have HB : Hid (Below w.heap.size w W) := by rw [hW]; exact ((Below.refl _ _).alloc (Nat.le_refl _) _).alloc (by simp) _
  have H3 := Lib.hid h3
  have HW := Lib.hid hW
  have x0 := cell_at (o := 0) h1 rfl
  have z0 := cell_at (o := 0) h2 rfl
  have f0 := frozen_at 0 h2
  have z1 := cell_at (o := 1) h2 rfl
  have f1 := frozen_at 1 h2
  have z2 := cell_at (o := 2) h2 rfl
  have f2 := frozen_at 2 h2
  have z3 := cell_at (o := 3) h2 rfl
  have f3 := frozen_at 3 h2
  have z4 := cell_at (o := 4) h2 rfl
  have f4 := frozen_at 4 h2
  have z5 := cell_at (o := 5) h2 rfl
  have f5 := frozen_at 5 h2
  have z6 := cell_at (o := 6) h2 rfl
  have f6 := frozen_at 6 h2
  have z7 := cell_at (o := 7) h2 rfl
  have f7 := frozen_at 7 h2
  clear h1 h2 h3 hW
  go_enter Tryz.func121, Tryz.ntmps121
  go_wp2_with fail
  rw [← HW.out]
  clear x0 z0 f0 z1 f1 z2 f2 z3 f3 z4 f4 z5 f5 z6 f6 z7 f7
  have z0 := cell_at (o := 0) H3.out rfl
  have z1 := cell_at (o := 1) H3.out rfl
  have z2 := cell_at (o := 2) H3.out rfl
  have z3 := cell_at (o := 3) H3.out rfl
  have z4 := cell_at (o := 4) H3.out rfl
  have z5 := cell_at (o := 5) H3.out rfl
  have z6 := cell_at (o := 6) H3.out rfl
  have z7 := cell_at (o := 7) H3.out rfl
  refine bodyPost_ret (v := .agg #[.int .i64 9, .string ⟨#[]⟩, .string ⟨nm.toArray⟩, .slice none 0 0, .slice none 0 0, .slice none 0 0, .slice none 0 0, .bool false]) (by simp [results, Tryz.results121, go_sem, *]) rfl ?_
  exact ⟨rfl, HB.out⟩
set_option maxRecDepth 100000 in
set_option maxHeartbeats 6400000 in
theorem opM10 (nm : List UInt8) (w : World) :
    Calls Tryz.prog 122 #[.agg #[.string ⟨nm.toArray⟩]] w fun e w' => e = .returned (.agg #[.int .i64 10, .string ⟨#[]⟩, .string ⟨nm.toArray⟩, .slice none 0 0, .slice none 0 0, .slice none 0 0, .slice none 0 0, .bool false]) ∧ Below w.heap.size w w' := by
  have h1 := heap_keptD (heap_newD w (.cells #[.string ⟨nm.toArray⟩] 129)) (below_allocD _ (.cells #[.int .i64 0, .string ⟨#[]⟩, .string ⟨#[]⟩, .slice none 0 0, .slice none 0 0, .slice none 0 0, .slice none 0 0, .bool false] 48))
  have h2 := heap_newD (w.alloc (.cells #[.string ⟨nm.toArray⟩] 129)) (.cells #[.int .i64 0, .string ⟨#[]⟩, .string ⟨#[]⟩, .slice none 0 0, .slice none 0 0, .slice none 0 0, .slice none 0 0, .bool false] 48)
  rw [size_allocD] at h2
  obtain ⟨W, hW⟩ : ∃ W, W = ((w.alloc (.cells #[.string ⟨nm.toArray⟩] 129)).alloc (.cells #[.int .i64 10, .string ⟨#[]⟩, .string ⟨nm.toArray⟩, .slice none 0 0, .slice none 0 0, .slice none 0 0, .slice none 0 0, .bool false] 48)) := ⟨_, rfl⟩
  have h3 : W.heap[w.heap.size + 1]? = some (.cells #[.int .i64 10, .string ⟨#[]⟩, .string ⟨nm.toArray⟩, .slice none 0 0, .slice none 0 0, .slice none 0 0, .slice none 0 0, .bool false] 48) := by
    have h := heap_newD (w.alloc (.cells #[.string ⟨nm.toArray⟩] 129)) (.cells #[.int .i64 10, .string ⟨#[]⟩, .string ⟨nm.toArray⟩, .slice none 0 0, .slice none 0 0, .slice none 0 0, .slice none 0 0, .bool false] 48)
    rw [size_allocD] at h; rw [hW]; exact h
  have HB : Hid (Below w.heap.size w W) := by rw [hW]; exact ((Below.refl _ _).alloc (Nat.le_refl _) _).alloc (by simp) _
  have H3 := Lib.hid h3
  have HW := Lib.hid hW
  have x0 := cell_at (o := 0) h1 rfl
  have z0 := cell_at (o := 0) h2 rfl
  have f0 := frozen_at 0 h2
  have z1 := cell_at (o := 1) h2 rfl
  have f1 := frozen_at 1 h2
  have z2 := cell_at (o := 2) h2 rfl
  have f2 := frozen_at 2 h2
  have z3 := cell_at (o := 3) h2 rfl
  have f3 := frozen_at 3 h2
  have z4 := cell_at (o := 4) h2 rfl
  have f4 := frozen_at 4 h2
  have z5 := cell_at (o := 5) h2 rfl
  have f5 := frozen_at 5 h2
  have z6 := cell_at (o := 6) h2 rfl
  have f6 := frozen_at 6 h2
  have z7 := cell_at (o := 7) h2 rfl
  have f7 := frozen_at 7 h2
  clear h1 h2 h3 hW
  go_enter Tryz.func122, Tryz.ntmps122
  go_wp2_with fail
  rw [← HW.out]
  clear x0 z0 f0 z1 f1 z2 f2 z3 f3 z4 f4 z5 f5 z6 f6 z7 f7
  have z0 := cell_at (o := 0) H3.out rfl
  have z1 := cell_at (o := 1) H3.out rfl
  have z2 := cell_at (o := 2) H3.out rfl
  have z3 := cell_at (o := 3) H3.out rfl
  have z4 := cell_at (o := 4) H3.out rfl
  have z5 := cell_at (o := 5) H3.out rfl
  have z6 := cell_at (o := 6) H3.out rfl
  have z7 := cell_at (o := 7) H3.out rfl
  refine bodyPost_ret (v := .agg #[.int .i64 10, .string ⟨#[]⟩, .string ⟨nm.toArray⟩, .slice none 0 0, .slice none 0 0, .slice none 0 0, .slice none 0 0, .bool false]) (by simp [results, Tryz.results122, go_sem, *]) rfl ?_
  exact ⟨rfl, HB.out⟩
end Go.Proofs.YtndlhcdgpkeifaaGreat
