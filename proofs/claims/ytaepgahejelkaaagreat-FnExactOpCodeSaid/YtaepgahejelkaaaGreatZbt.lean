import Derived.Test.YtaepgahejelkaaaGreatZap
import Derived.Test.YtaepgahejelkaaaGreatZbd
namespace Go.Proofs.YtaepgahejelkaaaGreat
open Go.RowKit
set_option linter.unusedSimpArgs false
set_option maxRecDepth 100000 in
set_option maxHeartbeats 6400000 in
theorem opM1 (tb : List UInt8) (nm : List UInt8) (row : List SetV) (a4 : Option Addr) (c4 : Nat) (w : World) :
    Calls Tryz.prog 155 #[.agg #[.string ⟨tb.toArray⟩, .string ⟨nm.toArray⟩, .slice a4 row.length c4]] w fun e w' => e = .returned (.agg #[.int .i64 1, .string ⟨tb.toArray⟩, .string ⟨nm.toArray⟩, .slice none 0 0, .slice a4 row.length c4, .slice none 0 0, .slice none 0 0, .bool false]) ∧ Below w.heap.size w w' := by
  have h1 := heap_keptD (heap_newD w (.cells #[.string ⟨tb.toArray⟩, .string ⟨nm.toArray⟩, .slice a4 row.length c4] 117)) (below_allocD _ (.cells #[.int .i64 0, .string ⟨#[]⟩, .string ⟨#[]⟩, .slice none 0 0, .slice none 0 0, .slice none 0 0, .slice none 0 0, .bool false] 43))
  have h2 := heap_newD (w.alloc (.cells #[.string ⟨tb.toArray⟩, .string ⟨nm.toArray⟩, .slice a4 row.length c4] 117)) (.cells #[.int .i64 0, .string ⟨#[]⟩, .string ⟨#[]⟩, .slice none 0 0, .slice none 0 0, .slice none 0 0, .slice none 0 0, .bool false] 43)
  rw [size_allocD] at h2
  obtain ⟨W, hW⟩ : ∃ W, W = ((w.alloc (.cells #[.string ⟨tb.toArray⟩, .string ⟨nm.toArray⟩, .slice a4 row.length c4] 117)).alloc (.cells #[.int .i64 1, .string ⟨tb.toArray⟩, .string ⟨nm.toArray⟩, .slice none 0 0, .slice a4 row.length c4, .slice none 0 0, .slice none 0 0, .bool false] 43)) := ⟨_, rfl⟩
  have h3 : W.heap[w.heap.size + 1]? = some (.cells #[.int .i64 1, .string ⟨tb.toArray⟩, .string ⟨nm.toArray⟩, .slice none 0 0, .slice a4 row.length c4, .slice none 0 0, .slice none 0 0, .bool false] 43) := by
    have h := heap_newD (w.alloc (.cells #[.string ⟨tb.toArray⟩, .string ⟨nm.toArray⟩, .slice a4 row.length c4] 117)) (.cells #[.int .i64 1, .string ⟨tb.toArray⟩, .string ⟨nm.toArray⟩, .slice none 0 0, .slice a4 row.length c4, .slice none 0 0, .slice none 0 0, .bool false] 43)
    rw [size_allocD] at h; rw [hW]; exact h
  have HB : Hid (Below w.heap.size w W) := by rw [hW]; exact ((Below.refl _ _).alloc (Nat.le_refl _) _).alloc (by simp) _
  have H3 := Lib.hid h3
  have HW := Lib.hid hW
  have x0 := cell_at (o := 0) h1 rfl
  have x1 := cell_at (o := 1) h1 rfl
  have x2 := cell_at (o := 2) h1 rfl
  have z0 := cell_at (o := 0) h2 rfl
  have f0 := frozen_at 0 h2
  have z1 := cell_at (o := 1) h2 rfl
  have f1 := frozen_at 1 h2
  have z2 := cell_at (o := 2) h2 rfl
  have f2 := frozen_at 2 h2
  have z3 := cell_at (o := 3) h2 rfl
  have f3 := frozen_at 3 h2
  have z4 := cell_at (o := 4) h2 rfl
  have f4 := frozen_at 4 h2
  have z5 := cell_at (o := 5) h2 rfl
  have f5 := frozen_at 5 h2
  have z6 := cell_at (o := 6) h2 rfl
  have f6 := frozen_at 6 h2
  have z7 := cell_at (o := 7) h2 rfl
  have f7 := frozen_at 7 h2
  clear h1 h2 h3 hW
  go_enter Tryz.func155, Tryz.ntmps155
  go_wp2_with fail
  rw [← HW.out]
  clear x0 x1 x2 z0 f0 z1 f1 z2 f2 z3 f3 z4 f4 z5 f5 z6 f6 z7 f7
  have z0 := cell_at (o := 0) H3.out rfl
  have z1 := cell_at (o := 1) H3.out rfl
  have z2 := cell_at (o := 2) H3.out rfl
  have z3 := cell_at (o := 3) H3.out rfl
  have z4 := cell_at (o := 4) H3.out rfl
  have z5 := cell_at (o := 5) H3.out rfl
  have z6 := cell_at (o := 6) H3.out rfl
  have z7 := cell_at (o := 7) H3.out rfl
  refine bodyPost_ret (v := .agg #[.int .i64 1, .string ⟨tb.toArray⟩, .string ⟨nm.toArray⟩, .slice none 0 0, .slice a4 row.length c4, .slice none 0 0, .slice none 0 0, .bool false]) (by simp [results, Tryz.results155, go_sem, *]) rfl ?_
  exact ⟨rfl, HB.out⟩
set_option maxRecDepth 100000 in
set_option maxHeartbeats 6400000 in
theorem opM2 (tb : List UInt8) (wh : List CondV) (a3 : Option Addr) (c3 : Nat) (cs : List (List UInt8)) (a6 : Option Addr) (c6 : Nat) (w : World) :
    Calls Tryz.prog 156 #[.agg #[.string ⟨tb.toArray⟩, .slice a3 wh.length c3, .slice a6 cs.length c6]] w fun e w' => e = .returned (.agg #[.int .i64 2, .string ⟨tb.toArray⟩, .string ⟨#[]⟩, .slice a3 wh.length c3, .slice none 0 0, .slice none 0 0, .slice a6 cs.length c6, .bool false]) ∧ Below w.heap.size w w' := by
  have h1 := heap_keptD (heap_newD w (.cells #[.string ⟨tb.toArray⟩, .slice a3 wh.length c3, .slice a6 cs.length c6] 119)) (below_allocD _ (.cells #[.int .i64 0, .string ⟨#[]⟩, .string ⟨#[]⟩, .slice none 0 0, .slice none 0 0, .slice none 0 0, .slice none 0 0, .bool false] 43))
  have h2 := heap_newD (w.alloc (.cells #[.string ⟨tb.toArray⟩, .slice a3 wh.length c3, .slice a6 cs.length c6] 119)) (.cells #[.int .i64 0, .string ⟨#[]⟩, .string ⟨#[]⟩, .slice none 0 0, .slice none 0 0, .slice none 0 0, .slice none 0 0, .bool false] 43)
  rw [size_allocD] at h2
  obtain ⟨W, hW⟩ : ∃ W, W = ((w.alloc (.cells #[.string ⟨tb.toArray⟩, .slice a3 wh.length c3, .slice a6 cs.length c6] 119)).alloc (.cells #[.int .i64 2, .string ⟨tb.toArray⟩, .string ⟨#[]⟩, .slice a3 wh.length c3, .slice none 0 0, .slice none 0 0, .slice a6 cs.length c6, .bool false] 43)) := ⟨_, rfl⟩
  have h3 : W.heap[w.heap.size + 1]? = some (.cells #[.int .i64 2, .string ⟨tb.toArray⟩, .string ⟨#[]⟩, .slice a3 wh.length c3, .slice none 0 0, .slice none 0 0, .slice a6 cs.length c6, .bool false] 43) := by
    have h := heap_newD (w.alloc (.cells #[.string ⟨tb.toArray⟩, .slice a3 wh.length c3, .slice a6 cs.length c6] 119)) (.cells #[.int .i64 2, .string ⟨tb.toArray⟩, .string ⟨#[]⟩, .slice a3 wh.length c3, .slice none 0 0, .slice none 0 0, .slice a6 cs.length c6, .bool false] 43)
    rw [size_allocD] at h; rw [hW]; exact h
  have HB : Hid (Below w.heap.size w W) := by rw [hW]; exact ((Below.refl _ _).alloc (Nat.le_refl _) _).alloc (by simp) _
  have H3 := Lib.hid h3
  have HW := Lib.hid hW
  have x0 := cell_at (o := 0) h1 rfl
  have x1 := cell_at (o := 1) h1 rfl
  have x2 := cell_at (o := 2) h1 rfl
  have z0 := cell_at (o := 0) h2 rfl
  have f0 := frozen_at 0 h2
  have z1 := cell_at (o := 1) h2 rfl
  have f1 := frozen_at 1 h2
  have z2 := cell_at (o := 2) h2 rfl
  have f2 := frozen_at 2 h2
  have z3 := cell_at (o := 3) h2 rfl
  have f3 := frozen_at 3 h2
  have z4 := cell_at (o := 4) h2 rfl
  have f4 := frozen_at 4 h2
  have z5 := cell_at (o := 5) h2 rfl
  have f5 := frozen_at 5 h2
  have z6 := cell_at (o := 6) h2 rfl
  have f6 := frozen_at 6 h2
  have z7 := cell_at (o := 7) h2 rfl
  have f7 := frozen_at 7 h2
  clear h1 h2 h3 hW
  go_enter Tryz.func156, Tryz.ntmps156
  go_wp2_with fail
  rw [← HW.out]
  clear x0 x1 x2 z0 f0 z1 f1 z2 f2 z3 f3 z4 f4 z5 f5 z6 f6 z7 f7
  have z0 := cell_at (o := 0) H3.out rfl
  have z1 := cell_at (o := 1) H3.out rfl
  have z2 := cell_at (o := 2) H3.out rfl
  have z3 := cell_at (o := 3) H3.out rfl
  have z4 := cell_at (o := 4) H3.out rfl
  have z5 := cell_at (o := 5) H3.out rfl
  have z6 := cell_at (o := 6) H3.out rfl
  have z7 := cell_at (o := 7) H3.out rfl
  refine bodyPost_ret (v := .agg #[.int .i64 2, .string ⟨tb.toArray⟩, .string ⟨#[]⟩, .slice a3 wh.length c3, .slice none 0 0, .slice none 0 0, .slice a6 cs.length c6, .bool false]) (by simp [results, Tryz.results156, go_sem, *]) rfl ?_
  exact ⟨rfl, HB.out⟩
set_option maxRecDepth 100000 in
set_option maxHeartbeats 6400000 in
theorem opM3 (tb : List UInt8) (wh : List CondV) (a3 : Option Addr) (c3 : Nat) (row : List SetV) (a4 : Option Addr) (c4 : Nat) (w : World) :
    Calls Tryz.prog 157 #[.agg #[.string ⟨tb.toArray⟩, .slice a3 wh.length c3, .slice a4 row.length c4]] w fun e w' => e = .returned (.agg #[.int .i64 3, .string ⟨tb.toArray⟩, .string ⟨#[]⟩, .slice a3 wh.length c3, .slice a4 row.length c4, .slice none 0 0, .slice none 0 0, .bool false]) ∧ Below w.heap.size w w' := by
  have h1 := heap_keptD (heap_newD w (.cells #[.string ⟨tb.toArray⟩, .slice a3 wh.length c3, .slice a4 row.length c4] 121)) (below_allocD _ (.cells #[.int .i64 0, .string ⟨#[]⟩, .string ⟨#[]⟩, .slice none 0 0, .slice none 0 0, .slice none 0 0, .slice none 0 0, .bool false] 43))
  have h2 := heap_newD (w.alloc (.cells #[.string ⟨tb.toArray⟩, .slice a3 wh.length c3, .slice a4 row.length c4] 121)) (.cells #[.int .i64 0, .string ⟨#[]⟩, .string ⟨#[]⟩, .slice none 0 0, .slice none 0 0, .slice none 0 0, .slice none 0 0, .bool false] 43)
  rw [size_allocD] at h2
  obtain ⟨W, hW⟩ : ∃ W, W = ((w.alloc (.cells #[.string ⟨tb.toArray⟩, .slice a3 wh.length c3, .slice a4 row.length c4] 121)).alloc (.cells #[.int .i64 3, .string ⟨tb.toArray⟩, .string ⟨#[]⟩, .slice a3 wh.length c3, .slice a4 row.length c4, .slice none 0 0, .slice none 0 0, .bool false] 43)) := ⟨_, rfl⟩
  have h3 : W.heap[w.heap.size + 1]? = some (.cells #[.int .i64 3, .string ⟨tb.toArray⟩, .string ⟨#[]⟩, .slice a3 wh.length c3, .slice a4 row.length c4, .slice none 0 0, .slice none 0 0, .bool false] 43) := by
    have h := heap_newD (w.alloc (.cells #[.string ⟨tb.toArray⟩, .slice a3 wh.length c3, .slice a4 row.length c4] 121)) (.cells #[.int .i64 3, .string ⟨tb.toArray⟩, .string ⟨#[]⟩, .slice a3 wh.length c3, .slice a4 row.length c4, .slice none 0 0, .slice none 0 0, .bool false] 43)
    rw [size_allocD] at h; rw [hW]; exact h
  have HB : Hid (Below w.heap.size w W) := by rw [hW]; exact ((Below.refl _ _).alloc (Nat.le_refl _) _).alloc (by simp) _
  have H3 := Lib.hid h3
  have HW := Lib.hid hW
  have x0 := cell_at (o := 0) h1 rfl
  have x1 := cell_at (o := 1) h1 rfl
  have x2 := cell_at (o := 2) h1 rfl
  have z0 := cell_at (o := 0) h2 rfl
  have f0 := frozen_at 0 h2
  have z1 := cell_at (o := 1) h2 rfl
  have f1 := frozen_at 1 h2
  have z2 := cell_at (o := 2) h2 rfl
  have f2 := frozen_at 2 h2
  have z3 := cell_at (o := 3) h2 rfl
  have f3 := frozen_at 3 h2
  have z4 := cell_at (o := 4) h2 rfl
  have f4 := frozen_at 4 h2
  have z5 := cell_at (o := 5) h2 rfl
  have f5 := frozen_at 5 h2
  have z6 := cell_at (o := 6) h2 rfl
  have f6 := frozen_at 6 h2
  have z7 := cell_at (o := 7) h2 rfl
  have f7 := frozen_at 7 h2
  clear h1 h2 h3 hW
  go_enter Tryz.func157, Tryz.ntmps157
  go_wp2_with fail
  rw [← HW.out]
  clear x0 x1 x2 z0 f0 z1 f1 z2 f2 z3 f3 z4 f4 z5 f5 z6 f6 z7 f7
  have z0 := cell_at (o := 0) H3.out rfl
  have z1 := cell_at (o := 1) H3.out rfl
  have z2 := cell_at (o := 2) H3.out rfl
  have z3 := cell_at (o := 3) H3.out rfl
  have z4 := cell_at (o := 4) H3.out rfl
  have z5 := cell_at (o := 5) H3.out rfl
  have z6 := cell_at (o := 6) H3.out rfl
  have z7 := cell_at (o := 7) H3.out rfl
  refine bodyPost_ret (v := .agg #[.int .i64 3, .string ⟨tb.toArray⟩, .string ⟨#[]⟩, .slice a3 wh.length c3, .slice a4 row.length c4, .slice none 0 0, .slice none 0 0, .bool false]) (by simp [results, Tryz.results157, go_sem, *]) rfl ?_
  exact ⟨rfl, HB.out⟩
set_option maxRecDepth 100000 in
set_option maxHeartbeats 6400000 in
theorem opM4 (tb : List UInt8) (wh : List CondV) (a3 : Option Addr) (c3 : Nat) (mu : List MutV) (a5 : Option Addr) (c5 : Nat) (w : World) :
    Calls Tryz.prog 158 #[.agg #[.string ⟨tb.toArray⟩, .slice a3 wh.length c3, .slice a5 mu.length c5]] w fun e w' => e = .returned (.agg #[.int .i64 4, .string ⟨tb.toArray⟩, .string ⟨#[]⟩, .slice a3 wh.length c3, .slice none 0 0, .slice a5 mu.length c5, .slice none 0 0, .bool false]) ∧ Below w.heap.size w w' := by
  have h1 := heap_keptD (heap_newD w (.cells #[.string ⟨tb.toArray⟩, .slice a3 wh.length c3, .slice a5 mu.length c5] 123)) (below_allocD _ (.cells #[.int .i64 0, .string ⟨#[]⟩, .string ⟨#[]⟩, .slice none 0 0, .slice none 0 0, .slice none 0 0, .slice none 0 0, .bool false] 43))
  have h2 := heap_newD (w.alloc (.cells #[.string ⟨tb.toArray⟩, .slice a3 wh.length c3, .slice a5 mu.length c5] 123)) (.cells #[.int .i64 0, .string ⟨#[]⟩, .string ⟨#[]⟩, .slice none 0 0, .slice none 0 0, .slice none 0 0, .slice none 0 0, .bool false] 43)
  rw [size_allocD] at h2
  obtain ⟨W, hW⟩ : ∃ W, W = ((w.alloc (.cells #[.string ⟨tb.toArray⟩, .slice a3 wh.length c3, .slice a5 mu.length c5] 123)).alloc (.cells #[.int .i64 4, .string ⟨tb.toArray⟩, .string ⟨#[]⟩, .slice a3 wh.length c3, .slice none 0 0, .slice a5 mu.length c5, .slice none 0 0, .bool false] 43)) := ⟨_, rfl⟩
  have h3 : W.heap[w.heap.size + 1]? = some (.cells #[.int .i64 4, .string ⟨tb.toArray⟩, .string ⟨#[]⟩, .slice a3 wh.length c3, .slice none 0 0, .slice a5 mu.length c5, .slice none 0 0, .bool false] 43) := by
    have h := heap_newD (w.alloc (.cells #[.string ⟨tb.toArray⟩, .slice a3 wh.length c3, .slice a5 mu.length c5] 123)) (.cells #[.int .i64 4, .string ⟨tb.toArray⟩, .string ⟨#[]⟩, .slice a3 wh.length c3, .slice none 0 0, .slice a5 mu.length c5, .slice none 0 0, .bool false] 43)
    rw [size_allocD] at h; rw [hW]; exact h
  have HB : Hid (Below w.heap.size w W) := by rw [hW]; exact ((Below.refl _ _).alloc (Nat.le_refl _) _).alloc (by simp) _
  have H3 := Lib.hid h3
  have HW := Lib.hid hW
  have x0 := cell_at (o := 0) h1 rfl
  have x1 := cell_at (o := 1) h1 rfl
  have x2 := cell_at (o := 2) h1 rfl
  have z0 := cell_at (o := 0) h2 rfl
  have f0 := frozen_at 0 h2
  have z1 := cell_at (o := 1) h2 rfl
  have f1 := frozen_at 1 h2
  have z2 := cell_at (o := 2) h2 rfl
  have f2 := frozen_at 2 h2
  have z3 := cell_at (o := 3) h2 rfl
  have f3 := frozen_at 3 h2
  have z4 := cell_at (o := 4) h2 rfl
  have f4 := frozen_at 4 h2
  have z5 := cell_at (o := 5) h2 rfl
  have f5 := frozen_at 5 h2
  have z6 := cell_at (o := 6) h2 rfl
  have f6 := frozen_at 6 h2
  have z7 := cell_at (o := 7) h2 rfl
  have f7 := frozen_at 7 h2
  clear h1 h2 h3 hW
  go_enter Tryz.func158, Tryz.ntmps158
  go_wp2_with fail
  rw [← HW.out]
  clear x0 x1 x2 z0 f0 z1 f1 z2 f2 z3 f3 z4 f4 z5 f5 z6 f6 z7 f7
  have z0 := cell_at (o := 0) H3.out rfl
  have z1 := cell_at (o := 1) H3.out rfl
  have z2 := cell_at (o := 2) H3.out rfl
  have z3 := cell_at (o := 3) H3.out rfl
  have z4 := cell_at (o := 4) H3.out rfl
  have z5 := cell_at (o := 5) H3.out rfl
  have z6 := cell_at (o := 6) H3.out rfl
  have z7 := cell_at (o := 7) H3.out rfl
  refine bodyPost_ret (v := .agg #[.int .i64 4, .string ⟨tb.toArray⟩, .string ⟨#[]⟩, .slice a3 wh.length c3, .slice none 0 0, .slice a5 mu.length c5, .slice none 0 0, .bool false]) (by simp [results, Tryz.results158, go_sem, *]) rfl ?_
  exact ⟨rfl, HB.out⟩
set_option maxRecDepth 100000 in
set_option maxHeartbeats 6400000 in
theorem opM5 (tb : List UInt8) (wh : List CondV) (a3 : Option Addr) (c3 : Nat) (w : World) :
    Calls Tryz.prog 159 #[.agg #[.string ⟨tb.toArray⟩, .slice a3 wh.length c3]] w fun e w' => e = .returned (.agg #[.int .i64 5, .string ⟨tb.toArray⟩, .string ⟨#[]⟩, .slice a3 wh.length c3, .slice none 0 0, .slice none 0 0, .slice none 0 0, .bool false]) ∧ Below w.heap.size w w' := by
  have h1 := heap_keptD (heap_newD w (.cells #[.string ⟨tb.toArray⟩, .slice a3 wh.length c3] 125)) (below_allocD _ (.cells #[.int .i64 0, .string ⟨#[]⟩, .string ⟨#[]⟩, .slice none 0 0, .slice none 0 0, .slice none 0 0, .slice none 0 0, .bool false] 43))
  have h2 := heap_newD (w.alloc (.cells #[.string ⟨tb.toArray⟩, .slice a3 wh.length c3] 125)) (.cells #[.int .i64 0, .string ⟨#[]⟩, .string ⟨#[]⟩, .slice none 0 0, .slice none 0 0, .slice none 0 0, .slice none 0 0, .bool false] 43)
  rw [size_allocD] at h2
  obtain ⟨W, hW⟩ : ∃ W, W = ((w.alloc (.cells #[.string ⟨tb.toArray⟩, .slice a3 wh.length c3] 125)).alloc (.cells #[.int .i64 5, .string ⟨tb.toArray⟩, .string ⟨#[]⟩, .slice a3 wh.length c3, .slice none 0 0, .slice none 0 0, .slice none 0 0, .bool false] 43)) := ⟨_, rfl⟩
  have h3 : W.heap[w.heap.size + 1]? = some (.cells #[.int .i64 5, .string ⟨tb.toArray⟩, .string ⟨#[]⟩, .slice a3 wh.length c3, .slice none 0 0, .slice none 0 0, .slice none 0 0, .bool false] 43) := by
    have h := heap_newD (w.alloc (.cells #[.string ⟨tb.toArray⟩, .slice a3 wh.length c3] 125)) (.cells #[.int .i64 5, .string ⟨tb.toArray⟩, .string ⟨#[]⟩, .slice a3 wh.length c3, .slice none 0 0, .slice none 0 0, .slice none 0 0, .bool false] 43)
    rw [size_allocD] at h; rw [hW]; exact h
  have HB : Hid (Below w.heap.size w W) := by rw [hW]; exact ((Below.refl _ _).alloc (Nat.le_refl _) _).alloc (by simp) _
  have H3 := Lib.hid h3
  have HW := Lib.hid hW
  have x0 := cell_at (o := 0) h1 rfl
  have x1 := cell_at (o := 1) h1 rfl
  have z0 := cell_at (o := 0) h2 rfl
  have f0 := frozen_at 0 h2
  have z1 := cell_at (o := 1) h2 rfl
  have f1 := frozen_at 1 h2
  have z2 := cell_at (o := 2) h2 rfl
  have f2 := frozen_at 2 h2
  have z3 := cell_at (o := 3) h2 rfl
  have f3 := frozen_at 3 h2
  have z4 := cell_at (o := 4) h2 rfl
  have f4 := frozen_at 4 h2
  have z5 := cell_at (o := 5) h2 rfl
  have f5 := frozen_at 5 h2
  have z6 := cell_at (o := 6) h2 rfl
  have f6 := frozen_at 6 h2
  have z7 := cell_at (o := 7) h2 rfl
  have f7 := frozen_at 7 h2
  clear h1 h2 h3 hW
  go_enter Tryz.func159, Tryz.ntmps159
  go_wp2_with fail
  rw [← HW.out]
  clear x0 x1 z0 f0 z1 f1 z2 f2 z3 f3 z4 f4 z5 f5 z6 f6 z7 f7
  have z0 := cell_at (o := 0) H3.out rfl
  have z1 := cell_at (o := 1) H3.out rfl
  have z2 := cell_at (o := 2) H3.out rfl
  have z3 := cell_at (o := 3) H3.out rfl
  have z4 := cell_at (o := 4) H3.out rfl
  have z5 := cell_at (o := 5) H3.out rfl
  have z6 := cell_at (o := 6) H3.out rfl
  have z7 := cell_at (o := 7) H3.out rfl
  refine bodyPost_ret (v := .agg #[.int .i64 5, .string ⟨tb.toArray⟩, .string ⟨#[]⟩, .slice a3 wh.length c3, .slice none 0 0, .slice none 0 0, .slice none 0 0, .bool false]) (by simp [results, Tryz.results159, go_sem, *]) rfl ?_
  exact ⟨rfl, HB.out⟩
set_option maxRecDepth 100000 in
set_option maxHeartbeats 6400000 in
theorem opM6 (tb : List UInt8) (wh : List CondV) (a3 : Option Addr) (c3 : Nat) (row : List SetV) (a4 : Option Addr) (c4 : Nat) (un : Bool) (w : World) :
    Calls Tryz.prog 160 #[.agg #[.string ⟨tb.toArray⟩, .slice a3 wh.length c3, .slice a4 row.length c4, .bool un]] w fun e w' => e = .returned (.agg #[.int .i64 6, .string ⟨tb.toArray⟩, .string ⟨#[]⟩, .slice a3 wh.length c3, .slice a4 row.length c4, .slice none 0 0, .slice none 0 0, .bool un]) ∧ Below w.heap.size w w' := by
  have h1 := heap_keptD (heap_newD w (.cells #[.string ⟨tb.toArray⟩, .slice a3 wh.length c3, .slice a4 row.length c4, .bool un] 127)) (below_allocD _ (.cells #[.int .i64 0, .string ⟨#[]⟩, .string ⟨#[]⟩, .slice none 0 0, .slice none 0 0, .slice none 0 0, .slice none 0 0, .bool false] 43))
  have h2 := heap_newD (w.alloc (.cells #[.string ⟨tb.toArray⟩, .slice a3 wh.length c3, .slice a4 row.length c4, .bool un] 127)) (.cells #[.int .i64 0, .string ⟨#[]⟩, .string ⟨#[]⟩, .slice none 0 0, .slice none 0 0, .slice none 0 0, .slice none 0 0, .bool false] 43)
  rw [size_allocD] at h2
  obtain ⟨W, hW⟩ : ∃ W, W = ((w.alloc (.cells #[.string ⟨tb.toArray⟩, .slice a3 wh.length c3, .slice a4 row.length c4, .bool un] 127)).alloc (.cells #[.int .i64 6, .string ⟨tb.toArray⟩, .string ⟨#[]⟩, .slice a3 wh.length c3, .slice a4 row.length c4, .slice none 0 0, .slice none 0 0, .bool un] 43)) := ⟨_, rfl⟩
  have h3 : W.heap[w.heap.size + 1]? = some (.cells #[.int .i64 6, .string ⟨tb.toArray⟩, .string ⟨#[]⟩, .slice a3 wh.length c3, .slice a4 row.length c4, .slice none 0 0, .slice none 0 0, .bool un] 43) := by
    have h := heap_newD (w.alloc (.cells #[.string ⟨tb.toArray⟩, .slice a3 wh.length c3, .slice a4 row.length c4, .bool un] 127)) (.cells #[.int .i64 6, .string ⟨tb.toArray⟩, .string ⟨#[]⟩, .slice a3 wh.length c3, .slice a4 row.length c4, .slice none 0 0, .slice none 0 0, .bool un] 43)
    rw [size_allocD] at h; rw [hW]; exact h
  have HB : Hid (Below w.heap.size w W) := by rw [hW]; exact ((Below.refl _ _).alloc (Nat.le_refl _) _).alloc (by simp) _
  have H3 := Lib.hid h3
  have HW := Lib.hid hW
  have x0 := cell_at (o := 0) h1 rfl
  have x1 := cell_at (o := 1) h1 rfl
  have x2 := cell_at (o := 2) h1 rfl
  have x3 := cell_at (o := 3) h1 rfl
  have z0 := cell_at (o := 0) h2 rfl
  have f0 := frozen_at 0 h2
  have z1 := cell_at (o := 1) h2 rfl
  have f1 := frozen_at 1 h2
  have z2 := cell_at (o := 2) h2 rfl
  have f2 := frozen_at 2 h2
  have z3 := cell_at (o := 3) h2 rfl
  have f3 := frozen_at 3 h2
  have z4 := cell_at (o := 4) h2 rfl
  have f4 := frozen_at 4 h2
  have z5 := cell_at (o := 5) h2 rfl
  have f5 := frozen_at 5 h2
  have z6 := cell_at (o := 6) h2 rfl
  have f6 := frozen_at 6 h2
  have z7 := cell_at (o := 7) h2 rfl
  have f7 := frozen_at 7 h2
  clear h1 h2 h3 hW
  go_enter Tryz.func160, Tryz.ntmps160
  go_wp2_with fail
  rw [← HW.out]
  clear x0 x1 x2 x3 z0 f0 z1 f1 z2 f2 z3 f3 z4 f4 z5 f5 z6 f6 z7 f7
  have z0 := cell_at (o := 0) H3.out rfl
  have z1 := cell_at (o := 1) H3.out rfl
  have z2 := cell_at (o := 2) H3.out rfl
  have z3 := cell_at (o := 3) H3.out rfl
  have z4 := cell_at (o := 4) H3.out rfl
  have z5 := cell_at (o := 5) H3.out rfl
  have z6 := cell_at (o := 6) H3.out rfl
  have z7 := cell_at (o := 7) H3.out rfl
  refine bodyPost_ret (v := .agg #[.int .i64 6, .string ⟨tb.toArray⟩, .string ⟨#[]⟩, .slice a3 wh.length c3, .slice a4 row.length c4, .slice none 0 0, .slice none 0 0, .bool un]) (by simp [results, Tryz.results160, go_sem, *]) rfl ?_
  exact ⟨rfl, HB.out⟩
set_option maxRecDepth 100000 in
set_option maxHeartbeats 6400000 in
theorem opM7  (w : World) :
    Calls Tryz.prog 161 #[.agg #[]] w fun e w' => e = .returned (.agg #[.int .i64 7, .string ⟨#[]⟩, .string ⟨#[]⟩, .slice none 0 0, .slice none 0 0, .slice none 0 0, .slice none 0 0, .bool false]) ∧ Below w.heap.size w w' := by
  have h1 := heap_keptD (heap_newD w (.cells #[] 129)) (below_allocD _ (.cells #[.int .i64 0, .string ⟨#[]⟩, .string ⟨#[]⟩, .slice none 0 0, .slice none 0 0, .slice none 0 0, .slice none 0 0, .bool false] 43))
  have h2 := heap_newD (w.alloc (.cells #[] 129)) (.cells #[.int .i64 0, .string ⟨#[]⟩, .string ⟨#[]⟩, .slice none 0 0, .slice none 0 0, .slice none 0 0, .slice none 0 0, .bool false] 43)
  rw [size_allocD] at h2
  obtain ⟨W, hW⟩ : ∃ W, W = ((w.alloc (.cells #[] 129)).alloc (.cells #[.int .i64 7, .string ⟨#[]⟩, .string ⟨#[]⟩, .slice none 0 0, .slice none 0 0, .slice none 0 0, .slice none 0 0, .bool false] 43)) := ⟨_, rfl⟩
  have h3 : W.heap[w.heap.size + 1]? = some (.cells #[.int .i64 7, .string ⟨#[]⟩, .string ⟨#[]⟩, .slice none 0 0, .slice none 0 0, .slice none 0 0, .slice none 0 0, .bool false] 43) := by
    have h := heap_newD (w.alloc (.cells #[] 129)) (.cells #[.int .i64 7, .string ⟨#[]⟩, .string ⟨#[]⟩, .slice none 0 0, .slice none 0 0, .slice none 0 0, .slice none 0 0, .bool false] 43)
    rw [size_allocD] at h; rw [hW]; exact h
  have HB : Hid (Below w.heap.size w W) := by rw [hW]; exact ((Below.refl _ _).alloc (Nat.le_refl _) _).alloc (by simp) _
  have H3 := Lib.hid h3
  have HW := Lib.hid hW
  have z0 := cell_at (o := 0) h2 rfl
  have f0 := frozen_at 0 h2
  have z1 := cell_at (o := 1) h2 rfl
  have f1 := frozen_at 1 h2
  have z2 := cell_at (o := 2) h2 rfl
  have f2 := frozen_at 2 h2
  have z3 := cell_at (o := 3) h2 rfl
  have f3 := frozen_at 3 h2
  have z4 := cell_at (o := 4) h2 rfl
  have f4 := frozen_at 4 h2
  have z5 := cell_at (o := 5) h2 rfl
  have f5 := frozen_at 5 h2
  have z6 := cell_at (o := 6) h2 rfl
  have f6 := frozen_at 6 h2
  have z7 := cell_at (o := 7) h2 rfl
  have f7 := frozen_at 7 h2
  clear h1 h2 h3 hW
  go_enter Tryz.func161, Tryz.ntmps161
  go_wp2_with fail
  rw [← HW.out]
  clear  z0 f0 z1 f1 z2 f2 z3 f3 z4 f4 z5 f5 z6 f6 z7 f7
  have z0 := cell_at (o := 0) H3.out rfl
  have z1 := cell_at (o := 1) H3.out rfl
  have z2 := cell_at (o := 2) H3.out rfl
  have z3 := cell_at (o := 3) H3.out rfl
  have z4 := cell_at (o := 4) H3.out rfl
  have z5 := cell_at (o := 5) H3.out rfl
  have z6 := cell_at (o := 6) H3.out rfl
  have z7 := cell_at (o := 7) H3.out rfl
  refine bodyPost_ret (v := .agg #[.int .i64 7, .string ⟨#[]⟩, .string ⟨#[]⟩, .slice none 0 0, .slice none 0 0, .slice none 0 0, .slice none 0 0, .bool false]) (by simp [results, Tryz.results161, go_sem, *]) rfl ?_
  exact ⟨rfl, HB.out⟩
set_option maxRecDepth 100000 in
set_option maxHeartbeats 6400000 in
theorem opM8  (w : World) :
    Calls Tryz.prog 162 #[.agg #[]] w fun e w' => e = .returned (.agg #[.int .i64 8, .string ⟨#[]⟩, .string ⟨#[]⟩, .slice none 0 0, .slice none 0 0, .slice none 0 0, .slice none 0 0, .bool false]) ∧ Below w.heap.size w w' := by
  have h1 := heap_keptD (heap_newD w (.cells #[] 130)) (below_allocD _ (.cells #[.int .i64 0, .string ⟨#[]⟩, .string ⟨#[]⟩, .slice none 0 0, .slice none 0 0, .slice none 0 0, .slice none 0 0, .bool false] 43))
  have h2 := heap_newD (w.alloc (.cells #[] 130)) (.cells #[.int .i64 0, .string ⟨#[]⟩, .string ⟨#[]⟩, .slice none 0 0, .slice none 0 0, .slice none 0 0, .slice none 0 0, .bool false] 43)
  rw [size_allocD] at h2
  obtain ⟨W, hW⟩ : ∃ W, W = ((w.alloc (.cells #[] 130)).alloc (.cells #[.int .i64 8, .string ⟨#[]⟩, .string ⟨#[]⟩, .slice none 0 0, .slice none 0 0, .slice none 0 0, .slice none 0 0, .bool false] 43)) := ⟨_, rfl⟩
  have h3 : W.heap[w.heap.size + 1]? = some (.cells #[.int .i64 8, .string ⟨#[]⟩, .string ⟨#[]⟩, .slice none 0 0, .slice none 0 0, .slice none 0 0, .slice none 0 0, .bool false] 43) := by
    have h := heap_newD (w.alloc (.cells #[] 130)) (.cells #[.int .i64 8, .string ⟨#[]⟩, .string ⟨#[]⟩, .slice none 0 0, .slice none 0 0, .slice none 0 0, .slice none 0 0, .bool false] 43)
    rw [size_allocD] at h; rw [hW]; exact h
  have HB : Hid (Below w.heap.size w W) := by rw [hW]; exact ((Below.refl _ _).alloc (Nat.le_refl _) _).alloc (by simp) _
  have H3 := Lib.hid h3
  have HW := Lib.hid hW
  have z0 := cell_at (o := 0) h2 rfl
  have f0 := frozen_at 0 h2
  have z1 := cell_at (o := 1) h2 rfl
  have f1 := frozen_at 1 h2
  have z2 := cell_at (o := 2) h2 rfl
  have f2 := frozen_at 2 h2
  have z3 := cell_at (o := 3) h2 rfl
  have f3 := frozen_at 3 h2
  have z4 := cell_at (o := 4) h2 rfl
  have f4 := frozen_at 4 h2
  have z5 := cell_at (o := 5) h2 rfl
  have f5 := frozen_at 5 h2
  have z6 := cell_at (o := 6) h2 rfl
  have f6 := frozen_at 6 h2
  have z7 := cell_at (o := 7) h2 rfl
  have f7 := frozen_at 7 h2
  clear h1 h2 h3 hW
  go_enter Tryz.func162, Tryz.ntmps162
  go_wp2_with fail
  rw [← HW.out]
  clear  z0 f0 z1 f1 z2 f2 z3 f3 z4 f4 z5 f5 z6 f6 z7 f7
  have z0 := cell_at (o := 0) H3.out rfl
  have z1 := cell_at (o := 1) H3.out rfl
  have z2 := cell_at (o := 2) H3.out rfl
  have z3 := cell_at (o := 3) H3.out rfl
  have z4 := cell_at (o := 4) H3.out rfl
  have z5 := cell_at (o := 5) H3.out rfl
  have z6 := cell_at (o := 6) H3.out rfl
  have z7 := cell_at (o := 7) H3.out rfl
  refine bodyPost_ret (v := .agg #[.int .i64 8, .string ⟨#[]⟩, .string ⟨#[]⟩, .slice none 0 0, .slice none 0 0, .slice none 0 0, .slice none 0 0, .bool false]) (by simp [results, Tryz.results162, go_sem, *]) rfl ?_
  exact ⟨rfl, HB.out⟩
set_option maxRecDepth 100000 in
set_option maxHeartbeats 6400000 in
theorem opM9 (nm : List UInt8) (w : World) :
    Calls Tryz.prog 163 #[.agg #[.string ⟨nm.toArray⟩]] w fun e w' => e = .returned (.agg #[.int .i64 9, .string ⟨#[]⟩, .string ⟨nm.toArray⟩, .slice none 0 0, .slice none 0 0, .slice none 0 0, .slice none 0 0, .bool false]) ∧ Below w.heap.size w w' := by
  have h1 := heap_keptD (heap_newD w (.cells #[.string ⟨nm.toArray⟩] 132)) (below_allocD _ (.cells #[.int .i64 0, .string ⟨#[]⟩, .string ⟨#[]⟩, .slice none 0 0, .slice none 0 0, .slice none 0 0, .slice none 0 0, .bool false] 43))
  have h2 := heap_newD (w.alloc (.cells #[.string ⟨nm.toArray⟩] 132)) (.cells #[.int .i64 0, .string ⟨#[]⟩, .string ⟨#[]⟩, .slice none 0 0, .slice none 0 0, .slice none 0 0, .slice none 0 0, .bool false] 43)
  rw [size_allocD] at h2
  obtain ⟨W, hW⟩ : ∃ W, W = ((w.alloc (.cells #[.string ⟨nm.toArray⟩] 132)).alloc (.cells #[.int .i64 9, .string ⟨#[]⟩, .string ⟨nm.toArray⟩, .slice none 0 0, .slice none 0 0, .slice none 0 0, .slice none 0 0, .bool false] 43)) := ⟨_, rfl⟩
  have h3 : W.heap[w.heap.size + 1]? = some (.cells #[.int .i64 9, .string ⟨#[]⟩, .string ⟨nm.toArray⟩, .slice none 0 0, .slice none 0 0, .slice none 0 0, .slice none 0 0, .bool false] 43) := by
    have h := heap_newD (w.alloc (.cells #[.string ⟨nm.toArray⟩] 132)) (.cells #[.int .i64 9, .string ⟨#[]⟩, .string ⟨nm.toArray⟩, .slice none 0 0, .slice none 0 0, .slice none 0 0, .slice none 0 0, .bool false] 43)
    rw [size_allocD] at h; rw [hW]; exact h
  have HB : Hid (Below w.heap.size w W) := by rw [hW]; exact ((Below.refl _ _).alloc (Nat.le_refl _) _).alloc (by simp) _
  have H3 := Lib.hid h3
  have HW := Lib.hid hW
  have x0 := cell_at (o := 0) h1 rfl
  have z0 := cell_at (o := 0) h2 rfl
  have f0 := frozen_at 0 h2
  have z1 := cell_at (o := 1) h2 rfl
  have f1 := frozen_at 1 h2
  have z2 := cell_at (o := 2) h2 rfl
  have f2 := frozen_at 2 h2
  have z3 := cell_at (o := 3) h2 rfl
  have f3 := frozen_at 3 h2
  have z4 := cell_at (o := 4) h2 rfl
  have f4 := frozen_at 4 h2
  have z5 := cell_at (o := 5) h2 rfl
  have f5 := frozen_at 5 h2
  have z6 := cell_at (o := 6) h2 rfl
  have f6 := frozen_at 6 h2
  have z7 := cell_at (o := 7) h2 rfl
  have f7 := frozen_at 7 h2
  clear h1 h2 h3 hW
  go_enter Tryz.func163, Tryz.ntmps163
  go_wp2_with fail
  rw [← HW.out]
  clear x0 z0 f0 z1 f1 z2 f2 z3 f3 z4 f4 z5 f5 z6 f6 z7 f7
  have z0 := cell_at (o := 0) H3.out rfl
  have z1 := cell_at (o := 1) H3.out rfl
  have z2 := cell_at (o := 2) H3.out rfl
  have z3 := cell_at (o := 3) H3.out rfl
  have z4 := cell_at (o := 4) H3.out rfl
  have z5 := cell_at (o := 5) H3.out rfl
  have z6 := cell_at (o := 6) H3.out rfl
  have z7 := cell_at (o := 7) H3.out rfl
  refine bodyPost_ret (v := .agg #[.int .i64 9, .string ⟨#[]⟩, .string ⟨nm.toArray⟩, .slice none 0 0, .slice none 0 0, .slice none 0 0, .slice none 0 0, .bool false]) (by simp [results, Tryz.results163, go_sem, *]) rfl ?_
  exact ⟨rfl, HB.out⟩
set_option maxRecDepth 100000 in
set_option maxHeartbeats 6400000 in
theorem opM10 (nm : List UInt8) (w : World) :
    Calls Tryz.prog 164 #[.agg #[.string ⟨nm.toArray⟩]] w fun e w' => e = .returned (.agg #[.int .i64 10, .string ⟨#[]⟩, .string ⟨nm.toArray⟩, .slice none 0 0, .slice none 0 0, .slice none 0 0, .slice none 0 0, .bool false]) ∧ Below w.heap.size w w' := by
  have h1 := heap_keptD (heap_newD w (.cells #[.string ⟨nm.toArray⟩] 134)) (below_allocD _ (.cells #[.int .i64 0, .string ⟨#[]⟩, .string ⟨#[]⟩, .slice none 0 0, .slice none 0 0, .slice none 0 0, .slice none 0 0, .bool false] 43))
  have h2 := heap_newD (w.alloc (.cells #[.string ⟨nm.toArray⟩] 134)) (.cells #[.int .i64 0, .string ⟨#[]⟩, .string ⟨#[]⟩, .slice none 0 0, .slice none 0 0, .slice none 0 0, .slice none 0 0, .bool false] 43)
  rw [size_allocD] at h2
  obtain ⟨W, hW⟩ : ∃ W, W = ((w.alloc (.cells #[.string ⟨nm.toArray⟩] 134)).alloc (.cells #[.int .i64 10, .string ⟨#[]⟩, .string ⟨nm.toArray⟩, .slice none 0 0, .slice none 0 0, .slice none 0 0, .slice none 0 0, .bool false] 43)) := ⟨_, rfl⟩
  have h3 : W.heap[w.heap.size + 1]? = some (.cells #[.int .i64 10, .string ⟨#[]⟩, .string ⟨nm.toArray⟩, .slice none 0 0, .slice none 0 0, .slice none 0 0, .slice none 0 0, .bool false] 43) := by
    have h := heap_newD (w.alloc (.cells #[.string ⟨nm.toArray⟩] 134)) (.cells #[.int .i64 10, .string ⟨#[]⟩, .string ⟨nm.toArray⟩, .slice none 0 0, .slice none 0 0, .slice none 0 0, .slice none 0 0, .bool false] 43)
    rw [size_allocD] at h; rw [hW]; exact h
  have HB : Hid (Below w.heap.size w W) := by rw [hW]; exact ((Below.refl _ _).alloc (Nat.le_refl _) _).alloc (by simp) _
  have H3 := Lib.hid h3
  have HW := Lib.hid hW
  have x0 := cell_at (o := 0) h1 rfl
  have z0 := cell_at (o := 0) h2 rfl
  have f0 := frozen_at 0 h2
  have z1 := cell_at (o := 1) h2 rfl
  have f1 := frozen_at 1 h2
  have z2 := cell_at (o := 2) h2 rfl
  have f2 := frozen_at 2 h2
  have z3 := cell_at (o := 3) h2 rfl
  have f3 := frozen_at 3 h2
  have z4 := cell_at (o := 4) h2 rfl
  have f4 := frozen_at 4 h2
  have z5 := cell_at (o := 5) h2 rfl
  have f5 := frozen_at 5 h2
  have z6 := cell_at (o := 6) h2 rfl
  have f6 := frozen_at 6 h2
  have z7 := cell_at (o := 7) h2 rfl
  have f7 := frozen_at 7 h2
  clear h1 h2 h3 hW
  go_enter Tryz.func164, Tryz.ntmps164
  go_wp2_with fail
  rw [← HW.out]
  clear x0 z0 f0 z1 f1 z2 f2 z3 f3 z4 f4 z5 f5 z6 f6 z7 f7
  have z0 := cell_at (o := 0) H3.out rfl
  have z1 := cell_at (o := 1) H3.out rfl
  have z2 := cell_at (o := 2) H3.out rfl
  have z3 := cell_at (o := 3) H3.out rfl
  have z4 := cell_at (o := 4) H3.out rfl
  have z5 := cell_at (o := 5) H3.out rfl
  have z6 := cell_at (o := 6) H3.out rfl
  have z7 := cell_at (o := 7) H3.out rfl
  refine bodyPost_ret (v := .agg #[.int .i64 10, .string ⟨#[]⟩, .string ⟨nm.toArray⟩, .slice none 0 0, .slice none 0 0, .slice none 0 0, .slice none 0 0, .bool false]) (by simp [results, Tryz.results164, go_sem, *]) rfl ?_
  exact ⟨rfl, HB.out⟩
end Go.Proofs.YtaepgahejelkaaaGreat
