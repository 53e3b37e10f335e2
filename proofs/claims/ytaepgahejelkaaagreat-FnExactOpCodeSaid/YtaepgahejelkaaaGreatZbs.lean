import Derived.Test.YtaepgahejelkaaaGreatZbd
import Derived.Test.YtaepgahejelkaaaGreatZap
import Derived.Test.YtaepgahejelkaaaGreatZaw
import Derived.Handy
namespace Go.Proofs.YtaepgahejelkaaaGreat
open Go.RowKit
set_option linter.unusedSimpArgs false
set_option maxRecDepth 100000 in
set_option maxHeartbeats 6400000 in
theorem opOf1 (tb nm : List UInt8) (wh : List CondV) (row : List SetV) (mu : List MutV) (cs : List (List UInt8)) (un : Bool) (a3 : Option Addr) (c3 : Nat) (a4 : Option Addr) (c4 : Nat) (a5 : Option Addr) (c5 : Nat) (a6 : Option Addr) (c6 : Nat) (w : World) :
    Calls Tryz.prog 27 #[.agg #[.int .i64 1, .string ⟨tb.toArray⟩, .string ⟨nm.toArray⟩, .slice a3 wh.length c3, .slice a4 row.length c4, .slice a5 mu.length c5, .slice a6 cs.length c6, .bool un]] w fun e w' => e = .returned (.tuple #[.iface 117 (.agg #[.string ⟨tb.toArray⟩, .string ⟨nm.toArray⟩, .slice a4 row.length c4]), .bool true]) ∧ Below w.heap.size w w' := by
  have hb := boxD 43 w #[.int .i64 1, .string ⟨tb.toArray⟩, .string ⟨nm.toArray⟩, .slice a3 wh.length c3, .slice a4 row.length c4, .slice a5 mu.length c5, .slice a6 cs.length c6, .bool un]
  have x0 := cell_at (o := 0) hb.1 rfl
  have x1 := cell_at (o := 1) hb.1 rfl
  have x2 := cell_at (o := 2) hb.1 rfl
  have x3 := cell_at (o := 3) hb.1 rfl
  have x4 := cell_at (o := 4) hb.1 rfl
  have x5 := cell_at (o := 5) hb.1 rfl
  have x6 := cell_at (o := 6) hb.1 rfl
  have x7 := cell_at (o := 7) hb.1 rfl
  have hc : Below w.heap.size w ((w.alloc (.cells #[.int .i64 1, .string ⟨tb.toArray⟩, .string ⟨nm.toArray⟩, .slice a3 wh.length c3, .slice a4 row.length c4, .slice a5 mu.length c5, .slice a6 cs.length c6, .bool un] 43)).alloc (.cells #[.string ⟨tb.toArray⟩, .slice a3 wh.length c3] 115)) := hb.2.alloc hb.2.size _
  have HC := Lib.hid hc
  have hd := heap_keptD hb.1 (below_allocD _ (.cells #[.string ⟨tb.toArray⟩, .slice a3 wh.length c3] 115))
  have y0 := cell_at (o := 0) hd rfl
  have y1 := cell_at (o := 1) hd rfl
  have y2 := cell_at (o := 2) hd rfl
  have y3 := cell_at (o := 3) hd rfl
  have y4 := cell_at (o := 4) hd rfl
  have y5 := cell_at (o := 5) hd rfl
  have y6 := cell_at (o := 6) hd rfl
  have y7 := cell_at (o := 7) hd rfl
  have he := heap_newD (w.alloc (.cells #[.int .i64 1, .string ⟨tb.toArray⟩, .string ⟨nm.toArray⟩, .slice a3 wh.length c3, .slice a4 row.length c4, .slice a5 mu.length c5, .slice a6 cs.length c6, .bool un] 43)) (.cells #[.string ⟨tb.toArray⟩, .slice a3 wh.length c3] 115)
  rw [size_allocD] at he
  have z0 := cell_at (o := 0) he rfl
  have z1 := cell_at (o := 1) he rfl
  clear hb hc hd he
  go_enter Tryz.func27, Tryz.ntmps27
  go_wp2_with fail
  go_ret2
  exact ⟨rfl, HC.out⟩
set_option maxRecDepth 100000 in
set_option maxHeartbeats 6400000 in
theorem opOf2 (tb nm : List UInt8) (wh : List CondV) (row : List SetV) (mu : List MutV) (cs : List (List UInt8)) (un : Bool) (a3 : Option Addr) (c3 : Nat) (a4 : Option Addr) (c4 : Nat) (a5 : Option Addr) (c5 : Nat) (a6 : Option Addr) (c6 : Nat) (w : World) :
    Calls Tryz.prog 27 #[.agg #[.int .i64 2, .string ⟨tb.toArray⟩, .string ⟨nm.toArray⟩, .slice a3 wh.length c3, .slice a4 row.length c4, .slice a5 mu.length c5, .slice a6 cs.length c6, .bool un]] w fun e w' => e = .returned (.tuple #[.iface 119 (.agg #[.string ⟨tb.toArray⟩, .slice a3 wh.length c3, .slice a6 cs.length c6]), .bool true]) ∧ Below w.heap.size w w' := by
  have hb := boxD 43 w #[.int .i64 2, .string ⟨tb.toArray⟩, .string ⟨nm.toArray⟩, .slice a3 wh.length c3, .slice a4 row.length c4, .slice a5 mu.length c5, .slice a6 cs.length c6, .bool un]
  have x0 := cell_at (o := 0) hb.1 rfl
  have x1 := cell_at (o := 1) hb.1 rfl
  have x2 := cell_at (o := 2) hb.1 rfl
  have x3 := cell_at (o := 3) hb.1 rfl
  have x4 := cell_at (o := 4) hb.1 rfl
  have x5 := cell_at (o := 5) hb.1 rfl
  have x6 := cell_at (o := 6) hb.1 rfl
  have x7 := cell_at (o := 7) hb.1 rfl
  have hc : Below w.heap.size w ((w.alloc (.cells #[.int .i64 2, .string ⟨tb.toArray⟩, .string ⟨nm.toArray⟩, .slice a3 wh.length c3, .slice a4 row.length c4, .slice a5 mu.length c5, .slice a6 cs.length c6, .bool un] 43)).alloc (.cells #[.string ⟨tb.toArray⟩, .slice a3 wh.length c3] 115)) := hb.2.alloc hb.2.size _
  have HC := Lib.hid hc
  have hd := heap_keptD hb.1 (below_allocD _ (.cells #[.string ⟨tb.toArray⟩, .slice a3 wh.length c3] 115))
  have y0 := cell_at (o := 0) hd rfl
  have y1 := cell_at (o := 1) hd rfl
  have y2 := cell_at (o := 2) hd rfl
  have y3 := cell_at (o := 3) hd rfl
  have y4 := cell_at (o := 4) hd rfl
  have y5 := cell_at (o := 5) hd rfl
  have y6 := cell_at (o := 6) hd rfl
  have y7 := cell_at (o := 7) hd rfl
  have he := heap_newD (w.alloc (.cells #[.int .i64 2, .string ⟨tb.toArray⟩, .string ⟨nm.toArray⟩, .slice a3 wh.length c3, .slice a4 row.length c4, .slice a5 mu.length c5, .slice a6 cs.length c6, .bool un] 43)) (.cells #[.string ⟨tb.toArray⟩, .slice a3 wh.length c3] 115)
  rw [size_allocD] at he
  have z0 := cell_at (o := 0) he rfl
  have z1 := cell_at (o := 1) he rfl
  clear hb hc hd he
  go_enter Tryz.func27, Tryz.ntmps27
  go_wp2_with fail
  go_ret2
  exact ⟨rfl, HC.out⟩
set_option maxRecDepth 100000 in
set_option maxHeartbeats 6400000 in
theorem opOf3 (tb nm : List UInt8) (wh : List CondV) (row : List SetV) (mu : List MutV) (cs : List (List UInt8)) (un : Bool) (a3 : Option Addr) (c3 : Nat) (a4 : Option Addr) (c4 : Nat) (a5 : Option Addr) (c5 : Nat) (a6 : Option Addr) (c6 : Nat) (w : World) :
    Calls Tryz.prog 27 #[.agg #[.int .i64 3, .string ⟨tb.toArray⟩, .string ⟨nm.toArray⟩, .slice a3 wh.length c3, .slice a4 row.length c4, .slice a5 mu.length c5, .slice a6 cs.length c6, .bool un]] w fun e w' => e = .returned (.tuple #[.iface 121 (.agg #[.string ⟨tb.toArray⟩, .slice a3 wh.length c3, .slice a4 row.length c4]), .bool true]) ∧ Below w.heap.size w w' := by
  have hb := boxD 43 w #[.int .i64 3, .string ⟨tb.toArray⟩, .string ⟨nm.toArray⟩, .slice a3 wh.length c3, .slice a4 row.length c4, .slice a5 mu.length c5, .slice a6 cs.length c6, .bool un]
  have x0 := cell_at (o := 0) hb.1 rfl
  have x1 := cell_at (o := 1) hb.1 rfl
  have x2 := cell_at (o := 2) hb.1 rfl
  have x3 := cell_at (o := 3) hb.1 rfl
  have x4 := cell_at (o := 4) hb.1 rfl
  have x5 := cell_at (o := 5) hb.1 rfl
  have x6 := cell_at (o := 6) hb.1 rfl
  have x7 := cell_at (o := 7) hb.1 rfl
  have hc : Below w.heap.size w ((w.alloc (.cells #[.int .i64 3, .string ⟨tb.toArray⟩, .string ⟨nm.toArray⟩, .slice a3 wh.length c3, .slice a4 row.length c4, .slice a5 mu.length c5, .slice a6 cs.length c6, .bool un] 43)).alloc (.cells #[.string ⟨tb.toArray⟩, .slice a3 wh.length c3] 115)) := hb.2.alloc hb.2.size _
  have HC := Lib.hid hc
  have hd := heap_keptD hb.1 (below_allocD _ (.cells #[.string ⟨tb.toArray⟩, .slice a3 wh.length c3] 115))
  have y0 := cell_at (o := 0) hd rfl
  have y1 := cell_at (o := 1) hd rfl
  have y2 := cell_at (o := 2) hd rfl
  have y3 := cell_at (o := 3) hd rfl
  have y4 := cell_at (o := 4) hd rfl
  have y5 := cell_at (o := 5) hd rfl
  have y6 := cell_at (o := 6) hd rfl
  have y7 := cell_at (o := 7) hd rfl
  have he := heap_newD (w.alloc (.cells #[.int .i64 3, .string ⟨tb.toArray⟩, .string ⟨nm.toArray⟩, .slice a3 wh.length c3, .slice a4 row.length c4, .slice a5 mu.length c5, .slice a6 cs.length c6, .bool un] 43)) (.cells #[.string ⟨tb.toArray⟩, .slice a3 wh.length c3] 115)
  rw [size_allocD] at he
  have z0 := cell_at (o := 0) he rfl
  have z1 := cell_at (o := 1) he rfl
  clear hb hc hd he
  go_enter Tryz.func27, Tryz.ntmps27
  go_wp2_with fail
  go_ret2
  exact ⟨rfl, HC.out⟩
set_option maxRecDepth 100000 in
set_option maxHeartbeats 6400000 in
theorem opOf4 (tb nm : List UInt8) (wh : List CondV) (row : List SetV) (mu : List MutV) (cs : List (List UInt8)) (un : Bool) (a3 : Option Addr) (c3 : Nat) (a4 : Option Addr) (c4 : Nat) (a5 : Option Addr) (c5 : Nat) (a6 : Option Addr) (c6 : Nat) (w : World) :
    Calls Tryz.prog 27 #[.agg #[.int .i64 4, .string ⟨tb.toArray⟩, .string ⟨nm.toArray⟩, .slice a3 wh.length c3, .slice a4 row.length c4, .slice a5 mu.length c5, .slice a6 cs.length c6, .bool un]] w fun e w' => e = .returned (.tuple #[.iface 123 (.agg #[.string ⟨tb.toArray⟩, .slice a3 wh.length c3, .slice a5 mu.length c5]), .bool true]) ∧ Below w.heap.size w w' := by
  have hb := boxD 43 w #[.int .i64 4, .string ⟨tb.toArray⟩, .string ⟨nm.toArray⟩, .slice a3 wh.length c3, .slice a4 row.length c4, .slice a5 mu.length c5, .slice a6 cs.length c6, .bool un]
  have x0 := cell_at (o := 0) hb.1 rfl
  have x1 := cell_at (o := 1) hb.1 rfl
  have x2 := cell_at (o := 2) hb.1 rfl
  have x3 := cell_at (o := 3) hb.1 rfl
  have x4 := cell_at (o := 4) hb.1 rfl
  have x5 := cell_at (o := 5) hb.1 rfl
  have x6 := cell_at (o := 6) hb.1 rfl
  have x7 := cell_at (o := 7) hb.1 rfl
  have hc : Below w.heap.size w ((w.alloc (.cells #[.int .i64 4, .string ⟨tb.toArray⟩, .string ⟨nm.toArray⟩, .slice a3 wh.length c3, .slice a4 row.length c4, .slice a5 mu.length c5, .slice a6 cs.length c6, .bool un] 43)).alloc (.cells #[.string ⟨tb.toArray⟩, .slice a3 wh.length c3] 115)) := hb.2.alloc hb.2.size _
  have HC := Lib.hid hc
  have hd := heap_keptD hb.1 (below_allocD _ (.cells #[.string ⟨tb.toArray⟩, .slice a3 wh.length c3] 115))
  have y0 := cell_at (o := 0) hd rfl
  have y1 := cell_at (o := 1) hd rfl
  have y2 := cell_at (o := 2) hd rfl
  have y3 := cell_at (o := 3) hd rfl
  have y4 := cell_at (o := 4) hd rfl
  have y5 := cell_at (o := 5) hd rfl
  have y6 := cell_at (o := 6) hd rfl
  have y7 := cell_at (o := 7) hd rfl
  have he := heap_newD (w.alloc (.cells #[.int .i64 4, .string ⟨tb.toArray⟩, .string ⟨nm.toArray⟩, .slice a3 wh.length c3, .slice a4 row.length c4, .slice a5 mu.length c5, .slice a6 cs.length c6, .bool un] 43)) (.cells #[.string ⟨tb.toArray⟩, .slice a3 wh.length c3] 115)
  rw [size_allocD] at he
  have z0 := cell_at (o := 0) he rfl
  have z1 := cell_at (o := 1) he rfl
  clear hb hc hd he
  go_enter Tryz.func27, Tryz.ntmps27
  go_wp2_with fail
  go_ret2
  exact ⟨rfl, HC.out⟩
set_option maxRecDepth 100000 in
set_option maxHeartbeats 6400000 in
theorem opOf5 (tb nm : List UInt8) (wh : List CondV) (row : List SetV) (mu : List MutV) (cs : List (List UInt8)) (un : Bool) (a3 : Option Addr) (c3 : Nat) (a4 : Option Addr) (c4 : Nat) (a5 : Option Addr) (c5 : Nat) (a6 : Option Addr) (c6 : Nat) (w : World) :
    Calls Tryz.prog 27 #[.agg #[.int .i64 5, .string ⟨tb.toArray⟩, .string ⟨nm.toArray⟩, .slice a3 wh.length c3, .slice a4 row.length c4, .slice a5 mu.length c5, .slice a6 cs.length c6, .bool un]] w fun e w' => e = .returned (.tuple #[.iface 125 (.agg #[.string ⟨tb.toArray⟩, .slice a3 wh.length c3]), .bool true]) ∧ Below w.heap.size w w' := by
  have hb := boxD 43 w #[.int .i64 5, .string ⟨tb.toArray⟩, .string ⟨nm.toArray⟩, .slice a3 wh.length c3, .slice a4 row.length c4, .slice a5 mu.length c5, .slice a6 cs.length c6, .bool un]
  have x0 := cell_at (o := 0) hb.1 rfl
  have x1 := cell_at (o := 1) hb.1 rfl
  have x2 := cell_at (o := 2) hb.1 rfl
  have x3 := cell_at (o := 3) hb.1 rfl
  have x4 := cell_at (o := 4) hb.1 rfl
  have x5 := cell_at (o := 5) hb.1 rfl
  have x6 := cell_at (o := 6) hb.1 rfl
  have x7 := cell_at (o := 7) hb.1 rfl
  have hc : Below w.heap.size w ((w.alloc (.cells #[.int .i64 5, .string ⟨tb.toArray⟩, .string ⟨nm.toArray⟩, .slice a3 wh.length c3, .slice a4 row.length c4, .slice a5 mu.length c5, .slice a6 cs.length c6, .bool un] 43)).alloc (.cells #[.string ⟨tb.toArray⟩, .slice a3 wh.length c3] 115)) := hb.2.alloc hb.2.size _
  have HC := Lib.hid hc
  have hd := heap_keptD hb.1 (below_allocD _ (.cells #[.string ⟨tb.toArray⟩, .slice a3 wh.length c3] 115))
  have y0 := cell_at (o := 0) hd rfl
  have y1 := cell_at (o := 1) hd rfl
  have y2 := cell_at (o := 2) hd rfl
  have y3 := cell_at (o := 3) hd rfl
  have y4 := cell_at (o := 4) hd rfl
  have y5 := cell_at (o := 5) hd rfl
  have y6 := cell_at (o := 6) hd rfl
  have y7 := cell_at (o := 7) hd rfl
  have he := heap_newD (w.alloc (.cells #[.int .i64 5, .string ⟨tb.toArray⟩, .string ⟨nm.toArray⟩, .slice a3 wh.length c3, .slice a4 row.length c4, .slice a5 mu.length c5, .slice a6 cs.length c6, .bool un] 43)) (.cells #[.string ⟨tb.toArray⟩, .slice a3 wh.length c3] 115)
  rw [size_allocD] at he
  have z0 := cell_at (o := 0) he rfl
  have z1 := cell_at (o := 1) he rfl
  clear hb hc hd he
  go_enter Tryz.func27, Tryz.ntmps27
  go_wp2_with fail
  go_ret2
  exact ⟨rfl, HC.out⟩
set_option maxRecDepth 100000 in
set_option maxHeartbeats 6400000 in
theorem opOf6 (tb nm : List UInt8) (wh : List CondV) (row : List SetV) (mu : List MutV) (cs : List (List UInt8)) (un : Bool) (a3 : Option Addr) (c3 : Nat) (a4 : Option Addr) (c4 : Nat) (a5 : Option Addr) (c5 : Nat) (a6 : Option Addr) (c6 : Nat) (w : World) :
    Calls Tryz.prog 27 #[.agg #[.int .i64 6, .string ⟨tb.toArray⟩, .string ⟨nm.toArray⟩, .slice a3 wh.length c3, .slice a4 row.length c4, .slice a5 mu.length c5, .slice a6 cs.length c6, .bool un]] w fun e w' => e = .returned (.tuple #[.iface 127 (.agg #[.string ⟨tb.toArray⟩, .slice a3 wh.length c3, .slice a4 row.length c4, .bool un]), .bool true]) ∧ Below w.heap.size w w' := by
  have hb := boxD 43 w #[.int .i64 6, .string ⟨tb.toArray⟩, .string ⟨nm.toArray⟩, .slice a3 wh.length c3, .slice a4 row.length c4, .slice a5 mu.length c5, .slice a6 cs.length c6, .bool un]
  have x0 := cell_at (o := 0) hb.1 rfl
  have x1 := cell_at (o := 1) hb.1 rfl
  have x2 := cell_at (o := 2) hb.1 rfl
  have x3 := cell_at (o := 3) hb.1 rfl
  have x4 := cell_at (o := 4) hb.1 rfl
  have x5 := cell_at (o := 5) hb.1 rfl
  have x6 := cell_at (o := 6) hb.1 rfl
  have x7 := cell_at (o := 7) hb.1 rfl
  have hc : Below w.heap.size w ((w.alloc (.cells #[.int .i64 6, .string ⟨tb.toArray⟩, .string ⟨nm.toArray⟩, .slice a3 wh.length c3, .slice a4 row.length c4, .slice a5 mu.length c5, .slice a6 cs.length c6, .bool un] 43)).alloc (.cells #[.string ⟨tb.toArray⟩, .slice a3 wh.length c3] 115)) := hb.2.alloc hb.2.size _
  have HC := Lib.hid hc
  have hd := heap_keptD hb.1 (below_allocD _ (.cells #[.string ⟨tb.toArray⟩, .slice a3 wh.length c3] 115))
  have y0 := cell_at (o := 0) hd rfl
  have y1 := cell_at (o := 1) hd rfl
  have y2 := cell_at (o := 2) hd rfl
  have y3 := cell_at (o := 3) hd rfl
  have y4 := cell_at (o := 4) hd rfl
  have y5 := cell_at (o := 5) hd rfl
  have y6 := cell_at (o := 6) hd rfl
  have y7 := cell_at (o := 7) hd rfl
  have he := heap_newD (w.alloc (.cells #[.int .i64 6, .string ⟨tb.toArray⟩, .string ⟨nm.toArray⟩, .slice a3 wh.length c3, .slice a4 row.length c4, .slice a5 mu.length c5, .slice a6 cs.length c6, .bool un] 43)) (.cells #[.string ⟨tb.toArray⟩, .slice a3 wh.length c3] 115)
  rw [size_allocD] at he
  have z0 := cell_at (o := 0) he rfl
  have z1 := cell_at (o := 1) he rfl
  clear hb hc hd he
  go_enter Tryz.func27, Tryz.ntmps27
  go_wp2_with fail
  go_ret2
  exact ⟨rfl, HC.out⟩
set_option maxRecDepth 100000 in
set_option maxHeartbeats 6400000 in
theorem opOf7 (tb nm : List UInt8) (wh : List CondV) (row : List SetV) (mu : List MutV) (cs : List (List UInt8)) (un : Bool) (a3 : Option Addr) (c3 : Nat) (a4 : Option Addr) (c4 : Nat) (a5 : Option Addr) (c5 : Nat) (a6 : Option Addr) (c6 : Nat) (w : World) :
    Calls Tryz.prog 27 #[.agg #[.int .i64 7, .string ⟨tb.toArray⟩, .string ⟨nm.toArray⟩, .slice a3 wh.length c3, .slice a4 row.length c4, .slice a5 mu.length c5, .slice a6 cs.length c6, .bool un]] w fun e w' => e = .returned (.tuple #[.iface 129 (.agg #[]), .bool true]) ∧ Below w.heap.size w w' := by
  have hb := boxD 43 w #[.int .i64 7, .string ⟨tb.toArray⟩, .string ⟨nm.toArray⟩, .slice a3 wh.length c3, .slice a4 row.length c4, .slice a5 mu.length c5, .slice a6 cs.length c6, .bool un]
  have x0 := cell_at (o := 0) hb.1 rfl
  have x1 := cell_at (o := 1) hb.1 rfl
  have x2 := cell_at (o := 2) hb.1 rfl
  have x3 := cell_at (o := 3) hb.1 rfl
  have x4 := cell_at (o := 4) hb.1 rfl
  have x5 := cell_at (o := 5) hb.1 rfl
  have x6 := cell_at (o := 6) hb.1 rfl
  have x7 := cell_at (o := 7) hb.1 rfl
  have hc : Below w.heap.size w ((w.alloc (.cells #[.int .i64 7, .string ⟨tb.toArray⟩, .string ⟨nm.toArray⟩, .slice a3 wh.length c3, .slice a4 row.length c4, .slice a5 mu.length c5, .slice a6 cs.length c6, .bool un] 43)).alloc (.cells #[.string ⟨tb.toArray⟩, .slice a3 wh.length c3] 115)) := hb.2.alloc hb.2.size _
  have HC := Lib.hid hc
  have hd := heap_keptD hb.1 (below_allocD _ (.cells #[.string ⟨tb.toArray⟩, .slice a3 wh.length c3] 115))
  have y0 := cell_at (o := 0) hd rfl
  have y1 := cell_at (o := 1) hd rfl
  have y2 := cell_at (o := 2) hd rfl
  have y3 := cell_at (o := 3) hd rfl
  have y4 := cell_at (o := 4) hd rfl
  have y5 := cell_at (o := 5) hd rfl
  have y6 := cell_at (o := 6) hd rfl
  have y7 := cell_at (o := 7) hd rfl
  have he := heap_newD (w.alloc (.cells #[.int .i64 7, .string ⟨tb.toArray⟩, .string ⟨nm.toArray⟩, .slice a3 wh.length c3, .slice a4 row.length c4, .slice a5 mu.length c5, .slice a6 cs.length c6, .bool un] 43)) (.cells #[.string ⟨tb.toArray⟩, .slice a3 wh.length c3] 115)
  rw [size_allocD] at he
  have z0 := cell_at (o := 0) he rfl
  have z1 := cell_at (o := 1) he rfl
  clear hb hc hd he
  go_enter Tryz.func27, Tryz.ntmps27
  go_wp2_with fail
  go_ret2
  exact ⟨rfl, HC.out⟩
set_option maxRecDepth 100000 in
set_option maxHeartbeats 6400000 in
theorem opOf8 (tb nm : List UInt8) (wh : List CondV) (row : List SetV) (mu : List MutV) (cs : List (List UInt8)) (un : Bool) (a3 : Option Addr) (c3 : Nat) (a4 : Option Addr) (c4 : Nat) (a5 : Option Addr) (c5 : Nat) (a6 : Option Addr) (c6 : Nat) (w : World) :
    Calls Tryz.prog 27 #[.agg #[.int .i64 8, .string ⟨tb.toArray⟩, .string ⟨nm.toArray⟩, .slice a3 wh.length c3, .slice a4 row.length c4, .slice a5 mu.length c5, .slice a6 cs.length c6, .bool un]] w fun e w' => e = .returned (.tuple #[.iface 130 (.agg #[]), .bool true]) ∧ Below w.heap.size w w' := by
  have hb := boxD 43 w #[.int .i64 8, .string ⟨tb.toArray⟩, .string ⟨nm.toArray⟩, .slice a3 wh.length c3, .slice a4 row.length c4, .slice a5 mu.length c5, .slice a6 cs.length c6, .bool un]
  have x0 := cell_at (o := 0) hb.1 rfl
  have x1 := cell_at (o := 1) hb.1 rfl
  have x2 := cell_at (o := 2) hb.1 rfl
  have x3 := cell_at (o := 3) hb.1 rfl
  have x4 := cell_at (o := 4) hb.1 rfl
  have x5 := cell_at (o := 5) hb.1 rfl
  have x6 := cell_at (o := 6) hb.1 rfl
  have x7 := cell_at (o := 7) hb.1 rfl
  have hc : Below w.heap.size w ((w.alloc (.cells #[.int .i64 8, .string ⟨tb.toArray⟩, .string ⟨nm.toArray⟩, .slice a3 wh.length c3, .slice a4 row.length c4, .slice a5 mu.length c5, .slice a6 cs.length c6, .bool un] 43)).alloc (.cells #[.string ⟨tb.toArray⟩, .slice a3 wh.length c3] 115)) := hb.2.alloc hb.2.size _
  have HC := Lib.hid hc
  have hd := heap_keptD hb.1 (below_allocD _ (.cells #[.string ⟨tb.toArray⟩, .slice a3 wh.length c3] 115))
  have y0 := cell_at (o := 0) hd rfl
  have y1 := cell_at (o := 1) hd rfl
  have y2 := cell_at (o := 2) hd rfl
  have y3 := cell_at (o := 3) hd rfl
  have y4 := cell_at (o := 4) hd rfl
  have y5 := cell_at (o := 5) hd rfl
  have y6 := cell_at (o := 6) hd rfl
  have y7 := cell_at (o := 7) hd rfl
  have he := heap_newD (w.alloc (.cells #[.int .i64 8, .string ⟨tb.toArray⟩, .string ⟨nm.toArray⟩, .slice a3 wh.length c3, .slice a4 row.length c4, .slice a5 mu.length c5, .slice a6 cs.length c6, .bool un] 43)) (.cells #[.string ⟨tb.toArray⟩, .slice a3 wh.length c3] 115)
  rw [size_allocD] at he
  have z0 := cell_at (o := 0) he rfl
  have z1 := cell_at (o := 1) he rfl
  clear hb hc hd he
  go_enter Tryz.func27, Tryz.ntmps27
  go_wp2_with fail
  go_ret2
  exact ⟨rfl, HC.out⟩
set_option maxRecDepth 100000 in
set_option maxHeartbeats 6400000 in
theorem opOf9 (tb nm : List UInt8) (wh : List CondV) (row : List SetV) (mu : List MutV) (cs : List (List UInt8)) (un : Bool) (a3 : Option Addr) (c3 : Nat) (a4 : Option Addr) (c4 : Nat) (a5 : Option Addr) (c5 : Nat) (a6 : Option Addr) (c6 : Nat) (w : World) :
    Calls Tryz.prog 27 #[.agg #[.int .i64 9, .string ⟨tb.toArray⟩, .string ⟨nm.toArray⟩, .slice a3 wh.length c3, .slice a4 row.length c4, .slice a5 mu.length c5, .slice a6 cs.length c6, .bool un]] w fun e w' => e = .returned (.tuple #[.iface 132 (.agg #[.string ⟨nm.toArray⟩]), .bool true]) ∧ Below w.heap.size w w' := by
  have hb := boxD 43 w #[.int .i64 9, .string ⟨tb.toArray⟩, .string ⟨nm.toArray⟩, .slice a3 wh.length c3, .slice a4 row.length c4, .slice a5 mu.length c5, .slice a6 cs.length c6, .bool un]
  have x0 := cell_at (o := 0) hb.1 rfl
  have x1 := cell_at (o := 1) hb.1 rfl
  have x2 := cell_at (o := 2) hb.1 rfl
  have x3 := cell_at (o := 3) hb.1 rfl
  have x4 := cell_at (o := 4) hb.1 rfl
  have x5 := cell_at (o := 5) hb.1 rfl
  have x6 := cell_at (o := 6) hb.1 rfl
  have x7 := cell_at (o := 7) hb.1 rfl
  have hc : Below w.heap.size w ((w.alloc (.cells #[.int .i64 9, .string ⟨tb.toArray⟩, .string ⟨nm.toArray⟩, .slice a3 wh.length c3, .slice a4 row.length c4, .slice a5 mu.length c5, .slice a6 cs.length c6, .bool un] 43)).alloc (.cells #[.string ⟨tb.toArray⟩, .slice a3 wh.length c3] 115)) := hb.2.alloc hb.2.size _
  have HC := Lib.hid hc
  have hd := heap_keptD hb.1 (below_allocD _ (.cells #[.string ⟨tb.toArray⟩, .slice a3 wh.length c3] 115))
  have y0 := cell_at (o := 0) hd rfl
  have y1 := cell_at (o := 1) hd rfl
  have y2 := cell_at (o := 2) hd rfl
  have y3 := cell_at (o := 3) hd rfl
  have y4 := cell_at (o := 4) hd rfl
  have y5 := cell_at (o := 5) hd rfl
  have y6 := cell_at (o := 6) hd rfl
  have y7 := cell_at (o := 7) hd rfl
  have he := heap_newD (w.alloc (.cells #[.int .i64 9, .string ⟨tb.toArray⟩, .string ⟨nm.toArray⟩, .slice a3 wh.length c3, .slice a4 row.length c4, .slice a5 mu.length c5, .slice a6 cs.length c6, .bool un] 43)) (.cells #[.string ⟨tb.toArray⟩, .slice a3 wh.length c3] 115)
  rw [size_allocD] at he
  have z0 := cell_at (o := 0) he rfl
  have z1 := cell_at (o := 1) he rfl
  clear hb hc hd he
  go_enter Tryz.func27, Tryz.ntmps27
  go_wp2_with fail
  go_ret2
  exact ⟨rfl, HC.out⟩
set_option maxRecDepth 100000 in
set_option maxHeartbeats 6400000 in
theorem opOf10 (tb nm : List UInt8) (wh : List CondV) (row : List SetV) (mu : List MutV) (cs : List (List UInt8)) (un : Bool) (a3 : Option Addr) (c3 : Nat) (a4 : Option Addr) (c4 : Nat) (a5 : Option Addr) (c5 : Nat) (a6 : Option Addr) (c6 : Nat) (w : World) :
    Calls Tryz.prog 27 #[.agg #[.int .i64 10, .string ⟨tb.toArray⟩, .string ⟨nm.toArray⟩, .slice a3 wh.length c3, .slice a4 row.length c4, .slice a5 mu.length c5, .slice a6 cs.length c6, .bool un]] w fun e w' => e = .returned (.tuple #[.iface 134 (.agg #[.string ⟨nm.toArray⟩]), .bool true]) ∧ Below w.heap.size w w' := by
  have hb := boxD 43 w #[.int .i64 10, .string ⟨tb.toArray⟩, .string ⟨nm.toArray⟩, .slice a3 wh.length c3, .slice a4 row.length c4, .slice a5 mu.length c5, .slice a6 cs.length c6, .bool un]
  have x0 := cell_at (o := 0) hb.1 rfl
  have x1 := cell_at (o := 1) hb.1 rfl
  have x2 := cell_at (o := 2) hb.1 rfl
  have x3 := cell_at (o := 3) hb.1 rfl
  have x4 := cell_at (o := 4) hb.1 rfl
  have x5 := cell_at (o := 5) hb.1 rfl
  have x6 := cell_at (o := 6) hb.1 rfl
  have x7 := cell_at (o := 7) hb.1 rfl
  have hc : Below w.heap.size w ((w.alloc (.cells #[.int .i64 10, .string ⟨tb.toArray⟩, .string ⟨nm.toArray⟩, .slice a3 wh.length c3, .slice a4 row.length c4, .slice a5 mu.length c5, .slice a6 cs.length c6, .bool un] 43)).alloc (.cells #[.string ⟨tb.toArray⟩, .slice a3 wh.length c3] 115)) := hb.2.alloc hb.2.size _
  have HC := Lib.hid hc
  have hd := heap_keptD hb.1 (below_allocD _ (.cells #[.string ⟨tb.toArray⟩, .slice a3 wh.length c3] 115))
  have y0 := cell_at (o := 0) hd rfl
  have y1 := cell_at (o := 1) hd rfl
  have y2 := cell_at (o := 2) hd rfl
  have y3 := cell_at (o := 3) hd rfl
  have y4 := cell_at (o := 4) hd rfl
  have y5 := cell_at (o := 5) hd rfl
  have y6 := cell_at (o := 6) hd rfl
  have y7 := cell_at (o := 7) hd rfl
  have he := heap_newD (w.alloc (.cells #[.int .i64 10, .string ⟨tb.toArray⟩, .string ⟨nm.toArray⟩, .slice a3 wh.length c3, .slice a4 row.length c4, .slice a5 mu.length c5, .slice a6 cs.length c6, .bool un] 43)) (.cells #[.string ⟨tb.toArray⟩, .slice a3 wh.length c3] 115)
  rw [size_allocD] at he
  have z0 := cell_at (o := 0) he rfl
  have z1 := cell_at (o := 1) he rfl
  clear hb hc hd he
  go_enter Tryz.func27, Tryz.ntmps27
  go_wp2_with fail
  go_ret2
  exact ⟨rfl, HC.out⟩
set_option maxRecDepth 100000 in
set_option maxHeartbeats 6400000 in
theorem opOf0 (kd : Int) (tb nm : List UInt8) (wh : List CondV) (row : List SetV) (mu : List MutV) (cs : List (List UInt8)) (un : Bool) (a3 : Option Addr) (c3 : Nat) (a4 : Option Addr) (c4 : Nat) (a5 : Option Addr) (c5 : Nat) (a6 : Option Addr) (c6 : Nat) (w : World) (hk : inB 1 kd 10 = false) :
    Calls Tryz.prog 27 #[.agg #[.int .i64 kd, .string ⟨tb.toArray⟩, .string ⟨nm.toArray⟩, .slice a3 wh.length c3, .slice a4 row.length c4, .slice a5 mu.length c5, .slice a6 cs.length c6, .bool un]] w fun e w' => e = .returned (.tuple #[.nilIface, .bool false]) ∧ Below w.heap.size w w' := by
  have k1 : (kd == 1) = false := by rw [beq_eq_false_iff_ne]; intro e; subst e; revert hk; decide
  have k2 : (kd == 2) = false := by rw [beq_eq_false_iff_ne]; intro e; subst e; revert hk; decide
  have k3 : (kd == 3) = false := by rw [beq_eq_false_iff_ne]; intro e; subst e; revert hk; decide
  have k4 : (kd == 4) = false := by rw [beq_eq_false_iff_ne]; intro e; subst e; revert hk; decide
  have k5 : (kd == 5) = false := by rw [beq_eq_false_iff_ne]; intro e; subst e; revert hk; decide
  have k6 : (kd == 6) = false := by rw [beq_eq_false_iff_ne]; intro e; subst e; revert hk; decide
  have k7 : (kd == 7) = false := by rw [beq_eq_false_iff_ne]; intro e; subst e; revert hk; decide
  have k8 : (kd == 8) = false := by rw [beq_eq_false_iff_ne]; intro e; subst e; revert hk; decide
  have k9 : (kd == 9) = false := by rw [beq_eq_false_iff_ne]; intro e; subst e; revert hk; decide
  have k10 : (kd == 10) = false := by rw [beq_eq_false_iff_ne]; intro e; subst e; revert hk; decide
  clear hk
  have hb := boxD 43 w #[.int .i64 kd, .string ⟨tb.toArray⟩, .string ⟨nm.toArray⟩, .slice a3 wh.length c3, .slice a4 row.length c4, .slice a5 mu.length c5, .slice a6 cs.length c6, .bool un]
  have x0 := cell_at (o := 0) hb.1 rfl
  have x1 := cell_at (o := 1) hb.1 rfl
  have x2 := cell_at (o := 2) hb.1 rfl
  have x3 := cell_at (o := 3) hb.1 rfl
  have x4 := cell_at (o := 4) hb.1 rfl
  have x5 := cell_at (o := 5) hb.1 rfl
  have x6 := cell_at (o := 6) hb.1 rfl
  have x7 := cell_at (o := 7) hb.1 rfl
  have hc : Below w.heap.size w ((w.alloc (.cells #[.int .i64 kd, .string ⟨tb.toArray⟩, .string ⟨nm.toArray⟩, .slice a3 wh.length c3, .slice a4 row.length c4, .slice a5 mu.length c5, .slice a6 cs.length c6, .bool un] 43)).alloc (.cells #[.string ⟨tb.toArray⟩, .slice a3 wh.length c3] 115)) := hb.2.alloc hb.2.size _
  have HC := Lib.hid hc
  have hd := heap_keptD hb.1 (below_allocD _ (.cells #[.string ⟨tb.toArray⟩, .slice a3 wh.length c3] 115))
  have y0 := cell_at (o := 0) hd rfl
  have y1 := cell_at (o := 1) hd rfl
  have y2 := cell_at (o := 2) hd rfl
  have y3 := cell_at (o := 3) hd rfl
  have y4 := cell_at (o := 4) hd rfl
  have y5 := cell_at (o := 5) hd rfl
  have y6 := cell_at (o := 6) hd rfl
  have y7 := cell_at (o := 7) hd rfl
  have he := heap_newD (w.alloc (.cells #[.int .i64 kd, .string ⟨tb.toArray⟩, .string ⟨nm.toArray⟩, .slice a3 wh.length c3, .slice a4 row.length c4, .slice a5 mu.length c5, .slice a6 cs.length c6, .bool un] 43)) (.cells #[.string ⟨tb.toArray⟩, .slice a3 wh.length c3] 115)
  rw [size_allocD] at he
  have z0 := cell_at (o := 0) he rfl
  have z1 := cell_at (o := 1) he rfl
  clear hb hc hd he
  go_enter Tryz.func27, Tryz.ntmps27
  go_wp2_with fail
  go_ret2
  exact ⟨rfl, HC.out⟩
end Go.Proofs.YtaepgahejelkaaaGreat
