import Derived.Test.YtaepgahejelkaaaGreatZbs
import Derived.Test.YtaepgahejelkaaaGreatZbt
import Derived.Test.YtaepgahejelkaaaGreatZbu
import Derived.Handy
import Derived.Deep.RegionHeld3
import Derived.Test.YtaepgahejelkaaaGreatZTk
namespace Go.Proofs.YtaepgahejelkaaaGreat
open Go.RowKit
set_option linter.unusedSimpArgs false
set_option maxRecDepth 100000 in
set_option maxHeartbeats 12800000 in
theorem opOKi_0 (kd : Int) (tb nm : List UInt8) (wh : List CondV) (row : List SetV) (mu : List MutV) (cs : List (List UInt8)) (un : Bool) (a3 : Option Addr) (c3 : Nat) (a4 : Option Addr) (c4 : Nat) (a5 : Option Addr) (c5 : Nat) (a6 : Option Addr) (c6 : Nat) (w : World) (hk : inB 1 kd 10 = false) :
    Calls Tryz.prog 26 #[.agg #[.int .i64 kd, .string ⟨tb.toArray⟩, .string ⟨nm.toArray⟩, .slice a3 wh.length c3, .slice a4 row.length c4, .slice a5 mu.length c5, .slice a6 cs.length c6, .bool un]] w fun e w' => e = .returned (.bool (opB ⟨kd, tb, nm, wh, row, mu, cs, un⟩)) ∧ Below w.heap.size w w' := by
  have OF : Hid (∀ W, BoxD 43 w W #[.int .i64 kd, .string ⟨tb.toArray⟩, .string ⟨nm.toArray⟩, .slice a3 wh.length c3, .slice a4 row.length c4, .slice a5 mu.length c5, .slice a6 cs.length c6, .bool un] → Calls Tryz.prog 27 #[.agg #[.int .i64 kd, .string ⟨tb.toArray⟩, .string ⟨nm.toArray⟩, .slice a3 wh.length c3, .slice a4 row.length c4, .slice a5 mu.length c5, .slice a6 cs.length c6, .bool un]] W fun e w' => e = .returned (.tuple #[.nilIface, .bool false]) ∧ BoxD 43 w w' #[.int .i64 kd, .string ⟨tb.toArray⟩, .string ⟨nm.toArray⟩, .slice a3 wh.length c3, .slice a4 row.length c4, .slice a5 mu.length c5, .slice a6 cs.length c6, .bool un]) := fun W h => (opOf0 kd tb nm wh row mu cs un a3 c3 a4 c4 a5 c5 a6 c6 W hk).mono (fun _ _ ⟨he, hB⟩ => ⟨he, h.later hB⟩)
  have HR : Hid (opB ⟨kd, tb, nm, wh, row, mu, cs, un⟩ = false) := op_none hk
  generalize opB ⟨kd, tb, nm, wh, row, mu, cs, un⟩ = ob at *
  have hb := boxD 43 w #[.int .i64 kd, .string ⟨tb.toArray⟩, .string ⟨nm.toArray⟩, .slice a3 wh.length c3, .slice a4 row.length c4, .slice a5 mu.length c5, .slice a6 cs.length c6, .bool un]
  have HB := Lib.hid hb
  have x0 := cell_at (o := 0) hb.1 rfl
  have x1 := cell_at (o := 1) hb.1 rfl
  have x2 := cell_at (o := 2) hb.1 rfl
  have x3 := cell_at (o := 3) hb.1 rfl
  have x4 := cell_at (o := 4) hb.1 rfl
  have x5 := cell_at (o := 5) hb.1 rfl
  have x6 := cell_at (o := 6) hb.1 rfl
  have x7 := cell_at (o := 7) hb.1 rfl
  clear hb hk
  have CE : Hid (∀ W, BoxD 43 w W #[.int .i64 kd, .string ⟨tb.toArray⟩, .string ⟨nm.toArray⟩, .slice a3 wh.length c3, .slice a4 row.length c4, .slice a5 mu.length c5, .slice a6 cs.length c6, .bool un] → W.cell? ⟨w.heap.size, 0, none⟩ = some (.int .i64 kd) ∧ W.cell? ⟨w.heap.size, 1, none⟩ = some (.string ⟨tb.toArray⟩) ∧ W.cell? ⟨w.heap.size, 2, none⟩ = some (.string ⟨nm.toArray⟩) ∧ W.cell? ⟨w.heap.size, 3, none⟩ = some (.slice a3 wh.length c3) ∧ W.cell? ⟨w.heap.size, 4, none⟩ = some (.slice a4 row.length c4) ∧ W.cell? ⟨w.heap.size, 5, none⟩ = some (.slice a5 mu.length c5) ∧ W.cell? ⟨w.heap.size, 6, none⟩ = some (.slice a6 cs.length c6) ∧ W.cell? ⟨w.heap.size, 7, none⟩ = some (.bool un)) := fun W h => ⟨cell_at (o := 0) h.1 rfl, cell_at (o := 1) h.1 rfl, cell_at (o := 2) h.1 rfl, cell_at (o := 3) h.1 rfl, cell_at (o := 4) h.1 rfl, cell_at (o := 5) h.1 rfl, cell_at (o := 6) h.1 rfl, cell_at (o := 7) h.1 rfl⟩
  go_enter Tryz.func26, Tryz.ntmps26
  go_wp2_with fail
  refine (OF.out _ HB.out).mono ?_
  rintro e w1 ⟨rfl, hb⟩
  have HB1 := Lib.hid hb
  clear hb x0 x1 x2 x3 x4 x5 x6 x7
  go_wp2_with fail
  refine wp_region_held_drew (S := (fun W => W.cell? ⟨w.heap.size, 0, none⟩ = some (.int .i64 kd) ∧ W.cell? ⟨w.heap.size, 1, none⟩ = some (.string ⟨tb.toArray⟩) ∧ W.cell? ⟨w.heap.size, 2, none⟩ = some (.string ⟨nm.toArray⟩) ∧ W.cell? ⟨w.heap.size, 3, none⟩ = some (.slice a3 wh.length c3) ∧ W.cell? ⟨w.heap.size, 4, none⟩ = some (.slice a4 row.length c4) ∧ W.cell? ⟨w.heap.size, 5, none⟩ = some (.slice a5 mu.length c5) ∧ W.cell? ⟨w.heap.size, 6, none⟩ = some (.slice a6 cs.length c6) ∧ W.cell? ⟨w.heap.size, 7, none⟩ = some (.bool un))) (by kernel_rfl) ?_ (fun hHeld => ?_)
  · (exact CE.out _ (by first | exact HB1.out | exact HB1.out.drew | exact BW4.out | exact BW5.out | exact BW9.out))
  refine tkA (i := 0) (v := ?_) rfl ?_ ?_
  rotate_left
  · (intro wS hSw; (try dsimp only at hSw); go_simp <;> with_reducible rfl)
  try simp only [Act.put, tkS]
  refine tkA (i := 1) (v := ?_) rfl ?_ ?_
  rotate_left
  · (intro wS hSw; (try dsimp only at hSw); go_simp <;> with_reducible rfl)
  try simp only [Act.put, tkS]
  refine tkU (i := 2) rfl ?_
  try simp only [Act.put, tkS]
  refine tkU (i := 3) rfl ?_
  try simp only [Act.put, tkS]
  refine tkU (i := 4) rfl ?_
  try simp only [Act.put, tkS]
  refine tkU (i := 5) rfl ?_
  try simp only [Act.put, tkS]
  refine tkA (i := 6) (v := ?_) rfl ?_ ?_
  rotate_left
  · (intro wS hSw; (try dsimp only at hSw); go_simp <;> with_reducible rfl)
  try simp only [Act.put, tkS]
  refine tkA (i := 7) (v := ?_) rfl ?_ ?_
  rotate_left
  · (intro wS hSw; (try dsimp only at hSw); go_simp <;> with_reducible rfl)
  try simp only [Act.put, tkS]
  refine tkU (i := 8) rfl ?_
  try simp only [Act.put, tkS]
  refine tkU (i := 9) rfl ?_
  try simp only [Act.put, tkS]
  refine tkA (i := 10) (v := ?_) rfl ?_ ?_
  rotate_left
  · (intro wS hSw; (try dsimp only at hSw); go_simp <;> with_reducible rfl)
  try simp only [Act.put, tkS]
  refine tkA (i := 11) (v := ?_) rfl ?_ ?_
  rotate_left
  · (intro wS hSw; (try dsimp only at hSw); go_simp <;> with_reducible rfl)
  try simp only [Act.put, tkS]
  refine wpAnyH_done (by kernel_rfl) ?_ _
  go_wp2_with fail
  go_ret
  exact ⟨ret_b HR.out.symm, HB1.out.2.drew⟩
set_option maxRecDepth 100000 in
set_option maxHeartbeats 12800000 in
theorem opOKi_1 (tb nm : List UInt8) (wh : List CondV) (row : List SetV) (mu : List MutV) (cs : List (List UInt8)) (un : Bool) (a3 : Option Addr) (c3 : Nat) (a4 : Option Addr) (c4 : Nat) (a5 : Option Addr) (c5 : Nat) (a6 : Option Addr) (c6 : Nat) (B : Nat → Prop) (w : World) (h1 : tb.length ≤ maxLen) (h2 : nm.length ≤ maxLen) (h3 : (dCondS wh).le maxLen) (h4 : (dSetS row).le maxLen) (h5 : (dMutS mu).le maxLen) (h6 : (dStringS cs).le maxLen)
    (r3 : Rd w B (dCondS wh) (.slice a3 wh.length c3)) (r4 : Rd w B (dSetS row) (.slice a4 row.length c4)) (r5 : Rd w B (dMutS mu) (.slice a5 mu.length c5)) (r6 : Rd w B (dStringS cs) (.slice a6 cs.length c6)) :
    Calls Tryz.prog 26 #[.agg #[.int .i64 1, .string ⟨tb.toArray⟩, .string ⟨nm.toArray⟩, .slice a3 wh.length c3, .slice a4 row.length c4, .slice a5 mu.length c5, .slice a6 cs.length c6, .bool un]] w fun e w' => e = .returned (.bool (opB ⟨1, tb, nm, wh, row, mu, cs, un⟩)) ∧ Below w.heap.size w w' := by
  have OF : Hid (∀ W, BoxD 43 w W #[.int .i64 1, .string ⟨tb.toArray⟩, .string ⟨nm.toArray⟩, .slice a3 wh.length c3, .slice a4 row.length c4, .slice a5 mu.length c5, .slice a6 cs.length c6, .bool un] → Calls Tryz.prog 27 #[.agg #[.int .i64 1, .string ⟨tb.toArray⟩, .string ⟨nm.toArray⟩, .slice a3 wh.length c3, .slice a4 row.length c4, .slice a5 mu.length c5, .slice a6 cs.length c6, .bool un]] W fun e w' => e = .returned (.tuple #[.iface 117 (.agg #[.string ⟨tb.toArray⟩, .string ⟨nm.toArray⟩, .slice a4 row.length c4]), .bool true]) ∧ BoxD 43 w w' #[.int .i64 1, .string ⟨tb.toArray⟩, .string ⟨nm.toArray⟩, .slice a3 wh.length c3, .slice a4 row.length c4, .slice a5 mu.length c5, .slice a6 cs.length c6, .bool un]) := fun W h => (opOf1 tb nm wh row mu cs un a3 c3 a4 c4 a5 c5 a6 c6 W).mono (fun _ _ ⟨he, hB⟩ => ⟨he, h.later hB⟩)
  have OM : Hid (∀ W, BoxD 43 w W #[.int .i64 1, .string ⟨tb.toArray⟩, .string ⟨nm.toArray⟩, .slice a3 wh.length c3, .slice a4 row.length c4, .slice a5 mu.length c5, .slice a6 cs.length c6, .bool un] → Calls Tryz.prog 155 #[.agg #[.string ⟨tb.toArray⟩, .string ⟨nm.toArray⟩, .slice a4 row.length c4]] W fun e w' => e = .returned (.agg #[.int .i64 1, .string ⟨tb.toArray⟩, .string ⟨nm.toArray⟩, .slice none 0 0, .slice a4 row.length c4, .slice none 0 0, .slice none 0 0, .bool false]) ∧ BoxD 43 w w' #[.int .i64 1, .string ⟨tb.toArray⟩, .string ⟨nm.toArray⟩, .slice a3 wh.length c3, .slice a4 row.length c4, .slice a5 mu.length c5, .slice a6 cs.length c6, .bool un]) := fun W h => (opM1 tb nm row a4 c4 W).mono (fun _ _ ⟨he, hB⟩ => ⟨he, h.later hB⟩)
  have SA : Hid (∀ W, BoxD 43 w W #[.int .i64 1, .string ⟨tb.toArray⟩, .string ⟨nm.toArray⟩, .slice a3 wh.length c3, .slice a4 row.length c4, .slice a5 mu.length c5, .slice a6 cs.length c6, .bool un] → Calls Tryz.prog 57 #[.agg #[.int .i64 1, .string ⟨tb.toArray⟩, .string ⟨nm.toArray⟩, .slice a3 wh.length c3, .slice a4 row.length c4, .slice a5 mu.length c5, .slice a6 cs.length c6, .bool un], .agg #[.int .i64 1, .string ⟨tb.toArray⟩, .string ⟨nm.toArray⟩, .slice none 0 0, .slice a4 row.length c4, .slice none 0 0, .slice none 0 0, .bool false]] W fun e w' => e = .returned (.bool (sameB tb nm un wh.length row.length mu.length cs.length tb nm false 0 row.length 0 0)) ∧ BoxD 43 w w' #[.int .i64 1, .string ⟨tb.toArray⟩, .string ⟨nm.toArray⟩, .slice a3 wh.length c3, .slice a4 row.length c4, .slice a5 mu.length c5, .slice a6 cs.length c6, .bool un]) := fun W h => (sameI 1 tb nm un wh.length row.length mu.length cs.length a3 c3 a4 c4 a5 c5 a6 c6 1 tb nm false 0 row.length 0 0 none 0 a4 c4 none 0 none 0 W).mono (fun _ _ ⟨he, hB⟩ => ⟨he, h.later hB⟩)
  have PA : Hid (∀ W, BoxD 43 w W #[.int .i64 1, .string ⟨tb.toArray⟩, .string ⟨nm.toArray⟩, .slice a3 wh.length c3, .slice a4 row.length c4, .slice a5 mu.length c5, .slice a6 cs.length c6, .bool un] → Calls Tryz.prog 58 #[.agg #[.int .i64 1, .string ⟨tb.toArray⟩, .string ⟨nm.toArray⟩, .slice a3 wh.length c3, .slice a4 row.length c4, .slice a5 mu.length c5, .slice a6 cs.length c6, .bool un]] W fun e w' => e = .returned (.bool (partsB tb nm wh row mu cs)) ∧ BoxD 43 w w' #[.int .i64 1, .string ⟨tb.toArray⟩, .string ⟨nm.toArray⟩, .slice a3 wh.length c3, .slice a4 row.length c4, .slice a5 mu.length c5, .slice a6 cs.length c6, .bool un]) := fun W h => (partsI 1 tb nm wh row mu cs un a3 c3 a4 c4 a5 c5 a6 c6 B W h1 h2 h3 h4 h5 h6 (r3.later h.2) (r4.later h.2) (r5.later h.2) (r6.later h.2)).mono (fun _ _ ⟨he, hB⟩ => ⟨he, h.later hB⟩)
  have HE := Lib.hid (op_kind1 tb nm wh row mu cs un)
  generalize opB ⟨1, tb, nm, wh, row, mu, cs, un⟩ = ob at *
  generalize sameB tb nm un wh.length row.length mu.length cs.length tb nm false 0 row.length 0 0 = sb at *
  generalize partsB tb nm wh row mu cs = pb at *
  have hb := boxD 43 w #[.int .i64 1, .string ⟨tb.toArray⟩, .string ⟨nm.toArray⟩, .slice a3 wh.length c3, .slice a4 row.length c4, .slice a5 mu.length c5, .slice a6 cs.length c6, .bool un]
  have HB := Lib.hid hb
  have x0 := cell_at (o := 0) hb.1 rfl
  have x1 := cell_at (o := 1) hb.1 rfl
  have x2 := cell_at (o := 2) hb.1 rfl
  have x3 := cell_at (o := 3) hb.1 rfl
  have x4 := cell_at (o := 4) hb.1 rfl
  have x5 := cell_at (o := 5) hb.1 rfl
  have x6 := cell_at (o := 6) hb.1 rfl
  have x7 := cell_at (o := 7) hb.1 rfl
  clear hb h1 h2 h3 h4 h5 h6 r3 r4 r5 r6
  have CE : Hid (∀ W, BoxD 43 w W #[.int .i64 1, .string ⟨tb.toArray⟩, .string ⟨nm.toArray⟩, .slice a3 wh.length c3, .slice a4 row.length c4, .slice a5 mu.length c5, .slice a6 cs.length c6, .bool un] → W.cell? ⟨w.heap.size, 0, none⟩ = some (.int .i64 1) ∧ W.cell? ⟨w.heap.size, 1, none⟩ = some (.string ⟨tb.toArray⟩) ∧ W.cell? ⟨w.heap.size, 2, none⟩ = some (.string ⟨nm.toArray⟩) ∧ W.cell? ⟨w.heap.size, 3, none⟩ = some (.slice a3 wh.length c3) ∧ W.cell? ⟨w.heap.size, 4, none⟩ = some (.slice a4 row.length c4) ∧ W.cell? ⟨w.heap.size, 5, none⟩ = some (.slice a5 mu.length c5) ∧ W.cell? ⟨w.heap.size, 6, none⟩ = some (.slice a6 cs.length c6) ∧ W.cell? ⟨w.heap.size, 7, none⟩ = some (.bool un)) := fun W h => ⟨cell_at (o := 0) h.1 rfl, cell_at (o := 1) h.1 rfl, cell_at (o := 2) h.1 rfl, cell_at (o := 3) h.1 rfl, cell_at (o := 4) h.1 rfl, cell_at (o := 5) h.1 rfl, cell_at (o := 6) h.1 rfl, cell_at (o := 7) h.1 rfl⟩
  cases sb
  case false =>
    have HR : Hid (ob = false) := by show ob = false; rw [HE.out]; rfl
    clear HE
    go_enter Tryz.func26, Tryz.ntmps26
    go_wp2_with fail
    refine (OF.out _ HB.out).mono ?_
    rintro e w1 ⟨rfl, hb⟩
    have HB1 := Lib.hid hb
    clear hb x0 x1 x2 x3 x4 x5 x6 x7
    go_wp2_with fail
    refine wp_region_held_drew (S := (fun W => W.cell? ⟨w.heap.size, 0, none⟩ = some (.int .i64 1) ∧ W.cell? ⟨w.heap.size, 1, none⟩ = some (.string ⟨tb.toArray⟩) ∧ W.cell? ⟨w.heap.size, 2, none⟩ = some (.string ⟨nm.toArray⟩) ∧ W.cell? ⟨w.heap.size, 3, none⟩ = some (.slice a3 wh.length c3) ∧ W.cell? ⟨w.heap.size, 4, none⟩ = some (.slice a4 row.length c4) ∧ W.cell? ⟨w.heap.size, 5, none⟩ = some (.slice a5 mu.length c5) ∧ W.cell? ⟨w.heap.size, 6, none⟩ = some (.slice a6 cs.length c6) ∧ W.cell? ⟨w.heap.size, 7, none⟩ = some (.bool un))) (by kernel_rfl) ?_ (fun hHeld => ?_)
    · (exact CE.out _ (by first | exact HB1.out | exact HB1.out.drew | exact BW4.out | exact BW5.out | exact BW9.out))
    refine tkA (i := 0) (v := ?_) rfl ?_ ?_
    rotate_left
    · (intro wS hSw; (try dsimp only at hSw); go_simp <;> with_reducible rfl)
    try simp only [Act.put, tkS]
    refine tkA (i := 1) (v := ?_) rfl ?_ ?_
    rotate_left
    · (intro wS hSw; (try dsimp only at hSw); go_simp <;> with_reducible rfl)
    try simp only [Act.put, tkS]
    refine tkA (i := 2) (v := ?_) rfl ?_ ?_
    rotate_left
    · (intro wS hSw; (try dsimp only at hSw); go_simp <;> with_reducible rfl)
    try simp only [Act.put, tkS]
    refine tkA (i := 3) (v := ?_) rfl ?_ ?_
    rotate_left
    · (intro wS hSw; (try dsimp only at hSw); go_simp <;> with_reducible rfl)
    try simp only [Act.put, tkS]
    refine wpAnyH_ready (rs := [4]) (by kernel_rfl) (by simp) (AllReadyH.cons rfl (fun K hK => ?_) AllReadyH.nil)
    go_simp
    (go_invoke; go_simp; go_at_call 155; refine (OM.out _ (by first | exact HB1.out | exact HB1.out.drew)).mono ?_; rintro e w4 ⟨rfl, hb⟩; have BW4 : Hid (BoxD 43 w w4 #[.int .i64 1, .string ⟨tb.toArray⟩, .string ⟨nm.toArray⟩, .slice a3 wh.length c3, .slice a4 row.length c4, .slice a5 mu.length c5, .slice a6 cs.length c6, .bool un]) := hb; clear hb)
    refine hK.out _ _ ?_ (fun hHeld => ?_)
    · (exact CE.out _ (by first | exact HB1.out | exact HB1.out.drew | exact BW4.out | exact BW5.out | exact BW9.out))
    clear hK K
    try simp only [Act.put, tkS]
    refine wpAnyH_ready (rs := [5]) (by kernel_rfl) (by simp) (AllReadyH.cons rfl (fun K hK => ?_) AllReadyH.nil)
    go_simp
    (go_at_call 57; refine (SA.out _ BW4.out).mono ?_; rintro e w5 ⟨rfl, hb⟩; have BW5 : Hid (BoxD 43 w w5 #[.int .i64 1, .string ⟨tb.toArray⟩, .string ⟨nm.toArray⟩, .slice a3 wh.length c3, .slice a4 row.length c4, .slice a5 mu.length c5, .slice a6 cs.length c6, .bool un]) := hb; clear hb)
    refine hK.out _ _ ?_ (fun hHeld => ?_)
    · (exact CE.out _ (by first | exact HB1.out | exact HB1.out.drew | exact BW4.out | exact BW5.out | exact BW9.out))
    clear hK K
    try simp only [Act.put, tkS]
    refine tkA (i := 6) (v := ?_) rfl ?_ ?_
    rotate_left
    · (intro wS hSw; (try dsimp only at hSw); go_simp <;> with_reducible rfl)
    try simp only [Act.put, tkS]
    refine tkA (i := 7) (v := ?_) rfl ?_ ?_
    rotate_left
    · (intro wS hSw; (try dsimp only at hSw); go_simp <;> with_reducible rfl)
    try simp only [Act.put, tkS]
    refine tkU (i := 8) rfl ?_
    try simp only [Act.put, tkS]
    refine tkU (i := 9) rfl ?_
    try simp only [Act.put, tkS]
    refine tkA (i := 10) (v := ?_) rfl ?_ ?_
    rotate_left
    · (intro wS hSw; (try dsimp only at hSw); go_simp <;> with_reducible rfl)
    try simp only [Act.put, tkS]
    refine tkA (i := 11) (v := ?_) rfl ?_ ?_
    rotate_left
    · (intro wS hSw; (try dsimp only at hSw); go_simp <;> with_reducible rfl)
    try simp only [Act.put, tkS]
    refine wpAnyH_done (by kernel_rfl) ?_ _
    go_wp2_with fail
    go_ret
    exact ⟨ret_b HR.out.symm, BW5.out.2⟩
  have HR : Hid (ob = pb) := by show ob = pb; rw [HE.out]; rfl
  clear HE
  go_enter Tryz.func26, Tryz.ntmps26
  go_wp2_with fail
  refine (OF.out _ HB.out).mono ?_
  rintro e w1 ⟨rfl, hb⟩
  have HB1 := Lib.hid hb
  clear hb x0 x1 x2 x3 x4 x5 x6 x7
  go_wp2_with fail
  refine wp_region_held_drew (S := (fun W => W.cell? ⟨w.heap.size, 0, none⟩ = some (.int .i64 1) ∧ W.cell? ⟨w.heap.size, 1, none⟩ = some (.string ⟨tb.toArray⟩) ∧ W.cell? ⟨w.heap.size, 2, none⟩ = some (.string ⟨nm.toArray⟩) ∧ W.cell? ⟨w.heap.size, 3, none⟩ = some (.slice a3 wh.length c3) ∧ W.cell? ⟨w.heap.size, 4, none⟩ = some (.slice a4 row.length c4) ∧ W.cell? ⟨w.heap.size, 5, none⟩ = some (.slice a5 mu.length c5) ∧ W.cell? ⟨w.heap.size, 6, none⟩ = some (.slice a6 cs.length c6) ∧ W.cell? ⟨w.heap.size, 7, none⟩ = some (.bool un))) (by kernel_rfl) ?_ (fun hHeld => ?_)
  · (exact CE.out _ (by first | exact HB1.out | exact HB1.out.drew | exact BW4.out | exact BW5.out | exact BW9.out))
  refine tkA (i := 0) (v := ?_) rfl ?_ ?_
  rotate_left
  · (intro wS hSw; (try dsimp only at hSw); go_simp <;> with_reducible rfl)
  try simp only [Act.put, tkS]
  refine tkA (i := 1) (v := ?_) rfl ?_ ?_
  rotate_left
  · (intro wS hSw; (try dsimp only at hSw); go_simp <;> with_reducible rfl)
  try simp only [Act.put, tkS]
  refine tkA (i := 2) (v := ?_) rfl ?_ ?_
  rotate_left
  · (intro wS hSw; (try dsimp only at hSw); go_simp <;> with_reducible rfl)
  try simp only [Act.put, tkS]
  refine tkA (i := 3) (v := ?_) rfl ?_ ?_
  rotate_left
  · (intro wS hSw; (try dsimp only at hSw); go_simp <;> with_reducible rfl)
  try simp only [Act.put, tkS]
  refine wpAnyH_ready (rs := [4]) (by kernel_rfl) (by simp) (AllReadyH.cons rfl (fun K hK => ?_) AllReadyH.nil)
  go_simp
  (go_invoke; go_simp; go_at_call 155; refine (OM.out _ (by first | exact HB1.out | exact HB1.out.drew)).mono ?_; rintro e w4 ⟨rfl, hb⟩; have BW4 : Hid (BoxD 43 w w4 #[.int .i64 1, .string ⟨tb.toArray⟩, .string ⟨nm.toArray⟩, .slice a3 wh.length c3, .slice a4 row.length c4, .slice a5 mu.length c5, .slice a6 cs.length c6, .bool un]) := hb; clear hb)
  refine hK.out _ _ ?_ (fun hHeld => ?_)
  · (exact CE.out _ (by first | exact HB1.out | exact HB1.out.drew | exact BW4.out | exact BW5.out | exact BW9.out))
  clear hK K
  try simp only [Act.put, tkS]
  refine wpAnyH_ready (rs := [5]) (by kernel_rfl) (by simp) (AllReadyH.cons rfl (fun K hK => ?_) AllReadyH.nil)
  go_simp
  (go_at_call 57; refine (SA.out _ BW4.out).mono ?_; rintro e w5 ⟨rfl, hb⟩; have BW5 : Hid (BoxD 43 w w5 #[.int .i64 1, .string ⟨tb.toArray⟩, .string ⟨nm.toArray⟩, .slice a3 wh.length c3, .slice a4 row.length c4, .slice a5 mu.length c5, .slice a6 cs.length c6, .bool un]) := hb; clear hb)
  refine hK.out _ _ ?_ (fun hHeld => ?_)
  · (exact CE.out _ (by first | exact HB1.out | exact HB1.out.drew | exact BW4.out | exact BW5.out | exact BW9.out))
  clear hK K
  try simp only [Act.put, tkS]
  refine tkA (i := 6) (v := ?_) rfl ?_ ?_
  rotate_left
  · (intro wS hSw; (try dsimp only at hSw); go_simp <;> with_reducible rfl)
  try simp only [Act.put, tkS]
  refine tkA (i := 7) (v := ?_) rfl ?_ ?_
  rotate_left
  · (intro wS hSw; (try dsimp only at hSw); go_simp <;> with_reducible rfl)
  try simp only [Act.put, tkS]
  refine tkA (i := 8) (v := ?_) rfl ?_ ?_
  rotate_left
  · (intro wS hSw; (try dsimp only at hSw); go_simp <;> with_reducible rfl)
  try simp only [Act.put, tkS]
  refine wpAnyH_ready (rs := [9]) (by kernel_rfl) (by simp) (AllReadyH.cons rfl (fun K hK => ?_) AllReadyH.nil)
  go_simp
  (go_at_call 58; refine (PA.out _ BW5.out).mono ?_; rintro e w9 ⟨rfl, hb⟩; have BW9 : Hid (BoxD 43 w w9 #[.int .i64 1, .string ⟨tb.toArray⟩, .string ⟨nm.toArray⟩, .slice a3 wh.length c3, .slice a4 row.length c4, .slice a5 mu.length c5, .slice a6 cs.length c6, .bool un]) := hb; clear hb)
  refine hK.out _ _ ?_ (fun hHeld => ?_)
  · (exact CE.out _ (by first | exact HB1.out | exact HB1.out.drew | exact BW4.out | exact BW5.out | exact BW9.out))
  clear hK K
  try simp only [Act.put, tkS]
  refine tkA (i := 10) (v := ?_) rfl ?_ ?_
  rotate_left
  · (intro wS hSw; (try dsimp only at hSw); go_simp <;> with_reducible rfl)
  try simp only [Act.put, tkS]
  refine tkA (i := 11) (v := ?_) rfl ?_ ?_
  rotate_left
  · (intro wS hSw; (try dsimp only at hSw); go_simp <;> with_reducible rfl)
  try simp only [Act.put, tkS]
  refine wpAnyH_done (by kernel_rfl) ?_ _
  go_wp2_with fail
  go_ret
  exact ⟨ret_b HR.out.symm, BW9.out.2⟩
set_option maxRecDepth 100000 in
set_option maxHeartbeats 12800000 in
theorem opOKi_2 (tb nm : List UInt8) (wh : List CondV) (row : List SetV) (mu : List MutV) (cs : List (List UInt8)) (un : Bool) (a3 : Option Addr) (c3 : Nat) (a4 : Option Addr) (c4 : Nat) (a5 : Option Addr) (c5 : Nat) (a6 : Option Addr) (c6 : Nat) (B : Nat → Prop) (w : World) (h1 : tb.length ≤ maxLen) (h2 : nm.length ≤ maxLen) (h3 : (dCondS wh).le maxLen) (h4 : (dSetS row).le maxLen) (h5 : (dMutS mu).le maxLen) (h6 : (dStringS cs).le maxLen)
    (r3 : Rd w B (dCondS wh) (.slice a3 wh.length c3)) (r4 : Rd w B (dSetS row) (.slice a4 row.length c4)) (r5 : Rd w B (dMutS mu) (.slice a5 mu.length c5)) (r6 : Rd w B (dStringS cs) (.slice a6 cs.length c6)) :
    Calls Tryz.prog 26 #[.agg #[.int .i64 2, .string ⟨tb.toArray⟩, .string ⟨nm.toArray⟩, .slice a3 wh.length c3, .slice a4 row.length c4, .slice a5 mu.length c5, .slice a6 cs.length c6, .bool un]] w fun e w' => e = .returned (.bool (opB ⟨2, tb, nm, wh, row, mu, cs, un⟩)) ∧ Below w.heap.size w w' := by
  have OF : Hid (∀ W, BoxD 43 w W #[.int .i64 2, .string ⟨tb.toArray⟩, .string ⟨nm.toArray⟩, .slice a3 wh.length c3, .slice a4 row.length c4, .slice a5 mu.length c5, .slice a6 cs.length c6, .bool un] → Calls Tryz.prog 27 #[.agg #[.int .i64 2, .string ⟨tb.toArray⟩, .string ⟨nm.toArray⟩, .slice a3 wh.length c3, .slice a4 row.length c4, .slice a5 mu.length c5, .slice a6 cs.length c6, .bool un]] W fun e w' => e = .returned (.tuple #[.iface 119 (.agg #[.string ⟨tb.toArray⟩, .slice a3 wh.length c3, .slice a6 cs.length c6]), .bool true]) ∧ BoxD 43 w w' #[.int .i64 2, .string ⟨tb.toArray⟩, .string ⟨nm.toArray⟩, .slice a3 wh.length c3, .slice a4 row.length c4, .slice a5 mu.length c5, .slice a6 cs.length c6, .bool un]) := fun W h => (opOf2 tb nm wh row mu cs un a3 c3 a4 c4 a5 c5 a6 c6 W).mono (fun _ _ ⟨he, hB⟩ => ⟨he, h.later hB⟩)
  have OM : Hid (∀ W, BoxD 43 w W #[.int .i64 2, .string ⟨tb.toArray⟩, .string ⟨nm.toArray⟩, .slice a3 wh.length c3, .slice a4 row.length c4, .slice a5 mu.length c5, .slice a6 cs.length c6, .bool un] → Calls Tryz.prog 156 #[.agg #[.string ⟨tb.toArray⟩, .slice a3 wh.length c3, .slice a6 cs.length c6]] W fun e w' => e = .returned (.agg #[.int .i64 2, .string ⟨tb.toArray⟩, .string ⟨#[]⟩, .slice a3 wh.length c3, .slice none 0 0, .slice none 0 0, .slice a6 cs.length c6, .bool false]) ∧ BoxD 43 w w' #[.int .i64 2, .string ⟨tb.toArray⟩, .string ⟨nm.toArray⟩, .slice a3 wh.length c3, .slice a4 row.length c4, .slice a5 mu.length c5, .slice a6 cs.length c6, .bool un]) := fun W h => (opM2 tb wh a3 c3 cs a6 c6 W).mono (fun _ _ ⟨he, hB⟩ => ⟨he, h.later hB⟩)
  have SA : Hid (∀ W, BoxD 43 w W #[.int .i64 2, .string ⟨tb.toArray⟩, .string ⟨nm.toArray⟩, .slice a3 wh.length c3, .slice a4 row.length c4, .slice a5 mu.length c5, .slice a6 cs.length c6, .bool un] → Calls Tryz.prog 57 #[.agg #[.int .i64 2, .string ⟨tb.toArray⟩, .string ⟨nm.toArray⟩, .slice a3 wh.length c3, .slice a4 row.length c4, .slice a5 mu.length c5, .slice a6 cs.length c6, .bool un], .agg #[.int .i64 2, .string ⟨tb.toArray⟩, .string ⟨#[]⟩, .slice a3 wh.length c3, .slice none 0 0, .slice none 0 0, .slice a6 cs.length c6, .bool false]] W fun e w' => e = .returned (.bool (sameB tb nm un wh.length row.length mu.length cs.length tb [] false wh.length 0 0 cs.length)) ∧ BoxD 43 w w' #[.int .i64 2, .string ⟨tb.toArray⟩, .string ⟨nm.toArray⟩, .slice a3 wh.length c3, .slice a4 row.length c4, .slice a5 mu.length c5, .slice a6 cs.length c6, .bool un]) := fun W h => (sameI 2 tb nm un wh.length row.length mu.length cs.length a3 c3 a4 c4 a5 c5 a6 c6 2 tb [] false wh.length 0 0 cs.length a3 c3 none 0 none 0 a6 c6 W).mono (fun _ _ ⟨he, hB⟩ => ⟨he, h.later hB⟩)
  have PA : Hid (∀ W, BoxD 43 w W #[.int .i64 2, .string ⟨tb.toArray⟩, .string ⟨nm.toArray⟩, .slice a3 wh.length c3, .slice a4 row.length c4, .slice a5 mu.length c5, .slice a6 cs.length c6, .bool un] → Calls Tryz.prog 58 #[.agg #[.int .i64 2, .string ⟨tb.toArray⟩, .string ⟨nm.toArray⟩, .slice a3 wh.length c3, .slice a4 row.length c4, .slice a5 mu.length c5, .slice a6 cs.length c6, .bool un]] W fun e w' => e = .returned (.bool (partsB tb nm wh row mu cs)) ∧ BoxD 43 w w' #[.int .i64 2, .string ⟨tb.toArray⟩, .string ⟨nm.toArray⟩, .slice a3 wh.length c3, .slice a4 row.length c4, .slice a5 mu.length c5, .slice a6 cs.length c6, .bool un]) := fun W h => (partsI 2 tb nm wh row mu cs un a3 c3 a4 c4 a5 c5 a6 c6 B W h1 h2 h3 h4 h5 h6 (r3.later h.2) (r4.later h.2) (r5.later h.2) (r6.later h.2)).mono (fun _ _ ⟨he, hB⟩ => ⟨he, h.later hB⟩)
  have HE := Lib.hid (op_kind2 tb nm wh row mu cs un)
  generalize opB ⟨2, tb, nm, wh, row, mu, cs, un⟩ = ob at *
  generalize sameB tb nm un wh.length row.length mu.length cs.length tb [] false wh.length 0 0 cs.length = sb at *
  generalize partsB tb nm wh row mu cs = pb at *
  have hb := boxD 43 w #[.int .i64 2, .string ⟨tb.toArray⟩, .string ⟨nm.toArray⟩, .slice a3 wh.length c3, .slice a4 row.length c4, .slice a5 mu.length c5, .slice a6 cs.length c6, .bool un]
  have HB := Lib.hid hb
  have x0 := cell_at (o := 0) hb.1 rfl
  have x1 := cell_at (o := 1) hb.1 rfl
  have x2 := cell_at (o := 2) hb.1 rfl
  have x3 := cell_at (o := 3) hb.1 rfl
  have x4 := cell_at (o := 4) hb.1 rfl
  have x5 := cell_at (o := 5) hb.1 rfl
  have x6 := cell_at (o := 6) hb.1 rfl
  have x7 := cell_at (o := 7) hb.1 rfl
  clear hb h1 h2 h3 h4 h5 h6 r3 r4 r5 r6
  have CE : Hid (∀ W, BoxD 43 w W #[.int .i64 2, .string ⟨tb.toArray⟩, .string ⟨nm.toArray⟩, .slice a3 wh.length c3, .slice a4 row.length c4, .slice a5 mu.length c5, .slice a6 cs.length c6, .bool un] → W.cell? ⟨w.heap.size, 0, none⟩ = some (.int .i64 2) ∧ W.cell? ⟨w.heap.size, 1, none⟩ = some (.string ⟨tb.toArray⟩) ∧ W.cell? ⟨w.heap.size, 2, none⟩ = some (.string ⟨nm.toArray⟩) ∧ W.cell? ⟨w.heap.size, 3, none⟩ = some (.slice a3 wh.length c3) ∧ W.cell? ⟨w.heap.size, 4, none⟩ = some (.slice a4 row.length c4) ∧ W.cell? ⟨w.heap.size, 5, none⟩ = some (.slice a5 mu.length c5) ∧ W.cell? ⟨w.heap.size, 6, none⟩ = some (.slice a6 cs.length c6) ∧ W.cell? ⟨w.heap.size, 7, none⟩ = some (.bool un)) := fun W h => ⟨cell_at (o := 0) h.1 rfl, cell_at (o := 1) h.1 rfl, cell_at (o := 2) h.1 rfl, cell_at (o := 3) h.1 rfl, cell_at (o := 4) h.1 rfl, cell_at (o := 5) h.1 rfl, cell_at (o := 6) h.1 rfl, cell_at (o := 7) h.1 rfl⟩
  cases sb
  case false =>
    have HR : Hid (ob = false) := by show ob = false; rw [HE.out]; rfl
    clear HE
    go_enter Tryz.func26, Tryz.ntmps26
    go_wp2_with fail
    refine (OF.out _ HB.out).mono ?_
    rintro e w1 ⟨rfl, hb⟩
    have HB1 := Lib.hid hb
    clear hb x0 x1 x2 x3 x4 x5 x6 x7
    go_wp2_with fail
    refine wp_region_held_drew (S := (fun W => W.cell? ⟨w.heap.size, 0, none⟩ = some (.int .i64 2) ∧ W.cell? ⟨w.heap.size, 1, none⟩ = some (.string ⟨tb.toArray⟩) ∧ W.cell? ⟨w.heap.size, 2, none⟩ = some (.string ⟨nm.toArray⟩) ∧ W.cell? ⟨w.heap.size, 3, none⟩ = some (.slice a3 wh.length c3) ∧ W.cell? ⟨w.heap.size, 4, none⟩ = some (.slice a4 row.length c4) ∧ W.cell? ⟨w.heap.size, 5, none⟩ = some (.slice a5 mu.length c5) ∧ W.cell? ⟨w.heap.size, 6, none⟩ = some (.slice a6 cs.length c6) ∧ W.cell? ⟨w.heap.size, 7, none⟩ = some (.bool un))) (by kernel_rfl) ?_ (fun hHeld => ?_)
    · (exact CE.out _ (by first | exact HB1.out | exact HB1.out.drew | exact BW4.out | exact BW5.out | exact BW9.out))
    refine tkA (i := 0) (v := ?_) rfl ?_ ?_
    rotate_left
    · (intro wS hSw; (try dsimp only at hSw); go_simp <;> with_reducible rfl)
    try simp only [Act.put, tkS]
    refine tkA (i := 1) (v := ?_) rfl ?_ ?_
    rotate_left
    · (intro wS hSw; (try dsimp only at hSw); go_simp <;> with_reducible rfl)
    try simp only [Act.put, tkS]
    refine tkA (i := 2) (v := ?_) rfl ?_ ?_
    rotate_left
    · (intro wS hSw; (try dsimp only at hSw); go_simp <;> with_reducible rfl)
    try simp only [Act.put, tkS]
    refine tkA (i := 3) (v := ?_) rfl ?_ ?_
    rotate_left
    · (intro wS hSw; (try dsimp only at hSw); go_simp <;> with_reducible rfl)
    try simp only [Act.put, tkS]
    refine wpAnyH_ready (rs := [4]) (by kernel_rfl) (by simp) (AllReadyH.cons rfl (fun K hK => ?_) AllReadyH.nil)
    go_simp
    (go_invoke; go_simp; go_at_call 156; refine (OM.out _ (by first | exact HB1.out | exact HB1.out.drew)).mono ?_; rintro e w4 ⟨rfl, hb⟩; have BW4 : Hid (BoxD 43 w w4 #[.int .i64 2, .string ⟨tb.toArray⟩, .string ⟨nm.toArray⟩, .slice a3 wh.length c3, .slice a4 row.length c4, .slice a5 mu.length c5, .slice a6 cs.length c6, .bool un]) := hb; clear hb)
    refine hK.out _ _ ?_ (fun hHeld => ?_)
    · (exact CE.out _ (by first | exact HB1.out | exact HB1.out.drew | exact BW4.out | exact BW5.out | exact BW9.out))
    clear hK K
    try simp only [Act.put, tkS]
    refine wpAnyH_ready (rs := [5]) (by kernel_rfl) (by simp) (AllReadyH.cons rfl (fun K hK => ?_) AllReadyH.nil)
    go_simp
    (go_at_call 57; refine (SA.out _ BW4.out).mono ?_; rintro e w5 ⟨rfl, hb⟩; have BW5 : Hid (BoxD 43 w w5 #[.int .i64 2, .string ⟨tb.toArray⟩, .string ⟨nm.toArray⟩, .slice a3 wh.length c3, .slice a4 row.length c4, .slice a5 mu.length c5, .slice a6 cs.length c6, .bool un]) := hb; clear hb)
    refine hK.out _ _ ?_ (fun hHeld => ?_)
    · (exact CE.out _ (by first | exact HB1.out | exact HB1.out.drew | exact BW4.out | exact BW5.out | exact BW9.out))
    clear hK K
    try simp only [Act.put, tkS]
    refine tkA (i := 6) (v := ?_) rfl ?_ ?_
    rotate_left
    · (intro wS hSw; (try dsimp only at hSw); go_simp <;> with_reducible rfl)
    try simp only [Act.put, tkS]
    refine tkA (i := 7) (v := ?_) rfl ?_ ?_
    rotate_left
    · (intro wS hSw; (try dsimp only at hSw); go_simp <;> with_reducible rfl)
    try simp only [Act.put, tkS]
    refine tkU (i := 8) rfl ?_
    try simp only [Act.put, tkS]
    refine tkU (i := 9) rfl ?_
    try simp only [Act.put, tkS]
    refine tkA (i := 10) (v := ?_) rfl ?_ ?_
    rotate_left
    · (intro wS hSw; (try dsimp only at hSw); go_simp <;> with_reducible rfl)
    try simp only [Act.put, tkS]
    refine tkA (i := 11) (v := ?_) rfl ?_ ?_
    rotate_left
    · (intro wS hSw; (try dsimp only at hSw); go_simp <;> with_reducible rfl)
    try simp only [Act.put, tkS]
    refine wpAnyH_done (by kernel_rfl) ?_ _
    go_wp2_with fail
    go_ret
    exact ⟨ret_b HR.out.symm, BW5.out.2⟩
  have HR : Hid (ob = pb) := by show ob = pb; rw [HE.out]; rfl
  clear HE
  go_enter Tryz.func26, Tryz.ntmps26
  go_wp2_with fail
  refine (OF.out _ HB.out).mono ?_
  rintro e w1 ⟨rfl, hb⟩
  have HB1 := Lib.hid hb
  clear hb x0 x1 x2 x3 x4 x5 x6 x7
  go_wp2_with fail
  refine wp_region_held_drew (S := (fun W => W.cell? ⟨w.heap.size, 0, none⟩ = some (.int .i64 2) ∧ W.cell? ⟨w.heap.size, 1, none⟩ = some (.string ⟨tb.toArray⟩) ∧ W.cell? ⟨w.heap.size, 2, none⟩ = some (.string ⟨nm.toArray⟩) ∧ W.cell? ⟨w.heap.size, 3, none⟩ = some (.slice a3 wh.length c3) ∧ W.cell? ⟨w.heap.size, 4, none⟩ = some (.slice a4 row.length c4) ∧ W.cell? ⟨w.heap.size, 5, none⟩ = some (.slice a5 mu.length c5) ∧ W.cell? ⟨w.heap.size, 6, none⟩ = some (.slice a6 cs.length c6) ∧ W.cell? ⟨w.heap.size, 7, none⟩ = some (.bool un))) (by kernel_rfl) ?_ (fun hHeld => ?_)
  · (exact CE.out _ (by first | exact HB1.out | exact HB1.out.drew | exact BW4.out | exact BW5.out | exact BW9.out))
  refine tkA (i := 0) (v := ?_) rfl ?_ ?_
  rotate_left
  · (intro wS hSw; (try dsimp only at hSw); go_simp <;> with_reducible rfl)
  try simp only [Act.put, tkS]
  refine tkA (i := 1) (v := ?_) rfl ?_ ?_
  rotate_left
  · (intro wS hSw; (try dsimp only at hSw); go_simp <;> with_reducible rfl)
  try simp only [Act.put, tkS]
  refine tkA (i := 2) (v := ?_) rfl ?_ ?_
  rotate_left
  · (intro wS hSw; (try dsimp only at hSw); go_simp <;> with_reducible rfl)
  try simp only [Act.put, tkS]
  refine tkA (i := 3) (v := ?_) rfl ?_ ?_
  rotate_left
  · (intro wS hSw; (try dsimp only at hSw); go_simp <;> with_reducible rfl)
  try simp only [Act.put, tkS]
  refine wpAnyH_ready (rs := [4]) (by kernel_rfl) (by simp) (AllReadyH.cons rfl (fun K hK => ?_) AllReadyH.nil)
  go_simp
  (go_invoke; go_simp; go_at_call 156; refine (OM.out _ (by first | exact HB1.out | exact HB1.out.drew)).mono ?_; rintro e w4 ⟨rfl, hb⟩; have BW4 : Hid (BoxD 43 w w4 #[.int .i64 2, .string ⟨tb.toArray⟩, .string ⟨nm.toArray⟩, .slice a3 wh.length c3, .slice a4 row.length c4, .slice a5 mu.length c5, .slice a6 cs.length c6, .bool un]) := hb; clear hb)
  refine hK.out _ _ ?_ (fun hHeld => ?_)
  · (exact CE.out _ (by first | exact HB1.out | exact HB1.out.drew | exact BW4.out | exact BW5.out | exact BW9.out))
  clear hK K
  try simp only [Act.put, tkS]
  refine wpAnyH_ready (rs := [5]) (by kernel_rfl) (by simp) (AllReadyH.cons rfl (fun K hK => ?_) AllReadyH.nil)
  go_simp
  (go_at_call 57; refine (SA.out _ BW4.out).mono ?_; rintro e w5 ⟨rfl, hb⟩; have BW5 : Hid (BoxD 43 w w5 #[.int .i64 2, .string ⟨tb.toArray⟩, .string ⟨nm.toArray⟩, .slice a3 wh.length c3, .slice a4 row.length c4, .slice a5 mu.length c5, .slice a6 cs.length c6, .bool un]) := hb; clear hb)
  refine hK.out _ _ ?_ (fun hHeld => ?_)
  · (exact CE.out _ (by first | exact HB1.out | exact HB1.out.drew | exact BW4.out | exact BW5.out | exact BW9.out))
  clear hK K
  try simp only [Act.put, tkS]
  refine tkA (i := 6) (v := ?_) rfl ?_ ?_
  rotate_left
  · (intro wS hSw; (try dsimp only at hSw); go_simp <;> with_reducible rfl)
  try simp only [Act.put, tkS]
  refine tkA (i := 7) (v := ?_) rfl ?_ ?_
  rotate_left
  · (intro wS hSw; (try dsimp only at hSw); go_simp <;> with_reducible rfl)
  try simp only [Act.put, tkS]
  refine tkA (i := 8) (v := ?_) rfl ?_ ?_
  rotate_left
  · (intro wS hSw; (try dsimp only at hSw); go_simp <;> with_reducible rfl)
  try simp only [Act.put, tkS]
  refine wpAnyH_ready (rs := [9]) (by kernel_rfl) (by simp) (AllReadyH.cons rfl (fun K hK => ?_) AllReadyH.nil)
  go_simp
  (go_at_call 58; refine (PA.out _ BW5.out).mono ?_; rintro e w9 ⟨rfl, hb⟩; have BW9 : Hid (BoxD 43 w w9 #[.int .i64 2, .string ⟨tb.toArray⟩, .string ⟨nm.toArray⟩, .slice a3 wh.length c3, .slice a4 row.length c4, .slice a5 mu.length c5, .slice a6 cs.length c6, .bool un]) := hb; clear hb)
  refine hK.out _ _ ?_ (fun hHeld => ?_)
  · (exact CE.out _ (by first | exact HB1.out | exact HB1.out.drew | exact BW4.out | exact BW5.out | exact BW9.out))
  clear hK K
  try simp only [Act.put, tkS]
  refine tkA (i := 10) (v := ?_) rfl ?_ ?_
  rotate_left
  · (intro wS hSw; (try dsimp only at hSw); go_simp <;> with_reducible rfl)
  try simp only [Act.put, tkS]
  refine tkA (i := 11) (v := ?_) rfl ?_ ?_
  rotate_left
  · (intro wS hSw; (try dsimp only at hSw); go_simp <;> with_reducible rfl)
  try simp only [Act.put, tkS]
  refine wpAnyH_done (by kernel_rfl) ?_ _
  go_wp2_with fail
  go_ret
  exact ⟨ret_b HR.out.symm, BW9.out.2⟩
set_option maxRecDepth 100000 in
set_option maxHeartbeats 12800000 in
theorem opOKi_3 (tb nm : List UInt8) (wh : List CondV) (row : List SetV) (mu : List MutV) (cs : List (List UInt8)) (un : Bool) (a3 : Option Addr) (c3 : Nat) (a4 : Option Addr) (c4 : Nat) (a5 : Option Addr) (c5 : Nat) (a6 : Option Addr) (c6 : Nat) (B : Nat → Prop) (w : World) (h1 : tb.length ≤ maxLen) (h2 : nm.length ≤ maxLen) (h3 : (dCondS wh).le maxLen) (h4 : (dSetS row).le maxLen) (h5 : (dMutS mu).le maxLen) (h6 : (dStringS cs).le maxLen)
    (r3 : Rd w B (dCondS wh) (.slice a3 wh.length c3)) (r4 : Rd w B (dSetS row) (.slice a4 row.length c4)) (r5 : Rd w B (dMutS mu) (.slice a5 mu.length c5)) (r6 : Rd w B (dStringS cs) (.slice a6 cs.length c6)) :
    Calls Tryz.prog 26 #[.agg #[.int .i64 3, .string ⟨tb.toArray⟩, .string ⟨nm.toArray⟩, .slice a3 wh.length c3, .slice a4 row.length c4, .slice a5 mu.length c5, .slice a6 cs.length c6, .bool un]] w fun e w' => e = .returned (.bool (opB ⟨3, tb, nm, wh, row, mu, cs, un⟩)) ∧ Below w.heap.size w w' := by
  have OF : Hid (∀ W, BoxD 43 w W #[.int .i64 3, .string ⟨tb.toArray⟩, .string ⟨nm.toArray⟩, .slice a3 wh.length c3, .slice a4 row.length c4, .slice a5 mu.length c5, .slice a6 cs.length c6, .bool un] → Calls Tryz.prog 27 #[.agg #[.int .i64 3, .string ⟨tb.toArray⟩, .string ⟨nm.toArray⟩, .slice a3 wh.length c3, .slice a4 row.length c4, .slice a5 mu.length c5, .slice a6 cs.length c6, .bool un]] W fun e w' => e = .returned (.tuple #[.iface 121 (.agg #[.string ⟨tb.toArray⟩, .slice a3 wh.length c3, .slice a4 row.length c4]), .bool true]) ∧ BoxD 43 w w' #[.int .i64 3, .string ⟨tb.toArray⟩, .string ⟨nm.toArray⟩, .slice a3 wh.length c3, .slice a4 row.length c4, .slice a5 mu.length c5, .slice a6 cs.length c6, .bool un]) := fun W h => (opOf3 tb nm wh row mu cs un a3 c3 a4 c4 a5 c5 a6 c6 W).mono (fun _ _ ⟨he, hB⟩ => ⟨he, h.later hB⟩)
  have OM : Hid (∀ W, BoxD 43 w W #[.int .i64 3, .string ⟨tb.toArray⟩, .string ⟨nm.toArray⟩, .slice a3 wh.length c3, .slice a4 row.length c4, .slice a5 mu.length c5, .slice a6 cs.length c6, .bool un] → Calls Tryz.prog 157 #[.agg #[.string ⟨tb.toArray⟩, .slice a3 wh.length c3, .slice a4 row.length c4]] W fun e w' => e = .returned (.agg #[.int .i64 3, .string ⟨tb.toArray⟩, .string ⟨#[]⟩, .slice a3 wh.length c3, .slice a4 row.length c4, .slice none 0 0, .slice none 0 0, .bool false]) ∧ BoxD 43 w w' #[.int .i64 3, .string ⟨tb.toArray⟩, .string ⟨nm.toArray⟩, .slice a3 wh.length c3, .slice a4 row.length c4, .slice a5 mu.length c5, .slice a6 cs.length c6, .bool un]) := fun W h => (opM3 tb wh a3 c3 row a4 c4 W).mono (fun _ _ ⟨he, hB⟩ => ⟨he, h.later hB⟩)
  have SA : Hid (∀ W, BoxD 43 w W #[.int .i64 3, .string ⟨tb.toArray⟩, .string ⟨nm.toArray⟩, .slice a3 wh.length c3, .slice a4 row.length c4, .slice a5 mu.length c5, .slice a6 cs.length c6, .bool un] → Calls Tryz.prog 57 #[.agg #[.int .i64 3, .string ⟨tb.toArray⟩, .string ⟨nm.toArray⟩, .slice a3 wh.length c3, .slice a4 row.length c4, .slice a5 mu.length c5, .slice a6 cs.length c6, .bool un], .agg #[.int .i64 3, .string ⟨tb.toArray⟩, .string ⟨#[]⟩, .slice a3 wh.length c3, .slice a4 row.length c4, .slice none 0 0, .slice none 0 0, .bool false]] W fun e w' => e = .returned (.bool (sameB tb nm un wh.length row.length mu.length cs.length tb [] false wh.length row.length 0 0)) ∧ BoxD 43 w w' #[.int .i64 3, .string ⟨tb.toArray⟩, .string ⟨nm.toArray⟩, .slice a3 wh.length c3, .slice a4 row.length c4, .slice a5 mu.length c5, .slice a6 cs.length c6, .bool un]) := fun W h => (sameI 3 tb nm un wh.length row.length mu.length cs.length a3 c3 a4 c4 a5 c5 a6 c6 3 tb [] false wh.length row.length 0 0 a3 c3 a4 c4 none 0 none 0 W).mono (fun _ _ ⟨he, hB⟩ => ⟨he, h.later hB⟩)
  have PA : Hid (∀ W, BoxD 43 w W #[.int .i64 3, .string ⟨tb.toArray⟩, .string ⟨nm.toArray⟩, .slice a3 wh.length c3, .slice a4 row.length c4, .slice a5 mu.length c5, .slice a6 cs.length c6, .bool un] → Calls Tryz.prog 58 #[.agg #[.int .i64 3, .string ⟨tb.toArray⟩, .string ⟨nm.toArray⟩, .slice a3 wh.length c3, .slice a4 row.length c4, .slice a5 mu.length c5, .slice a6 cs.length c6, .bool un]] W fun e w' => e = .returned (.bool (partsB tb nm wh row mu cs)) ∧ BoxD 43 w w' #[.int .i64 3, .string ⟨tb.toArray⟩, .string ⟨nm.toArray⟩, .slice a3 wh.length c3, .slice a4 row.length c4, .slice a5 mu.length c5, .slice a6 cs.length c6, .bool un]) := fun W h => (partsI 3 tb nm wh row mu cs un a3 c3 a4 c4 a5 c5 a6 c6 B W h1 h2 h3 h4 h5 h6 (r3.later h.2) (r4.later h.2) (r5.later h.2) (r6.later h.2)).mono (fun _ _ ⟨he, hB⟩ => ⟨he, h.later hB⟩)
  have HE := Lib.hid (op_kind3 tb nm wh row mu cs un)
  generalize opB ⟨3, tb, nm, wh, row, mu, cs, un⟩ = ob at *
  generalize sameB tb nm un wh.length row.length mu.length cs.length tb [] false wh.length row.length 0 0 = sb at *
  generalize partsB tb nm wh row mu cs = pb at *
  have hb := boxD 43 w #[.int .i64 3, .string ⟨tb.toArray⟩, .string ⟨nm.toArray⟩, .slice a3 wh.length c3, .slice a4 row.length c4, .slice a5 mu.length c5, .slice a6 cs.length c6, .bool un]
  have HB := Lib.hid hb
  have x0 := cell_at (o := 0) hb.1 rfl
  have x1 := cell_at (o := 1) hb.1 rfl
  have x2 := cell_at (o := 2) hb.1 rfl
  have x3 := cell_at (o := 3) hb.1 rfl
  have x4 := cell_at (o := 4) hb.1 rfl
  have x5 := cell_at (o := 5) hb.1 rfl
  have x6 := cell_at (o := 6) hb.1 rfl
  have x7 := cell_at (o := 7) hb.1 rfl
  clear hb h1 h2 h3 h4 h5 h6 r3 r4 r5 r6
  have CE : Hid (∀ W, BoxD 43 w W #[.int .i64 3, .string ⟨tb.toArray⟩, .string ⟨nm.toArray⟩, .slice a3 wh.length c3, .slice a4 row.length c4, .slice a5 mu.length c5, .slice a6 cs.length c6, .bool un] → W.cell? ⟨w.heap.size, 0, none⟩ = some (.int .i64 3) ∧ W.cell? ⟨w.heap.size, 1, none⟩ = some (.string ⟨tb.toArray⟩) ∧ W.cell? ⟨w.heap.size, 2, none⟩ = some (.string ⟨nm.toArray⟩) ∧ W.cell? ⟨w.heap.size, 3, none⟩ = some (.slice a3 wh.length c3) ∧ W.cell? ⟨w.heap.size, 4, none⟩ = some (.slice a4 row.length c4) ∧ W.cell? ⟨w.heap.size, 5, none⟩ = some (.slice a5 mu.length c5) ∧ W.cell? ⟨w.heap.size, 6, none⟩ = some (.slice a6 cs.length c6) ∧ W.cell? ⟨w.heap.size, 7, none⟩ = some (.bool un)) := fun W h => ⟨cell_at (o := 0) h.1 rfl, cell_at (o := 1) h.1 rfl, cell_at (o := 2) h.1 rfl, cell_at (o := 3) h.1 rfl, cell_at (o := 4) h.1 rfl, cell_at (o := 5) h.1 rfl, cell_at (o := 6) h.1 rfl, cell_at (o := 7) h.1 rfl⟩
  cases sb
  case false =>
    have HR : Hid (ob = false) := by show ob = false; rw [HE.out]; rfl
    clear HE
    go_enter Tryz.func26, Tryz.ntmps26
    go_wp2_with fail
    refine (OF.out _ HB.out).mono ?_
    rintro e w1 ⟨rfl, hb⟩
    have HB1 := Lib.hid hb
    clear hb x0 x1 x2 x3 x4 x5 x6 x7
    go_wp2_with fail
    refine wp_region_held_drew (S := (fun W => W.cell? ⟨w.heap.size, 0, none⟩ = some (.int .i64 3) ∧ W.cell? ⟨w.heap.size, 1, none⟩ = some (.string ⟨tb.toArray⟩) ∧ W.cell? ⟨w.heap.size, 2, none⟩ = some (.string ⟨nm.toArray⟩) ∧ W.cell? ⟨w.heap.size, 3, none⟩ = some (.slice a3 wh.length c3) ∧ W.cell? ⟨w.heap.size, 4, none⟩ = some (.slice a4 row.length c4) ∧ W.cell? ⟨w.heap.size, 5, none⟩ = some (.slice a5 mu.length c5) ∧ W.cell? ⟨w.heap.size, 6, none⟩ = some (.slice a6 cs.length c6) ∧ W.cell? ⟨w.heap.size, 7, none⟩ = some (.bool un))) (by kernel_rfl) ?_ (fun hHeld => ?_)
    · (exact CE.out _ (by first | exact HB1.out | exact HB1.out.drew | exact BW4.out | exact BW5.out | exact BW9.out))
    refine tkA (i := 0) (v := ?_) rfl ?_ ?_
    rotate_left
    · (intro wS hSw; (try dsimp only at hSw); go_simp <;> with_reducible rfl)
    try simp only [Act.put, tkS]
    refine tkA (i := 1) (v := ?_) rfl ?_ ?_
    rotate_left
    · (intro wS hSw; (try dsimp only at hSw); go_simp <;> with_reducible rfl)
    try simp only [Act.put, tkS]
    refine tkA (i := 2) (v := ?_) rfl ?_ ?_
    rotate_left
    · (intro wS hSw; (try dsimp only at hSw); go_simp <;> with_reducible rfl)
    try simp only [Act.put, tkS]
    refine tkA (i := 3) (v := ?_) rfl ?_ ?_
    rotate_left
    · (intro wS hSw; (try dsimp only at hSw); go_simp <;> with_reducible rfl)
    try simp only [Act.put, tkS]
    refine wpAnyH_ready (rs := [4]) (by kernel_rfl) (by simp) (AllReadyH.cons rfl (fun K hK => ?_) AllReadyH.nil)
    go_simp
    (go_invoke; go_simp; go_at_call 157; refine (OM.out _ (by first | exact HB1.out | exact HB1.out.drew)).mono ?_; rintro e w4 ⟨rfl, hb⟩; have BW4 : Hid (BoxD 43 w w4 #[.int .i64 3, .string ⟨tb.toArray⟩, .string ⟨nm.toArray⟩, .slice a3 wh.length c3, .slice a4 row.length c4, .slice a5 mu.length c5, .slice a6 cs.length c6, .bool un]) := hb; clear hb)
    refine hK.out _ _ ?_ (fun hHeld => ?_)
    · (exact CE.out _ (by first | exact HB1.out | exact HB1.out.drew | exact BW4.out | exact BW5.out | exact BW9.out))
    clear hK K
    try simp only [Act.put, tkS]
    refine wpAnyH_ready (rs := [5]) (by kernel_rfl) (by simp) (AllReadyH.cons rfl (fun K hK => ?_) AllReadyH.nil)
    go_simp
    (go_at_call 57; refine (SA.out _ BW4.out).mono ?_; rintro e w5 ⟨rfl, hb⟩; have BW5 : Hid (BoxD 43 w w5 #[.int .i64 3, .string ⟨tb.toArray⟩, .string ⟨nm.toArray⟩, .slice a3 wh.length c3, .slice a4 row.length c4, .slice a5 mu.length c5, .slice a6 cs.length c6, .bool un]) := hb; clear hb)
    refine hK.out _ _ ?_ (fun hHeld => ?_)
    · (exact CE.out _ (by first | exact HB1.out | exact HB1.out.drew | exact BW4.out | exact BW5.out | exact BW9.out))
    clear hK K
    try simp only [Act.put, tkS]
    refine tkA (i := 6) (v := ?_) rfl ?_ ?_
    rotate_left
    · (intro wS hSw; (try dsimp only at hSw); go_simp <;> with_reducible rfl)
    try simp only [Act.put, tkS]
    refine tkA (i := 7) (v := ?_) rfl ?_ ?_
    rotate_left
    · (intro wS hSw; (try dsimp only at hSw); go_simp <;> with_reducible rfl)
    try simp only [Act.put, tkS]
    refine tkU (i := 8) rfl ?_
    try simp only [Act.put, tkS]
    refine tkU (i := 9) rfl ?_
    try simp only [Act.put, tkS]
    refine tkA (i := 10) (v := ?_) rfl ?_ ?_
    rotate_left
    · (intro wS hSw; (try dsimp only at hSw); go_simp <;> with_reducible rfl)
    try simp only [Act.put, tkS]
    refine tkA (i := 11) (v := ?_) rfl ?_ ?_
    rotate_left
    · (intro wS hSw; (try dsimp only at hSw); go_simp <;> with_reducible rfl)
    try simp only [Act.put, tkS]
    refine wpAnyH_done (by kernel_rfl) ?_ _
    go_wp2_with fail
    go_ret
    exact ⟨ret_b HR.out.symm, BW5.out.2⟩
  have HR : Hid (ob = pb) := by show ob = pb; rw [HE.out]; rfl
  clear HE
  go_enter Tryz.func26, Tryz.ntmps26
  go_wp2_with fail
  refine (OF.out _ HB.out).mono ?_
  rintro e w1 ⟨rfl, hb⟩
  have HB1 := Lib.hid hb
  clear hb x0 x1 x2 x3 x4 x5 x6 x7
  go_wp2_with fail
  refine wp_region_held_drew (S := (fun W => W.cell? ⟨w.heap.size, 0, none⟩ = some (.int .i64 3) ∧ W.cell? ⟨w.heap.size, 1, none⟩ = some (.string ⟨tb.toArray⟩) ∧ W.cell? ⟨w.heap.size, 2, none⟩ = some (.string ⟨nm.toArray⟩) ∧ W.cell? ⟨w.heap.size, 3, none⟩ = some (.slice a3 wh.length c3) ∧ W.cell? ⟨w.heap.size, 4, none⟩ = some (.slice a4 row.length c4) ∧ W.cell? ⟨w.heap.size, 5, none⟩ = some (.slice a5 mu.length c5) ∧ W.cell? ⟨w.heap.size, 6, none⟩ = some (.slice a6 cs.length c6) ∧ W.cell? ⟨w.heap.size, 7, none⟩ = some (.bool un))) (by kernel_rfl) ?_ (fun hHeld => ?_)
  · (exact CE.out _ (by first | exact HB1.out | exact HB1.out.drew | exact BW4.out | exact BW5.out | exact BW9.out))
  refine tkA (i := 0) (v := ?_) rfl ?_ ?_
  rotate_left
  · (intro wS hSw; (try dsimp only at hSw); go_simp <;> with_reducible rfl)
  try simp only [Act.put, tkS]
  refine tkA (i := 1) (v := ?_) rfl ?_ ?_
  rotate_left
  · (intro wS hSw; (try dsimp only at hSw); go_simp <;> with_reducible rfl)
  try simp only [Act.put, tkS]
  refine tkA (i := 2) (v := ?_) rfl ?_ ?_
  rotate_left
  · (intro wS hSw; (try dsimp only at hSw); go_simp <;> with_reducible rfl)
  try simp only [Act.put, tkS]
  refine tkA (i := 3) (v := ?_) rfl ?_ ?_
  rotate_left
  · (intro wS hSw; (try dsimp only at hSw); go_simp <;> with_reducible rfl)
  try simp only [Act.put, tkS]
  refine wpAnyH_ready (rs := [4]) (by kernel_rfl) (by simp) (AllReadyH.cons rfl (fun K hK => ?_) AllReadyH.nil)
  go_simp
  (go_invoke; go_simp; go_at_call 157; refine (OM.out _ (by first | exact HB1.out | exact HB1.out.drew)).mono ?_; rintro e w4 ⟨rfl, hb⟩; have BW4 : Hid (BoxD 43 w w4 #[.int .i64 3, .string ⟨tb.toArray⟩, .string ⟨nm.toArray⟩, .slice a3 wh.length c3, .slice a4 row.length c4, .slice a5 mu.length c5, .slice a6 cs.length c6, .bool un]) := hb; clear hb)
  refine hK.out _ _ ?_ (fun hHeld => ?_)
  · (exact CE.out _ (by first | exact HB1.out | exact HB1.out.drew | exact BW4.out | exact BW5.out | exact BW9.out))
  clear hK K
  try simp only [Act.put, tkS]
  refine wpAnyH_ready (rs := [5]) (by kernel_rfl) (by simp) (AllReadyH.cons rfl (fun K hK => ?_) AllReadyH.nil)
  go_simp
  (go_at_call 57; refine (SA.out _ BW4.out).mono ?_; rintro e w5 ⟨rfl, hb⟩; have BW5 : Hid (BoxD 43 w w5 #[.int .i64 3, .string ⟨tb.toArray⟩, .string ⟨nm.toArray⟩, .slice a3 wh.length c3, .slice a4 row.length c4, .slice a5 mu.length c5, .slice a6 cs.length c6, .bool un]) := hb; clear hb)
  refine hK.out _ _ ?_ (fun hHeld => ?_)
  · (exact CE.out _ (by first | exact HB1.out | exact HB1.out.drew | exact BW4.out | exact BW5.out | exact BW9.out))
  clear hK K
  try simp only [Act.put, tkS]
  refine tkA (i := 6) (v := ?_) rfl ?_ ?_
  rotate_left
  · (intro wS hSw; (try dsimp only at hSw); go_simp <;> with_reducible rfl)
  try simp only [Act.put, tkS]
  refine tkA (i := 7) (v := ?_) rfl ?_ ?_
  rotate_left
  · (intro wS hSw; (try dsimp only at hSw); go_simp <;> with_reducible rfl)
  try simp only [Act.put, tkS]
  refine tkA (i := 8) (v := ?_) rfl ?_ ?_
  rotate_left
  · (intro wS hSw; (try dsimp only at hSw); go_simp <;> with_reducible rfl)
  try simp only [Act.put, tkS]
  refine wpAnyH_ready (rs := [9]) (by kernel_rfl) (by simp) (AllReadyH.cons rfl (fun K hK => ?_) AllReadyH.nil)
  go_simp
  (go_at_call 58; refine (PA.out _ BW5.out).mono ?_; rintro e w9 ⟨rfl, hb⟩; have BW9 : Hid (BoxD 43 w w9 #[.int .i64 3, .string ⟨tb.toArray⟩, .string ⟨nm.toArray⟩, .slice a3 wh.length c3, .slice a4 row.length c4, .slice a5 mu.length c5, .slice a6 cs.length c6, .bool un]) := hb; clear hb)
  refine hK.out _ _ ?_ (fun hHeld => ?_)
  · (exact CE.out _ (by first | exact HB1.out | exact HB1.out.drew | exact BW4.out | exact BW5.out | exact BW9.out))
  clear hK K
  try simp only [Act.put, tkS]
  refine tkA (i := 10) (v := ?_) rfl ?_ ?_
  rotate_left
  · (intro wS hSw; (try dsimp only at hSw); go_simp <;> with_reducible rfl)
  try simp only [Act.put, tkS]
  refine tkA (i := 11) (v := ?_) rfl ?_ ?_
  rotate_left
  · (intro wS hSw; (try dsimp only at hSw); go_simp <;> with_reducible rfl)
  try simp only [Act.put, tkS]
  refine wpAnyH_done (by kernel_rfl) ?_ _
  go_wp2_with fail
  go_ret
  exact ⟨ret_b HR.out.symm, BW9.out.2⟩
set_option maxRecDepth 100000 in
set_option maxHeartbeats 12800000 in
theorem opOKi_4 (tb nm : List UInt8) (wh : List CondV) (row : List SetV) (mu : List MutV) (cs : List (List UInt8)) (un : Bool) (a3 : Option Addr) (c3 : Nat) (a4 : Option Addr) (c4 : Nat) (a5 : Option Addr) (c5 : Nat) (a6 : Option Addr) (c6 : Nat) (B : Nat → Prop) (w : World) (h1 : tb.length ≤ maxLen) (h2 : nm.length ≤ maxLen) (h3 : (dCondS wh).le maxLen) (h4 : (dSetS row).le maxLen) (h5 : (dMutS mu).le maxLen) (h6 : (dStringS cs).le maxLen)
    (r3 : Rd w B (dCondS wh) (.slice a3 wh.length c3)) (r4 : Rd w B (dSetS row) (.slice a4 row.length c4)) (r5 : Rd w B (dMutS mu) (.slice a5 mu.length c5)) (r6 : Rd w B (dStringS cs) (.slice a6 cs.length c6)) :
    Calls Tryz.prog 26 #[.agg #[.int .i64 4, .string ⟨tb.toArray⟩, .string ⟨nm.toArray⟩, .slice a3 wh.length c3, .slice a4 row.length c4, .slice a5 mu.length c5, .slice a6 cs.length c6, .bool un]] w fun e w' => e = .returned (.bool (opB ⟨4, tb, nm, wh, row, mu, cs, un⟩)) ∧ Below w.heap.size w w' := by
  have OF : Hid (∀ W, BoxD 43 w W #[.int .i64 4, .string ⟨tb.toArray⟩, .string ⟨nm.toArray⟩, .slice a3 wh.length c3, .slice a4 row.length c4, .slice a5 mu.length c5, .slice a6 cs.length c6, .bool un] → Calls Tryz.prog 27 #[.agg #[.int .i64 4, .string ⟨tb.toArray⟩, .string ⟨nm.toArray⟩, .slice a3 wh.length c3, .slice a4 row.length c4, .slice a5 mu.length c5, .slice a6 cs.length c6, .bool un]] W fun e w' => e = .returned (.tuple #[.iface 123 (.agg #[.string ⟨tb.toArray⟩, .slice a3 wh.length c3, .slice a5 mu.length c5]), .bool true]) ∧ BoxD 43 w w' #[.int .i64 4, .string ⟨tb.toArray⟩, .string ⟨nm.toArray⟩, .slice a3 wh.length c3, .slice a4 row.length c4, .slice a5 mu.length c5, .slice a6 cs.length c6, .bool un]) := fun W h => (opOf4 tb nm wh row mu cs un a3 c3 a4 c4 a5 c5 a6 c6 W).mono (fun _ _ ⟨he, hB⟩ => ⟨he, h.later hB⟩)
  have OM : Hid (∀ W, BoxD 43 w W #[.int .i64 4, .string ⟨tb.toArray⟩, .string ⟨nm.toArray⟩, .slice a3 wh.length c3, .slice a4 row.length c4, .slice a5 mu.length c5, .slice a6 cs.length c6, .bool un] → Calls Tryz.prog 158 #[.agg #[.string ⟨tb.toArray⟩, .slice a3 wh.length c3, .slice a5 mu.length c5]] W fun e w' => e = .returned (.agg #[.int .i64 4, .string ⟨tb.toArray⟩, .string ⟨#[]⟩, .slice a3 wh.length c3, .slice none 0 0, .slice a5 mu.length c5, .slice none 0 0, .bool false]) ∧ BoxD 43 w w' #[.int .i64 4, .string ⟨tb.toArray⟩, .string ⟨nm.toArray⟩, .slice a3 wh.length c3, .slice a4 row.length c4, .slice a5 mu.length c5, .slice a6 cs.length c6, .bool un]) := fun W h => (opM4 tb wh a3 c3 mu a5 c5 W).mono (fun _ _ ⟨he, hB⟩ => ⟨he, h.later hB⟩)
  have SA : Hid (∀ W, BoxD 43 w W #[.int .i64 4, .string ⟨tb.toArray⟩, .string ⟨nm.toArray⟩, .slice a3 wh.length c3, .slice a4 row.length c4, .slice a5 mu.length c5, .slice a6 cs.length c6, .bool un] → Calls Tryz.prog 57 #[.agg #[.int .i64 4, .string ⟨tb.toArray⟩, .string ⟨nm.toArray⟩, .slice a3 wh.length c3, .slice a4 row.length c4, .slice a5 mu.length c5, .slice a6 cs.length c6, .bool un], .agg #[.int .i64 4, .string ⟨tb.toArray⟩, .string ⟨#[]⟩, .slice a3 wh.length c3, .slice none 0 0, .slice a5 mu.length c5, .slice none 0 0, .bool false]] W fun e w' => e = .returned (.bool (sameB tb nm un wh.length row.length mu.length cs.length tb [] false wh.length 0 mu.length 0)) ∧ BoxD 43 w w' #[.int .i64 4, .string ⟨tb.toArray⟩, .string ⟨nm.toArray⟩, .slice a3 wh.length c3, .slice a4 row.length c4, .slice a5 mu.length c5, .slice a6 cs.length c6, .bool un]) := fun W h => (sameI 4 tb nm un wh.length row.length mu.length cs.length a3 c3 a4 c4 a5 c5 a6 c6 4 tb [] false wh.length 0 mu.length 0 a3 c3 none 0 a5 c5 none 0 W).mono (fun _ _ ⟨he, hB⟩ => ⟨he, h.later hB⟩)
  have PA : Hid (∀ W, BoxD 43 w W #[.int .i64 4, .string ⟨tb.toArray⟩, .string ⟨nm.toArray⟩, .slice a3 wh.length c3, .slice a4 row.length c4, .slice a5 mu.length c5, .slice a6 cs.length c6, .bool un] → Calls Tryz.prog 58 #[.agg #[.int .i64 4, .string ⟨tb.toArray⟩, .string ⟨nm.toArray⟩, .slice a3 wh.length c3, .slice a4 row.length c4, .slice a5 mu.length c5, .slice a6 cs.length c6, .bool un]] W fun e w' => e = .returned (.bool (partsB tb nm wh row mu cs)) ∧ BoxD 43 w w' #[.int .i64 4, .string ⟨tb.toArray⟩, .string ⟨nm.toArray⟩, .slice a3 wh.length c3, .slice a4 row.length c4, .slice a5 mu.length c5, .slice a6 cs.length c6, .bool un]) := fun W h => (partsI 4 tb nm wh row mu cs un a3 c3 a4 c4 a5 c5 a6 c6 B W h1 h2 h3 h4 h5 h6 (r3.later h.2) (r4.later h.2) (r5.later h.2) (r6.later h.2)).mono (fun _ _ ⟨he, hB⟩ => ⟨he, h.later hB⟩)
  have HE := Lib.hid (op_kind4 tb nm wh row mu cs un)
  generalize opB ⟨4, tb, nm, wh, row, mu, cs, un⟩ = ob at *
  generalize sameB tb nm un wh.length row.length mu.length cs.length tb [] false wh.length 0 mu.length 0 = sb at *
  generalize partsB tb nm wh row mu cs = pb at *
  have hb := boxD 43 w #[.int .i64 4, .string ⟨tb.toArray⟩, .string ⟨nm.toArray⟩, .slice a3 wh.length c3, .slice a4 row.length c4, .slice a5 mu.length c5, .slice a6 cs.length c6, .bool un]
  have HB := Lib.hid hb
  have x0 := cell_at (o := 0) hb.1 rfl
  have x1 := cell_at (o := 1) hb.1 rfl
  have x2 := cell_at (o := 2) hb.1 rfl
  have x3 := cell_at (o := 3) hb.1 rfl
  have x4 := cell_at (o := 4) hb.1 rfl
  have x5 := cell_at (o := 5) hb.1 rfl
  have x6 := cell_at (o := 6) hb.1 rfl
  have x7 := cell_at (o := 7) hb.1 rfl
  clear hb h1 h2 h3 h4 h5 h6 r3 r4 r5 r6
  have CE : Hid (∀ W, BoxD 43 w W #[.int .i64 4, .string ⟨tb.toArray⟩, .string ⟨nm.toArray⟩, .slice a3 wh.length c3, .slice a4 row.length c4, .slice a5 mu.length c5, .slice a6 cs.length c6, .bool un] → W.cell? ⟨w.heap.size, 0, none⟩ = some (.int .i64 4) ∧ W.cell? ⟨w.heap.size, 1, none⟩ = some (.string ⟨tb.toArray⟩) ∧ W.cell? ⟨w.heap.size, 2, none⟩ = some (.string ⟨nm.toArray⟩) ∧ W.cell? ⟨w.heap.size, 3, none⟩ = some (.slice a3 wh.length c3) ∧ W.cell? ⟨w.heap.size, 4, none⟩ = some (.slice a4 row.length c4) ∧ W.cell? ⟨w.heap.size, 5, none⟩ = some (.slice a5 mu.length c5) ∧ W.cell? ⟨w.heap.size, 6, none⟩ = some (.slice a6 cs.length c6) ∧ W.cell? ⟨w.heap.size, 7, none⟩ = some (.bool un)) := fun W h => ⟨cell_at (o := 0) h.1 rfl, cell_at (o := 1) h.1 rfl, cell_at (o := 2) h.1 rfl, cell_at (o := 3) h.1 rfl, cell_at (o := 4) h.1 rfl, cell_at (o := 5) h.1 rfl, cell_at (o := 6) h.1 rfl, cell_at (o := 7) h.1 rfl⟩
  cases sb
  case false =>
    have HR : Hid (ob = false) := by show ob = false; rw [HE.out]; rfl
    clear HE
    go_enter Tryz.func26, Tryz.ntmps26
    go_wp2_with fail
    refine (OF.out _ HB.out).mono ?_
    rintro e w1 ⟨rfl, hb⟩
    have HB1 := Lib.hid hb
    clear hb x0 x1 x2 x3 x4 x5 x6 x7
    go_wp2_with fail
    refine wp_region_held_drew (S := (fun W => W.cell? ⟨w.heap.size, 0, none⟩ = some (.int .i64 4) ∧ W.cell? ⟨w.heap.size, 1, none⟩ = some (.string ⟨tb.toArray⟩) ∧ W.cell? ⟨w.heap.size, 2, none⟩ = some (.string ⟨nm.toArray⟩) ∧ W.cell? ⟨w.heap.size, 3, none⟩ = some (.slice a3 wh.length c3) ∧ W.cell? ⟨w.heap.size, 4, none⟩ = some (.slice a4 row.length c4) ∧ W.cell? ⟨w.heap.size, 5, none⟩ = some (.slice a5 mu.length c5) ∧ W.cell? ⟨w.heap.size, 6, none⟩ = some (.slice a6 cs.length c6) ∧ W.cell? ⟨w.heap.size, 7, none⟩ = some (.bool un))) (by kernel_rfl) ?_ (fun hHeld => ?_)
    · (exact CE.out _ (by first | exact HB1.out | exact HB1.out.drew | exact BW4.out | exact BW5.out | exact BW9.out))
    refine tkA (i := 0) (v := ?_) rfl ?_ ?_
    rotate_left
    · (intro wS hSw; (try dsimp only at hSw); go_simp <;> with_reducible rfl)
    try simp only [Act.put, tkS]
    refine tkA (i := 1) (v := ?_) rfl ?_ ?_
    rotate_left
    · (intro wS hSw; (try dsimp only at hSw); go_simp <;> with_reducible rfl)
    try simp only [Act.put, tkS]
    refine tkA (i := 2) (v := ?_) rfl ?_ ?_
    rotate_left
    · (intro wS hSw; (try dsimp only at hSw); go_simp <;> with_reducible rfl)
    try simp only [Act.put, tkS]
    refine tkA (i := 3) (v := ?_) rfl ?_ ?_
    rotate_left
    · (intro wS hSw; (try dsimp only at hSw); go_simp <;> with_reducible rfl)
    try simp only [Act.put, tkS]
    refine wpAnyH_ready (rs := [4]) (by kernel_rfl) (by simp) (AllReadyH.cons rfl (fun K hK => ?_) AllReadyH.nil)
    go_simp
    (go_invoke; go_simp; go_at_call 158; refine (OM.out _ (by first | exact HB1.out | exact HB1.out.drew)).mono ?_; rintro e w4 ⟨rfl, hb⟩; have BW4 : Hid (BoxD 43 w w4 #[.int .i64 4, .string ⟨tb.toArray⟩, .string ⟨nm.toArray⟩, .slice a3 wh.length c3, .slice a4 row.length c4, .slice a5 mu.length c5, .slice a6 cs.length c6, .bool un]) := hb; clear hb)
    refine hK.out _ _ ?_ (fun hHeld => ?_)
    · (exact CE.out _ (by first | exact HB1.out | exact HB1.out.drew | exact BW4.out | exact BW5.out | exact BW9.out))
    clear hK K
    try simp only [Act.put, tkS]
    refine wpAnyH_ready (rs := [5]) (by kernel_rfl) (by simp) (AllReadyH.cons rfl (fun K hK => ?_) AllReadyH.nil)
    go_simp
    (go_at_call 57; refine (SA.out _ BW4.out).mono ?_; rintro e w5 ⟨rfl, hb⟩; have BW5 : Hid (BoxD 43 w w5 #[.int .i64 4, .string ⟨tb.toArray⟩, .string ⟨nm.toArray⟩, .slice a3 wh.length c3, .slice a4 row.length c4, .slice a5 mu.length c5, .slice a6 cs.length c6, .bool un]) := hb; clear hb)
    refine hK.out _ _ ?_ (fun hHeld => ?_)
    · (exact CE.out _ (by first | exact HB1.out | exact HB1.out.drew | exact BW4.out | exact BW5.out | exact BW9.out))
    clear hK K
    try simp only [Act.put, tkS]
    refine tkA (i := 6) (v := ?_) rfl ?_ ?_
    rotate_left
    · (intro wS hSw; (try dsimp only at hSw); go_simp <;> with_reducible rfl)
    try simp only [Act.put, tkS]
    refine tkA (i := 7) (v := ?_) rfl ?_ ?_
    rotate_left
    · (intro wS hSw; (try dsimp only at hSw); go_simp <;> with_reducible rfl)
    try simp only [Act.put, tkS]
    refine tkU (i := 8) rfl ?_
    try simp only [Act.put, tkS]
    refine tkU (i := 9) rfl ?_
    try simp only [Act.put, tkS]
    refine tkA (i := 10) (v := ?_) rfl ?_ ?_
    rotate_left
    · (intro wS hSw; (try dsimp only at hSw); go_simp <;> with_reducible rfl)
    try simp only [Act.put, tkS]
    refine tkA (i := 11) (v := ?_) rfl ?_ ?_
    rotate_left
    · (intro wS hSw; (try dsimp only at hSw); go_simp <;> with_reducible rfl)
    try simp only [Act.put, tkS]
    refine wpAnyH_done (by kernel_rfl) ?_ _
    go_wp2_with fail
    go_ret
    exact ⟨ret_b HR.out.symm, BW5.out.2⟩
  have HR : Hid (ob = pb) := by show ob = pb; rw [HE.out]; rfl
  clear HE
  go_enter Tryz.func26, Tryz.ntmps26
  go_wp2_with fail
  refine (OF.out _ HB.out).mono ?_
  rintro e w1 ⟨rfl, hb⟩
  have HB1 := Lib.hid hb
  clear hb x0 x1 x2 x3 x4 x5 x6 x7
  go_wp2_with fail
  refine wp_region_held_drew (S := (fun W => W.cell? ⟨w.heap.size, 0, none⟩ = some (.int .i64 4) ∧ W.cell? ⟨w.heap.size, 1, none⟩ = some (.string ⟨tb.toArray⟩) ∧ W.cell? ⟨w.heap.size, 2, none⟩ = some (.string ⟨nm.toArray⟩) ∧ W.cell? ⟨w.heap.size, 3, none⟩ = some (.slice a3 wh.length c3) ∧ W.cell? ⟨w.heap.size, 4, none⟩ = some (.slice a4 row.length c4) ∧ W.cell? ⟨w.heap.size, 5, none⟩ = some (.slice a5 mu.length c5) ∧ W.cell? ⟨w.heap.size, 6, none⟩ = some (.slice a6 cs.length c6) ∧ W.cell? ⟨w.heap.size, 7, none⟩ = some (.bool un))) (by kernel_rfl) ?_ (fun hHeld => ?_)
  · (exact CE.out _ (by first | exact HB1.out | exact HB1.out.drew | exact BW4.out | exact BW5.out | exact BW9.out))
  refine tkA (i := 0) (v := ?_) rfl ?_ ?_
  rotate_left
  · (intro wS hSw; (try dsimp only at hSw); go_simp <;> with_reducible rfl)
  try simp only [Act.put, tkS]
  refine tkA (i := 1) (v := ?_) rfl ?_ ?_
  rotate_left
  · (intro wS hSw; (try dsimp only at hSw); go_simp <;> with_reducible rfl)
  try simp only [Act.put, tkS]
  refine tkA (i := 2) (v := ?_) rfl ?_ ?_
  rotate_left
  · (intro wS hSw; (try dsimp only at hSw); go_simp <;> with_reducible rfl)
  try simp only [Act.put, tkS]
  refine tkA (i := 3) (v := ?_) rfl ?_ ?_
  rotate_left
  · (intro wS hSw; (try dsimp only at hSw); go_simp <;> with_reducible rfl)
  try simp only [Act.put, tkS]
  refine wpAnyH_ready (rs := [4]) (by kernel_rfl) (by simp) (AllReadyH.cons rfl (fun K hK => ?_) AllReadyH.nil)
  go_simp
  (go_invoke; go_simp; go_at_call 158; refine (OM.out _ (by first | exact HB1.out | exact HB1.out.drew)).mono ?_; rintro e w4 ⟨rfl, hb⟩; have BW4 : Hid (BoxD 43 w w4 #[.int .i64 4, .string ⟨tb.toArray⟩, .string ⟨nm.toArray⟩, .slice a3 wh.length c3, .slice a4 row.length c4, .slice a5 mu.length c5, .slice a6 cs.length c6, .bool un]) := hb; clear hb)
  refine hK.out _ _ ?_ (fun hHeld => ?_)
  · (exact CE.out _ (by first | exact HB1.out | exact HB1.out.drew | exact BW4.out | exact BW5.out | exact BW9.out))
  clear hK K
  try simp only [Act.put, tkS]
  refine wpAnyH_ready (rs := [5]) (by kernel_rfl) (by simp) (AllReadyH.cons rfl (fun K hK => ?_) AllReadyH.nil)
  go_simp
  (go_at_call 57; refine (SA.out _ BW4.out).mono ?_; rintro e w5 ⟨rfl, hb⟩; have BW5 : Hid (BoxD 43 w w5 #[.int .i64 4, .string ⟨tb.toArray⟩, .string ⟨nm.toArray⟩, .slice a3 wh.length c3, .slice a4 row.length c4, .slice a5 mu.length c5, .slice a6 cs.length c6, .bool un]) := hb; clear hb)
  refine hK.out _ _ ?_ (fun hHeld => ?_)
  · (exact CE.out _ (by first | exact HB1.out | exact HB1.out.drew | exact BW4.out | exact BW5.out | exact BW9.out))
  clear hK K
  try simp only [Act.put, tkS]
  refine tkA (i := 6) (v := ?_) rfl ?_ ?_
  rotate_left
  · (intro wS hSw; (try dsimp only at hSw); go_simp <;> with_reducible rfl)
  try simp only [Act.put, tkS]
  refine tkA (i := 7) (v := ?_) rfl ?_ ?_
  rotate_left
  · (intro wS hSw; (try dsimp only at hSw); go_simp <;> with_reducible rfl)
  try simp only [Act.put, tkS]
  refine tkA (i := 8) (v := ?_) rfl ?_ ?_
  rotate_left
  · (intro wS hSw; (try dsimp only at hSw); go_simp <;> with_reducible rfl)
  try simp only [Act.put, tkS]
  refine wpAnyH_ready (rs := [9]) (by kernel_rfl) (by simp) (AllReadyH.cons rfl (fun K hK => ?_) AllReadyH.nil)
  go_simp
  (go_at_call 58; refine (PA.out _ BW5.out).mono ?_; rintro e w9 ⟨rfl, hb⟩; have BW9 : Hid (BoxD 43 w w9 #[.int .i64 4, .string ⟨tb.toArray⟩, .string ⟨nm.toArray⟩, .slice a3 wh.length c3, .slice a4 row.length c4, .slice a5 mu.length c5, .slice a6 cs.length c6, .bool un]) := hb; clear hb)
  refine hK.out _ _ ?_ (fun hHeld => ?_)
  · (exact CE.out _ (by first | exact HB1.out | exact HB1.out.drew | exact BW4.out | exact BW5.out | exact BW9.out))
  clear hK K
  try simp only [Act.put, tkS]
  refine tkA (i := 10) (v := ?_) rfl ?_ ?_
  rotate_left
  · (intro wS hSw; (try dsimp only at hSw); go_simp <;> with_reducible rfl)
  try simp only [Act.put, tkS]
  refine tkA (i := 11) (v := ?_) rfl ?_ ?_
  rotate_left
  · (intro wS hSw; (try dsimp only at hSw); go_simp <;> with_reducible rfl)
  try simp only [Act.put, tkS]
  refine wpAnyH_done (by kernel_rfl) ?_ _
  go_wp2_with fail
  go_ret
  exact ⟨ret_b HR.out.symm, BW9.out.2⟩
set_option maxRecDepth 100000 in
set_option maxHeartbeats 12800000 in
theorem opOKi_5 (tb nm : List UInt8) (wh : List CondV) (row : List SetV) (mu : List MutV) (cs : List (List UInt8)) (un : Bool) (a3 : Option Addr) (c3 : Nat) (a4 : Option Addr) (c4 : Nat) (a5 : Option Addr) (c5 : Nat) (a6 : Option Addr) (c6 : Nat) (B : Nat → Prop) (w : World) (h1 : tb.length ≤ maxLen) (h2 : nm.length ≤ maxLen) (h3 : (dCondS wh).le maxLen) (h4 : (dSetS row).le maxLen) (h5 : (dMutS mu).le maxLen) (h6 : (dStringS cs).le maxLen)
    (r3 : Rd w B (dCondS wh) (.slice a3 wh.length c3)) (r4 : Rd w B (dSetS row) (.slice a4 row.length c4)) (r5 : Rd w B (dMutS mu) (.slice a5 mu.length c5)) (r6 : Rd w B (dStringS cs) (.slice a6 cs.length c6)) :
    Calls Tryz.prog 26 #[.agg #[.int .i64 5, .string ⟨tb.toArray⟩, .string ⟨nm.toArray⟩, .slice a3 wh.length c3, .slice a4 row.length c4, .slice a5 mu.length c5, .slice a6 cs.length c6, .bool un]] w fun e w' => e = .returned (.bool (opB ⟨5, tb, nm, wh, row, mu, cs, un⟩)) ∧ Below w.heap.size w w' := by
  have OF : Hid (∀ W, BoxD 43 w W #[.int .i64 5, .string ⟨tb.toArray⟩, .string ⟨nm.toArray⟩, .slice a3 wh.length c3, .slice a4 row.length c4, .slice a5 mu.length c5, .slice a6 cs.length c6, .bool un] → Calls Tryz.prog 27 #[.agg #[.int .i64 5, .string ⟨tb.toArray⟩, .string ⟨nm.toArray⟩, .slice a3 wh.length c3, .slice a4 row.length c4, .slice a5 mu.length c5, .slice a6 cs.length c6, .bool un]] W fun e w' => e = .returned (.tuple #[.iface 125 (.agg #[.string ⟨tb.toArray⟩, .slice a3 wh.length c3]), .bool true]) ∧ BoxD 43 w w' #[.int .i64 5, .string ⟨tb.toArray⟩, .string ⟨nm.toArray⟩, .slice a3 wh.length c3, .slice a4 row.length c4, .slice a5 mu.length c5, .slice a6 cs.length c6, .bool un]) := fun W h => (opOf5 tb nm wh row mu cs un a3 c3 a4 c4 a5 c5 a6 c6 W).mono (fun _ _ ⟨he, hB⟩ => ⟨he, h.later hB⟩)
  have OM : Hid (∀ W, BoxD 43 w W #[.int .i64 5, .string ⟨tb.toArray⟩, .string ⟨nm.toArray⟩, .slice a3 wh.length c3, .slice a4 row.length c4, .slice a5 mu.length c5, .slice a6 cs.length c6, .bool un] → Calls Tryz.prog 159 #[.agg #[.string ⟨tb.toArray⟩, .slice a3 wh.length c3]] W fun e w' => e = .returned (.agg #[.int .i64 5, .string ⟨tb.toArray⟩, .string ⟨#[]⟩, .slice a3 wh.length c3, .slice none 0 0, .slice none 0 0, .slice none 0 0, .bool false]) ∧ BoxD 43 w w' #[.int .i64 5, .string ⟨tb.toArray⟩, .string ⟨nm.toArray⟩, .slice a3 wh.length c3, .slice a4 row.length c4, .slice a5 mu.length c5, .slice a6 cs.length c6, .bool un]) := fun W h => (opM5 tb wh a3 c3 W).mono (fun _ _ ⟨he, hB⟩ => ⟨he, h.later hB⟩)
  have SA : Hid (∀ W, BoxD 43 w W #[.int .i64 5, .string ⟨tb.toArray⟩, .string ⟨nm.toArray⟩, .slice a3 wh.length c3, .slice a4 row.length c4, .slice a5 mu.length c5, .slice a6 cs.length c6, .bool un] → Calls Tryz.prog 57 #[.agg #[.int .i64 5, .string ⟨tb.toArray⟩, .string ⟨nm.toArray⟩, .slice a3 wh.length c3, .slice a4 row.length c4, .slice a5 mu.length c5, .slice a6 cs.length c6, .bool un], .agg #[.int .i64 5, .string ⟨tb.toArray⟩, .string ⟨#[]⟩, .slice a3 wh.length c3, .slice none 0 0, .slice none 0 0, .slice none 0 0, .bool false]] W fun e w' => e = .returned (.bool (sameB tb nm un wh.length row.length mu.length cs.length tb [] false wh.length 0 0 0)) ∧ BoxD 43 w w' #[.int .i64 5, .string ⟨tb.toArray⟩, .string ⟨nm.toArray⟩, .slice a3 wh.length c3, .slice a4 row.length c4, .slice a5 mu.length c5, .slice a6 cs.length c6, .bool un]) := fun W h => (sameI 5 tb nm un wh.length row.length mu.length cs.length a3 c3 a4 c4 a5 c5 a6 c6 5 tb [] false wh.length 0 0 0 a3 c3 none 0 none 0 none 0 W).mono (fun _ _ ⟨he, hB⟩ => ⟨he, h.later hB⟩)
  have PA : Hid (∀ W, BoxD 43 w W #[.int .i64 5, .string ⟨tb.toArray⟩, .string ⟨nm.toArray⟩, .slice a3 wh.length c3, .slice a4 row.length c4, .slice a5 mu.length c5, .slice a6 cs.length c6, .bool un] → Calls Tryz.prog 58 #[.agg #[.int .i64 5, .string ⟨tb.toArray⟩, .string ⟨nm.toArray⟩, .slice a3 wh.length c3, .slice a4 row.length c4, .slice a5 mu.length c5, .slice a6 cs.length c6, .bool un]] W fun e w' => e = .returned (.bool (partsB tb nm wh row mu cs)) ∧ BoxD 43 w w' #[.int .i64 5, .string ⟨tb.toArray⟩, .string ⟨nm.toArray⟩, .slice a3 wh.length c3, .slice a4 row.length c4, .slice a5 mu.length c5, .slice a6 cs.length c6, .bool un]) := fun W h => (partsI 5 tb nm wh row mu cs un a3 c3 a4 c4 a5 c5 a6 c6 B W h1 h2 h3 h4 h5 h6 (r3.later h.2) (r4.later h.2) (r5.later h.2) (r6.later h.2)).mono (fun _ _ ⟨he, hB⟩ => ⟨he, h.later hB⟩)
  have HE := Lib.hid (op_kind5 tb nm wh row mu cs un)
  generalize opB ⟨5, tb, nm, wh, row, mu, cs, un⟩ = ob at *
  generalize sameB tb nm un wh.length row.length mu.length cs.length tb [] false wh.length 0 0 0 = sb at *
  generalize partsB tb nm wh row mu cs = pb at *
  have hb := boxD 43 w #[.int .i64 5, .string ⟨tb.toArray⟩, .string ⟨nm.toArray⟩, .slice a3 wh.length c3, .slice a4 row.length c4, .slice a5 mu.length c5, .slice a6 cs.length c6, .bool un]
  have HB := Lib.hid hb
  have x0 := cell_at (o := 0) hb.1 rfl
  have x1 := cell_at (o := 1) hb.1 rfl
  have x2 := cell_at (o := 2) hb.1 rfl
  have x3 := cell_at (o := 3) hb.1 rfl
  have x4 := cell_at (o := 4) hb.1 rfl
  have x5 := cell_at (o := 5) hb.1 rfl
  have x6 := cell_at (o := 6) hb.1 rfl
  have x7 := cell_at (o := 7) hb.1 rfl
  clear hb h1 h2 h3 h4 h5 h6 r3 r4 r5 r6
  have CE : Hid (∀ W, BoxD 43 w W #[.int .i64 5, .string ⟨tb.toArray⟩, .string ⟨nm.toArray⟩, .slice a3 wh.length c3, .slice a4 row.length c4, .slice a5 mu.length c5, .slice a6 cs.length c6, .bool un] → W.cell? ⟨w.heap.size, 0, none⟩ = some (.int .i64 5) ∧ W.cell? ⟨w.heap.size, 1, none⟩ = some (.string ⟨tb.toArray⟩) ∧ W.cell? ⟨w.heap.size, 2, none⟩ = some (.string ⟨nm.toArray⟩) ∧ W.cell? ⟨w.heap.size, 3, none⟩ = some (.slice a3 wh.length c3) ∧ W.cell? ⟨w.heap.size, 4, none⟩ = some (.slice a4 row.length c4) ∧ W.cell? ⟨w.heap.size, 5, none⟩ = some (.slice a5 mu.length c5) ∧ W.cell? ⟨w.heap.size, 6, none⟩ = some (.slice a6 cs.length c6) ∧ W.cell? ⟨w.heap.size, 7, none⟩ = some (.bool un)) := fun W h => ⟨cell_at (o := 0) h.1 rfl, cell_at (o := 1) h.1 rfl, cell_at (o := 2) h.1 rfl, cell_at (o := 3) h.1 rfl, cell_at (o := 4) h.1 rfl, cell_at (o := 5) h.1 rfl, cell_at (o := 6) h.1 rfl, cell_at (o := 7) h.1 rfl⟩
  cases sb
  case false =>
    have HR : Hid (ob = false) := by show ob = false; rw [HE.out]; rfl
    clear HE
    go_enter Tryz.func26, Tryz.ntmps26
    go_wp2_with fail
    refine (OF.out _ HB.out).mono ?_
    rintro e w1 ⟨rfl, hb⟩
    have HB1 := Lib.hid hb
    clear hb x0 x1 x2 x3 x4 x5 x6 x7
    go_wp2_with fail
    refine wp_region_held_drew (S := (fun W => W.cell? ⟨w.heap.size, 0, none⟩ = some (.int .i64 5) ∧ W.cell? ⟨w.heap.size, 1, none⟩ = some (.string ⟨tb.toArray⟩) ∧ W.cell? ⟨w.heap.size, 2, none⟩ = some (.string ⟨nm.toArray⟩) ∧ W.cell? ⟨w.heap.size, 3, none⟩ = some (.slice a3 wh.length c3) ∧ W.cell? ⟨w.heap.size, 4, none⟩ = some (.slice a4 row.length c4) ∧ W.cell? ⟨w.heap.size, 5, none⟩ = some (.slice a5 mu.length c5) ∧ W.cell? ⟨w.heap.size, 6, none⟩ = some (.slice a6 cs.length c6) ∧ W.cell? ⟨w.heap.size, 7, none⟩ = some (.bool un))) (by kernel_rfl) ?_ (fun hHeld => ?_)
    · (exact CE.out _ (by first | exact HB1.out | exact HB1.out.drew | exact BW4.out | exact BW5.out | exact BW9.out))
    refine tkA (i := 0) (v := ?_) rfl ?_ ?_
    rotate_left
    · (intro wS hSw; (try dsimp only at hSw); go_simp <;> with_reducible rfl)
    try simp only [Act.put, tkS]
    refine tkA (i := 1) (v := ?_) rfl ?_ ?_
    rotate_left
    · (intro wS hSw; (try dsimp only at hSw); go_simp <;> with_reducible rfl)
    try simp only [Act.put, tkS]
    refine tkA (i := 2) (v := ?_) rfl ?_ ?_
    rotate_left
    · (intro wS hSw; (try dsimp only at hSw); go_simp <;> with_reducible rfl)
    try simp only [Act.put, tkS]
    refine tkA (i := 3) (v := ?_) rfl ?_ ?_
    rotate_left
    · (intro wS hSw; (try dsimp only at hSw); go_simp <;> with_reducible rfl)
    try simp only [Act.put, tkS]
    refine wpAnyH_ready (rs := [4]) (by kernel_rfl) (by simp) (AllReadyH.cons rfl (fun K hK => ?_) AllReadyH.nil)
    go_simp
    (go_invoke; go_simp; go_at_call 159; refine (OM.out _ (by first | exact HB1.out | exact HB1.out.drew)).mono ?_; rintro e w4 ⟨rfl, hb⟩; have BW4 : Hid (BoxD 43 w w4 #[.int .i64 5, .string ⟨tb.toArray⟩, .string ⟨nm.toArray⟩, .slice a3 wh.length c3, .slice a4 row.length c4, .slice a5 mu.length c5, .slice a6 cs.length c6, .bool un]) := hb; clear hb)
    refine hK.out _ _ ?_ (fun hHeld => ?_)
    · (exact CE.out _ (by first | exact HB1.out | exact HB1.out.drew | exact BW4.out | exact BW5.out | exact BW9.out))
    clear hK K
    try simp only [Act.put, tkS]
    refine wpAnyH_ready (rs := [5]) (by kernel_rfl) (by simp) (AllReadyH.cons rfl (fun K hK => ?_) AllReadyH.nil)
    go_simp
    (go_at_call 57; refine (SA.out _ BW4.out).mono ?_; rintro e w5 ⟨rfl, hb⟩; have BW5 : Hid (BoxD 43 w w5 #[.int .i64 5, .string ⟨tb.toArray⟩, .string ⟨nm.toArray⟩, .slice a3 wh.length c3, .slice a4 row.length c4, .slice a5 mu.length c5, .slice a6 cs.length c6, .bool un]) := hb; clear hb)
    refine hK.out _ _ ?_ (fun hHeld => ?_)
    · (exact CE.out _ (by first | exact HB1.out | exact HB1.out.drew | exact BW4.out | exact BW5.out | exact BW9.out))
    clear hK K
    try simp only [Act.put, tkS]
    refine tkA (i := 6) (v := ?_) rfl ?_ ?_
    rotate_left
    · (intro wS hSw; (try dsimp only at hSw); go_simp <;> with_reducible rfl)
    try simp only [Act.put, tkS]
    refine tkA (i := 7) (v := ?_) rfl ?_ ?_
    rotate_left
    · (intro wS hSw; (try dsimp only at hSw); go_simp <;> with_reducible rfl)
    try simp only [Act.put, tkS]
    refine tkU (i := 8) rfl ?_
    try simp only [Act.put, tkS]
    refine tkU (i := 9) rfl ?_
    try simp only [Act.put, tkS]
    refine tkA (i := 10) (v := ?_) rfl ?_ ?_
    rotate_left
    · (intro wS hSw; (try dsimp only at hSw); go_simp <;> with_reducible rfl)
    try simp only [Act.put, tkS]
    refine tkA (i := 11) (v := ?_) rfl ?_ ?_
    rotate_left
    · (intro wS hSw; (try dsimp only at hSw); go_simp <;> with_reducible rfl)
    try simp only [Act.put, tkS]
    refine wpAnyH_done (by kernel_rfl) ?_ _
    go_wp2_with fail
    go_ret
    exact ⟨ret_b HR.out.symm, BW5.out.2⟩
  have HR : Hid (ob = pb) := by show ob = pb; rw [HE.out]; rfl
  clear HE
  go_enter Tryz.func26, Tryz.ntmps26
  go_wp2_with fail
  refine (OF.out _ HB.out).mono ?_
  rintro e w1 ⟨rfl, hb⟩
  have HB1 := Lib.hid hb
  clear hb x0 x1 x2 x3 x4 x5 x6 x7
  go_wp2_with fail
  refine wp_region_held_drew (S := (fun W => W.cell? ⟨w.heap.size, 0, none⟩ = some (.int .i64 5) ∧ W.cell? ⟨w.heap.size, 1, none⟩ = some (.string ⟨tb.toArray⟩) ∧ W.cell? ⟨w.heap.size, 2, none⟩ = some (.string ⟨nm.toArray⟩) ∧ W.cell? ⟨w.heap.size, 3, none⟩ = some (.slice a3 wh.length c3) ∧ W.cell? ⟨w.heap.size, 4, none⟩ = some (.slice a4 row.length c4) ∧ W.cell? ⟨w.heap.size, 5, none⟩ = some (.slice a5 mu.length c5) ∧ W.cell? ⟨w.heap.size, 6, none⟩ = some (.slice a6 cs.length c6) ∧ W.cell? ⟨w.heap.size, 7, none⟩ = some (.bool un))) (by kernel_rfl) ?_ (fun hHeld => ?_)
  · (exact CE.out _ (by first | exact HB1.out | exact HB1.out.drew | exact BW4.out | exact BW5.out | exact BW9.out))
  refine tkA (i := 0) (v := ?_) rfl ?_ ?_
  rotate_left
  · (intro wS hSw; (try dsimp only at hSw); go_simp <;> with_reducible rfl)
  try simp only [Act.put, tkS]
  refine tkA (i := 1) (v := ?_) rfl ?_ ?_
  rotate_left
  · (intro wS hSw; (try dsimp only at hSw); go_simp <;> with_reducible rfl)
  try simp only [Act.put, tkS]
  refine tkA (i := 2) (v := ?_) rfl ?_ ?_
  rotate_left
  · (intro wS hSw; (try dsimp only at hSw); go_simp <;> with_reducible rfl)
  try simp only [Act.put, tkS]
  refine tkA (i := 3) (v := ?_) rfl ?_ ?_
  rotate_left
  · (intro wS hSw; (try dsimp only at hSw); go_simp <;> with_reducible rfl)
  try simp only [Act.put, tkS]
  refine wpAnyH_ready (rs := [4]) (by kernel_rfl) (by simp) (AllReadyH.cons rfl (fun K hK => ?_) AllReadyH.nil)
  go_simp
  (go_invoke; go_simp; go_at_call 159; refine (OM.out _ (by first | exact HB1.out | exact HB1.out.drew)).mono ?_; rintro e w4 ⟨rfl, hb⟩; have BW4 : Hid (BoxD 43 w w4 #[.int .i64 5, .string ⟨tb.toArray⟩, .string ⟨nm.toArray⟩, .slice a3 wh.length c3, .slice a4 row.length c4, .slice a5 mu.length c5, .slice a6 cs.length c6, .bool un]) := hb; clear hb)
  refine hK.out _ _ ?_ (fun hHeld => ?_)
  · (exact CE.out _ (by first | exact HB1.out | exact HB1.out.drew | exact BW4.out | exact BW5.out | exact BW9.out))
  clear hK K
  try simp only [Act.put, tkS]
  refine wpAnyH_ready (rs := [5]) (by kernel_rfl) (by simp) (AllReadyH.cons rfl (fun K hK => ?_) AllReadyH.nil)
  go_simp
  (go_at_call 57; refine (SA.out _ BW4.out).mono ?_; rintro e w5 ⟨rfl, hb⟩; have BW5 : Hid (BoxD 43 w w5 #[.int .i64 5, .string ⟨tb.toArray⟩, .string ⟨nm.toArray⟩, .slice a3 wh.length c3, .slice a4 row.length c4, .slice a5 mu.length c5, .slice a6 cs.length c6, .bool un]) := hb; clear hb)
  refine hK.out _ _ ?_ (fun hHeld => ?_)
  · (exact CE.out _ (by first | exact HB1.out | exact HB1.out.drew | exact BW4.out | exact BW5.out | exact BW9.out))
  clear hK K
  try simp only [Act.put, tkS]
  refine tkA (i := 6) (v := ?_) rfl ?_ ?_
  rotate_left
  · (intro wS hSw; (try dsimp only at hSw); go_simp <;> with_reducible rfl)
  try simp only [Act.put, tkS]
  refine tkA (i := 7) (v := ?_) rfl ?_ ?_
  rotate_left
  · (intro wS hSw; (try dsimp only at hSw); go_simp <;> with_reducible rfl)
  try simp only [Act.put, tkS]
  refine tkA (i := 8) (v := ?_) rfl ?_ ?_
  rotate_left
  · (intro wS hSw; (try dsimp only at hSw); go_simp <;> with_reducible rfl)
  try simp only [Act.put, tkS]
  refine wpAnyH_ready (rs := [9]) (by kernel_rfl) (by simp) (AllReadyH.cons rfl (fun K hK => ?_) AllReadyH.nil)
  go_simp
  (go_at_call 58; refine (PA.out _ BW5.out).mono ?_; rintro e w9 ⟨rfl, hb⟩; have BW9 : Hid (BoxD 43 w w9 #[.int .i64 5, .string ⟨tb.toArray⟩, .string ⟨nm.toArray⟩, .slice a3 wh.length c3, .slice a4 row.length c4, .slice a5 mu.length c5, .slice a6 cs.length c6, .bool un]) := hb; clear hb)
  refine hK.out _ _ ?_ (fun hHeld => ?_)
  · (exact CE.out _ (by first | exact HB1.out | exact HB1.out.drew | exact BW4.out | exact BW5.out | exact BW9.out))
  clear hK K
  try simp only [Act.put, tkS]
  refine tkA (i := 10) (v := ?_) rfl ?_ ?_
  rotate_left
  · (intro wS hSw; (try dsimp only at hSw); go_simp <;> with_reducible rfl)
  try simp only [Act.put, tkS]
  refine tkA (i := 11) (v := ?_) rfl ?_ ?_
  rotate_left
  · (intro wS hSw; (try dsimp only at hSw); go_simp <;> with_reducible rfl)
  try simp only [Act.put, tkS]
  refine wpAnyH_done (by kernel_rfl) ?_ _
  go_wp2_with fail
  go_ret
  exact ⟨ret_b HR.out.symm, BW9.out.2⟩
set_option maxRecDepth 100000 in
set_option maxHeartbeats 12800000 in
theorem opOKi_6 (tb nm : List UInt8) (wh : List CondV) (row : List SetV) (mu : List MutV) (cs : List (List UInt8)) (un : Bool) (a3 : Option Addr) (c3 : Nat) (a4 : Option Addr) (c4 : Nat) (a5 : Option Addr) (c5 : Nat) (a6 : Option Addr) (c6 : Nat) (B : Nat → Prop) (w : World) (h1 : tb.length ≤ maxLen) (h2 : nm.length ≤ maxLen) (h3 : (dCondS wh).le maxLen) (h4 : (dSetS row).le maxLen) (h5 : (dMutS mu).le maxLen) (h6 : (dStringS cs).le maxLen)
    (r3 : Rd w B (dCondS wh) (.slice a3 wh.length c3)) (r4 : Rd w B (dSetS row) (.slice a4 row.length c4)) (r5 : Rd w B (dMutS mu) (.slice a5 mu.length c5)) (r6 : Rd w B (dStringS cs) (.slice a6 cs.length c6)) :
    Calls Tryz.prog 26 #[.agg #[.int .i64 6, .string ⟨tb.toArray⟩, .string ⟨nm.toArray⟩, .slice a3 wh.length c3, .slice a4 row.length c4, .slice a5 mu.length c5, .slice a6 cs.length c6, .bool un]] w fun e w' => e = .returned (.bool (opB ⟨6, tb, nm, wh, row, mu, cs, un⟩)) ∧ Below w.heap.size w w' := by
  have OF : Hid (∀ W, BoxD 43 w W #[.int .i64 6, .string ⟨tb.toArray⟩, .string ⟨nm.toArray⟩, .slice a3 wh.length c3, .slice a4 row.length c4, .slice a5 mu.length c5, .slice a6 cs.length c6, .bool un] → Calls Tryz.prog 27 #[.agg #[.int .i64 6, .string ⟨tb.toArray⟩, .string ⟨nm.toArray⟩, .slice a3 wh.length c3, .slice a4 row.length c4, .slice a5 mu.length c5, .slice a6 cs.length c6, .bool un]] W fun e w' => e = .returned (.tuple #[.iface 127 (.agg #[.string ⟨tb.toArray⟩, .slice a3 wh.length c3, .slice a4 row.length c4, .bool un]), .bool true]) ∧ BoxD 43 w w' #[.int .i64 6, .string ⟨tb.toArray⟩, .string ⟨nm.toArray⟩, .slice a3 wh.length c3, .slice a4 row.length c4, .slice a5 mu.length c5, .slice a6 cs.length c6, .bool un]) := fun W h => (opOf6 tb nm wh row mu cs un a3 c3 a4 c4 a5 c5 a6 c6 W).mono (fun _ _ ⟨he, hB⟩ => ⟨he, h.later hB⟩)
  have OM : Hid (∀ W, BoxD 43 w W #[.int .i64 6, .string ⟨tb.toArray⟩, .string ⟨nm.toArray⟩, .slice a3 wh.length c3, .slice a4 row.length c4, .slice a5 mu.length c5, .slice a6 cs.length c6, .bool un] → Calls Tryz.prog 160 #[.agg #[.string ⟨tb.toArray⟩, .slice a3 wh.length c3, .slice a4 row.length c4, .bool un]] W fun e w' => e = .returned (.agg #[.int .i64 6, .string ⟨tb.toArray⟩, .string ⟨#[]⟩, .slice a3 wh.length c3, .slice a4 row.length c4, .slice none 0 0, .slice none 0 0, .bool un]) ∧ BoxD 43 w w' #[.int .i64 6, .string ⟨tb.toArray⟩, .string ⟨nm.toArray⟩, .slice a3 wh.length c3, .slice a4 row.length c4, .slice a5 mu.length c5, .slice a6 cs.length c6, .bool un]) := fun W h => (opM6 tb wh a3 c3 row a4 c4 un W).mono (fun _ _ ⟨he, hB⟩ => ⟨he, h.later hB⟩)
  have SA : Hid (∀ W, BoxD 43 w W #[.int .i64 6, .string ⟨tb.toArray⟩, .string ⟨nm.toArray⟩, .slice a3 wh.length c3, .slice a4 row.length c4, .slice a5 mu.length c5, .slice a6 cs.length c6, .bool un] → Calls Tryz.prog 57 #[.agg #[.int .i64 6, .string ⟨tb.toArray⟩, .string ⟨nm.toArray⟩, .slice a3 wh.length c3, .slice a4 row.length c4, .slice a5 mu.length c5, .slice a6 cs.length c6, .bool un], .agg #[.int .i64 6, .string ⟨tb.toArray⟩, .string ⟨#[]⟩, .slice a3 wh.length c3, .slice a4 row.length c4, .slice none 0 0, .slice none 0 0, .bool un]] W fun e w' => e = .returned (.bool (sameB tb nm un wh.length row.length mu.length cs.length tb [] un wh.length row.length 0 0)) ∧ BoxD 43 w w' #[.int .i64 6, .string ⟨tb.toArray⟩, .string ⟨nm.toArray⟩, .slice a3 wh.length c3, .slice a4 row.length c4, .slice a5 mu.length c5, .slice a6 cs.length c6, .bool un]) := fun W h => (sameI 6 tb nm un wh.length row.length mu.length cs.length a3 c3 a4 c4 a5 c5 a6 c6 6 tb [] un wh.length row.length 0 0 a3 c3 a4 c4 none 0 none 0 W).mono (fun _ _ ⟨he, hB⟩ => ⟨he, h.later hB⟩)
  have PA : Hid (∀ W, BoxD 43 w W #[.int .i64 6, .string ⟨tb.toArray⟩, .string ⟨nm.toArray⟩, .slice a3 wh.length c3, .slice a4 row.length c4, .slice a5 mu.length c5, .slice a6 cs.length c6, .bool un] → Calls Tryz.prog 58 #[.agg #[.int .i64 6, .string ⟨tb.toArray⟩, .string ⟨nm.toArray⟩, .slice a3 wh.length c3, .slice a4 row.length c4, .slice a5 mu.length c5, .slice a6 cs.length c6, .bool un]] W fun e w' => e = .returned (.bool (partsB tb nm wh row mu cs)) ∧ BoxD 43 w w' #[.int .i64 6, .string ⟨tb.toArray⟩, .string ⟨nm.toArray⟩, .slice a3 wh.length c3, .slice a4 row.length c4, .slice a5 mu.length c5, .slice a6 cs.length c6, .bool un]) := fun W h => (partsI 6 tb nm wh row mu cs un a3 c3 a4 c4 a5 c5 a6 c6 B W h1 h2 h3 h4 h5 h6 (r3.later h.2) (r4.later h.2) (r5.later h.2) (r6.later h.2)).mono (fun _ _ ⟨he, hB⟩ => ⟨he, h.later hB⟩)
  have HE := Lib.hid (op_kind6 tb nm wh row mu cs un)
  generalize opB ⟨6, tb, nm, wh, row, mu, cs, un⟩ = ob at *
  generalize sameB tb nm un wh.length row.length mu.length cs.length tb [] un wh.length row.length 0 0 = sb at *
  generalize partsB tb nm wh row mu cs = pb at *
  have hb := boxD 43 w #[.int .i64 6, .string ⟨tb.toArray⟩, .string ⟨nm.toArray⟩, .slice a3 wh.length c3, .slice a4 row.length c4, .slice a5 mu.length c5, .slice a6 cs.length c6, .bool un]
  have HB := Lib.hid hb
  have x0 := cell_at (o := 0) hb.1 rfl
  have x1 := cell_at (o := 1) hb.1 rfl
  have x2 := cell_at (o := 2) hb.1 rfl
  have x3 := cell_at (o := 3) hb.1 rfl
  have x4 := cell_at (o := 4) hb.1 rfl
  have x5 := cell_at (o := 5) hb.1 rfl
  have x6 := cell_at (o := 6) hb.1 rfl
  have x7 := cell_at (o := 7) hb.1 rfl
  clear hb h1 h2 h3 h4 h5 h6 r3 r4 r5 r6
  have CE : Hid (∀ W, BoxD 43 w W #[.int .i64 6, .string ⟨tb.toArray⟩, .string ⟨nm.toArray⟩, .slice a3 wh.length c3, .slice a4 row.length c4, .slice a5 mu.length c5, .slice a6 cs.length c6, .bool un] → W.cell? ⟨w.heap.size, 0, none⟩ = some (.int .i64 6) ∧ W.cell? ⟨w.heap.size, 1, none⟩ = some (.string ⟨tb.toArray⟩) ∧ W.cell? ⟨w.heap.size, 2, none⟩ = some (.string ⟨nm.toArray⟩) ∧ W.cell? ⟨w.heap.size, 3, none⟩ = some (.slice a3 wh.length c3) ∧ W.cell? ⟨w.heap.size, 4, none⟩ = some (.slice a4 row.length c4) ∧ W.cell? ⟨w.heap.size, 5, none⟩ = some (.slice a5 mu.length c5) ∧ W.cell? ⟨w.heap.size, 6, none⟩ = some (.slice a6 cs.length c6) ∧ W.cell? ⟨w.heap.size, 7, none⟩ = some (.bool un)) := fun W h => ⟨cell_at (o := 0) h.1 rfl, cell_at (o := 1) h.1 rfl, cell_at (o := 2) h.1 rfl, cell_at (o := 3) h.1 rfl, cell_at (o := 4) h.1 rfl, cell_at (o := 5) h.1 rfl, cell_at (o := 6) h.1 rfl, cell_at (o := 7) h.1 rfl⟩
  cases sb
  case false =>
    have HR : Hid (ob = false) := by show ob = false; rw [HE.out]; rfl
    clear HE
    go_enter Tryz.func26, Tryz.ntmps26
    go_wp2_with fail
    refine (OF.out _ HB.out).mono ?_
    rintro e w1 ⟨rfl, hb⟩
    have HB1 := Lib.hid hb
    clear hb x0 x1 x2 x3 x4 x5 x6 x7
    go_wp2_with fail
    refine wp_region_held_drew (S := (fun W => W.cell? ⟨w.heap.size, 0, none⟩ = some (.int .i64 6) ∧ W.cell? ⟨w.heap.size, 1, none⟩ = some (.string ⟨tb.toArray⟩) ∧ W.cell? ⟨w.heap.size, 2, none⟩ = some (.string ⟨nm.toArray⟩) ∧ W.cell? ⟨w.heap.size, 3, none⟩ = some (.slice a3 wh.length c3) ∧ W.cell? ⟨w.heap.size, 4, none⟩ = some (.slice a4 row.length c4) ∧ W.cell? ⟨w.heap.size, 5, none⟩ = some (.slice a5 mu.length c5) ∧ W.cell? ⟨w.heap.size, 6, none⟩ = some (.slice a6 cs.length c6) ∧ W.cell? ⟨w.heap.size, 7, none⟩ = some (.bool un))) (by kernel_rfl) ?_ (fun hHeld => ?_)
    · (exact CE.out _ (by first | exact HB1.out | exact HB1.out.drew | exact BW4.out | exact BW5.out | exact BW9.out))
    refine tkA (i := 0) (v := ?_) rfl ?_ ?_
    rotate_left
    · (intro wS hSw; (try dsimp only at hSw); go_simp <;> with_reducible rfl)
    try simp only [Act.put, tkS]
    refine tkA (i := 1) (v := ?_) rfl ?_ ?_
    rotate_left
    · (intro wS hSw; (try dsimp only at hSw); go_simp <;> with_reducible rfl)
    try simp only [Act.put, tkS]
    refine tkA (i := 2) (v := ?_) rfl ?_ ?_
    rotate_left
    · (intro wS hSw; (try dsimp only at hSw); go_simp <;> with_reducible rfl)
    try simp only [Act.put, tkS]
    refine tkA (i := 3) (v := ?_) rfl ?_ ?_
    rotate_left
    · (intro wS hSw; (try dsimp only at hSw); go_simp <;> with_reducible rfl)
    try simp only [Act.put, tkS]
    refine wpAnyH_ready (rs := [4]) (by kernel_rfl) (by simp) (AllReadyH.cons rfl (fun K hK => ?_) AllReadyH.nil)
    go_simp
    (go_invoke; go_simp; go_at_call 160; refine (OM.out _ (by first | exact HB1.out | exact HB1.out.drew)).mono ?_; rintro e w4 ⟨rfl, hb⟩; have BW4 : Hid (BoxD 43 w w4 #[.int .i64 6, .string ⟨tb.toArray⟩, .string ⟨nm.toArray⟩, .slice a3 wh.length c3, .slice a4 row.length c4, .slice a5 mu.length c5, .slice a6 cs.length c6, .bool un]) := hb; clear hb)
    refine hK.out _ _ ?_ (fun hHeld => ?_)
    · (exact CE.out _ (by first | exact HB1.out | exact HB1.out.drew | exact BW4.out | exact BW5.out | exact BW9.out))
    clear hK K
    try simp only [Act.put, tkS]
    refine wpAnyH_ready (rs := [5]) (by kernel_rfl) (by simp) (AllReadyH.cons rfl (fun K hK => ?_) AllReadyH.nil)
    go_simp
    (go_at_call 57; refine (SA.out _ BW4.out).mono ?_; rintro e w5 ⟨rfl, hb⟩; have BW5 : Hid (BoxD 43 w w5 #[.int .i64 6, .string ⟨tb.toArray⟩, .string ⟨nm.toArray⟩, .slice a3 wh.length c3, .slice a4 row.length c4, .slice a5 mu.length c5, .slice a6 cs.length c6, .bool un]) := hb; clear hb)
    refine hK.out _ _ ?_ (fun hHeld => ?_)
    · (exact CE.out _ (by first | exact HB1.out | exact HB1.out.drew | exact BW4.out | exact BW5.out | exact BW9.out))
    clear hK K
    try simp only [Act.put, tkS]
    refine tkA (i := 6) (v := ?_) rfl ?_ ?_
    rotate_left
    · (intro wS hSw; (try dsimp only at hSw); go_simp <;> with_reducible rfl)
    try simp only [Act.put, tkS]
    refine tkA (i := 7) (v := ?_) rfl ?_ ?_
    rotate_left
    · (intro wS hSw; (try dsimp only at hSw); go_simp <;> with_reducible rfl)
    try simp only [Act.put, tkS]
    refine tkU (i := 8) rfl ?_
    try simp only [Act.put, tkS]
    refine tkU (i := 9) rfl ?_
    try simp only [Act.put, tkS]
    refine tkA (i := 10) (v := ?_) rfl ?_ ?_
    rotate_left
    · (intro wS hSw; (try dsimp only at hSw); go_simp <;> with_reducible rfl)
    try simp only [Act.put, tkS]
    refine tkA (i := 11) (v := ?_) rfl ?_ ?_
    rotate_left
    · (intro wS hSw; (try dsimp only at hSw); go_simp <;> with_reducible rfl)
    try simp only [Act.put, tkS]
    refine wpAnyH_done (by kernel_rfl) ?_ _
    go_wp2_with fail
    go_ret
    exact ⟨ret_b HR.out.symm, BW5.out.2⟩
  have HR : Hid (ob = pb) := by show ob = pb; rw [HE.out]; rfl
  clear HE
  go_enter Tryz.func26, Tryz.ntmps26
  go_wp2_with fail
  refine (OF.out _ HB.out).mono ?_
  rintro e w1 ⟨rfl, hb⟩
  have HB1 := Lib.hid hb
  clear hb x0 x1 x2 x3 x4 x5 x6 x7
  go_wp2_with fail
  refine wp_region_held_drew (S := (fun W => W.cell? ⟨w.heap.size, 0, none⟩ = some (.int .i64 6) ∧ W.cell? ⟨w.heap.size, 1, none⟩ = some (.string ⟨tb.toArray⟩) ∧ W.cell? ⟨w.heap.size, 2, none⟩ = some (.string ⟨nm.toArray⟩) ∧ W.cell? ⟨w.heap.size, 3, none⟩ = some (.slice a3 wh.length c3) ∧ W.cell? ⟨w.heap.size, 4, none⟩ = some (.slice a4 row.length c4) ∧ W.cell? ⟨w.heap.size, 5, none⟩ = some (.slice a5 mu.length c5) ∧ W.cell? ⟨w.heap.size, 6, none⟩ = some (.slice a6 cs.length c6) ∧ W.cell? ⟨w.heap.size, 7, none⟩ = some (.bool un))) (by kernel_rfl) ?_ (fun hHeld => ?_)
  · (exact CE.out _ (by first | exact HB1.out | exact HB1.out.drew | exact BW4.out | exact BW5.out | exact BW9.out))
  refine tkA (i := 0) (v := ?_) rfl ?_ ?_
  rotate_left
  · (intro wS hSw; (try dsimp only at hSw); go_simp <;> with_reducible rfl)
  try simp only [Act.put, tkS]
  refine tkA (i := 1) (v := ?_) rfl ?_ ?_
  rotate_left
  · (intro wS hSw; (try dsimp only at hSw); go_simp <;> with_reducible rfl)
  try simp only [Act.put, tkS]
  refine tkA (i := 2) (v := ?_) rfl ?_ ?_
  rotate_left
  · (intro wS hSw; (try dsimp only at hSw); go_simp <;> with_reducible rfl)
  try simp only [Act.put, tkS]
  refine tkA (i := 3) (v := ?_) rfl ?_ ?_
  rotate_left
  · (intro wS hSw; (try dsimp only at hSw); go_simp <;> with_reducible rfl)
  try simp only [Act.put, tkS]
  refine wpAnyH_ready (rs := [4]) (by kernel_rfl) (by simp) (AllReadyH.cons rfl (fun K hK => ?_) AllReadyH.nil)
  go_simp
  (go_invoke; go_simp; go_at_call 160; refine (OM.out _ (by first | exact HB1.out | exact HB1.out.drew)).mono ?_; rintro e w4 ⟨rfl, hb⟩; have BW4 : Hid (BoxD 43 w w4 #[.int .i64 6, .string ⟨tb.toArray⟩, .string ⟨nm.toArray⟩, .slice a3 wh.length c3, .slice a4 row.length c4, .slice a5 mu.length c5, .slice a6 cs.length c6, .bool un]) := hb; clear hb)
  refine hK.out _ _ ?_ (fun hHeld => ?_)
  · (exact CE.out _ (by first | exact HB1.out | exact HB1.out.drew | exact BW4.out | exact BW5.out | exact BW9.out))
  clear hK K
  try simp only [Act.put, tkS]
  refine wpAnyH_ready (rs := [5]) (by kernel_rfl) (by simp) (AllReadyH.cons rfl (fun K hK => ?_) AllReadyH.nil)
  go_simp
  (go_at_call 57; refine (SA.out _ BW4.out).mono ?_; rintro e w5 ⟨rfl, hb⟩; have BW5 : Hid (BoxD 43 w w5 #[.int .i64 6, .string ⟨tb.toArray⟩, .string ⟨nm.toArray⟩, .slice a3 wh.length c3, .slice a4 row.length c4, .slice a5 mu.length c5, .slice a6 cs.length c6, .bool un]) := hb; clear hb)
  refine hK.out _ _ ?_ (fun hHeld => ?_)
  · (exact CE.out _ (by first | exact HB1.out | exact HB1.out.drew | exact BW4.out | exact BW5.out | exact BW9.out))
  clear hK K
  try simp only [Act.put, tkS]
  refine tkA (i := 6) (v := ?_) rfl ?_ ?_
  rotate_left
  · (intro wS hSw; (try dsimp only at hSw); go_simp <;> with_reducible rfl)
  try simp only [Act.put, tkS]
  refine tkA (i := 7) (v := ?_) rfl ?_ ?_
  rotate_left
  · (intro wS hSw; (try dsimp only at hSw); go_simp <;> with_reducible rfl)
  try simp only [Act.put, tkS]
  refine tkA (i := 8) (v := ?_) rfl ?_ ?_
  rotate_left
  · (intro wS hSw; (try dsimp only at hSw); go_simp <;> with_reducible rfl)
  try simp only [Act.put, tkS]
  refine wpAnyH_ready (rs := [9]) (by kernel_rfl) (by simp) (AllReadyH.cons rfl (fun K hK => ?_) AllReadyH.nil)
  go_simp
  (go_at_call 58; refine (PA.out _ BW5.out).mono ?_; rintro e w9 ⟨rfl, hb⟩; have BW9 : Hid (BoxD 43 w w9 #[.int .i64 6, .string ⟨tb.toArray⟩, .string ⟨nm.toArray⟩, .slice a3 wh.length c3, .slice a4 row.length c4, .slice a5 mu.length c5, .slice a6 cs.length c6, .bool un]) := hb; clear hb)
  refine hK.out _ _ ?_ (fun hHeld => ?_)
  · (exact CE.out _ (by first | exact HB1.out | exact HB1.out.drew | exact BW4.out | exact BW5.out | exact BW9.out))
  clear hK K
  try simp only [Act.put, tkS]
  refine tkA (i := 10) (v := ?_) rfl ?_ ?_
  rotate_left
  · (intro wS hSw; (try dsimp only at hSw); go_simp <;> with_reducible rfl)
  try simp only [Act.put, tkS]
  refine tkA (i := 11) (v := ?_) rfl ?_ ?_
  rotate_left
  · (intro wS hSw; (try dsimp only at hSw); go_simp <;> with_reducible rfl)
  try simp only [Act.put, tkS]
  refine wpAnyH_done (by kernel_rfl) ?_ _
  go_wp2_with fail
  go_ret
  exact ⟨ret_b HR.out.symm, BW9.out.2⟩
set_option maxRecDepth 100000 in
set_option maxHeartbeats 12800000 in
theorem opOKi_7 (tb nm : List UInt8) (wh : List CondV) (row : List SetV) (mu : List MutV) (cs : List (List UInt8)) (un : Bool) (a3 : Option Addr) (c3 : Nat) (a4 : Option Addr) (c4 : Nat) (a5 : Option Addr) (c5 : Nat) (a6 : Option Addr) (c6 : Nat) (B : Nat → Prop) (w : World) (h1 : tb.length ≤ maxLen) (h2 : nm.length ≤ maxLen) (h3 : (dCondS wh).le maxLen) (h4 : (dSetS row).le maxLen) (h5 : (dMutS mu).le maxLen) (h6 : (dStringS cs).le maxLen)
    (r3 : Rd w B (dCondS wh) (.slice a3 wh.length c3)) (r4 : Rd w B (dSetS row) (.slice a4 row.length c4)) (r5 : Rd w B (dMutS mu) (.slice a5 mu.length c5)) (r6 : Rd w B (dStringS cs) (.slice a6 cs.length c6)) :
    Calls Tryz.prog 26 #[.agg #[.int .i64 7, .string ⟨tb.toArray⟩, .string ⟨nm.toArray⟩, .slice a3 wh.length c3, .slice a4 row.length c4, .slice a5 mu.length c5, .slice a6 cs.length c6, .bool un]] w fun e w' => e = .returned (.bool (opB ⟨7, tb, nm, wh, row, mu, cs, un⟩)) ∧ Below w.heap.size w w' := by
  have OF : Hid (∀ W, BoxD 43 w W #[.int .i64 7, .string ⟨tb.toArray⟩, .string ⟨nm.toArray⟩, .slice a3 wh.length c3, .slice a4 row.length c4, .slice a5 mu.length c5, .slice a6 cs.length c6, .bool un] → Calls Tryz.prog 27 #[.agg #[.int .i64 7, .string ⟨tb.toArray⟩, .string ⟨nm.toArray⟩, .slice a3 wh.length c3, .slice a4 row.length c4, .slice a5 mu.length c5, .slice a6 cs.length c6, .bool un]] W fun e w' => e = .returned (.tuple #[.iface 129 (.agg #[]), .bool true]) ∧ BoxD 43 w w' #[.int .i64 7, .string ⟨tb.toArray⟩, .string ⟨nm.toArray⟩, .slice a3 wh.length c3, .slice a4 row.length c4, .slice a5 mu.length c5, .slice a6 cs.length c6, .bool un]) := fun W h => (opOf7 tb nm wh row mu cs un a3 c3 a4 c4 a5 c5 a6 c6 W).mono (fun _ _ ⟨he, hB⟩ => ⟨he, h.later hB⟩)
  have OM : Hid (∀ W, BoxD 43 w W #[.int .i64 7, .string ⟨tb.toArray⟩, .string ⟨nm.toArray⟩, .slice a3 wh.length c3, .slice a4 row.length c4, .slice a5 mu.length c5, .slice a6 cs.length c6, .bool un] → Calls Tryz.prog 161 #[.agg #[]] W fun e w' => e = .returned (.agg #[.int .i64 7, .string ⟨#[]⟩, .string ⟨#[]⟩, .slice none 0 0, .slice none 0 0, .slice none 0 0, .slice none 0 0, .bool false]) ∧ BoxD 43 w w' #[.int .i64 7, .string ⟨tb.toArray⟩, .string ⟨nm.toArray⟩, .slice a3 wh.length c3, .slice a4 row.length c4, .slice a5 mu.length c5, .slice a6 cs.length c6, .bool un]) := fun W h => (opM7  W).mono (fun _ _ ⟨he, hB⟩ => ⟨he, h.later hB⟩)
  have SA : Hid (∀ W, BoxD 43 w W #[.int .i64 7, .string ⟨tb.toArray⟩, .string ⟨nm.toArray⟩, .slice a3 wh.length c3, .slice a4 row.length c4, .slice a5 mu.length c5, .slice a6 cs.length c6, .bool un] → Calls Tryz.prog 57 #[.agg #[.int .i64 7, .string ⟨tb.toArray⟩, .string ⟨nm.toArray⟩, .slice a3 wh.length c3, .slice a4 row.length c4, .slice a5 mu.length c5, .slice a6 cs.length c6, .bool un], .agg #[.int .i64 7, .string ⟨#[]⟩, .string ⟨#[]⟩, .slice none 0 0, .slice none 0 0, .slice none 0 0, .slice none 0 0, .bool false]] W fun e w' => e = .returned (.bool (sameB tb nm un wh.length row.length mu.length cs.length [] [] false 0 0 0 0)) ∧ BoxD 43 w w' #[.int .i64 7, .string ⟨tb.toArray⟩, .string ⟨nm.toArray⟩, .slice a3 wh.length c3, .slice a4 row.length c4, .slice a5 mu.length c5, .slice a6 cs.length c6, .bool un]) := fun W h => (sameI 7 tb nm un wh.length row.length mu.length cs.length a3 c3 a4 c4 a5 c5 a6 c6 7 [] [] false 0 0 0 0 none 0 none 0 none 0 none 0 W).mono (fun _ _ ⟨he, hB⟩ => ⟨he, h.later hB⟩)
  have PA : Hid (∀ W, BoxD 43 w W #[.int .i64 7, .string ⟨tb.toArray⟩, .string ⟨nm.toArray⟩, .slice a3 wh.length c3, .slice a4 row.length c4, .slice a5 mu.length c5, .slice a6 cs.length c6, .bool un] → Calls Tryz.prog 58 #[.agg #[.int .i64 7, .string ⟨tb.toArray⟩, .string ⟨nm.toArray⟩, .slice a3 wh.length c3, .slice a4 row.length c4, .slice a5 mu.length c5, .slice a6 cs.length c6, .bool un]] W fun e w' => e = .returned (.bool (partsB tb nm wh row mu cs)) ∧ BoxD 43 w w' #[.int .i64 7, .string ⟨tb.toArray⟩, .string ⟨nm.toArray⟩, .slice a3 wh.length c3, .slice a4 row.length c4, .slice a5 mu.length c5, .slice a6 cs.length c6, .bool un]) := fun W h => (partsI 7 tb nm wh row mu cs un a3 c3 a4 c4 a5 c5 a6 c6 B W h1 h2 h3 h4 h5 h6 (r3.later h.2) (r4.later h.2) (r5.later h.2) (r6.later h.2)).mono (fun _ _ ⟨he, hB⟩ => ⟨he, h.later hB⟩)
  have HE := Lib.hid (op_kind7 tb nm wh row mu cs un)
  generalize opB ⟨7, tb, nm, wh, row, mu, cs, un⟩ = ob at *
  generalize sameB tb nm un wh.length row.length mu.length cs.length [] [] false 0 0 0 0 = sb at *
  generalize partsB tb nm wh row mu cs = pb at *
  have hb := boxD 43 w #[.int .i64 7, .string ⟨tb.toArray⟩, .string ⟨nm.toArray⟩, .slice a3 wh.length c3, .slice a4 row.length c4, .slice a5 mu.length c5, .slice a6 cs.length c6, .bool un]
  have HB := Lib.hid hb
  have x0 := cell_at (o := 0) hb.1 rfl
  have x1 := cell_at (o := 1) hb.1 rfl
  have x2 := cell_at (o := 2) hb.1 rfl
  have x3 := cell_at (o := 3) hb.1 rfl
  have x4 := cell_at (o := 4) hb.1 rfl
  have x5 := cell_at (o := 5) hb.1 rfl
  have x6 := cell_at (o := 6) hb.1 rfl
  have x7 := cell_at (o := 7) hb.1 rfl
  clear hb h1 h2 h3 h4 h5 h6 r3 r4 r5 r6
  have CE : Hid (∀ W, BoxD 43 w W #[.int .i64 7, .string ⟨tb.toArray⟩, .string ⟨nm.toArray⟩, .slice a3 wh.length c3, .slice a4 row.length c4, .slice a5 mu.length c5, .slice a6 cs.length c6, .bool un] → W.cell? ⟨w.heap.size, 0, none⟩ = some (.int .i64 7) ∧ W.cell? ⟨w.heap.size, 1, none⟩ = some (.string ⟨tb.toArray⟩) ∧ W.cell? ⟨w.heap.size, 2, none⟩ = some (.string ⟨nm.toArray⟩) ∧ W.cell? ⟨w.heap.size, 3, none⟩ = some (.slice a3 wh.length c3) ∧ W.cell? ⟨w.heap.size, 4, none⟩ = some (.slice a4 row.length c4) ∧ W.cell? ⟨w.heap.size, 5, none⟩ = some (.slice a5 mu.length c5) ∧ W.cell? ⟨w.heap.size, 6, none⟩ = some (.slice a6 cs.length c6) ∧ W.cell? ⟨w.heap.size, 7, none⟩ = some (.bool un)) := fun W h => ⟨cell_at (o := 0) h.1 rfl, cell_at (o := 1) h.1 rfl, cell_at (o := 2) h.1 rfl, cell_at (o := 3) h.1 rfl, cell_at (o := 4) h.1 rfl, cell_at (o := 5) h.1 rfl, cell_at (o := 6) h.1 rfl, cell_at (o := 7) h.1 rfl⟩
  cases sb
  case false =>
    have HR : Hid (ob = false) := by show ob = false; rw [HE.out]; rfl
    clear HE
    go_enter Tryz.func26, Tryz.ntmps26
    go_wp2_with fail
    refine (OF.out _ HB.out).mono ?_
    rintro e w1 ⟨rfl, hb⟩
    have HB1 := Lib.hid hb
    clear hb x0 x1 x2 x3 x4 x5 x6 x7
    go_wp2_with fail
    refine wp_region_held_drew (S := (fun W => W.cell? ⟨w.heap.size, 0, none⟩ = some (.int .i64 7) ∧ W.cell? ⟨w.heap.size, 1, none⟩ = some (.string ⟨tb.toArray⟩) ∧ W.cell? ⟨w.heap.size, 2, none⟩ = some (.string ⟨nm.toArray⟩) ∧ W.cell? ⟨w.heap.size, 3, none⟩ = some (.slice a3 wh.length c3) ∧ W.cell? ⟨w.heap.size, 4, none⟩ = some (.slice a4 row.length c4) ∧ W.cell? ⟨w.heap.size, 5, none⟩ = some (.slice a5 mu.length c5) ∧ W.cell? ⟨w.heap.size, 6, none⟩ = some (.slice a6 cs.length c6) ∧ W.cell? ⟨w.heap.size, 7, none⟩ = some (.bool un))) (by kernel_rfl) ?_ (fun hHeld => ?_)
    · (exact CE.out _ (by first | exact HB1.out | exact HB1.out.drew | exact BW4.out | exact BW5.out | exact BW9.out))
    refine tkA (i := 0) (v := ?_) rfl ?_ ?_
    rotate_left
    · (intro wS hSw; (try dsimp only at hSw); go_simp <;> with_reducible rfl)
    try simp only [Act.put, tkS]
    refine tkA (i := 1) (v := ?_) rfl ?_ ?_
    rotate_left
    · (intro wS hSw; (try dsimp only at hSw); go_simp <;> with_reducible rfl)
    try simp only [Act.put, tkS]
    refine tkA (i := 2) (v := ?_) rfl ?_ ?_
    rotate_left
    · (intro wS hSw; (try dsimp only at hSw); go_simp <;> with_reducible rfl)
    try simp only [Act.put, tkS]
    refine tkA (i := 3) (v := ?_) rfl ?_ ?_
    rotate_left
    · (intro wS hSw; (try dsimp only at hSw); go_simp <;> with_reducible rfl)
    try simp only [Act.put, tkS]
    refine wpAnyH_ready (rs := [4]) (by kernel_rfl) (by simp) (AllReadyH.cons rfl (fun K hK => ?_) AllReadyH.nil)
    go_simp
    (go_invoke; go_simp; go_at_call 161; refine (OM.out _ (by first | exact HB1.out | exact HB1.out.drew)).mono ?_; rintro e w4 ⟨rfl, hb⟩; have BW4 : Hid (BoxD 43 w w4 #[.int .i64 7, .string ⟨tb.toArray⟩, .string ⟨nm.toArray⟩, .slice a3 wh.length c3, .slice a4 row.length c4, .slice a5 mu.length c5, .slice a6 cs.length c6, .bool un]) := hb; clear hb)
    refine hK.out _ _ ?_ (fun hHeld => ?_)
    · (exact CE.out _ (by first | exact HB1.out | exact HB1.out.drew | exact BW4.out | exact BW5.out | exact BW9.out))
    clear hK K
    try simp only [Act.put, tkS]
    refine wpAnyH_ready (rs := [5]) (by kernel_rfl) (by simp) (AllReadyH.cons rfl (fun K hK => ?_) AllReadyH.nil)
    go_simp
    (go_at_call 57; refine (SA.out _ BW4.out).mono ?_; rintro e w5 ⟨rfl, hb⟩; have BW5 : Hid (BoxD 43 w w5 #[.int .i64 7, .string ⟨tb.toArray⟩, .string ⟨nm.toArray⟩, .slice a3 wh.length c3, .slice a4 row.length c4, .slice a5 mu.length c5, .slice a6 cs.length c6, .bool un]) := hb; clear hb)
    refine hK.out _ _ ?_ (fun hHeld => ?_)
    · (exact CE.out _ (by first | exact HB1.out | exact HB1.out.drew | exact BW4.out | exact BW5.out | exact BW9.out))
    clear hK K
    try simp only [Act.put, tkS]
    refine tkA (i := 6) (v := ?_) rfl ?_ ?_
    rotate_left
    · (intro wS hSw; (try dsimp only at hSw); go_simp <;> with_reducible rfl)
    try simp only [Act.put, tkS]
    refine tkA (i := 7) (v := ?_) rfl ?_ ?_
    rotate_left
    · (intro wS hSw; (try dsimp only at hSw); go_simp <;> with_reducible rfl)
    try simp only [Act.put, tkS]
    refine tkU (i := 8) rfl ?_
    try simp only [Act.put, tkS]
    refine tkU (i := 9) rfl ?_
    try simp only [Act.put, tkS]
    refine tkA (i := 10) (v := ?_) rfl ?_ ?_
    rotate_left
    · (intro wS hSw; (try dsimp only at hSw); go_simp <;> with_reducible rfl)
    try simp only [Act.put, tkS]
    refine tkA (i := 11) (v := ?_) rfl ?_ ?_
    rotate_left
    · (intro wS hSw; (try dsimp only at hSw); go_simp <;> with_reducible rfl)
    try simp only [Act.put, tkS]
    refine wpAnyH_done (by kernel_rfl) ?_ _
    go_wp2_with fail
    go_ret
    exact ⟨ret_b HR.out.symm, BW5.out.2⟩
  have HR : Hid (ob = pb) := by show ob = pb; rw [HE.out]; rfl
  clear HE
  go_enter Tryz.func26, Tryz.ntmps26
  go_wp2_with fail
  refine (OF.out _ HB.out).mono ?_
  rintro e w1 ⟨rfl, hb⟩
  have HB1 := Lib.hid hb
  clear hb x0 x1 x2 x3 x4 x5 x6 x7
  go_wp2_with fail
  refine wp_region_held_drew (S := (fun W => W.cell? ⟨w.heap.size, 0, none⟩ = some (.int .i64 7) ∧ W.cell? ⟨w.heap.size, 1, none⟩ = some (.string ⟨tb.toArray⟩) ∧ W.cell? ⟨w.heap.size, 2, none⟩ = some (.string ⟨nm.toArray⟩) ∧ W.cell? ⟨w.heap.size, 3, none⟩ = some (.slice a3 wh.length c3) ∧ W.cell? ⟨w.heap.size, 4, none⟩ = some (.slice a4 row.length c4) ∧ W.cell? ⟨w.heap.size, 5, none⟩ = some (.slice a5 mu.length c5) ∧ W.cell? ⟨w.heap.size, 6, none⟩ = some (.slice a6 cs.length c6) ∧ W.cell? ⟨w.heap.size, 7, none⟩ = some (.bool un))) (by kernel_rfl) ?_ (fun hHeld => ?_)
  · (exact CE.out _ (by first | exact HB1.out | exact HB1.out.drew | exact BW4.out | exact BW5.out | exact BW9.out))
  refine tkA (i := 0) (v := ?_) rfl ?_ ?_
  rotate_left
  · (intro wS hSw; (try dsimp only at hSw); go_simp <;> with_reducible rfl)
  try simp only [Act.put, tkS]
  refine tkA (i := 1) (v := ?_) rfl ?_ ?_
  rotate_left
  · (intro wS hSw; (try dsimp only at hSw); go_simp <;> with_reducible rfl)
  try simp only [Act.put, tkS]
  refine tkA (i := 2) (v := ?_) rfl ?_ ?_
  rotate_left
  · (intro wS hSw; (try dsimp only at hSw); go_simp <;> with_reducible rfl)
  try simp only [Act.put, tkS]
  refine tkA (i := 3) (v := ?_) rfl ?_ ?_
  rotate_left
  · (intro wS hSw; (try dsimp only at hSw); go_simp <;> with_reducible rfl)
  try simp only [Act.put, tkS]
  refine wpAnyH_ready (rs := [4]) (by kernel_rfl) (by simp) (AllReadyH.cons rfl (fun K hK => ?_) AllReadyH.nil)
  go_simp
  (go_invoke; go_simp; go_at_call 161; refine (OM.out _ (by first | exact HB1.out | exact HB1.out.drew)).mono ?_; rintro e w4 ⟨rfl, hb⟩; have BW4 : Hid (BoxD 43 w w4 #[.int .i64 7, .string ⟨tb.toArray⟩, .string ⟨nm.toArray⟩, .slice a3 wh.length c3, .slice a4 row.length c4, .slice a5 mu.length c5, .slice a6 cs.length c6, .bool un]) := hb; clear hb)
  refine hK.out _ _ ?_ (fun hHeld => ?_)
  · (exact CE.out _ (by first | exact HB1.out | exact HB1.out.drew | exact BW4.out | exact BW5.out | exact BW9.out))
  clear hK K
  try simp only [Act.put, tkS]
  refine wpAnyH_ready (rs := [5]) (by kernel_rfl) (by simp) (AllReadyH.cons rfl (fun K hK => ?_) AllReadyH.nil)
  go_simp
  (go_at_call 57; refine (SA.out _ BW4.out).mono ?_; rintro e w5 ⟨rfl, hb⟩; have BW5 : Hid (BoxD 43 w w5 #[.int .i64 7, .string ⟨tb.toArray⟩, .string ⟨nm.toArray⟩, .slice a3 wh.length c3, .slice a4 row.length c4, .slice a5 mu.length c5, .slice a6 cs.length c6, .bool un]) := hb; clear hb)
  refine hK.out _ _ ?_ (fun hHeld => ?_)
  · (exact CE.out _ (by first | exact HB1.out | exact HB1.out.drew | exact BW4.out | exact BW5.out | exact BW9.out))
  clear hK K
  try simp only [Act.put, tkS]
  refine tkA (i := 6) (v := ?_) rfl ?_ ?_
  rotate_left
  · (intro wS hSw; (try dsimp only at hSw); go_simp <;> with_reducible rfl)
  try simp only [Act.put, tkS]
  refine tkA (i := 7) (v := ?_) rfl ?_ ?_
  rotate_left
  · (intro wS hSw; (try dsimp only at hSw); go_simp <;> with_reducible rfl)
  try simp only [Act.put, tkS]
  refine tkA (i := 8) (v := ?_) rfl ?_ ?_
  rotate_left
  · (intro wS hSw; (try dsimp only at hSw); go_simp <;> with_reducible rfl)
  try simp only [Act.put, tkS]
  refine wpAnyH_ready (rs := [9]) (by kernel_rfl) (by simp) (AllReadyH.cons rfl (fun K hK => ?_) AllReadyH.nil)
  go_simp
  (go_at_call 58; refine (PA.out _ BW5.out).mono ?_; rintro e w9 ⟨rfl, hb⟩; have BW9 : Hid (BoxD 43 w w9 #[.int .i64 7, .string ⟨tb.toArray⟩, .string ⟨nm.toArray⟩, .slice a3 wh.length c3, .slice a4 row.length c4, .slice a5 mu.length c5, .slice a6 cs.length c6, .bool un]) := hb; clear hb)
  refine hK.out _ _ ?_ (fun hHeld => ?_)
  · (exact CE.out _ (by first | exact HB1.out | exact HB1.out.drew | exact BW4.out | exact BW5.out | exact BW9.out))
  clear hK K
  try simp only [Act.put, tkS]
  refine tkA (i := 10) (v := ?_) rfl ?_ ?_
  rotate_left
  · (intro wS hSw; (try dsimp only at hSw); go_simp <;> with_reducible rfl)
  try simp only [Act.put, tkS]
  refine tkA (i := 11) (v := ?_) rfl ?_ ?_
  rotate_left
  · (intro wS hSw; (try dsimp only at hSw); go_simp <;> with_reducible rfl)
  try simp only [Act.put, tkS]
  refine wpAnyH_done (by kernel_rfl) ?_ _
  go_wp2_with fail
  go_ret
  exact ⟨ret_b HR.out.symm, BW9.out.2⟩
set_option maxRecDepth 100000 in
set_option maxHeartbeats 12800000 in
theorem opOKi_8 (tb nm : List UInt8) (wh : List CondV) (row : List SetV) (mu : List MutV) (cs : List (List UInt8)) (un : Bool) (a3 : Option Addr) (c3 : Nat) (a4 : Option Addr) (c4 : Nat) (a5 : Option Addr) (c5 : Nat) (a6 : Option Addr) (c6 : Nat) (B : Nat → Prop) (w : World) (h1 : tb.length ≤ maxLen) (h2 : nm.length ≤ maxLen) (h3 : (dCondS wh).le maxLen) (h4 : (dSetS row).le maxLen) (h5 : (dMutS mu).le maxLen) (h6 : (dStringS cs).le maxLen)
    (r3 : Rd w B (dCondS wh) (.slice a3 wh.length c3)) (r4 : Rd w B (dSetS row) (.slice a4 row.length c4)) (r5 : Rd w B (dMutS mu) (.slice a5 mu.length c5)) (r6 : Rd w B (dStringS cs) (.slice a6 cs.length c6)) :
    Calls Tryz.prog 26 #[.agg #[.int .i64 8, .string ⟨tb.toArray⟩, .string ⟨nm.toArray⟩, .slice a3 wh.length c3, .slice a4 row.length c4, .slice a5 mu.length c5, .slice a6 cs.length c6, .bool un]] w fun e w' => e = .returned (.bool (opB ⟨8, tb, nm, wh, row, mu, cs, un⟩)) ∧ Below w.heap.size w w' := by
  have OF : Hid (∀ W, BoxD 43 w W #[.int .i64 8, .string ⟨tb.toArray⟩, .string ⟨nm.toArray⟩, .slice a3 wh.length c3, .slice a4 row.length c4, .slice a5 mu.length c5, .slice a6 cs.length c6, .bool un] → Calls Tryz.prog 27 #[.agg #[.int .i64 8, .string ⟨tb.toArray⟩, .string ⟨nm.toArray⟩, .slice a3 wh.length c3, .slice a4 row.length c4, .slice a5 mu.length c5, .slice a6 cs.length c6, .bool un]] W fun e w' => e = .returned (.tuple #[.iface 130 (.agg #[]), .bool true]) ∧ BoxD 43 w w' #[.int .i64 8, .string ⟨tb.toArray⟩, .string ⟨nm.toArray⟩, .slice a3 wh.length c3, .slice a4 row.length c4, .slice a5 mu.length c5, .slice a6 cs.length c6, .bool un]) := fun W h => (opOf8 tb nm wh row mu cs un a3 c3 a4 c4 a5 c5 a6 c6 W).mono (fun _ _ ⟨he, hB⟩ => ⟨he, h.later hB⟩)
  have OM : Hid (∀ W, BoxD 43 w W #[.int .i64 8, .string ⟨tb.toArray⟩, .string ⟨nm.toArray⟩, .slice a3 wh.length c3, .slice a4 row.length c4, .slice a5 mu.length c5, .slice a6 cs.length c6, .bool un] → Calls Tryz.prog 162 #[.agg #[]] W fun e w' => e = .returned (.agg #[.int .i64 8, .string ⟨#[]⟩, .string ⟨#[]⟩, .slice none 0 0, .slice none 0 0, .slice none 0 0, .slice none 0 0, .bool false]) ∧ BoxD 43 w w' #[.int .i64 8, .string ⟨tb.toArray⟩, .string ⟨nm.toArray⟩, .slice a3 wh.length c3, .slice a4 row.length c4, .slice a5 mu.length c5, .slice a6 cs.length c6, .bool un]) := fun W h => (opM8  W).mono (fun _ _ ⟨he, hB⟩ => ⟨he, h.later hB⟩)
  have SA : Hid (∀ W, BoxD 43 w W #[.int .i64 8, .string ⟨tb.toArray⟩, .string ⟨nm.toArray⟩, .slice a3 wh.length c3, .slice a4 row.length c4, .slice a5 mu.length c5, .slice a6 cs.length c6, .bool un] → Calls Tryz.prog 57 #[.agg #[.int .i64 8, .string ⟨tb.toArray⟩, .string ⟨nm.toArray⟩, .slice a3 wh.length c3, .slice a4 row.length c4, .slice a5 mu.length c5, .slice a6 cs.length c6, .bool un], .agg #[.int .i64 8, .string ⟨#[]⟩, .string ⟨#[]⟩, .slice none 0 0, .slice none 0 0, .slice none 0 0, .slice none 0 0, .bool false]] W fun e w' => e = .returned (.bool (sameB tb nm un wh.length row.length mu.length cs.length [] [] false 0 0 0 0)) ∧ BoxD 43 w w' #[.int .i64 8, .string ⟨tb.toArray⟩, .string ⟨nm.toArray⟩, .slice a3 wh.length c3, .slice a4 row.length c4, .slice a5 mu.length c5, .slice a6 cs.length c6, .bool un]) := fun W h => (sameI 8 tb nm un wh.length row.length mu.length cs.length a3 c3 a4 c4 a5 c5 a6 c6 8 [] [] false 0 0 0 0 none 0 none 0 none 0 none 0 W).mono (fun _ _ ⟨he, hB⟩ => ⟨he, h.later hB⟩)
  have PA : Hid (∀ W, BoxD 43 w W #[.int .i64 8, .string ⟨tb.toArray⟩, .string ⟨nm.toArray⟩, .slice a3 wh.length c3, .slice a4 row.length c4, .slice a5 mu.length c5, .slice a6 cs.length c6, .bool un] → Calls Tryz.prog 58 #[.agg #[.int .i64 8, .string ⟨tb.toArray⟩, .string ⟨nm.toArray⟩, .slice a3 wh.length c3, .slice a4 row.length c4, .slice a5 mu.length c5, .slice a6 cs.length c6, .bool un]] W fun e w' => e = .returned (.bool (partsB tb nm wh row mu cs)) ∧ BoxD 43 w w' #[.int .i64 8, .string ⟨tb.toArray⟩, .string ⟨nm.toArray⟩, .slice a3 wh.length c3, .slice a4 row.length c4, .slice a5 mu.length c5, .slice a6 cs.length c6, .bool un]) := fun W h => (partsI 8 tb nm wh row mu cs un a3 c3 a4 c4 a5 c5 a6 c6 B W h1 h2 h3 h4 h5 h6 (r3.later h.2) (r4.later h.2) (r5.later h.2) (r6.later h.2)).mono (fun _ _ ⟨he, hB⟩ => ⟨he, h.later hB⟩)
  have HE := Lib.hid (op_kind8 tb nm wh row mu cs un)
  generalize opB ⟨8, tb, nm, wh, row, mu, cs, un⟩ = ob at *
  generalize sameB tb nm un wh.length row.length mu.length cs.length [] [] false 0 0 0 0 = sb at *
  generalize partsB tb nm wh row mu cs = pb at *
  have hb := boxD 43 w #[.int .i64 8, .string ⟨tb.toArray⟩, .string ⟨nm.toArray⟩, .slice a3 wh.length c3, .slice a4 row.length c4, .slice a5 mu.length c5, .slice a6 cs.length c6, .bool un]
  have HB := Lib.hid hb
  have x0 := cell_at (o := 0) hb.1 rfl
  have x1 := cell_at (o := 1) hb.1 rfl
  have x2 := cell_at (o := 2) hb.1 rfl
  have x3 := cell_at (o := 3) hb.1 rfl
  have x4 := cell_at (o := 4) hb.1 rfl
  have x5 := cell_at (o := 5) hb.1 rfl
  have x6 := cell_at (o := 6) hb.1 rfl
  have x7 := cell_at (o := 7) hb.1 rfl
  clear hb h1 h2 h3 h4 h5 h6 r3 r4 r5 r6
  have CE : Hid (∀ W, BoxD 43 w W #[.int .i64 8, .string ⟨tb.toArray⟩, .string ⟨nm.toArray⟩, .slice a3 wh.length c3, .slice a4 row.length c4, .slice a5 mu.length c5, .slice a6 cs.length c6, .bool un] → W.cell? ⟨w.heap.size, 0, none⟩ = some (.int .i64 8) ∧ W.cell? ⟨w.heap.size, 1, none⟩ = some (.string ⟨tb.toArray⟩) ∧ W.cell? ⟨w.heap.size, 2, none⟩ = some (.string ⟨nm.toArray⟩) ∧ W.cell? ⟨w.heap.size, 3, none⟩ = some (.slice a3 wh.length c3) ∧ W.cell? ⟨w.heap.size, 4, none⟩ = some (.slice a4 row.length c4) ∧ W.cell? ⟨w.heap.size, 5, none⟩ = some (.slice a5 mu.length c5) ∧ W.cell? ⟨w.heap.size, 6, none⟩ = some (.slice a6 cs.length c6) ∧ W.cell? ⟨w.heap.size, 7, none⟩ = some (.bool un)) := fun W h => ⟨cell_at (o := 0) h.1 rfl, cell_at (o := 1) h.1 rfl, cell_at (o := 2) h.1 rfl, cell_at (o := 3) h.1 rfl, cell_at (o := 4) h.1 rfl, cell_at (o := 5) h.1 rfl, cell_at (o := 6) h.1 rfl, cell_at (o := 7) h.1 rfl⟩
  cases sb
  case false =>
    have HR : Hid (ob = false) := by show ob = false; rw [HE.out]; rfl
    clear HE
    go_enter Tryz.func26, Tryz.ntmps26
    go_wp2_with fail
    refine (OF.out _ HB.out).mono ?_
    rintro e w1 ⟨rfl, hb⟩
    have HB1 := Lib.hid hb
    clear hb x0 x1 x2 x3 x4 x5 x6 x7
    go_wp2_with fail
    refine wp_region_held_drew (S := (fun W => W.cell? ⟨w.heap.size, 0, none⟩ = some (.int .i64 8) ∧ W.cell? ⟨w.heap.size, 1, none⟩ = some (.string ⟨tb.toArray⟩) ∧ W.cell? ⟨w.heap.size, 2, none⟩ = some (.string ⟨nm.toArray⟩) ∧ W.cell? ⟨w.heap.size, 3, none⟩ = some (.slice a3 wh.length c3) ∧ W.cell? ⟨w.heap.size, 4, none⟩ = some (.slice a4 row.length c4) ∧ W.cell? ⟨w.heap.size, 5, none⟩ = some (.slice a5 mu.length c5) ∧ W.cell? ⟨w.heap.size, 6, none⟩ = some (.slice a6 cs.length c6) ∧ W.cell? ⟨w.heap.size, 7, none⟩ = some (.bool un))) (by kernel_rfl) ?_ (fun hHeld => ?_)
    · (exact CE.out _ (by first | exact HB1.out | exact HB1.out.drew | exact BW4.out | exact BW5.out | exact BW9.out))
    refine tkA (i := 0) (v := ?_) rfl ?_ ?_
    rotate_left
    · (intro wS hSw; (try dsimp only at hSw); go_simp <;> with_reducible rfl)
    try simp only [Act.put, tkS]
    refine tkA (i := 1) (v := ?_) rfl ?_ ?_
    rotate_left
    · (intro wS hSw; (try dsimp only at hSw); go_simp <;> with_reducible rfl)
    try simp only [Act.put, tkS]
    refine tkA (i := 2) (v := ?_) rfl ?_ ?_
    rotate_left
    · (intro wS hSw; (try dsimp only at hSw); go_simp <;> with_reducible rfl)
    try simp only [Act.put, tkS]
    refine tkA (i := 3) (v := ?_) rfl ?_ ?_
    rotate_left
    · (intro wS hSw; (try dsimp only at hSw); go_simp <;> with_reducible rfl)
    try simp only [Act.put, tkS]
    refine wpAnyH_ready (rs := [4]) (by kernel_rfl) (by simp) (AllReadyH.cons rfl (fun K hK => ?_) AllReadyH.nil)
    go_simp
    (go_invoke; go_simp; go_at_call 162; refine (OM.out _ (by first | exact HB1.out | exact HB1.out.drew)).mono ?_; rintro e w4 ⟨rfl, hb⟩; have BW4 : Hid (BoxD 43 w w4 #[.int .i64 8, .string ⟨tb.toArray⟩, .string ⟨nm.toArray⟩, .slice a3 wh.length c3, .slice a4 row.length c4, .slice a5 mu.length c5, .slice a6 cs.length c6, .bool un]) := hb; clear hb)
    refine hK.out _ _ ?_ (fun hHeld => ?_)
    · (exact CE.out _ (by first | exact HB1.out | exact HB1.out.drew | exact BW4.out | exact BW5.out | exact BW9.out))
    clear hK K
    try simp only [Act.put, tkS]
    refine wpAnyH_ready (rs := [5]) (by kernel_rfl) (by simp) (AllReadyH.cons rfl (fun K hK => ?_) AllReadyH.nil)
    go_simp
    (go_at_call 57; refine (SA.out _ BW4.out).mono ?_; rintro e w5 ⟨rfl, hb⟩; have BW5 : Hid (BoxD 43 w w5 #[.int .i64 8, .string ⟨tb.toArray⟩, .string ⟨nm.toArray⟩, .slice a3 wh.length c3, .slice a4 row.length c4, .slice a5 mu.length c5, .slice a6 cs.length c6, .bool un]) := hb; clear hb)
    refine hK.out _ _ ?_ (fun hHeld => ?_)
    · (exact CE.out _ (by first | exact HB1.out | exact HB1.out.drew | exact BW4.out | exact BW5.out | exact BW9.out))
    clear hK K
    try simp only [Act.put, tkS]
    refine tkA (i := 6) (v := ?_) rfl ?_ ?_
    rotate_left
    · (intro wS hSw; (try dsimp only at hSw); go_simp <;> with_reducible rfl)
    try simp only [Act.put, tkS]
    refine tkA (i := 7) (v := ?_) rfl ?_ ?_
    rotate_left
    · (intro wS hSw; (try dsimp only at hSw); go_simp <;> with_reducible rfl)
    try simp only [Act.put, tkS]
    refine tkU (i := 8) rfl ?_
    try simp only [Act.put, tkS]
    refine tkU (i := 9) rfl ?_
    try simp only [Act.put, tkS]
    refine tkA (i := 10) (v := ?_) rfl ?_ ?_
    rotate_left
    · (intro wS hSw; (try dsimp only at hSw); go_simp <;> with_reducible rfl)
    try simp only [Act.put, tkS]
    refine tkA (i := 11) (v := ?_) rfl ?_ ?_
    rotate_left
    · (intro wS hSw; (try dsimp only at hSw); go_simp <;> with_reducible rfl)
    try simp only [Act.put, tkS]
    refine wpAnyH_done (by kernel_rfl) ?_ _
    go_wp2_with fail
    go_ret
    exact ⟨ret_b HR.out.symm, BW5.out.2⟩
  have HR : Hid (ob = pb) := by show ob = pb; rw [HE.out]; rfl
  clear HE
  go_enter Tryz.func26, Tryz.ntmps26
  go_wp2_with fail
  refine (OF.out _ HB.out).mono ?_
  rintro e w1 ⟨rfl, hb⟩
  have HB1 := Lib.hid hb
  clear hb x0 x1 x2 x3 x4 x5 x6 x7
  go_wp2_with fail
  refine wp_region_held_drew (S := (fun W => W.cell? ⟨w.heap.size, 0, none⟩ = some (.int .i64 8) ∧ W.cell? ⟨w.heap.size, 1, none⟩ = some (.string ⟨tb.toArray⟩) ∧ W.cell? ⟨w.heap.size, 2, none⟩ = some (.string ⟨nm.toArray⟩) ∧ W.cell? ⟨w.heap.size, 3, none⟩ = some (.slice a3 wh.length c3) ∧ W.cell? ⟨w.heap.size, 4, none⟩ = some (.slice a4 row.length c4) ∧ W.cell? ⟨w.heap.size, 5, none⟩ = some (.slice a5 mu.length c5) ∧ W.cell? ⟨w.heap.size, 6, none⟩ = some (.slice a6 cs.length c6) ∧ W.cell? ⟨w.heap.size, 7, none⟩ = some (.bool un))) (by kernel_rfl) ?_ (fun hHeld => ?_)
  · (exact CE.out _ (by first | exact HB1.out | exact HB1.out.drew | exact BW4.out | exact BW5.out | exact BW9.out))
  refine tkA (i := 0) (v := ?_) rfl ?_ ?_
  rotate_left
  · (intro wS hSw; (try dsimp only at hSw); go_simp <;> with_reducible rfl)
  try simp only [Act.put, tkS]
  refine tkA (i := 1) (v := ?_) rfl ?_ ?_
  rotate_left
  · (intro wS hSw; (try dsimp only at hSw); go_simp <;> with_reducible rfl)
  try simp only [Act.put, tkS]
  refine tkA (i := 2) (v := ?_) rfl ?_ ?_
  rotate_left
  · (intro wS hSw; (try dsimp only at hSw); go_simp <;> with_reducible rfl)
  try simp only [Act.put, tkS]
  refine tkA (i := 3) (v := ?_) rfl ?_ ?_
  rotate_left
  · (intro wS hSw; (try dsimp only at hSw); go_simp <;> with_reducible rfl)
  try simp only [Act.put, tkS]
  refine wpAnyH_ready (rs := [4]) (by kernel_rfl) (by simp) (AllReadyH.cons rfl (fun K hK => ?_) AllReadyH.nil)
  go_simp
  (go_invoke; go_simp; go_at_call 162; refine (OM.out _ (by first | exact HB1.out | exact HB1.out.drew)).mono ?_; rintro e w4 ⟨rfl, hb⟩; have BW4 : Hid (BoxD 43 w w4 #[.int .i64 8, .string ⟨tb.toArray⟩, .string ⟨nm.toArray⟩, .slice a3 wh.length c3, .slice a4 row.length c4, .slice a5 mu.length c5, .slice a6 cs.length c6, .bool un]) := hb; clear hb)
  refine hK.out _ _ ?_ (fun hHeld => ?_)
  · (exact CE.out _ (by first | exact HB1.out | exact HB1.out.drew | exact BW4.out | exact BW5.out | exact BW9.out))
  clear hK K
  try simp only [Act.put, tkS]
  refine wpAnyH_ready (rs := [5]) (by kernel_rfl) (by simp) (AllReadyH.cons rfl (fun K hK => ?_) AllReadyH.nil)
  go_simp
  (go_at_call 57; refine (SA.out _ BW4.out).mono ?_; rintro e w5 ⟨rfl, hb⟩; have BW5 : Hid (BoxD 43 w w5 #[.int .i64 8, .string ⟨tb.toArray⟩, .string ⟨nm.toArray⟩, .slice a3 wh.length c3, .slice a4 row.length c4, .slice a5 mu.length c5, .slice a6 cs.length c6, .bool un]) := hb; clear hb)
  refine hK.out _ _ ?_ (fun hHeld => ?_)
  · (exact CE.out _ (by first | exact HB1.out | exact HB1.out.drew | exact BW4.out | exact BW5.out | exact BW9.out))
  clear hK K
  try simp only [Act.put, tkS]
  refine tkA (i := 6) (v := ?_) rfl ?_ ?_
  rotate_left
  · (intro wS hSw; (try dsimp only at hSw); go_simp <;> with_reducible rfl)
  try simp only [Act.put, tkS]
  refine tkA (i := 7) (v := ?_) rfl ?_ ?_
  rotate_left
  · (intro wS hSw; (try dsimp only at hSw); go_simp <;> with_reducible rfl)
  try simp only [Act.put, tkS]
  refine tkA (i := 8) (v := ?_) rfl ?_ ?_
  rotate_left
  · (intro wS hSw; (try dsimp only at hSw); go_simp <;> with_reducible rfl)
  try simp only [Act.put, tkS]
  refine wpAnyH_ready (rs := [9]) (by kernel_rfl) (by simp) (AllReadyH.cons rfl (fun K hK => ?_) AllReadyH.nil)
  go_simp
  (go_at_call 58; refine (PA.out _ BW5.out).mono ?_; rintro e w9 ⟨rfl, hb⟩; have BW9 : Hid (BoxD 43 w w9 #[.int .i64 8, .string ⟨tb.toArray⟩, .string ⟨nm.toArray⟩, .slice a3 wh.length c3, .slice a4 row.length c4, .slice a5 mu.length c5, .slice a6 cs.length c6, .bool un]) := hb; clear hb)
  refine hK.out _ _ ?_ (fun hHeld => ?_)
  · (exact CE.out _ (by first | exact HB1.out | exact HB1.out.drew | exact BW4.out | exact BW5.out | exact BW9.out))
  clear hK K
  try simp only [Act.put, tkS]
  refine tkA (i := 10) (v := ?_) rfl ?_ ?_
  rotate_left
  · (intro wS hSw; (try dsimp only at hSw); go_simp <;> with_reducible rfl)
  try simp only [Act.put, tkS]
  refine tkA (i := 11) (v := ?_) rfl ?_ ?_
  rotate_left
  · (intro wS hSw; (try dsimp only at hSw); go_simp <;> with_reducible rfl)
  try simp only [Act.put, tkS]
  refine wpAnyH_done (by kernel_rfl) ?_ _
  go_wp2_with fail
  go_ret
  exact ⟨ret_b HR.out.symm, BW9.out.2⟩
set_option maxRecDepth 100000 in
set_option maxHeartbeats 12800000 in
theorem opOKi_9 (tb nm : List UInt8) (wh : List CondV) (row : List SetV) (mu : List MutV) (cs : List (List UInt8)) (un : Bool) (a3 : Option Addr) (c3 : Nat) (a4 : Option Addr) (c4 : Nat) (a5 : Option Addr) (c5 : Nat) (a6 : Option Addr) (c6 : Nat) (B : Nat → Prop) (w : World) (h1 : tb.length ≤ maxLen) (h2 : nm.length ≤ maxLen) (h3 : (dCondS wh).le maxLen) (h4 : (dSetS row).le maxLen) (h5 : (dMutS mu).le maxLen) (h6 : (dStringS cs).le maxLen)
    (r3 : Rd w B (dCondS wh) (.slice a3 wh.length c3)) (r4 : Rd w B (dSetS row) (.slice a4 row.length c4)) (r5 : Rd w B (dMutS mu) (.slice a5 mu.length c5)) (r6 : Rd w B (dStringS cs) (.slice a6 cs.length c6)) :
    Calls Tryz.prog 26 #[.agg #[.int .i64 9, .string ⟨tb.toArray⟩, .string ⟨nm.toArray⟩, .slice a3 wh.length c3, .slice a4 row.length c4, .slice a5 mu.length c5, .slice a6 cs.length c6, .bool un]] w fun e w' => e = .returned (.bool (opB ⟨9, tb, nm, wh, row, mu, cs, un⟩)) ∧ Below w.heap.size w w' := by
  have OF : Hid (∀ W, BoxD 43 w W #[.int .i64 9, .string ⟨tb.toArray⟩, .string ⟨nm.toArray⟩, .slice a3 wh.length c3, .slice a4 row.length c4, .slice a5 mu.length c5, .slice a6 cs.length c6, .bool un] → Calls Tryz.prog 27 #[.agg #[.int .i64 9, .string ⟨tb.toArray⟩, .string ⟨nm.toArray⟩, .slice a3 wh.length c3, .slice a4 row.length c4, .slice a5 mu.length c5, .slice a6 cs.length c6, .bool un]] W fun e w' => e = .returned (.tuple #[.iface 132 (.agg #[.string ⟨nm.toArray⟩]), .bool true]) ∧ BoxD 43 w w' #[.int .i64 9, .string ⟨tb.toArray⟩, .string ⟨nm.toArray⟩, .slice a3 wh.length c3, .slice a4 row.length c4, .slice a5 mu.length c5, .slice a6 cs.length c6, .bool un]) := fun W h => (opOf9 tb nm wh row mu cs un a3 c3 a4 c4 a5 c5 a6 c6 W).mono (fun _ _ ⟨he, hB⟩ => ⟨he, h.later hB⟩)
  have OM : Hid (∀ W, BoxD 43 w W #[.int .i64 9, .string ⟨tb.toArray⟩, .string ⟨nm.toArray⟩, .slice a3 wh.length c3, .slice a4 row.length c4, .slice a5 mu.length c5, .slice a6 cs.length c6, .bool un] → Calls Tryz.prog 163 #[.agg #[.string ⟨nm.toArray⟩]] W fun e w' => e = .returned (.agg #[.int .i64 9, .string ⟨#[]⟩, .string ⟨nm.toArray⟩, .slice none 0 0, .slice none 0 0, .slice none 0 0, .slice none 0 0, .bool false]) ∧ BoxD 43 w w' #[.int .i64 9, .string ⟨tb.toArray⟩, .string ⟨nm.toArray⟩, .slice a3 wh.length c3, .slice a4 row.length c4, .slice a5 mu.length c5, .slice a6 cs.length c6, .bool un]) := fun W h => (opM9 nm W).mono (fun _ _ ⟨he, hB⟩ => ⟨he, h.later hB⟩)
  have SA : Hid (∀ W, BoxD 43 w W #[.int .i64 9, .string ⟨tb.toArray⟩, .string ⟨nm.toArray⟩, .slice a3 wh.length c3, .slice a4 row.length c4, .slice a5 mu.length c5, .slice a6 cs.length c6, .bool un] → Calls Tryz.prog 57 #[.agg #[.int .i64 9, .string ⟨tb.toArray⟩, .string ⟨nm.toArray⟩, .slice a3 wh.length c3, .slice a4 row.length c4, .slice a5 mu.length c5, .slice a6 cs.length c6, .bool un], .agg #[.int .i64 9, .string ⟨#[]⟩, .string ⟨nm.toArray⟩, .slice none 0 0, .slice none 0 0, .slice none 0 0, .slice none 0 0, .bool false]] W fun e w' => e = .returned (.bool (sameB tb nm un wh.length row.length mu.length cs.length [] nm false 0 0 0 0)) ∧ BoxD 43 w w' #[.int .i64 9, .string ⟨tb.toArray⟩, .string ⟨nm.toArray⟩, .slice a3 wh.length c3, .slice a4 row.length c4, .slice a5 mu.length c5, .slice a6 cs.length c6, .bool un]) := fun W h => (sameI 9 tb nm un wh.length row.length mu.length cs.length a3 c3 a4 c4 a5 c5 a6 c6 9 [] nm false 0 0 0 0 none 0 none 0 none 0 none 0 W).mono (fun _ _ ⟨he, hB⟩ => ⟨he, h.later hB⟩)
  have PA : Hid (∀ W, BoxD 43 w W #[.int .i64 9, .string ⟨tb.toArray⟩, .string ⟨nm.toArray⟩, .slice a3 wh.length c3, .slice a4 row.length c4, .slice a5 mu.length c5, .slice a6 cs.length c6, .bool un] → Calls Tryz.prog 58 #[.agg #[.int .i64 9, .string ⟨tb.toArray⟩, .string ⟨nm.toArray⟩, .slice a3 wh.length c3, .slice a4 row.length c4, .slice a5 mu.length c5, .slice a6 cs.length c6, .bool un]] W fun e w' => e = .returned (.bool (partsB tb nm wh row mu cs)) ∧ BoxD 43 w w' #[.int .i64 9, .string ⟨tb.toArray⟩, .string ⟨nm.toArray⟩, .slice a3 wh.length c3, .slice a4 row.length c4, .slice a5 mu.length c5, .slice a6 cs.length c6, .bool un]) := fun W h => (partsI 9 tb nm wh row mu cs un a3 c3 a4 c4 a5 c5 a6 c6 B W h1 h2 h3 h4 h5 h6 (r3.later h.2) (r4.later h.2) (r5.later h.2) (r6.later h.2)).mono (fun _ _ ⟨he, hB⟩ => ⟨he, h.later hB⟩)
  have HE := Lib.hid (op_kind9 tb nm wh row mu cs un)
  generalize opB ⟨9, tb, nm, wh, row, mu, cs, un⟩ = ob at *
  generalize sameB tb nm un wh.length row.length mu.length cs.length [] nm false 0 0 0 0 = sb at *
  generalize partsB tb nm wh row mu cs = pb at *
  have hb := boxD 43 w #[.int .i64 9, .string ⟨tb.toArray⟩, .string ⟨nm.toArray⟩, .slice a3 wh.length c3, .slice a4 row.length c4, .slice a5 mu.length c5, .slice a6 cs.length c6, .bool un]
  have HB := Lib.hid hb
  have x0 := cell_at (o := 0) hb.1 rfl
  have x1 := cell_at (o := 1) hb.1 rfl
  have x2 := cell_at (o := 2) hb.1 rfl
  have x3 := cell_at (o := 3) hb.1 rfl
  have x4 := cell_at (o := 4) hb.1 rfl
  have x5 := cell_at (o := 5) hb.1 rfl
  have x6 := cell_at (o := 6) hb.1 rfl
  have x7 := cell_at (o := 7) hb.1 rfl
  clear hb h1 h2 h3 h4 h5 h6 r3 r4 r5 r6
  have CE : Hid (∀ W, BoxD 43 w W #[.int .i64 9, .string ⟨tb.toArray⟩, .string ⟨nm.toArray⟩, .slice a3 wh.length c3, .slice a4 row.length c4, .slice a5 mu.length c5, .slice a6 cs.length c6, .bool un] → W.cell? ⟨w.heap.size, 0, none⟩ = some (.int .i64 9) ∧ W.cell? ⟨w.heap.size, 1, none⟩ = some (.string ⟨tb.toArray⟩) ∧ W.cell? ⟨w.heap.size, 2, none⟩ = some (.string ⟨nm.toArray⟩) ∧ W.cell? ⟨w.heap.size, 3, none⟩ = some (.slice a3 wh.length c3) ∧ W.cell? ⟨w.heap.size, 4, none⟩ = some (.slice a4 row.length c4) ∧ W.cell? ⟨w.heap.size, 5, none⟩ = some (.slice a5 mu.length c5) ∧ W.cell? ⟨w.heap.size, 6, none⟩ = some (.slice a6 cs.length c6) ∧ W.cell? ⟨w.heap.size, 7, none⟩ = some (.bool un)) := fun W h => ⟨cell_at (o := 0) h.1 rfl, cell_at (o := 1) h.1 rfl, cell_at (o := 2) h.1 rfl, cell_at (o := 3) h.1 rfl, cell_at (o := 4) h.1 rfl, cell_at (o := 5) h.1 rfl, cell_at (o := 6) h.1 rfl, cell_at (o := 7) h.1 rfl⟩
  cases sb
  case false =>
    have HR : Hid (ob = false) := by show ob = false; rw [HE.out]; rfl
    clear HE
    go_enter Tryz.func26, Tryz.ntmps26
    go_wp2_with fail
    refine (OF.out _ HB.out).mono ?_
    rintro e w1 ⟨rfl, hb⟩
    have HB1 := Lib.hid hb
    clear hb x0 x1 x2 x3 x4 x5 x6 x7
    go_wp2_with fail
    refine wp_region_held_drew (S := (fun W => W.cell? ⟨w.heap.size, 0, none⟩ = some (.int .i64 9) ∧ W.cell? ⟨w.heap.size, 1, none⟩ = some (.string ⟨tb.toArray⟩) ∧ W.cell? ⟨w.heap.size, 2, none⟩ = some (.string ⟨nm.toArray⟩) ∧ W.cell? ⟨w.heap.size, 3, none⟩ = some (.slice a3 wh.length c3) ∧ W.cell? ⟨w.heap.size, 4, none⟩ = some (.slice a4 row.length c4) ∧ W.cell? ⟨w.heap.size, 5, none⟩ = some (.slice a5 mu.length c5) ∧ W.cell? ⟨w.heap.size, 6, none⟩ = some (.slice a6 cs.length c6) ∧ W.cell? ⟨w.heap.size, 7, none⟩ = some (.bool un))) (by kernel_rfl) ?_ (fun hHeld => ?_)
    · (exact CE.out _ (by first | exact HB1.out | exact HB1.out.drew | exact BW4.out | exact BW5.out | exact BW9.out))
    refine tkA (i := 0) (v := ?_) rfl ?_ ?_
    rotate_left
    · (intro wS hSw; (try dsimp only at hSw); go_simp <;> with_reducible rfl)
    try simp only [Act.put, tkS]
    refine tkA (i := 1) (v := ?_) rfl ?_ ?_
    rotate_left
    · (intro wS hSw; (try dsimp only at hSw); go_simp <;> with_reducible rfl)
    try simp only [Act.put, tkS]
    refine tkA (i := 2) (v := ?_) rfl ?_ ?_
    rotate_left
    · (intro wS hSw; (try dsimp only at hSw); go_simp <;> with_reducible rfl)
    try simp only [Act.put, tkS]
    refine tkA (i := 3) (v := ?_) rfl ?_ ?_
    rotate_left
    · (intro wS hSw; (try dsimp only at hSw); go_simp <;> with_reducible rfl)
    try simp only [Act.put, tkS]
    refine wpAnyH_ready (rs := [4]) (by kernel_rfl) (by simp) (AllReadyH.cons rfl (fun K hK => ?_) AllReadyH.nil)
    go_simp
    (go_invoke; go_simp; go_at_call 163; refine (OM.out _ (by first | exact HB1.out | exact HB1.out.drew)).mono ?_; rintro e w4 ⟨rfl, hb⟩; have BW4 : Hid (BoxD 43 w w4 #[.int .i64 9, .string ⟨tb.toArray⟩, .string ⟨nm.toArray⟩, .slice a3 wh.length c3, .slice a4 row.length c4, .slice a5 mu.length c5, .slice a6 cs.length c6, .bool un]) := hb; clear hb)
    refine hK.out _ _ ?_ (fun hHeld => ?_)
    · (exact CE.out _ (by first | exact HB1.out | exact HB1.out.drew | exact BW4.out | exact BW5.out | exact BW9.out))
    clear hK K
    try simp only [Act.put, tkS]
    refine wpAnyH_ready (rs := [5]) (by kernel_rfl) (by simp) (AllReadyH.cons rfl (fun K hK => ?_) AllReadyH.nil)
    go_simp
    (go_at_call 57; refine (SA.out _ BW4.out).mono ?_; rintro e w5 ⟨rfl, hb⟩; have BW5 : Hid (BoxD 43 w w5 #[.int .i64 9, .string ⟨tb.toArray⟩, .string ⟨nm.toArray⟩, .slice a3 wh.length c3, .slice a4 row.length c4, .slice a5 mu.length c5, .slice a6 cs.length c6, .bool un]) := hb; clear hb)
    refine hK.out _ _ ?_ (fun hHeld => ?_)
    · (exact CE.out _ (by first | exact HB1.out | exact HB1.out.drew | exact BW4.out | exact BW5.out | exact BW9.out))
    clear hK K
    try simp only [Act.put, tkS]
    refine tkA (i := 6) (v := ?_) rfl ?_ ?_
    rotate_left
    · (intro wS hSw; (try dsimp only at hSw); go_simp <;> with_reducible rfl)
    try simp only [Act.put, tkS]
    refine tkA (i := 7) (v := ?_) rfl ?_ ?_
    rotate_left
    · (intro wS hSw; (try dsimp only at hSw); go_simp <;> with_reducible rfl)
    try simp only [Act.put, tkS]
    refine tkU (i := 8) rfl ?_
    try simp only [Act.put, tkS]
    refine tkU (i := 9) rfl ?_
    try simp only [Act.put, tkS]
    refine tkA (i := 10) (v := ?_) rfl ?_ ?_
    rotate_left
    · (intro wS hSw; (try dsimp only at hSw); go_simp <;> with_reducible rfl)
    try simp only [Act.put, tkS]
    refine tkA (i := 11) (v := ?_) rfl ?_ ?_
    rotate_left
    · (intro wS hSw; (try dsimp only at hSw); go_simp <;> with_reducible rfl)
    try simp only [Act.put, tkS]
    refine wpAnyH_done (by kernel_rfl) ?_ _
    go_wp2_with fail
    go_ret
    exact ⟨ret_b HR.out.symm, BW5.out.2⟩
  have HR : Hid (ob = pb) := by show ob = pb; rw [HE.out]; rfl
  clear HE
  go_enter Tryz.func26, Tryz.ntmps26
  go_wp2_with fail
  refine (OF.out _ HB.out).mono ?_
  rintro e w1 ⟨rfl, hb⟩
  have HB1 := Lib.hid hb
  clear hb x0 x1 x2 x3 x4 x5 x6 x7
  go_wp2_with fail
  refine wp_region_held_drew (S := (fun W => W.cell? ⟨w.heap.size, 0, none⟩ = some (.int .i64 9) ∧ W.cell? ⟨w.heap.size, 1, none⟩ = some (.string ⟨tb.toArray⟩) ∧ W.cell? ⟨w.heap.size, 2, none⟩ = some (.string ⟨nm.toArray⟩) ∧ W.cell? ⟨w.heap.size, 3, none⟩ = some (.slice a3 wh.length c3) ∧ W.cell? ⟨w.heap.size, 4, none⟩ = some (.slice a4 row.length c4) ∧ W.cell? ⟨w.heap.size, 5, none⟩ = some (.slice a5 mu.length c5) ∧ W.cell? ⟨w.heap.size, 6, none⟩ = some (.slice a6 cs.length c6) ∧ W.cell? ⟨w.heap.size, 7, none⟩ = some (.bool un))) (by kernel_rfl) ?_ (fun hHeld => ?_)
  · (exact CE.out _ (by first | exact HB1.out | exact HB1.out.drew | exact BW4.out | exact BW5.out | exact BW9.out))
  refine tkA (i := 0) (v := ?_) rfl ?_ ?_
  rotate_left
  · (intro wS hSw; (try dsimp only at hSw); go_simp <;> with_reducible rfl)
  try simp only [Act.put, tkS]
  refine tkA (i := 1) (v := ?_) rfl ?_ ?_
  rotate_left
  · (intro wS hSw; (try dsimp only at hSw); go_simp <;> with_reducible rfl)
  try simp only [Act.put, tkS]
  refine tkA (i := 2) (v := ?_) rfl ?_ ?_
  rotate_left
  · (intro wS hSw; (try dsimp only at hSw); go_simp <;> with_reducible rfl)
  try simp only [Act.put, tkS]
  refine tkA (i := 3) (v := ?_) rfl ?_ ?_
  rotate_left
  · (intro wS hSw; (try dsimp only at hSw); go_simp <;> with_reducible rfl)
  try simp only [Act.put, tkS]
  refine wpAnyH_ready (rs := [4]) (by kernel_rfl) (by simp) (AllReadyH.cons rfl (fun K hK => ?_) AllReadyH.nil)
  go_simp
  (go_invoke; go_simp; go_at_call 163; refine (OM.out _ (by first | exact HB1.out | exact HB1.out.drew)).mono ?_; rintro e w4 ⟨rfl, hb⟩; have BW4 : Hid (BoxD 43 w w4 #[.int .i64 9, .string ⟨tb.toArray⟩, .string ⟨nm.toArray⟩, .slice a3 wh.length c3, .slice a4 row.length c4, .slice a5 mu.length c5, .slice a6 cs.length c6, .bool un]) := hb; clear hb)
  refine hK.out _ _ ?_ (fun hHeld => ?_)
  · (exact CE.out _ (by first | exact HB1.out | exact HB1.out.drew | exact BW4.out | exact BW5.out | exact BW9.out))
  clear hK K
  try simp only [Act.put, tkS]
  refine wpAnyH_ready (rs := [5]) (by kernel_rfl) (by simp) (AllReadyH.cons rfl (fun K hK => ?_) AllReadyH.nil)
  go_simp
  (go_at_call 57; refine (SA.out _ BW4.out).mono ?_; rintro e w5 ⟨rfl, hb⟩; have BW5 : Hid (BoxD 43 w w5 #[.int .i64 9, .string ⟨tb.toArray⟩, .string ⟨nm.toArray⟩, .slice a3 wh.length c3, .slice a4 row.length c4, .slice a5 mu.length c5, .slice a6 cs.length c6, .bool un]) := hb; clear hb)
  refine hK.out _ _ ?_ (fun hHeld => ?_)
  · (exact CE.out _ (by first | exact HB1.out | exact HB1.out.drew | exact BW4.out | exact BW5.out | exact BW9.out))
  clear hK K
  try simp only [Act.put, tkS]
  refine tkA (i := 6) (v := ?_) rfl ?_ ?_
  rotate_left
  · (intro wS hSw; (try dsimp only at hSw); go_simp <;> with_reducible rfl)
  try simp only [Act.put, tkS]
  refine tkA (i := 7) (v := ?_) rfl ?_ ?_
  rotate_left
  · (intro wS hSw; (try dsimp only at hSw); go_simp <;> with_reducible rfl)
  try simp only [Act.put, tkS]
  refine tkA (i := 8) (v := ?_) rfl ?_ ?_
  rotate_left
  · (intro wS hSw; (try dsimp only at hSw); go_simp <;> with_reducible rfl)
  try simp only [Act.put, tkS]
  refine wpAnyH_ready (rs := [9]) (by kernel_rfl) (by simp) (AllReadyH.cons rfl (fun K hK => ?_) AllReadyH.nil)
  go_simp
  (go_at_call 58; refine (PA.out _ BW5.out).mono ?_; rintro e w9 ⟨rfl, hb⟩; have BW9 : Hid (BoxD 43 w w9 #[.int .i64 9, .string ⟨tb.toArray⟩, .string ⟨nm.toArray⟩, .slice a3 wh.length c3, .slice a4 row.length c4, .slice a5 mu.length c5, .slice a6 cs.length c6, .bool un]) := hb; clear hb)
  refine hK.out _ _ ?_ (fun hHeld => ?_)
  · (exact CE.out _ (by first | exact HB1.out | exact HB1.out.drew | exact BW4.out | exact BW5.out | exact BW9.out))
  clear hK K
  try simp only [Act.put, tkS]
  refine tkA (i := 10) (v := ?_) rfl ?_ ?_
  rotate_left
  · (intro wS hSw; (try dsimp only at hSw); go_simp <;> with_reducible rfl)
  try simp only [Act.put, tkS]
  refine tkA (i := 11) (v := ?_) rfl ?_ ?_
  rotate_left
  · (intro wS hSw; (try dsimp only at hSw); go_simp <;> with_reducible rfl)
  try simp only [Act.put, tkS]
  refine wpAnyH_done (by kernel_rfl) ?_ _
  go_wp2_with fail
  go_ret
  exact ⟨ret_b HR.out.symm, BW9.out.2⟩
set_option maxRecDepth 100000 in
set_option maxHeartbeats 12800000 in
theorem opOKi_10 (tb nm : List UInt8) (wh : List CondV) (row : List SetV) (mu : List MutV) (cs : List (List UInt8)) (un : Bool) (a3 : Option Addr) (c3 : Nat) (a4 : Option Addr) (c4 : Nat) (a5 : Option Addr) (c5 : Nat) (a6 : Option Addr) (c6 : Nat) (B : Nat → Prop) (w : World) (h1 : tb.length ≤ maxLen) (h2 : nm.length ≤ maxLen) (h3 : (dCondS wh).le maxLen) (h4 : (dSetS row).le maxLen) (h5 : (dMutS mu).le maxLen) (h6 : (dStringS cs).le maxLen)
    (r3 : Rd w B (dCondS wh) (.slice a3 wh.length c3)) (r4 : Rd w B (dSetS row) (.slice a4 row.length c4)) (r5 : Rd w B (dMutS mu) (.slice a5 mu.length c5)) (r6 : Rd w B (dStringS cs) (.slice a6 cs.length c6)) :
    Calls Tryz.prog 26 #[.agg #[.int .i64 10, .string ⟨tb.toArray⟩, .string ⟨nm.toArray⟩, .slice a3 wh.length c3, .slice a4 row.length c4, .slice a5 mu.length c5, .slice a6 cs.length c6, .bool un]] w fun e w' => e = .returned (.bool (opB ⟨10, tb, nm, wh, row, mu, cs, un⟩)) ∧ Below w.heap.size w w' := by
  have OF : Hid (∀ W, BoxD 43 w W #[.int .i64 10, .string ⟨tb.toArray⟩, .string ⟨nm.toArray⟩, .slice a3 wh.length c3, .slice a4 row.length c4, .slice a5 mu.length c5, .slice a6 cs.length c6, .bool un] → Calls Tryz.prog 27 #[.agg #[.int .i64 10, .string ⟨tb.toArray⟩, .string ⟨nm.toArray⟩, .slice a3 wh.length c3, .slice a4 row.length c4, .slice a5 mu.length c5, .slice a6 cs.length c6, .bool un]] W fun e w' => e = .returned (.tuple #[.iface 134 (.agg #[.string ⟨nm.toArray⟩]), .bool true]) ∧ BoxD 43 w w' #[.int .i64 10, .string ⟨tb.toArray⟩, .string ⟨nm.toArray⟩, .slice a3 wh.length c3, .slice a4 row.length c4, .slice a5 mu.length c5, .slice a6 cs.length c6, .bool un]) := fun W h => (opOf10 tb nm wh row mu cs un a3 c3 a4 c4 a5 c5 a6 c6 W).mono (fun _ _ ⟨he, hB⟩ => ⟨he, h.later hB⟩)
  have OM : Hid (∀ W, BoxD 43 w W #[.int .i64 10, .string ⟨tb.toArray⟩, .string ⟨nm.toArray⟩, .slice a3 wh.length c3, .slice a4 row.length c4, .slice a5 mu.length c5, .slice a6 cs.length c6, .bool un] → Calls Tryz.prog 164 #[.agg #[.string ⟨nm.toArray⟩]] W fun e w' => e = .returned (.agg #[.int .i64 10, .string ⟨#[]⟩, .string ⟨nm.toArray⟩, .slice none 0 0, .slice none 0 0, .slice none 0 0, .slice none 0 0, .bool false]) ∧ BoxD 43 w w' #[.int .i64 10, .string ⟨tb.toArray⟩, .string ⟨nm.toArray⟩, .slice a3 wh.length c3, .slice a4 row.length c4, .slice a5 mu.length c5, .slice a6 cs.length c6, .bool un]) := fun W h => (opM10 nm W).mono (fun _ _ ⟨he, hB⟩ => ⟨he, h.later hB⟩)
  have SA : Hid (∀ W, BoxD 43 w W #[.int .i64 10, .string ⟨tb.toArray⟩, .string ⟨nm.toArray⟩, .slice a3 wh.length c3, .slice a4 row.length c4, .slice a5 mu.length c5, .slice a6 cs.length c6, .bool un] → Calls Tryz.prog 57 #[.agg #[.int .i64 10, .string ⟨tb.toArray⟩, .string ⟨nm.toArray⟩, .slice a3 wh.length c3, .slice a4 row.length c4, .slice a5 mu.length c5, .slice a6 cs.length c6, .bool un], .agg #[.int .i64 10, .string ⟨#[]⟩, .string ⟨nm.toArray⟩, .slice none 0 0, .slice none 0 0, .slice none 0 0, .slice none 0 0, .bool false]] W fun e w' => e = .returned (.bool (sameB tb nm un wh.length row.length mu.length cs.length [] nm false 0 0 0 0)) ∧ BoxD 43 w w' #[.int .i64 10, .string ⟨tb.toArray⟩, .string ⟨nm.toArray⟩, .slice a3 wh.length c3, .slice a4 row.length c4, .slice a5 mu.length c5, .slice a6 cs.length c6, .bool un]) := fun W h => (sameI 10 tb nm un wh.length row.length mu.length cs.length a3 c3 a4 c4 a5 c5 a6 c6 10 [] nm false 0 0 0 0 none 0 none 0 none 0 none 0 W).mono (fun _ _ ⟨he, hB⟩ => ⟨he, h.later hB⟩)
  have PA : Hid (∀ W, BoxD 43 w W #[.int .i64 10, .string ⟨tb.toArray⟩, .string ⟨nm.toArray⟩, .slice a3 wh.length c3, .slice a4 row.length c4, .slice a5 mu.length c5, .slice a6 cs.length c6, .bool un] → Calls Tryz.prog 58 #[.agg #[.int .i64 10, .string ⟨tb.toArray⟩, .string ⟨nm.toArray⟩, .slice a3 wh.length c3, .slice a4 row.length c4, .slice a5 mu.length c5, .slice a6 cs.length c6, .bool un]] W fun e w' => e = .returned (.bool (partsB tb nm wh row mu cs)) ∧ BoxD 43 w w' #[.int .i64 10, .string ⟨tb.toArray⟩, .string ⟨nm.toArray⟩, .slice a3 wh.length c3, .slice a4 row.length c4, .slice a5 mu.length c5, .slice a6 cs.length c6, .bool un]) := fun W h => (partsI 10 tb nm wh row mu cs un a3 c3 a4 c4 a5 c5 a6 c6 B W h1 h2 h3 h4 h5 h6 (r3.later h.2) (r4.later h.2) (r5.later h.2) (r6.later h.2)).mono (fun _ _ ⟨he, hB⟩ => ⟨he, h.later hB⟩)
  have HE := Lib.hid (op_kind10 tb nm wh row mu cs un)
  generalize opB ⟨10, tb, nm, wh, row, mu, cs, un⟩ = ob at *
  generalize sameB tb nm un wh.length row.length mu.length cs.length [] nm false 0 0 0 0 = sb at *
  generalize partsB tb nm wh row mu cs = pb at *
  have hb := boxD 43 w #[.int .i64 10, .string ⟨tb.toArray⟩, .string ⟨nm.toArray⟩, .slice a3 wh.length c3, .slice a4 row.length c4, .slice a5 mu.length c5, .slice a6 cs.length c6, .bool un]
  have HB := Lib.hid hb
  have x0 := cell_at (o := 0) hb.1 rfl
  have x1 := cell_at (o := 1) hb.1 rfl
  have x2 := cell_at (o := 2) hb.1 rfl
  have x3 := cell_at (o := 3) hb.1 rfl
  have x4 := cell_at (o := 4) hb.1 rfl
  have x5 := cell_at (o := 5) hb.1 rfl
  have x6 := cell_at (o := 6) hb.1 rfl
  have x7 := cell_at (o := 7) hb.1 rfl
  clear hb h1 h2 h3 h4 h5 h6 r3 r4 r5 r6
  have CE : Hid (∀ W, BoxD 43 w W #[.int .i64 10, .string ⟨tb.toArray⟩, .string ⟨nm.toArray⟩, .slice a3 wh.length c3, .slice a4 row.length c4, .slice a5 mu.length c5, .slice a6 cs.length c6, .bool un] → W.cell? ⟨w.heap.size, 0, none⟩ = some (.int .i64 10) ∧ W.cell? ⟨w.heap.size, 1, none⟩ = some (.string ⟨tb.toArray⟩) ∧ W.cell? ⟨w.heap.size, 2, none⟩ = some (.string ⟨nm.toArray⟩) ∧ W.cell? ⟨w.heap.size, 3, none⟩ = some (.slice a3 wh.length c3) ∧ W.cell? ⟨w.heap.size, 4, none⟩ = some (.slice a4 row.length c4) ∧ W.cell? ⟨w.heap.size, 5, none⟩ = some (.slice a5 mu.length c5) ∧ W.cell? ⟨w.heap.size, 6, none⟩ = some (.slice a6 cs.length c6) ∧ W.cell? ⟨w.heap.size, 7, none⟩ = some (.bool un)) := fun W h => ⟨cell_at (o := 0) h.1 rfl, cell_at (o := 1) h.1 rfl, cell_at (o := 2) h.1 rfl, cell_at (o := 3) h.1 rfl, cell_at (o := 4) h.1 rfl, cell_at (o := 5) h.1 rfl, cell_at (o := 6) h.1 rfl, cell_at (o := 7) h.1 rfl⟩
  cases sb
  case false =>
    have HR : Hid (ob = false) := by show ob = false; rw [HE.out]; rfl
    clear HE
    go_enter Tryz.func26, Tryz.ntmps26
    go_wp2_with fail
    refine (OF.out _ HB.out).mono ?_
    rintro e w1 ⟨rfl, hb⟩
    have HB1 := Lib.hid hb
    clear hb x0 x1 x2 x3 x4 x5 x6 x7
    go_wp2_with fail
    refine wp_region_held_drew (S := (fun W => W.cell? ⟨w.heap.size, 0, none⟩ = some (.int .i64 10) ∧ W.cell? ⟨w.heap.size, 1, none⟩ = some (.string ⟨tb.toArray⟩) ∧ W.cell? ⟨w.heap.size, 2, none⟩ = some (.string ⟨nm.toArray⟩) ∧ W.cell? ⟨w.heap.size, 3, none⟩ = some (.slice a3 wh.length c3) ∧ W.cell? ⟨w.heap.size, 4, none⟩ = some (.slice a4 row.length c4) ∧ W.cell? ⟨w.heap.size, 5, none⟩ = some (.slice a5 mu.length c5) ∧ W.cell? ⟨w.heap.size, 6, none⟩ = some (.slice a6 cs.length c6) ∧ W.cell? ⟨w.heap.size, 7, none⟩ = some (.bool un))) (by kernel_rfl) ?_ (fun hHeld => ?_)
    · (exact CE.out _ (by first | exact HB1.out | exact HB1.out.drew | exact BW4.out | exact BW5.out | exact BW9.out))
    refine tkA (i := 0) (v := ?_) rfl ?_ ?_
    rotate_left
    · (intro wS hSw; (try dsimp only at hSw); go_simp <;> with_reducible rfl)
    try simp only [Act.put, tkS]
    refine tkA (i := 1) (v := ?_) rfl ?_ ?_
    rotate_left
    · (intro wS hSw; (try dsimp only at hSw); go_simp <;> with_reducible rfl)
    try simp only [Act.put, tkS]
    refine tkA (i := 2) (v := ?_) rfl ?_ ?_
    rotate_left
    · (intro wS hSw; (try dsimp only at hSw); go_simp <;> with_reducible rfl)
    try simp only [Act.put, tkS]
    refine tkA (i := 3) (v := ?_) rfl ?_ ?_
    rotate_left
    · (intro wS hSw; (try dsimp only at hSw); go_simp <;> with_reducible rfl)
    try simp only [Act.put, tkS]
    refine wpAnyH_ready (rs := [4]) (by kernel_rfl) (by simp) (AllReadyH.cons rfl (fun K hK => ?_) AllReadyH.nil)
    go_simp
    (go_invoke; go_simp; go_at_call 164; refine (OM.out _ (by first | exact HB1.out | exact HB1.out.drew)).mono ?_; rintro e w4 ⟨rfl, hb⟩; have BW4 : Hid (BoxD 43 w w4 #[.int .i64 10, .string ⟨tb.toArray⟩, .string ⟨nm.toArray⟩, .slice a3 wh.length c3, .slice a4 row.length c4, .slice a5 mu.length c5, .slice a6 cs.length c6, .bool un]) := hb; clear hb)
    refine hK.out _ _ ?_ (fun hHeld => ?_)
    · (exact CE.out _ (by first | exact HB1.out | exact HB1.out.drew | exact BW4.out | exact BW5.out | exact BW9.out))
    clear hK K
    try simp only [Act.put, tkS]
    refine wpAnyH_ready (rs := [5]) (by kernel_rfl) (by simp) (AllReadyH.cons rfl (fun K hK => ?_) AllReadyH.nil)
    go_simp
    (go_at_call 57; refine (SA.out _ BW4.out).mono ?_; rintro e w5 ⟨rfl, hb⟩; have BW5 : Hid (BoxD 43 w w5 #[.int .i64 10, .string ⟨tb.toArray⟩, .string ⟨nm.toArray⟩, .slice a3 wh.length c3, .slice a4 row.length c4, .slice a5 mu.length c5, .slice a6 cs.length c6, .bool un]) := hb; clear hb)
    refine hK.out _ _ ?_ (fun hHeld => ?_)
    · (exact CE.out _ (by first | exact HB1.out | exact HB1.out.drew | exact BW4.out | exact BW5.out | exact BW9.out))
    clear hK K
    try simp only [Act.put, tkS]
    refine tkA (i := 6) (v := ?_) rfl ?_ ?_
    rotate_left
    · (intro wS hSw; (try dsimp only at hSw); go_simp <;> with_reducible rfl)
    try simp only [Act.put, tkS]
    refine tkA (i := 7) (v := ?_) rfl ?_ ?_
    rotate_left
    · (intro wS hSw; (try dsimp only at hSw); go_simp <;> with_reducible rfl)
    try simp only [Act.put, tkS]
    refine tkU (i := 8) rfl ?_
    try simp only [Act.put, tkS]
    refine tkU (i := 9) rfl ?_
    try simp only [Act.put, tkS]
    refine tkA (i := 10) (v := ?_) rfl ?_ ?_
    rotate_left
    · (intro wS hSw; (try dsimp only at hSw); go_simp <;> with_reducible rfl)
    try simp only [Act.put, tkS]
    refine tkA (i := 11) (v := ?_) rfl ?_ ?_
    rotate_left
    · (intro wS hSw; (try dsimp only at hSw); go_simp <;> with_reducible rfl)
    try simp only [Act.put, tkS]
    refine wpAnyH_done (by kernel_rfl) ?_ _
    go_wp2_with fail
    go_ret
    exact ⟨ret_b HR.out.symm, BW5.out.2⟩
  have HR : Hid (ob = pb) := by show ob = pb; rw [HE.out]; rfl
  clear HE
  go_enter Tryz.func26, Tryz.ntmps26
  go_wp2_with fail
  refine (OF.out _ HB.out).mono ?_
  rintro e w1 ⟨rfl, hb⟩
  have HB1 := Lib.hid hb
  clear hb x0 x1 x2 x3 x4 x5 x6 x7
  go_wp2_with fail
  refine wp_region_held_drew (S := (fun W => W.cell? ⟨w.heap.size, 0, none⟩ = some (.int .i64 10) ∧ W.cell? ⟨w.heap.size, 1, none⟩ = some (.string ⟨tb.toArray⟩) ∧ W.cell? ⟨w.heap.size, 2, none⟩ = some (.string ⟨nm.toArray⟩) ∧ W.cell? ⟨w.heap.size, 3, none⟩ = some (.slice a3 wh.length c3) ∧ W.cell? ⟨w.heap.size, 4, none⟩ = some (.slice a4 row.length c4) ∧ W.cell? ⟨w.heap.size, 5, none⟩ = some (.slice a5 mu.length c5) ∧ W.cell? ⟨w.heap.size, 6, none⟩ = some (.slice a6 cs.length c6) ∧ W.cell? ⟨w.heap.size, 7, none⟩ = some (.bool un))) (by kernel_rfl) ?_ (fun hHeld => ?_)
  · (exact CE.out _ (by first | exact HB1.out | exact HB1.out.drew | exact BW4.out | exact BW5.out | exact BW9.out))
  refine tkA (i := 0) (v := ?_) rfl ?_ ?_
  rotate_left
  · (intro wS hSw; (try dsimp only at hSw); go_simp <;> with_reducible rfl)
  try simp only [Act.put, tkS]
  refine tkA (i := 1) (v := ?_) rfl ?_ ?_
  rotate_left
  · (intro wS hSw; (try dsimp only at hSw); go_simp <;> with_reducible rfl)
  try simp only [Act.put, tkS]
  refine tkA (i := 2) (v := ?_) rfl ?_ ?_
  rotate_left
  · (intro wS hSw; (try dsimp only at hSw); go_simp <;> with_reducible rfl)
  try simp only [Act.put, tkS]
  refine tkA (i := 3) (v := ?_) rfl ?_ ?_
  rotate_left
  · (intro wS hSw; (try dsimp only at hSw); go_simp <;> with_reducible rfl)
  try simp only [Act.put, tkS]
  refine wpAnyH_ready (rs := [4]) (by kernel_rfl) (by simp) (AllReadyH.cons rfl (fun K hK => ?_) AllReadyH.nil)
  go_simp
  (go_invoke; go_simp; go_at_call 164; refine (OM.out _ (by first | exact HB1.out | exact HB1.out.drew)).mono ?_; rintro e w4 ⟨rfl, hb⟩; have BW4 : Hid (BoxD 43 w w4 #[.int .i64 10, .string ⟨tb.toArray⟩, .string ⟨nm.toArray⟩, .slice a3 wh.length c3, .slice a4 row.length c4, .slice a5 mu.length c5, .slice a6 cs.length c6, .bool un]) := hb; clear hb)
  refine hK.out _ _ ?_ (fun hHeld => ?_)
  · (exact CE.out _ (by first | exact HB1.out | exact HB1.out.drew | exact BW4.out | exact BW5.out | exact BW9.out))
  clear hK K
  try simp only [Act.put, tkS]
  refine wpAnyH_ready (rs := [5]) (by kernel_rfl) (by simp) (AllReadyH.cons rfl (fun K hK => ?_) AllReadyH.nil)
  go_simp
  (go_at_call 57; refine (SA.out _ BW4.out).mono ?_; rintro e w5 ⟨rfl, hb⟩; have BW5 : Hid (BoxD 43 w w5 #[.int .i64 10, .string ⟨tb.toArray⟩, .string ⟨nm.toArray⟩, .slice a3 wh.length c3, .slice a4 row.length c4, .slice a5 mu.length c5, .slice a6 cs.length c6, .bool un]) := hb; clear hb)
  refine hK.out _ _ ?_ (fun hHeld => ?_)
  · (exact CE.out _ (by first | exact HB1.out | exact HB1.out.drew | exact BW4.out | exact BW5.out | exact BW9.out))
  clear hK K
  try simp only [Act.put, tkS]
  refine tkA (i := 6) (v := ?_) rfl ?_ ?_
  rotate_left
  · (intro wS hSw; (try dsimp only at hSw); go_simp <;> with_reducible rfl)
  try simp only [Act.put, tkS]
  refine tkA (i := 7) (v := ?_) rfl ?_ ?_
  rotate_left
  · (intro wS hSw; (try dsimp only at hSw); go_simp <;> with_reducible rfl)
  try simp only [Act.put, tkS]
  refine tkA (i := 8) (v := ?_) rfl ?_ ?_
  rotate_left
  · (intro wS hSw; (try dsimp only at hSw); go_simp <;> with_reducible rfl)
  try simp only [Act.put, tkS]
  refine wpAnyH_ready (rs := [9]) (by kernel_rfl) (by simp) (AllReadyH.cons rfl (fun K hK => ?_) AllReadyH.nil)
  go_simp
  (go_at_call 58; refine (PA.out _ BW5.out).mono ?_; rintro e w9 ⟨rfl, hb⟩; have BW9 : Hid (BoxD 43 w w9 #[.int .i64 10, .string ⟨tb.toArray⟩, .string ⟨nm.toArray⟩, .slice a3 wh.length c3, .slice a4 row.length c4, .slice a5 mu.length c5, .slice a6 cs.length c6, .bool un]) := hb; clear hb)
  refine hK.out _ _ ?_ (fun hHeld => ?_)
  · (exact CE.out _ (by first | exact HB1.out | exact HB1.out.drew | exact BW4.out | exact BW5.out | exact BW9.out))
  clear hK K
  try simp only [Act.put, tkS]
  refine tkA (i := 10) (v := ?_) rfl ?_ ?_
  rotate_left
  · (intro wS hSw; (try dsimp only at hSw); go_simp <;> with_reducible rfl)
  try simp only [Act.put, tkS]
  refine tkA (i := 11) (v := ?_) rfl ?_ ?_
  rotate_left
  · (intro wS hSw; (try dsimp only at hSw); go_simp <;> with_reducible rfl)
  try simp only [Act.put, tkS]
  refine wpAnyH_done (by kernel_rfl) ?_ _
  go_wp2_with fail
  go_ret
  exact ⟨ret_b HR.out.symm, BW9.out.2⟩
theorem opOKi (kd : Int) (tb nm : List UInt8) (wh : List CondV) (row : List SetV) (mu : List MutV) (cs : List (List UInt8)) (un : Bool) (a3 : Option Addr) (c3 : Nat) (a4 : Option Addr) (c4 : Nat) (a5 : Option Addr) (c5 : Nat) (a6 : Option Addr) (c6 : Nat) (B : Nat → Prop) (w : World) (h1 : tb.length ≤ maxLen) (h2 : nm.length ≤ maxLen) (h3 : (dCondS wh).le maxLen) (h4 : (dSetS row).le maxLen) (h5 : (dMutS mu).le maxLen) (h6 : (dStringS cs).le maxLen)
    (r3 : Rd w B (dCondS wh) (.slice a3 wh.length c3)) (r4 : Rd w B (dSetS row) (.slice a4 row.length c4)) (r5 : Rd w B (dMutS mu) (.slice a5 mu.length c5)) (r6 : Rd w B (dStringS cs) (.slice a6 cs.length c6)) :
    Calls Tryz.prog 26 #[.agg #[.int .i64 kd, .string ⟨tb.toArray⟩, .string ⟨nm.toArray⟩, .slice a3 wh.length c3, .slice a4 row.length c4, .slice a5 mu.length c5, .slice a6 cs.length c6, .bool un]] w fun e w' => e = .returned (.bool (opB ⟨kd, tb, nm, wh, row, mu, cs, un⟩)) ∧ Below w.heap.size w w' := by
  cases hk : inB 1 kd 10
  case false => exact opOKi_0 kd tb nm wh row mu cs un a3 c3 a4 c4 a5 c5 a6 c6 w hk
  have hb : 1 ≤ kd ∧ kd ≤ 10 := by simpa [inB] using hk
  clear hk
  have hc : kd = 1 ∨ kd = 2 ∨ kd = 3 ∨ kd = 4 ∨ kd = 5 ∨ kd = 6 ∨ kd = 7 ∨ kd = 8 ∨ kd = 9 ∨ kd = 10 := by omega
  clear hb
  rcases hc with rfl | rfl | rfl | rfl | rfl | rfl | rfl | rfl | rfl | rfl
  · exact opOKi_1 tb nm wh row mu cs un a3 c3 a4 c4 a5 c5 a6 c6 B w h1 h2 h3 h4 h5 h6 r3 r4 r5 r6
  · exact opOKi_2 tb nm wh row mu cs un a3 c3 a4 c4 a5 c5 a6 c6 B w h1 h2 h3 h4 h5 h6 r3 r4 r5 r6
  · exact opOKi_3 tb nm wh row mu cs un a3 c3 a4 c4 a5 c5 a6 c6 B w h1 h2 h3 h4 h5 h6 r3 r4 r5 r6
  · exact opOKi_4 tb nm wh row mu cs un a3 c3 a4 c4 a5 c5 a6 c6 B w h1 h2 h3 h4 h5 h6 r3 r4 r5 r6
  · exact opOKi_5 tb nm wh row mu cs un a3 c3 a4 c4 a5 c5 a6 c6 B w h1 h2 h3 h4 h5 h6 r3 r4 r5 r6
  · exact opOKi_6 tb nm wh row mu cs un a3 c3 a4 c4 a5 c5 a6 c6 B w h1 h2 h3 h4 h5 h6 r3 r4 r5 r6
  · exact opOKi_7 tb nm wh row mu cs un a3 c3 a4 c4 a5 c5 a6 c6 B w h1 h2 h3 h4 h5 h6 r3 r4 r5 r6
  · exact opOKi_8 tb nm wh row mu cs un a3 c3 a4 c4 a5 c5 a6 c6 B w h1 h2 h3 h4 h5 h6 r3 r4 r5 r6
  · exact opOKi_9 tb nm wh row mu cs un a3 c3 a4 c4 a5 c5 a6 c6 B w h1 h2 h3 h4 h5 h6 r3 r4 r5 r6
  · exact opOKi_10 tb nm wh row mu cs un a3 c3 a4 c4 a5 c5 a6 c6 B w h1 h2 h3 h4 h5 h6 r3 r4 r5 r6
end Go.Proofs.YtaepgahejelkaaaGreat
