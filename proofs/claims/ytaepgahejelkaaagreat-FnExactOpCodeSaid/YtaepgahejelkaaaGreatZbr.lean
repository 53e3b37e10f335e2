import Derived.Test.YtaepgahejelkaaaGreatZbp
import Derived.Test.YtaepgahejelkaaaGreatZTk
namespace Go.Proofs.YtaepgahejelkaaaGreat
open Go.RowKit
set_option linter.unusedSimpArgs false
theorem or3I (a b c : Int) (W : World) : Calls Tryz.prog 60 #[.slice (some ⟨W.heap.size, 0, none⟩) 3 3] (W.alloc (.cells #[.int .i64 a, .int .i64 b, .int .i64 c] 3)) fun e w' => e = .returned (.int .i64 (orL [a, b, c])) ∧ w' = W.alloc (.cells #[.int .i64 a, .int .i64 b, .int .i64 c] 3) :=
  orI [a, b, c] W.heap.size _ (by simp) (fun k hk => by
    rcases (by simp at hk; omega : k = 0 ∨ k = 1 ∨ k = 2) with rfl | rfl | rfl
    · exact cell_at (o := 0) (heap_newD _ _) rfl
    · exact cell_at (o := 1) (heap_newD _ _) rfl
    · exact cell_at (o := 2) (heap_newD _ _) rfl)
theorem or2I (a b : Int) (W : World) : Calls Tryz.prog 60 #[.slice (some ⟨W.heap.size, 0, none⟩) 2 2] (W.alloc (.cells #[.int .i64 a, .int .i64 b] 3)) fun e w' => e = .returned (.int .i64 (orL [a, b])) ∧ w' = W.alloc (.cells #[.int .i64 a, .int .i64 b] 3) :=
  orI [a, b] W.heap.size _ (by simp) (fun k hk => by
    rcases (by simp at hk; omega : k = 0 ∨ k = 1) with rfl | rfl
    · exact cell_at (o := 0) (heap_newD _ _) rfl
    · exact cell_at (o := 1) (heap_newD _ _) rfl)
set_option maxRecDepth 100000 in
set_option maxHeartbeats 12800000 in
theorem opc1 (l : List Tb) (sa : Option Addr) (sc : Nat) (A : Nat → Prop) (tb : List UInt8) (nm : List UInt8) (row : List SetV) (a4 : Option Addr) (c4 : Nat) (B : Nat → Prop) (w : World) (hlo : (dTableS l).le maxLen) (hT : Rd w A (dTableS l) (.slice sa l.length sc)) (h2 : nm.length ≤ maxLen) (h4 : (dSetS row).le maxLen) (hq : ∀ k (h : k < row.length), setB row[k] = true) (hcap : row.length ≤ c4) (r4 : Rd w B (dSetS row) (.slice a4 row.length c4)) :
    Calls Tryz.prog 28 #[.agg #[.slice sa l.length sc], .iface 117 (.agg #[.string ⟨tb.toArray⟩, .string ⟨nm.toArray⟩, .slice a4 row.length c4])] w fun e w' => e = .returned (.int .i64 (orL [tabK l tb, nmK nm, setsC (tabN l tb) row])) ∧ Below w.heap.size w w' := by
  generalize hR : orL [tabK l tb, nmK nm, setsC (tabN l tb) row] = R
  have HR := Lib.hid hR
  clear hR
  have TC : Hid (∀ W, Below w.heap.size w W → Calls Tryz.prog 59 #[.agg #[.slice sa l.length sc], .string ⟨tb.toArray⟩] W (TcAns l tb A w W)) := fun W h => tabCalledI l tb sa sc A w W h hlo hT
  have HTO : Hid ((tabN l tb).ok) := tabN_ok hlo
  have hb := boxE 37 117 w #[.slice sa l.length sc] #[.string ⟨tb.toArray⟩, .string ⟨nm.toArray⟩, .slice a4 row.length c4]
  have x0 := cell_at (o := 0) hb.a rfl
  have y0 := cell_at (o := 0) hb.b rfl
  have y1 := cell_at (o := 1) hb.b rfl
  have y2 := cell_at (o := 2) hb.b rfl
  have HB := Lib.hid hb
  clear hb hlo hT
  have Knm : Hid (∀ (t : Tb) ca cc ua uc, ∀ pb W, OCB w W #[.slice sa l.length sc] #[.string ⟨tb.toArray⟩, .string ⟨nm.toArray⟩, .slice a4 row.length c4] 117 pb #[.string ⟨t.nm.toArray⟩, .slice ca t.cols.length cc, .slice ua t.uq.length uc, .bool t.rt] → Calls Tryz.prog 61 #[.string ⟨nm.toArray⟩] W fun e w' => e = .returned (.int .i64 (nmK nm)) ∧ OCB w w' #[.slice sa l.length sc] #[.string ⟨tb.toArray⟩, .string ⟨nm.toArray⟩, .slice a4 row.length c4] 117 pb #[.string ⟨t.nm.toArray⟩, .slice ca t.cols.length cc, .slice ua t.uq.length uc, .bool t.rt]) := fun t ca cc ua uc pb W h => (rowNameI nm W h2).mono (fun e w' ⟨he, hB⟩ => ⟨he, by rw [hB]; exact h⟩)
  have Krow : Hid (∀ (t : Tb) ca cc ua uc, t.ok → (∀ W, Below w.heap.size w W → t.Has W A ca ua) → ∀ pb W, OCB w W #[.slice sa l.length sc] #[.string ⟨tb.toArray⟩, .string ⟨nm.toArray⟩, .slice a4 row.length c4] 117 pb #[.string ⟨t.nm.toArray⟩, .slice ca t.cols.length cc, .slice ua t.uq.length uc, .bool t.rt] → Calls Tryz.prog 62 #[.agg #[.string ⟨t.nm.toArray⟩, .slice ca t.cols.length cc, .slice ua t.uq.length uc, .bool t.rt], .slice a4 row.length c4] W fun e w' => e = .returned (.int .i64 (setsC t row)) ∧ OCB w w' #[.slice sa l.length sc] #[.string ⟨tb.toArray⟩, .string ⟨nm.toArray⟩, .slice a4 row.length c4] 117 pb #[.string ⟨t.nm.toArray⟩, .slice ca t.cols.length cc, .slice ua t.uq.length uc, .bool t.rt]) := fun t ca cc ua uc hto hhW pb W h => have hh := hhW W h.bel; (rowCodeI t ca cc ua uc A row a4 c4 B W hto h4 hq hcap hh (r4.later h.bel)).mono (fun e w' ⟨he, hB⟩ => ⟨he, h.later hB⟩)
  clear h2 h4 hq hcap r4
  have ta1 : ∀ (v : Value) (w : World), (Instr.typeAssert (.iface 117 v) 62 117 true).run Tryz.prog w = .ok (.tuple #[v, .bool true]) w := fun _ _ => by kernel_rfl
  go_enter Tryz.func28, Tryz.ntmps28
  go_wp2_with fail
  refine (TC.out _ HB.out.bel).mono ?_
  rintro e w1 ⟨ca, cc, ua, uc, rfl, hh, hB⟩
  have HB1 := Lib.hid (HB.out.later hB)
  have HH0 := Lib.hid hh
  clear hh hB x0 y0 y1 y2
  generalize tabN l tb = t at *
  generalize tabK l tb = tk at *
  have HT0 := Lib.hid (HB1.out.ocb #[.string ⟨t.nm.toArray⟩, .slice ca t.cols.length cc, .slice ua t.uq.length uc, .bool t.rt])
  have HHX : Hid (∀ W, Below w.heap.size w W → t.Has W A ca ua) := fun W h => HH0.out.later h
  have Lnm := Lib.hid (Knm.out t ca cc ua uc w1.heap.size)
  have Lrow := Lib.hid (Krow.out t ca cc ua uc HTO.out HHX.out w1.heap.size)
  clear Knm Krow TC
  generalize nmK nm = vnm at *
  generalize setsC t row = vrow at *
  have CE : Hid (∀ W, OCB w W #[.slice sa l.length sc] #[.string ⟨tb.toArray⟩, .string ⟨nm.toArray⟩, .slice a4 row.length c4] 117 w1.heap.size #[.string ⟨t.nm.toArray⟩, .slice ca t.cols.length cc, .slice ua t.uq.length uc, .bool t.rt] → W.cell? ⟨w.heap.size + 1, 0, none⟩ = some (.string ⟨tb.toArray⟩) ∧ W.cell? ⟨w.heap.size + 1, 1, none⟩ = some (.string ⟨nm.toArray⟩) ∧ W.cell? ⟨w.heap.size + 1, 2, none⟩ = some (.slice a4 row.length c4) ∧ W.cell? ⟨w1.heap.size, 0, none⟩ = some (.string ⟨t.nm.toArray⟩) ∧ W.cell? ⟨w1.heap.size, 1, none⟩ = some (.slice ca t.cols.length cc) ∧ W.cell? ⟨w1.heap.size, 2, none⟩ = some (.slice ua t.uq.length uc) ∧ W.cell? ⟨w1.heap.size, 3, none⟩ = some (.bool t.rt)) := fun W h => ⟨cell_at (o := 0) h.b rfl, cell_at (o := 1) h.b rfl, cell_at (o := 2) h.b rfl, cell_at (o := 0) h.c rfl, cell_at (o := 1) h.c rfl, cell_at (o := 2) h.c rfl, cell_at (o := 3) h.c rfl⟩
  go_wp2_with fail
  have hx := HT0.out
  clear HT0
  refine wp_region_held_drew (S := (fun W => W.cell? ⟨w.heap.size + 1, 0, none⟩ = some (.string ⟨tb.toArray⟩) ∧ W.cell? ⟨w.heap.size + 1, 1, none⟩ = some (.string ⟨nm.toArray⟩) ∧ W.cell? ⟨w.heap.size + 1, 2, none⟩ = some (.slice a4 row.length c4) ∧ W.cell? ⟨w1.heap.size, 0, none⟩ = some (.string ⟨t.nm.toArray⟩) ∧ W.cell? ⟨w1.heap.size, 1, none⟩ = some (.slice ca t.cols.length cc) ∧ W.cell? ⟨w1.heap.size, 2, none⟩ = some (.slice ua t.uq.length uc) ∧ W.cell? ⟨w1.heap.size, 3, none⟩ = some (.bool t.rt))) (by kernel_rfl) ?_ (fun hHeld => ?_)
  · (first | exact CE.out _ hx | exact CE.out _ hx.drew | exact CE.out _ (hx.later (below_allocD _ _)))
  refine tkA (i := 0) (v := ?_) rfl ?_ ?_
  rotate_left
  · (intro wS hSw; (try dsimp only at hSw); go_simp <;> with_reducible rfl)
  try simp only [Act.put, tkS]
  refine tkA (i := 1) (v := ?_) rfl ?_ ?_
  rotate_left
  · (intro wS hSw; (try dsimp only at hSw); go_simp <;> with_reducible rfl)
  try simp only [Act.put, tkS]
  refine tkA (i := 2) (v := ?_) rfl ?_ ?_
  rotate_left
  · (intro wS hSw; (try dsimp only at hSw); go_simp <;> with_reducible rfl)
  try simp only [Act.put, tkS]
  refine tkA (i := 4) (v := ?_) rfl ?_ ?_
  rotate_left
  · (intro wS hSw; (try dsimp only at hSw); go_simp <;> with_reducible rfl)
  try simp only [Act.put, tkS]
  refine tkA (i := 5) (v := ?_) rfl ?_ ?_
  rotate_left
  · (intro wS hSw; (try dsimp only at hSw); go_simp <;> with_reducible rfl)
  try simp only [Act.put, tkS]
  refine tkA (i := 6) (v := ?_) rfl ?_ ?_
  rotate_left
  · (intro wS hSw; (try dsimp only at hSw); go_simp <;> with_reducible rfl)
  try simp only [Act.put, tkS]
  refine wpAnyH_ready (rs := [3]) (by kernel_rfl) (by simp) (AllReadyH.cons rfl (fun K hK => ?_) AllReadyH.nil)
  go_simp
  (go_at_call 61; refine (Lnm.out _ (by first | exact hx | exact hx.drew)).mono ?_; rintro e wk1 ⟨rfl, hx1⟩; clear hx; have hx := hx1; clear hx1)
  refine hK.out _ _ ?_ (fun hHeld => ?_)
  · (first | exact CE.out _ hx | exact CE.out _ hx.drew | exact CE.out _ (hx.later (below_allocD _ _)))
  clear hK K
  try simp only [Act.put, tkS]
  refine wpAnyH_ready (rs := [7]) (by kernel_rfl) (by simp) (AllReadyH.cons rfl (fun K hK => ?_) AllReadyH.nil)
  go_simp
  (go_at_call 62; refine (Lrow.out _ (by first | exact hx | exact hx.drew)).mono ?_; rintro e wk2 ⟨rfl, hx2⟩; clear hx; have hx := hx2; clear hx2)
  refine hK.out _ _ ?_ (fun hHeld => ?_)
  · (first | exact CE.out _ hx | exact CE.out _ hx.drew | exact CE.out _ (hx.later (below_allocD _ _)))
  clear hK K
  try simp only [Act.put, tkS]
  refine wpAnyH_ready (rs := [8]) (by kernel_rfl) (by simp) (AllReadyH.cons rfl (fun K hK => ?_) AllReadyH.nil)
  go_simp
  skip
  refine hK.out _ _ ?_ (fun hHeld => ?_)
  · (first | exact CE.out _ hx | exact CE.out _ hx.drew | exact CE.out _ (hx.later (below_allocD _ _)))
  clear hK K
  try simp only [Act.put, tkS]
  refine wpAnyH_ready (rs := [9]) (by kernel_rfl) (by simp) (AllReadyH.cons rfl (fun K hK => ?_) AllReadyH.nil)
  go_simp
  (go_at_call 60; refine (or3I tk vnm vrow wk2).mono ?_; rintro e w9 ⟨rfl, rfl⟩)
  refine hK.out _ _ ?_ (fun hHeld => ?_)
  · (first | exact CE.out _ hx | exact CE.out _ hx.drew | exact CE.out _ (hx.later (below_allocD _ _)))
  clear hK K
  try simp only [Act.put, tkS]
  refine tkA (i := 10) (v := ?_) rfl ?_ ?_
  rotate_left
  · (intro wS hSw; (try dsimp only at hSw); go_simp <;> with_reducible rfl)
  try simp only [Act.put, tkS]
  refine wpAnyH_done (by kernel_rfl) ?_ _
  go_wp2_with fail
  go_ret
  exact ⟨ret_i HR.out, hx.bel.alloc hx.bel.size _⟩
set_option maxRecDepth 100000 in
set_option maxHeartbeats 12800000 in
theorem opc2 (l : List Tb) (sa : Option Addr) (sc : Nat) (A : Nat → Prop) (tb : List UInt8) (wh : List CondV) (a3 : Option Addr) (c3 : Nat) (cs : List (List UInt8)) (a6 : Option Addr) (c6 : Nat) (B : Nat → Prop) (w : World) (hlo : (dTableS l).le maxLen) (hT : Rd w A (dTableS l) (.slice sa l.length sc)) (h3 : (dCondS wh).le maxLen) (r3 : Rd w B (dCondS wh) (.slice a3 wh.length c3)) (h6 : (dStringS cs).le maxLen) (r6 : Rd w B (dStringS cs) (.slice a6 cs.length c6)) :
    Calls Tryz.prog 28 #[.agg #[.slice sa l.length sc], .iface 119 (.agg #[.string ⟨tb.toArray⟩, .slice a3 wh.length c3, .slice a6 cs.length c6])] w fun e w' => e = .returned (.int .i64 (orL [tabK l tb, pkN (tabN l tb) cs, condsC (tabN l tb) wh])) ∧ Below w.heap.size w w' := by
  generalize hR : orL [tabK l tb, pkN (tabN l tb) cs, condsC (tabN l tb) wh] = R
  have HR := Lib.hid hR
  clear hR
  have TC : Hid (∀ W, Below w.heap.size w W → Calls Tryz.prog 59 #[.agg #[.slice sa l.length sc], .string ⟨tb.toArray⟩] W (TcAns l tb A w W)) := fun W h => tabCalledI l tb sa sc A w W h hlo hT
  have HTO : Hid ((tabN l tb).ok) := tabN_ok hlo
  have hb := boxE 37 119 w #[.slice sa l.length sc] #[.string ⟨tb.toArray⟩, .slice a3 wh.length c3, .slice a6 cs.length c6]
  have x0 := cell_at (o := 0) hb.a rfl
  have y0 := cell_at (o := 0) hb.b rfl
  have y1 := cell_at (o := 1) hb.b rfl
  have y2 := cell_at (o := 2) hb.b rfl
  have HB := Lib.hid hb
  clear hb hlo hT
  have Kcs : Hid (∀ (t : Tb) ca cc ua uc, t.ok → (∀ W, Below w.heap.size w W → t.Has W A ca ua) → ∀ pb W, OCB w W #[.slice sa l.length sc] #[.string ⟨tb.toArray⟩, .slice a3 wh.length c3, .slice a6 cs.length c6] 119 pb #[.string ⟨t.nm.toArray⟩, .slice ca t.cols.length cc, .slice ua t.uq.length uc, .bool t.rt] → Calls Tryz.prog 63 #[.agg #[.string ⟨t.nm.toArray⟩, .slice ca t.cols.length cc, .slice ua t.uq.length uc, .bool t.rt], .slice a6 cs.length c6, .func (.func 64) #[] #[]] W fun e w' => e = .returned (.int .i64 (pkN t cs)) ∧ OCB w w' #[.slice sa l.length sc] #[.string ⟨tb.toArray⟩, .slice a3 wh.length c3, .slice a6 cs.length c6] 119 pb #[.string ⟨t.nm.toArray⟩, .slice ca t.cols.length cc, .slice ua t.uq.length uc, .bool t.rt]) := fun t ca cc ua uc hto hhW pb W h => have hh := hhW W h.bel; (firstNamesI t ca cc ua uc A cs a6 c6 B W hto h6 hh (r6.later h.bel)).mono (fun e w' ⟨he, hB⟩ => ⟨he, h.later hB⟩)
  have Kwh : Hid (∀ (t : Tb) ca cc ua uc, t.ok → (∀ W, Below w.heap.size w W → t.Has W A ca ua) → ∀ pb W, OCB w W #[.slice sa l.length sc] #[.string ⟨tb.toArray⟩, .slice a3 wh.length c3, .slice a6 cs.length c6] 119 pb #[.string ⟨t.nm.toArray⟩, .slice ca t.cols.length cc, .slice ua t.uq.length uc, .bool t.rt] → Calls Tryz.prog 65 #[.agg #[.string ⟨t.nm.toArray⟩, .slice ca t.cols.length cc, .slice ua t.uq.length uc, .bool t.rt], .slice a3 wh.length c3, .func (.func 66) #[] #[]] W fun e w' => e = .returned (.int .i64 (condsC t wh)) ∧ OCB w w' #[.slice sa l.length sc] #[.string ⟨tb.toArray⟩, .slice a3 wh.length c3, .slice a6 cs.length c6] 119 pb #[.string ⟨t.nm.toArray⟩, .slice ca t.cols.length cc, .slice ua t.uq.length uc, .bool t.rt]) := fun t ca cc ua uc hto hhW pb W h => have hh := hhW W h.bel; (firstI t ca cc ua uc A wh a3 c3 B W hto h3 hh (r3.later h.bel)).mono (fun e w' ⟨he, hB⟩ => ⟨he, h.later hB⟩)
  clear h3 r3 h6 r6
  have ta1 : ∀ (v : Value) (w : World), (Instr.typeAssert (.iface 119 v) 62 117 true).run Tryz.prog w = .ok (.tuple #[.agg #[.string ⟨#[]⟩, .string ⟨#[]⟩, .slice none 0 0], .bool false]) w := fun _ _ => by kernel_rfl
  have ta2 : ∀ (v : Value) (w : World), (Instr.typeAssert (.iface 119 v) 62 119 true).run Tryz.prog w = .ok (.tuple #[v, .bool true]) w := fun _ _ => by kernel_rfl
  go_enter Tryz.func28, Tryz.ntmps28
  go_wp2_with fail
  refine (TC.out _ HB.out.bel).mono ?_
  rintro e w1 ⟨ca, cc, ua, uc, rfl, hh, hB⟩
  have HB1 := Lib.hid (HB.out.later hB)
  have HH0 := Lib.hid hh
  clear hh hB x0 y0 y1 y2
  generalize tabN l tb = t at *
  generalize tabK l tb = tk at *
  have HT0 := Lib.hid (HB1.out.ocb #[.string ⟨t.nm.toArray⟩, .slice ca t.cols.length cc, .slice ua t.uq.length uc, .bool t.rt])
  have HHX : Hid (∀ W, Below w.heap.size w W → t.Has W A ca ua) := fun W h => HH0.out.later h
  have Lcs := Lib.hid (Kcs.out t ca cc ua uc HTO.out HHX.out w1.heap.size)
  have Lwh := Lib.hid (Kwh.out t ca cc ua uc HTO.out HHX.out w1.heap.size)
  clear Kcs Kwh TC
  generalize pkN t cs = vcs at *
  generalize condsC t wh = vwh at *
  have CE : Hid (∀ W, OCB w W #[.slice sa l.length sc] #[.string ⟨tb.toArray⟩, .slice a3 wh.length c3, .slice a6 cs.length c6] 119 w1.heap.size #[.string ⟨t.nm.toArray⟩, .slice ca t.cols.length cc, .slice ua t.uq.length uc, .bool t.rt] → W.cell? ⟨w.heap.size + 1, 0, none⟩ = some (.string ⟨tb.toArray⟩) ∧ W.cell? ⟨w.heap.size + 1, 1, none⟩ = some (.slice a3 wh.length c3) ∧ W.cell? ⟨w.heap.size + 1, 2, none⟩ = some (.slice a6 cs.length c6) ∧ W.cell? ⟨w1.heap.size, 0, none⟩ = some (.string ⟨t.nm.toArray⟩) ∧ W.cell? ⟨w1.heap.size, 1, none⟩ = some (.slice ca t.cols.length cc) ∧ W.cell? ⟨w1.heap.size, 2, none⟩ = some (.slice ua t.uq.length uc) ∧ W.cell? ⟨w1.heap.size, 3, none⟩ = some (.bool t.rt)) := fun W h => ⟨cell_at (o := 0) h.b rfl, cell_at (o := 1) h.b rfl, cell_at (o := 2) h.b rfl, cell_at (o := 0) h.c rfl, cell_at (o := 1) h.c rfl, cell_at (o := 2) h.c rfl, cell_at (o := 3) h.c rfl⟩
  go_wp2_with fail
  have hx := HT0.out
  clear HT0
  refine wp_region_held_drew (S := (fun W => W.cell? ⟨w.heap.size + 1, 0, none⟩ = some (.string ⟨tb.toArray⟩) ∧ W.cell? ⟨w.heap.size + 1, 1, none⟩ = some (.slice a3 wh.length c3) ∧ W.cell? ⟨w.heap.size + 1, 2, none⟩ = some (.slice a6 cs.length c6) ∧ W.cell? ⟨w1.heap.size, 0, none⟩ = some (.string ⟨t.nm.toArray⟩) ∧ W.cell? ⟨w1.heap.size, 1, none⟩ = some (.slice ca t.cols.length cc) ∧ W.cell? ⟨w1.heap.size, 2, none⟩ = some (.slice ua t.uq.length uc) ∧ W.cell? ⟨w1.heap.size, 3, none⟩ = some (.bool t.rt))) (by kernel_rfl) ?_ (fun hHeld => ?_)
  · (first | exact CE.out _ hx | exact CE.out _ hx.drew | exact CE.out _ (hx.later (below_allocD _ _)))
  refine tkA (i := 0) (v := ?_) rfl ?_ ?_
  rotate_left
  · (intro wS hSw; (try dsimp only at hSw); go_simp <;> with_reducible rfl)
  try simp only [Act.put, tkS]
  refine tkA (i := 1) (v := ?_) rfl ?_ ?_
  rotate_left
  · (intro wS hSw; (try dsimp only at hSw); go_simp <;> with_reducible rfl)
  try simp only [Act.put, tkS]
  refine tkA (i := 2) (v := ?_) rfl ?_ ?_
  rotate_left
  · (intro wS hSw; (try dsimp only at hSw); go_simp <;> with_reducible rfl)
  try simp only [Act.put, tkS]
  refine tkA (i := 3) (v := ?_) rfl ?_ ?_
  rotate_left
  · (intro wS hSw; (try dsimp only at hSw); go_simp <;> with_reducible rfl)
  try simp only [Act.put, tkS]
  refine tkA (i := 5) (v := ?_) rfl ?_ ?_
  rotate_left
  · (intro wS hSw; (try dsimp only at hSw); go_simp <;> with_reducible rfl)
  try simp only [Act.put, tkS]
  refine tkA (i := 6) (v := ?_) rfl ?_ ?_
  rotate_left
  · (intro wS hSw; (try dsimp only at hSw); go_simp <;> with_reducible rfl)
  try simp only [Act.put, tkS]
  refine tkA (i := 7) (v := ?_) rfl ?_ ?_
  rotate_left
  · (intro wS hSw; (try dsimp only at hSw); go_simp <;> with_reducible rfl)
  try simp only [Act.put, tkS]
  refine tkA (i := 8) (v := ?_) rfl ?_ ?_
  rotate_left
  · (intro wS hSw; (try dsimp only at hSw); go_simp <;> with_reducible rfl)
  try simp only [Act.put, tkS]
  refine wpAnyH_ready (rs := [4]) (by kernel_rfl) (by simp) (AllReadyH.cons rfl (fun K hK => ?_) AllReadyH.nil)
  go_simp
  (go_at_call 63; refine (Lcs.out _ (by first | exact hx | exact hx.drew)).mono ?_; rintro e wk1 ⟨rfl, hx1⟩; clear hx; have hx := hx1; clear hx1)
  refine hK.out _ _ ?_ (fun hHeld => ?_)
  · (first | exact CE.out _ hx | exact CE.out _ hx.drew | exact CE.out _ (hx.later (below_allocD _ _)))
  clear hK K
  try simp only [Act.put, tkS]
  refine wpAnyH_ready (rs := [9]) (by kernel_rfl) (by simp) (AllReadyH.cons rfl (fun K hK => ?_) AllReadyH.nil)
  go_simp
  (go_at_call 65; refine (Lwh.out _ (by first | exact hx | exact hx.drew)).mono ?_; rintro e wk2 ⟨rfl, hx2⟩; clear hx; have hx := hx2; clear hx2)
  refine hK.out _ _ ?_ (fun hHeld => ?_)
  · (first | exact CE.out _ hx | exact CE.out _ hx.drew | exact CE.out _ (hx.later (below_allocD _ _)))
  clear hK K
  try simp only [Act.put, tkS]
  refine wpAnyH_ready (rs := [10]) (by kernel_rfl) (by simp) (AllReadyH.cons rfl (fun K hK => ?_) AllReadyH.nil)
  go_simp
  skip
  refine hK.out _ _ ?_ (fun hHeld => ?_)
  · (first | exact CE.out _ hx | exact CE.out _ hx.drew | exact CE.out _ (hx.later (below_allocD _ _)))
  clear hK K
  try simp only [Act.put, tkS]
  refine wpAnyH_ready (rs := [11]) (by kernel_rfl) (by simp) (AllReadyH.cons rfl (fun K hK => ?_) AllReadyH.nil)
  go_simp
  (go_at_call 60; refine (or3I tk vcs vwh wk2).mono ?_; rintro e w9 ⟨rfl, rfl⟩)
  refine hK.out _ _ ?_ (fun hHeld => ?_)
  · (first | exact CE.out _ hx | exact CE.out _ hx.drew | exact CE.out _ (hx.later (below_allocD _ _)))
  clear hK K
  try simp only [Act.put, tkS]
  refine tkA (i := 12) (v := ?_) rfl ?_ ?_
  rotate_left
  · (intro wS hSw; (try dsimp only at hSw); go_simp <;> with_reducible rfl)
  try simp only [Act.put, tkS]
  refine wpAnyH_done (by kernel_rfl) ?_ _
  go_wp2_with fail
  go_ret
  exact ⟨ret_i HR.out, hx.bel.alloc hx.bel.size _⟩
set_option maxRecDepth 100000 in
set_option maxHeartbeats 12800000 in
theorem opc3 (l : List Tb) (sa : Option Addr) (sc : Nat) (A : Nat → Prop) (tb : List UInt8) (wh : List CondV) (a3 : Option Addr) (c3 : Nat) (row : List SetV) (a4 : Option Addr) (c4 : Nat) (B : Nat → Prop) (w : World) (hlo : (dTableS l).le maxLen) (hT : Rd w A (dTableS l) (.slice sa l.length sc)) (h3 : (dCondS wh).le maxLen) (r3 : Rd w B (dCondS wh) (.slice a3 wh.length c3)) (h4 : (dSetS row).le maxLen) (hq : ∀ k (h : k < row.length), setB row[k] = true) (hcap : row.length ≤ c4) (r4 : Rd w B (dSetS row) (.slice a4 row.length c4)) :
    Calls Tryz.prog 28 #[.agg #[.slice sa l.length sc], .iface 121 (.agg #[.string ⟨tb.toArray⟩, .slice a3 wh.length c3, .slice a4 row.length c4])] w fun e w' => e = .returned (.int .i64 (orL [tabK l tb, condsC (tabN l tb) wh, setsC (tabN l tb) row])) ∧ Below w.heap.size w w' := by
  generalize hR : orL [tabK l tb, condsC (tabN l tb) wh, setsC (tabN l tb) row] = R
  have HR := Lib.hid hR
  clear hR
  have TC : Hid (∀ W, Below w.heap.size w W → Calls Tryz.prog 59 #[.agg #[.slice sa l.length sc], .string ⟨tb.toArray⟩] W (TcAns l tb A w W)) := fun W h => tabCalledI l tb sa sc A w W h hlo hT
  have HTO : Hid ((tabN l tb).ok) := tabN_ok hlo
  have hb := boxE 37 121 w #[.slice sa l.length sc] #[.string ⟨tb.toArray⟩, .slice a3 wh.length c3, .slice a4 row.length c4]
  have x0 := cell_at (o := 0) hb.a rfl
  have y0 := cell_at (o := 0) hb.b rfl
  have y1 := cell_at (o := 1) hb.b rfl
  have y2 := cell_at (o := 2) hb.b rfl
  have HB := Lib.hid hb
  clear hb hlo hT
  have Kwh : Hid (∀ (t : Tb) ca cc ua uc, t.ok → (∀ W, Below w.heap.size w W → t.Has W A ca ua) → ∀ pb W, OCB w W #[.slice sa l.length sc] #[.string ⟨tb.toArray⟩, .slice a3 wh.length c3, .slice a4 row.length c4] 121 pb #[.string ⟨t.nm.toArray⟩, .slice ca t.cols.length cc, .slice ua t.uq.length uc, .bool t.rt] → Calls Tryz.prog 65 #[.agg #[.string ⟨t.nm.toArray⟩, .slice ca t.cols.length cc, .slice ua t.uq.length uc, .bool t.rt], .slice a3 wh.length c3, .func (.func 66) #[] #[]] W fun e w' => e = .returned (.int .i64 (condsC t wh)) ∧ OCB w w' #[.slice sa l.length sc] #[.string ⟨tb.toArray⟩, .slice a3 wh.length c3, .slice a4 row.length c4] 121 pb #[.string ⟨t.nm.toArray⟩, .slice ca t.cols.length cc, .slice ua t.uq.length uc, .bool t.rt]) := fun t ca cc ua uc hto hhW pb W h => have hh := hhW W h.bel; (firstI t ca cc ua uc A wh a3 c3 B W hto h3 hh (r3.later h.bel)).mono (fun e w' ⟨he, hB⟩ => ⟨he, h.later hB⟩)
  have Krow : Hid (∀ (t : Tb) ca cc ua uc, t.ok → (∀ W, Below w.heap.size w W → t.Has W A ca ua) → ∀ pb W, OCB w W #[.slice sa l.length sc] #[.string ⟨tb.toArray⟩, .slice a3 wh.length c3, .slice a4 row.length c4] 121 pb #[.string ⟨t.nm.toArray⟩, .slice ca t.cols.length cc, .slice ua t.uq.length uc, .bool t.rt] → Calls Tryz.prog 62 #[.agg #[.string ⟨t.nm.toArray⟩, .slice ca t.cols.length cc, .slice ua t.uq.length uc, .bool t.rt], .slice a4 row.length c4] W fun e w' => e = .returned (.int .i64 (setsC t row)) ∧ OCB w w' #[.slice sa l.length sc] #[.string ⟨tb.toArray⟩, .slice a3 wh.length c3, .slice a4 row.length c4] 121 pb #[.string ⟨t.nm.toArray⟩, .slice ca t.cols.length cc, .slice ua t.uq.length uc, .bool t.rt]) := fun t ca cc ua uc hto hhW pb W h => have hh := hhW W h.bel; (rowCodeI t ca cc ua uc A row a4 c4 B W hto h4 hq hcap hh (r4.later h.bel)).mono (fun e w' ⟨he, hB⟩ => ⟨he, h.later hB⟩)
  clear h3 r3 h4 hq hcap r4
  have ta1 : ∀ (v : Value) (w : World), (Instr.typeAssert (.iface 121 v) 62 117 true).run Tryz.prog w = .ok (.tuple #[.agg #[.string ⟨#[]⟩, .string ⟨#[]⟩, .slice none 0 0], .bool false]) w := fun _ _ => by kernel_rfl
  have ta2 : ∀ (v : Value) (w : World), (Instr.typeAssert (.iface 121 v) 62 119 true).run Tryz.prog w = .ok (.tuple #[.agg #[.string ⟨#[]⟩, .slice none 0 0, .slice none 0 0], .bool false]) w := fun _ _ => by kernel_rfl
  have ta3 : ∀ (v : Value) (w : World), (Instr.typeAssert (.iface 121 v) 62 121 true).run Tryz.prog w = .ok (.tuple #[v, .bool true]) w := fun _ _ => by kernel_rfl
  go_enter Tryz.func28, Tryz.ntmps28
  go_wp2_with fail
  refine (TC.out _ HB.out.bel).mono ?_
  rintro e w1 ⟨ca, cc, ua, uc, rfl, hh, hB⟩
  have HB1 := Lib.hid (HB.out.later hB)
  have HH0 := Lib.hid hh
  clear hh hB x0 y0 y1 y2
  generalize tabN l tb = t at *
  generalize tabK l tb = tk at *
  have HT0 := Lib.hid (HB1.out.ocb #[.string ⟨t.nm.toArray⟩, .slice ca t.cols.length cc, .slice ua t.uq.length uc, .bool t.rt])
  have HHX : Hid (∀ W, Below w.heap.size w W → t.Has W A ca ua) := fun W h => HH0.out.later h
  have Lwh := Lib.hid (Kwh.out t ca cc ua uc HTO.out HHX.out w1.heap.size)
  have Lrow := Lib.hid (Krow.out t ca cc ua uc HTO.out HHX.out w1.heap.size)
  clear Kwh Krow TC
  generalize condsC t wh = vwh at *
  generalize setsC t row = vrow at *
  have CE : Hid (∀ W, OCB w W #[.slice sa l.length sc] #[.string ⟨tb.toArray⟩, .slice a3 wh.length c3, .slice a4 row.length c4] 121 w1.heap.size #[.string ⟨t.nm.toArray⟩, .slice ca t.cols.length cc, .slice ua t.uq.length uc, .bool t.rt] → W.cell? ⟨w.heap.size + 1, 0, none⟩ = some (.string ⟨tb.toArray⟩) ∧ W.cell? ⟨w.heap.size + 1, 1, none⟩ = some (.slice a3 wh.length c3) ∧ W.cell? ⟨w.heap.size + 1, 2, none⟩ = some (.slice a4 row.length c4) ∧ W.cell? ⟨w1.heap.size, 0, none⟩ = some (.string ⟨t.nm.toArray⟩) ∧ W.cell? ⟨w1.heap.size, 1, none⟩ = some (.slice ca t.cols.length cc) ∧ W.cell? ⟨w1.heap.size, 2, none⟩ = some (.slice ua t.uq.length uc) ∧ W.cell? ⟨w1.heap.size, 3, none⟩ = some (.bool t.rt)) := fun W h => ⟨cell_at (o := 0) h.b rfl, cell_at (o := 1) h.b rfl, cell_at (o := 2) h.b rfl, cell_at (o := 0) h.c rfl, cell_at (o := 1) h.c rfl, cell_at (o := 2) h.c rfl, cell_at (o := 3) h.c rfl⟩
  go_wp2_with fail
  have hx := HT0.out
  clear HT0
  refine wp_region_held_drew (S := (fun W => W.cell? ⟨w.heap.size + 1, 0, none⟩ = some (.string ⟨tb.toArray⟩) ∧ W.cell? ⟨w.heap.size + 1, 1, none⟩ = some (.slice a3 wh.length c3) ∧ W.cell? ⟨w.heap.size + 1, 2, none⟩ = some (.slice a4 row.length c4) ∧ W.cell? ⟨w1.heap.size, 0, none⟩ = some (.string ⟨t.nm.toArray⟩) ∧ W.cell? ⟨w1.heap.size, 1, none⟩ = some (.slice ca t.cols.length cc) ∧ W.cell? ⟨w1.heap.size, 2, none⟩ = some (.slice ua t.uq.length uc) ∧ W.cell? ⟨w1.heap.size, 3, none⟩ = some (.bool t.rt))) (by kernel_rfl) ?_ (fun hHeld => ?_)
  · (first | exact CE.out _ hx | exact CE.out _ hx.drew | exact CE.out _ (hx.later (below_allocD _ _)))
  refine tkA (i := 0) (v := ?_) rfl ?_ ?_
  rotate_left
  · (intro wS hSw; (try dsimp only at hSw); go_simp <;> with_reducible rfl)
  try simp only [Act.put, tkS]
  refine tkA (i := 1) (v := ?_) rfl ?_ ?_
  rotate_left
  · (intro wS hSw; (try dsimp only at hSw); go_simp <;> with_reducible rfl)
  try simp only [Act.put, tkS]
  refine tkA (i := 2) (v := ?_) rfl ?_ ?_
  rotate_left
  · (intro wS hSw; (try dsimp only at hSw); go_simp <;> with_reducible rfl)
  try simp only [Act.put, tkS]
  refine tkA (i := 3) (v := ?_) rfl ?_ ?_
  rotate_left
  · (intro wS hSw; (try dsimp only at hSw); go_simp <;> with_reducible rfl)
  try simp only [Act.put, tkS]
  refine tkA (i := 4) (v := ?_) rfl ?_ ?_
  rotate_left
  · (intro wS hSw; (try dsimp only at hSw); go_simp <;> with_reducible rfl)
  try simp only [Act.put, tkS]
  refine tkA (i := 6) (v := ?_) rfl ?_ ?_
  rotate_left
  · (intro wS hSw; (try dsimp only at hSw); go_simp <;> with_reducible rfl)
  try simp only [Act.put, tkS]
  refine tkA (i := 7) (v := ?_) rfl ?_ ?_
  rotate_left
  · (intro wS hSw; (try dsimp only at hSw); go_simp <;> with_reducible rfl)
  try simp only [Act.put, tkS]
  refine tkA (i := 8) (v := ?_) rfl ?_ ?_
  rotate_left
  · (intro wS hSw; (try dsimp only at hSw); go_simp <;> with_reducible rfl)
  try simp only [Act.put, tkS]
  refine wpAnyH_ready (rs := [5]) (by kernel_rfl) (by simp) (AllReadyH.cons rfl (fun K hK => ?_) AllReadyH.nil)
  go_simp
  (go_at_call 65; refine (Lwh.out _ (by first | exact hx | exact hx.drew)).mono ?_; rintro e wk1 ⟨rfl, hx1⟩; clear hx; have hx := hx1; clear hx1)
  refine hK.out _ _ ?_ (fun hHeld => ?_)
  · (first | exact CE.out _ hx | exact CE.out _ hx.drew | exact CE.out _ (hx.later (below_allocD _ _)))
  clear hK K
  try simp only [Act.put, tkS]
  refine wpAnyH_ready (rs := [9]) (by kernel_rfl) (by simp) (AllReadyH.cons rfl (fun K hK => ?_) AllReadyH.nil)
  go_simp
  (go_at_call 62; refine (Lrow.out _ (by first | exact hx | exact hx.drew)).mono ?_; rintro e wk2 ⟨rfl, hx2⟩; clear hx; have hx := hx2; clear hx2)
  refine hK.out _ _ ?_ (fun hHeld => ?_)
  · (first | exact CE.out _ hx | exact CE.out _ hx.drew | exact CE.out _ (hx.later (below_allocD _ _)))
  clear hK K
  try simp only [Act.put, tkS]
  refine wpAnyH_ready (rs := [10]) (by kernel_rfl) (by simp) (AllReadyH.cons rfl (fun K hK => ?_) AllReadyH.nil)
  go_simp
  skip
  refine hK.out _ _ ?_ (fun hHeld => ?_)
  · (first | exact CE.out _ hx | exact CE.out _ hx.drew | exact CE.out _ (hx.later (below_allocD _ _)))
  clear hK K
  try simp only [Act.put, tkS]
  refine wpAnyH_ready (rs := [11]) (by kernel_rfl) (by simp) (AllReadyH.cons rfl (fun K hK => ?_) AllReadyH.nil)
  go_simp
  (go_at_call 60; refine (or3I tk vwh vrow wk2).mono ?_; rintro e w9 ⟨rfl, rfl⟩)
  refine hK.out _ _ ?_ (fun hHeld => ?_)
  · (first | exact CE.out _ hx | exact CE.out _ hx.drew | exact CE.out _ (hx.later (below_allocD _ _)))
  clear hK K
  try simp only [Act.put, tkS]
  refine tkA (i := 12) (v := ?_) rfl ?_ ?_
  rotate_left
  · (intro wS hSw; (try dsimp only at hSw); go_simp <;> with_reducible rfl)
  try simp only [Act.put, tkS]
  refine wpAnyH_done (by kernel_rfl) ?_ _
  go_wp2_with fail
  go_ret
  exact ⟨ret_i HR.out, hx.bel.alloc hx.bel.size _⟩
set_option maxRecDepth 100000 in
set_option maxHeartbeats 12800000 in
theorem opc4 (l : List Tb) (sa : Option Addr) (sc : Nat) (A : Nat → Prop) (tb : List UInt8) (wh : List CondV) (a3 : Option Addr) (c3 : Nat) (mu : List MutV) (a5 : Option Addr) (c5 : Nat) (B : Nat → Prop) (w : World) (hlo : (dTableS l).le maxLen) (hT : Rd w A (dTableS l) (.slice sa l.length sc)) (h3 : (dCondS wh).le maxLen) (r3 : Rd w B (dCondS wh) (.slice a3 wh.length c3)) (h5 : (dMutS mu).le maxLen) (hm : ∀ k (h : k < mu.length), mutB mu[k] = true) (r5 : Rd w B (dMutS mu) (.slice a5 mu.length c5)) :
    Calls Tryz.prog 28 #[.agg #[.slice sa l.length sc], .iface 123 (.agg #[.string ⟨tb.toArray⟩, .slice a3 wh.length c3, .slice a5 mu.length c5])] w fun e w' => e = .returned (.int .i64 (orL [tabK l tb, condsC (tabN l tb) wh, mutsC (tabN l tb) mu])) ∧ Below w.heap.size w w' := by
  generalize hR : orL [tabK l tb, condsC (tabN l tb) wh, mutsC (tabN l tb) mu] = R
  have HR := Lib.hid hR
  clear hR
  have TC : Hid (∀ W, Below w.heap.size w W → Calls Tryz.prog 59 #[.agg #[.slice sa l.length sc], .string ⟨tb.toArray⟩] W (TcAns l tb A w W)) := fun W h => tabCalledI l tb sa sc A w W h hlo hT
  have HTO : Hid ((tabN l tb).ok) := tabN_ok hlo
  have hb := boxE 37 123 w #[.slice sa l.length sc] #[.string ⟨tb.toArray⟩, .slice a3 wh.length c3, .slice a5 mu.length c5]
  have x0 := cell_at (o := 0) hb.a rfl
  have y0 := cell_at (o := 0) hb.b rfl
  have y1 := cell_at (o := 1) hb.b rfl
  have y2 := cell_at (o := 2) hb.b rfl
  have HB := Lib.hid hb
  clear hb hlo hT
  have Kwh : Hid (∀ (t : Tb) ca cc ua uc, t.ok → (∀ W, Below w.heap.size w W → t.Has W A ca ua) → ∀ pb W, OCB w W #[.slice sa l.length sc] #[.string ⟨tb.toArray⟩, .slice a3 wh.length c3, .slice a5 mu.length c5] 123 pb #[.string ⟨t.nm.toArray⟩, .slice ca t.cols.length cc, .slice ua t.uq.length uc, .bool t.rt] → Calls Tryz.prog 65 #[.agg #[.string ⟨t.nm.toArray⟩, .slice ca t.cols.length cc, .slice ua t.uq.length uc, .bool t.rt], .slice a3 wh.length c3, .func (.func 66) #[] #[]] W fun e w' => e = .returned (.int .i64 (condsC t wh)) ∧ OCB w w' #[.slice sa l.length sc] #[.string ⟨tb.toArray⟩, .slice a3 wh.length c3, .slice a5 mu.length c5] 123 pb #[.string ⟨t.nm.toArray⟩, .slice ca t.cols.length cc, .slice ua t.uq.length uc, .bool t.rt]) := fun t ca cc ua uc hto hhW pb W h => have hh := hhW W h.bel; (firstI t ca cc ua uc A wh a3 c3 B W hto h3 hh (r3.later h.bel)).mono (fun e w' ⟨he, hB⟩ => ⟨he, h.later hB⟩)
  have Kmu : Hid (∀ (t : Tb) ca cc ua uc, t.ok → (∀ W, Below w.heap.size w W → t.Has W A ca ua) → ∀ pb W, OCB w W #[.slice sa l.length sc] #[.string ⟨tb.toArray⟩, .slice a3 wh.length c3, .slice a5 mu.length c5] 123 pb #[.string ⟨t.nm.toArray⟩, .slice ca t.cols.length cc, .slice ua t.uq.length uc, .bool t.rt] → Calls Tryz.prog 67 #[.agg #[.string ⟨t.nm.toArray⟩, .slice ca t.cols.length cc, .slice ua t.uq.length uc, .bool t.rt], .slice a5 mu.length c5, .func (.func 68) #[] #[]] W fun e w' => e = .returned (.int .i64 (mutsC t mu)) ∧ OCB w w' #[.slice sa l.length sc] #[.string ⟨tb.toArray⟩, .slice a3 wh.length c3, .slice a5 mu.length c5] 123 pb #[.string ⟨t.nm.toArray⟩, .slice ca t.cols.length cc, .slice ua t.uq.length uc, .bool t.rt]) := fun t ca cc ua uc hto hhW pb W h => have hh := hhW W h.bel; (mfirstI t ca cc ua uc A mu a5 c5 B W hto hm h5 hh (r5.later h.bel)).mono (fun e w' ⟨he, hB⟩ => ⟨he, h.later hB⟩)
  clear h3 r3 h5 hm r5
  have ta1 : ∀ (v : Value) (w : World), (Instr.typeAssert (.iface 123 v) 62 117 true).run Tryz.prog w = .ok (.tuple #[.agg #[.string ⟨#[]⟩, .string ⟨#[]⟩, .slice none 0 0], .bool false]) w := fun _ _ => by kernel_rfl
  have ta2 : ∀ (v : Value) (w : World), (Instr.typeAssert (.iface 123 v) 62 119 true).run Tryz.prog w = .ok (.tuple #[.agg #[.string ⟨#[]⟩, .slice none 0 0, .slice none 0 0], .bool false]) w := fun _ _ => by kernel_rfl
  have ta3 : ∀ (v : Value) (w : World), (Instr.typeAssert (.iface 123 v) 62 121 true).run Tryz.prog w = .ok (.tuple #[.agg #[.string ⟨#[]⟩, .slice none 0 0, .slice none 0 0], .bool false]) w := fun _ _ => by kernel_rfl
  have ta4 : ∀ (v : Value) (w : World), (Instr.typeAssert (.iface 123 v) 62 123 true).run Tryz.prog w = .ok (.tuple #[v, .bool true]) w := fun _ _ => by kernel_rfl
  go_enter Tryz.func28, Tryz.ntmps28
  go_wp2_with fail
  refine (TC.out _ HB.out.bel).mono ?_
  rintro e w1 ⟨ca, cc, ua, uc, rfl, hh, hB⟩
  have HB1 := Lib.hid (HB.out.later hB)
  have HH0 := Lib.hid hh
  clear hh hB x0 y0 y1 y2
  generalize tabN l tb = t at *
  generalize tabK l tb = tk at *
  have HT0 := Lib.hid (HB1.out.ocb #[.string ⟨t.nm.toArray⟩, .slice ca t.cols.length cc, .slice ua t.uq.length uc, .bool t.rt])
  have HHX : Hid (∀ W, Below w.heap.size w W → t.Has W A ca ua) := fun W h => HH0.out.later h
  have Lwh := Lib.hid (Kwh.out t ca cc ua uc HTO.out HHX.out w1.heap.size)
  have Lmu := Lib.hid (Kmu.out t ca cc ua uc HTO.out HHX.out w1.heap.size)
  clear Kwh Kmu TC
  generalize condsC t wh = vwh at *
  generalize mutsC t mu = vmu at *
  have CE : Hid (∀ W, OCB w W #[.slice sa l.length sc] #[.string ⟨tb.toArray⟩, .slice a3 wh.length c3, .slice a5 mu.length c5] 123 w1.heap.size #[.string ⟨t.nm.toArray⟩, .slice ca t.cols.length cc, .slice ua t.uq.length uc, .bool t.rt] → W.cell? ⟨w.heap.size + 1, 0, none⟩ = some (.string ⟨tb.toArray⟩) ∧ W.cell? ⟨w.heap.size + 1, 1, none⟩ = some (.slice a3 wh.length c3) ∧ W.cell? ⟨w.heap.size + 1, 2, none⟩ = some (.slice a5 mu.length c5) ∧ W.cell? ⟨w1.heap.size, 0, none⟩ = some (.string ⟨t.nm.toArray⟩) ∧ W.cell? ⟨w1.heap.size, 1, none⟩ = some (.slice ca t.cols.length cc) ∧ W.cell? ⟨w1.heap.size, 2, none⟩ = some (.slice ua t.uq.length uc) ∧ W.cell? ⟨w1.heap.size, 3, none⟩ = some (.bool t.rt)) := fun W h => ⟨cell_at (o := 0) h.b rfl, cell_at (o := 1) h.b rfl, cell_at (o := 2) h.b rfl, cell_at (o := 0) h.c rfl, cell_at (o := 1) h.c rfl, cell_at (o := 2) h.c rfl, cell_at (o := 3) h.c rfl⟩
  go_wp2_with fail
  have hx := HT0.out
  clear HT0
  refine wp_region_held_drew (S := (fun W => W.cell? ⟨w.heap.size + 1, 0, none⟩ = some (.string ⟨tb.toArray⟩) ∧ W.cell? ⟨w.heap.size + 1, 1, none⟩ = some (.slice a3 wh.length c3) ∧ W.cell? ⟨w.heap.size + 1, 2, none⟩ = some (.slice a5 mu.length c5) ∧ W.cell? ⟨w1.heap.size, 0, none⟩ = some (.string ⟨t.nm.toArray⟩) ∧ W.cell? ⟨w1.heap.size, 1, none⟩ = some (.slice ca t.cols.length cc) ∧ W.cell? ⟨w1.heap.size, 2, none⟩ = some (.slice ua t.uq.length uc) ∧ W.cell? ⟨w1.heap.size, 3, none⟩ = some (.bool t.rt))) (by kernel_rfl) ?_ (fun hHeld => ?_)
  · (first | exact CE.out _ hx | exact CE.out _ hx.drew | exact CE.out _ (hx.later (below_allocD _ _)))
  refine tkA (i := 0) (v := ?_) rfl ?_ ?_
  rotate_left
  · (intro wS hSw; (try dsimp only at hSw); go_simp <;> with_reducible rfl)
  try simp only [Act.put, tkS]
  refine tkA (i := 1) (v := ?_) rfl ?_ ?_
  rotate_left
  · (intro wS hSw; (try dsimp only at hSw); go_simp <;> with_reducible rfl)
  try simp only [Act.put, tkS]
  refine tkA (i := 2) (v := ?_) rfl ?_ ?_
  rotate_left
  · (intro wS hSw; (try dsimp only at hSw); go_simp <;> with_reducible rfl)
  try simp only [Act.put, tkS]
  refine tkA (i := 3) (v := ?_) rfl ?_ ?_
  rotate_left
  · (intro wS hSw; (try dsimp only at hSw); go_simp <;> with_reducible rfl)
  try simp only [Act.put, tkS]
  refine tkA (i := 4) (v := ?_) rfl ?_ ?_
  rotate_left
  · (intro wS hSw; (try dsimp only at hSw); go_simp <;> with_reducible rfl)
  try simp only [Act.put, tkS]
  refine tkA (i := 6) (v := ?_) rfl ?_ ?_
  rotate_left
  · (intro wS hSw; (try dsimp only at hSw); go_simp <;> with_reducible rfl)
  try simp only [Act.put, tkS]
  refine tkA (i := 7) (v := ?_) rfl ?_ ?_
  rotate_left
  · (intro wS hSw; (try dsimp only at hSw); go_simp <;> with_reducible rfl)
  try simp only [Act.put, tkS]
  refine tkA (i := 8) (v := ?_) rfl ?_ ?_
  rotate_left
  · (intro wS hSw; (try dsimp only at hSw); go_simp <;> with_reducible rfl)
  try simp only [Act.put, tkS]
  refine wpAnyH_ready (rs := [5]) (by kernel_rfl) (by simp) (AllReadyH.cons rfl (fun K hK => ?_) AllReadyH.nil)
  go_simp
  (go_at_call 65; refine (Lwh.out _ (by first | exact hx | exact hx.drew)).mono ?_; rintro e wk1 ⟨rfl, hx1⟩; clear hx; have hx := hx1; clear hx1)
  refine hK.out _ _ ?_ (fun hHeld => ?_)
  · (first | exact CE.out _ hx | exact CE.out _ hx.drew | exact CE.out _ (hx.later (below_allocD _ _)))
  clear hK K
  try simp only [Act.put, tkS]
  refine wpAnyH_ready (rs := [9]) (by kernel_rfl) (by simp) (AllReadyH.cons rfl (fun K hK => ?_) AllReadyH.nil)
  go_simp
  (go_at_call 67; refine (Lmu.out _ (by first | exact hx | exact hx.drew)).mono ?_; rintro e wk2 ⟨rfl, hx2⟩; clear hx; have hx := hx2; clear hx2)
  refine hK.out _ _ ?_ (fun hHeld => ?_)
  · (first | exact CE.out _ hx | exact CE.out _ hx.drew | exact CE.out _ (hx.later (below_allocD _ _)))
  clear hK K
  try simp only [Act.put, tkS]
  refine wpAnyH_ready (rs := [10]) (by kernel_rfl) (by simp) (AllReadyH.cons rfl (fun K hK => ?_) AllReadyH.nil)
  go_simp
  skip
  refine hK.out _ _ ?_ (fun hHeld => ?_)
  · (first | exact CE.out _ hx | exact CE.out _ hx.drew | exact CE.out _ (hx.later (below_allocD _ _)))
  clear hK K
  try simp only [Act.put, tkS]
  refine wpAnyH_ready (rs := [11]) (by kernel_rfl) (by simp) (AllReadyH.cons rfl (fun K hK => ?_) AllReadyH.nil)
  go_simp
  (go_at_call 60; refine (or3I tk vwh vmu wk2).mono ?_; rintro e w9 ⟨rfl, rfl⟩)
  refine hK.out _ _ ?_ (fun hHeld => ?_)
  · (first | exact CE.out _ hx | exact CE.out _ hx.drew | exact CE.out _ (hx.later (below_allocD _ _)))
  clear hK K
  try simp only [Act.put, tkS]
  refine tkA (i := 12) (v := ?_) rfl ?_ ?_
  rotate_left
  · (intro wS hSw; (try dsimp only at hSw); go_simp <;> with_reducible rfl)
  try simp only [Act.put, tkS]
  refine wpAnyH_done (by kernel_rfl) ?_ _
  go_wp2_with fail
  go_ret
  exact ⟨ret_i HR.out, hx.bel.alloc hx.bel.size _⟩
set_option maxRecDepth 100000 in
set_option maxHeartbeats 12800000 in
theorem opc5 (l : List Tb) (sa : Option Addr) (sc : Nat) (A : Nat → Prop) (tb : List UInt8) (wh : List CondV) (a3 : Option Addr) (c3 : Nat) (B : Nat → Prop) (w : World) (hlo : (dTableS l).le maxLen) (hT : Rd w A (dTableS l) (.slice sa l.length sc)) (h3 : (dCondS wh).le maxLen) (r3 : Rd w B (dCondS wh) (.slice a3 wh.length c3)) :
    Calls Tryz.prog 28 #[.agg #[.slice sa l.length sc], .iface 125 (.agg #[.string ⟨tb.toArray⟩, .slice a3 wh.length c3])] w fun e w' => e = .returned (.int .i64 (orL [tabK l tb, condsC (tabN l tb) wh])) ∧ Below w.heap.size w w' := by
  generalize hR : orL [tabK l tb, condsC (tabN l tb) wh] = R
  have HR := Lib.hid hR
  clear hR
  have TC : Hid (∀ W, Below w.heap.size w W → Calls Tryz.prog 59 #[.agg #[.slice sa l.length sc], .string ⟨tb.toArray⟩] W (TcAns l tb A w W)) := fun W h => tabCalledI l tb sa sc A w W h hlo hT
  have HTO : Hid ((tabN l tb).ok) := tabN_ok hlo
  have hb := boxE 37 125 w #[.slice sa l.length sc] #[.string ⟨tb.toArray⟩, .slice a3 wh.length c3]
  have x0 := cell_at (o := 0) hb.a rfl
  have y0 := cell_at (o := 0) hb.b rfl
  have y1 := cell_at (o := 1) hb.b rfl
  have HB := Lib.hid hb
  clear hb hlo hT
  have Kwh : Hid (∀ (t : Tb) ca cc ua uc, t.ok → (∀ W, Below w.heap.size w W → t.Has W A ca ua) → ∀ pb W, OCB w W #[.slice sa l.length sc] #[.string ⟨tb.toArray⟩, .slice a3 wh.length c3] 125 pb #[.string ⟨t.nm.toArray⟩, .slice ca t.cols.length cc, .slice ua t.uq.length uc, .bool t.rt] → Calls Tryz.prog 65 #[.agg #[.string ⟨t.nm.toArray⟩, .slice ca t.cols.length cc, .slice ua t.uq.length uc, .bool t.rt], .slice a3 wh.length c3, .func (.func 66) #[] #[]] W fun e w' => e = .returned (.int .i64 (condsC t wh)) ∧ OCB w w' #[.slice sa l.length sc] #[.string ⟨tb.toArray⟩, .slice a3 wh.length c3] 125 pb #[.string ⟨t.nm.toArray⟩, .slice ca t.cols.length cc, .slice ua t.uq.length uc, .bool t.rt]) := fun t ca cc ua uc hto hhW pb W h => have hh := hhW W h.bel; (firstI t ca cc ua uc A wh a3 c3 B W hto h3 hh (r3.later h.bel)).mono (fun e w' ⟨he, hB⟩ => ⟨he, h.later hB⟩)
  clear h3 r3
  have ta1 : ∀ (v : Value) (w : World), (Instr.typeAssert (.iface 125 v) 62 117 true).run Tryz.prog w = .ok (.tuple #[.agg #[.string ⟨#[]⟩, .string ⟨#[]⟩, .slice none 0 0], .bool false]) w := fun _ _ => by kernel_rfl
  have ta2 : ∀ (v : Value) (w : World), (Instr.typeAssert (.iface 125 v) 62 119 true).run Tryz.prog w = .ok (.tuple #[.agg #[.string ⟨#[]⟩, .slice none 0 0, .slice none 0 0], .bool false]) w := fun _ _ => by kernel_rfl
  have ta3 : ∀ (v : Value) (w : World), (Instr.typeAssert (.iface 125 v) 62 121 true).run Tryz.prog w = .ok (.tuple #[.agg #[.string ⟨#[]⟩, .slice none 0 0, .slice none 0 0], .bool false]) w := fun _ _ => by kernel_rfl
  have ta4 : ∀ (v : Value) (w : World), (Instr.typeAssert (.iface 125 v) 62 123 true).run Tryz.prog w = .ok (.tuple #[.agg #[.string ⟨#[]⟩, .slice none 0 0, .slice none 0 0], .bool false]) w := fun _ _ => by kernel_rfl
  have ta5 : ∀ (v : Value) (w : World), (Instr.typeAssert (.iface 125 v) 62 125 true).run Tryz.prog w = .ok (.tuple #[v, .bool true]) w := fun _ _ => by kernel_rfl
  go_enter Tryz.func28, Tryz.ntmps28
  go_wp2_with fail
  refine (TC.out _ HB.out.bel).mono ?_
  rintro e w1 ⟨ca, cc, ua, uc, rfl, hh, hB⟩
  have HB1 := Lib.hid (HB.out.later hB)
  have HH0 := Lib.hid hh
  clear hh hB x0 y0 y1
  generalize tabN l tb = t at *
  generalize tabK l tb = tk at *
  have HT0 := Lib.hid (HB1.out.ocb #[.string ⟨t.nm.toArray⟩, .slice ca t.cols.length cc, .slice ua t.uq.length uc, .bool t.rt])
  have HHX : Hid (∀ W, Below w.heap.size w W → t.Has W A ca ua) := fun W h => HH0.out.later h
  have Lwh := Lib.hid (Kwh.out t ca cc ua uc HTO.out HHX.out w1.heap.size)
  clear Kwh TC
  generalize condsC t wh = vwh at *
  have CE : Hid (∀ W, OCB w W #[.slice sa l.length sc] #[.string ⟨tb.toArray⟩, .slice a3 wh.length c3] 125 w1.heap.size #[.string ⟨t.nm.toArray⟩, .slice ca t.cols.length cc, .slice ua t.uq.length uc, .bool t.rt] → W.cell? ⟨w.heap.size + 1, 0, none⟩ = some (.string ⟨tb.toArray⟩) ∧ W.cell? ⟨w.heap.size + 1, 1, none⟩ = some (.slice a3 wh.length c3) ∧ W.cell? ⟨w1.heap.size, 0, none⟩ = some (.string ⟨t.nm.toArray⟩) ∧ W.cell? ⟨w1.heap.size, 1, none⟩ = some (.slice ca t.cols.length cc) ∧ W.cell? ⟨w1.heap.size, 2, none⟩ = some (.slice ua t.uq.length uc) ∧ W.cell? ⟨w1.heap.size, 3, none⟩ = some (.bool t.rt)) := fun W h => ⟨cell_at (o := 0) h.b rfl, cell_at (o := 1) h.b rfl, cell_at (o := 0) h.c rfl, cell_at (o := 1) h.c rfl, cell_at (o := 2) h.c rfl, cell_at (o := 3) h.c rfl⟩
  have hb := HT0.out
  have y0 := cell_at (o := 0) hb.b rfl
  have y1 := cell_at (o := 1) hb.b rfl
  have z0 := cell_at (o := 0) hb.c rfl
  have z1 := cell_at (o := 1) hb.c rfl
  have z2 := cell_at (o := 2) hb.c rfl
  have z3 := cell_at (o := 3) hb.c rfl
  clear hb
  go_wp2_with fail
  refine (Lwh.out _ HT0.out).mono ?_
  rintro e w4 ⟨rfl, hb⟩
  have HB4 := Lib.hid hb
  clear hb
  go_wp2_with fail
  refine (or2I tk vwh w4).mono ?_
  rintro e w5 ⟨rfl, rfl⟩
  go_wp2_with fail
  go_ret
  exact ⟨ret_i HR.out, HB4.out.bel.alloc HB4.out.bel.size _⟩
set_option maxRecDepth 100000 in
set_option maxHeartbeats 12800000 in
theorem opc6 (l : List Tb) (sa : Option Addr) (sc : Nat) (A : Nat → Prop) (tb : List UInt8) (wh : List CondV) (a3 : Option Addr) (c3 : Nat) (row : List SetV) (a4 : Option Addr) (c4 : Nat) (un : Bool) (B : Nat → Prop) (w : World) (hlo : (dTableS l).le maxLen) (hT : Rd w A (dTableS l) (.slice sa l.length sc)) (h3 : (dCondS wh).le maxLen) (r3 : Rd w B (dCondS wh) (.slice a3 wh.length c3)) (h4 : (dSetS row).le maxLen) (hq : ∀ k (h : k < row.length), setB row[k] = true) (hcap : row.length ≤ c4) (r4 : Rd w B (dSetS row) (.slice a4 row.length c4)) :
    Calls Tryz.prog 28 #[.agg #[.slice sa l.length sc], .iface 127 (.agg #[.string ⟨tb.toArray⟩, .slice a3 wh.length c3, .slice a4 row.length c4, .bool un])] w fun e w' => e = .returned (.int .i64 (orL [tabK l tb, condsC (tabN l tb) wh, setsC (tabN l tb) row])) ∧ Below w.heap.size w w' := by
  generalize hR : orL [tabK l tb, condsC (tabN l tb) wh, setsC (tabN l tb) row] = R
  have HR := Lib.hid hR
  clear hR
  have TC : Hid (∀ W, Below w.heap.size w W → Calls Tryz.prog 59 #[.agg #[.slice sa l.length sc], .string ⟨tb.toArray⟩] W (TcAns l tb A w W)) := fun W h => tabCalledI l tb sa sc A w W h hlo hT
  have HTO : Hid ((tabN l tb).ok) := tabN_ok hlo
  have hb := boxE 37 127 w #[.slice sa l.length sc] #[.string ⟨tb.toArray⟩, .slice a3 wh.length c3, .slice a4 row.length c4, .bool un]
  have x0 := cell_at (o := 0) hb.a rfl
  have y0 := cell_at (o := 0) hb.b rfl
  have y1 := cell_at (o := 1) hb.b rfl
  have y2 := cell_at (o := 2) hb.b rfl
  have y3 := cell_at (o := 3) hb.b rfl
  have HB := Lib.hid hb
  clear hb hlo hT
  have Kwh : Hid (∀ (t : Tb) ca cc ua uc, t.ok → (∀ W, Below w.heap.size w W → t.Has W A ca ua) → ∀ pb W, OCB w W #[.slice sa l.length sc] #[.string ⟨tb.toArray⟩, .slice a3 wh.length c3, .slice a4 row.length c4, .bool un] 127 pb #[.string ⟨t.nm.toArray⟩, .slice ca t.cols.length cc, .slice ua t.uq.length uc, .bool t.rt] → Calls Tryz.prog 65 #[.agg #[.string ⟨t.nm.toArray⟩, .slice ca t.cols.length cc, .slice ua t.uq.length uc, .bool t.rt], .slice a3 wh.length c3, .func (.func 66) #[] #[]] W fun e w' => e = .returned (.int .i64 (condsC t wh)) ∧ OCB w w' #[.slice sa l.length sc] #[.string ⟨tb.toArray⟩, .slice a3 wh.length c3, .slice a4 row.length c4, .bool un] 127 pb #[.string ⟨t.nm.toArray⟩, .slice ca t.cols.length cc, .slice ua t.uq.length uc, .bool t.rt]) := fun t ca cc ua uc hto hhW pb W h => have hh := hhW W h.bel; (firstI t ca cc ua uc A wh a3 c3 B W hto h3 hh (r3.later h.bel)).mono (fun e w' ⟨he, hB⟩ => ⟨he, h.later hB⟩)
  have Krow : Hid (∀ (t : Tb) ca cc ua uc, t.ok → (∀ W, Below w.heap.size w W → t.Has W A ca ua) → ∀ pb W, OCB w W #[.slice sa l.length sc] #[.string ⟨tb.toArray⟩, .slice a3 wh.length c3, .slice a4 row.length c4, .bool un] 127 pb #[.string ⟨t.nm.toArray⟩, .slice ca t.cols.length cc, .slice ua t.uq.length uc, .bool t.rt] → Calls Tryz.prog 62 #[.agg #[.string ⟨t.nm.toArray⟩, .slice ca t.cols.length cc, .slice ua t.uq.length uc, .bool t.rt], .slice a4 row.length c4] W fun e w' => e = .returned (.int .i64 (setsC t row)) ∧ OCB w w' #[.slice sa l.length sc] #[.string ⟨tb.toArray⟩, .slice a3 wh.length c3, .slice a4 row.length c4, .bool un] 127 pb #[.string ⟨t.nm.toArray⟩, .slice ca t.cols.length cc, .slice ua t.uq.length uc, .bool t.rt]) := fun t ca cc ua uc hto hhW pb W h => have hh := hhW W h.bel; (rowCodeI t ca cc ua uc A row a4 c4 B W hto h4 hq hcap hh (r4.later h.bel)).mono (fun e w' ⟨he, hB⟩ => ⟨he, h.later hB⟩)
  clear h3 r3 h4 hq hcap r4
  have ta1 : ∀ (v : Value) (w : World), (Instr.typeAssert (.iface 127 v) 62 117 true).run Tryz.prog w = .ok (.tuple #[.agg #[.string ⟨#[]⟩, .string ⟨#[]⟩, .slice none 0 0], .bool false]) w := fun _ _ => by kernel_rfl
  have ta2 : ∀ (v : Value) (w : World), (Instr.typeAssert (.iface 127 v) 62 119 true).run Tryz.prog w = .ok (.tuple #[.agg #[.string ⟨#[]⟩, .slice none 0 0, .slice none 0 0], .bool false]) w := fun _ _ => by kernel_rfl
  have ta3 : ∀ (v : Value) (w : World), (Instr.typeAssert (.iface 127 v) 62 121 true).run Tryz.prog w = .ok (.tuple #[.agg #[.string ⟨#[]⟩, .slice none 0 0, .slice none 0 0], .bool false]) w := fun _ _ => by kernel_rfl
  have ta4 : ∀ (v : Value) (w : World), (Instr.typeAssert (.iface 127 v) 62 123 true).run Tryz.prog w = .ok (.tuple #[.agg #[.string ⟨#[]⟩, .slice none 0 0, .slice none 0 0], .bool false]) w := fun _ _ => by kernel_rfl
  have ta5 : ∀ (v : Value) (w : World), (Instr.typeAssert (.iface 127 v) 62 125 true).run Tryz.prog w = .ok (.tuple #[.agg #[.string ⟨#[]⟩, .slice none 0 0], .bool false]) w := fun _ _ => by kernel_rfl
  have ta6 : ∀ (v : Value) (w : World), (Instr.typeAssert (.iface 127 v) 62 127 true).run Tryz.prog w = .ok (.tuple #[v, .bool true]) w := fun _ _ => by kernel_rfl
  go_enter Tryz.func28, Tryz.ntmps28
  go_wp2_with fail
  refine (TC.out _ HB.out.bel).mono ?_
  rintro e w1 ⟨ca, cc, ua, uc, rfl, hh, hB⟩
  have HB1 := Lib.hid (HB.out.later hB)
  have HH0 := Lib.hid hh
  clear hh hB x0 y0 y1 y2 y3
  generalize tabN l tb = t at *
  generalize tabK l tb = tk at *
  have HT0 := Lib.hid (HB1.out.ocb #[.string ⟨t.nm.toArray⟩, .slice ca t.cols.length cc, .slice ua t.uq.length uc, .bool t.rt])
  have HHX : Hid (∀ W, Below w.heap.size w W → t.Has W A ca ua) := fun W h => HH0.out.later h
  have Lwh := Lib.hid (Kwh.out t ca cc ua uc HTO.out HHX.out w1.heap.size)
  have Lrow := Lib.hid (Krow.out t ca cc ua uc HTO.out HHX.out w1.heap.size)
  clear Kwh Krow TC
  generalize condsC t wh = vwh at *
  generalize setsC t row = vrow at *
  have CE : Hid (∀ W, OCB w W #[.slice sa l.length sc] #[.string ⟨tb.toArray⟩, .slice a3 wh.length c3, .slice a4 row.length c4, .bool un] 127 w1.heap.size #[.string ⟨t.nm.toArray⟩, .slice ca t.cols.length cc, .slice ua t.uq.length uc, .bool t.rt] → W.cell? ⟨w.heap.size + 1, 0, none⟩ = some (.string ⟨tb.toArray⟩) ∧ W.cell? ⟨w.heap.size + 1, 1, none⟩ = some (.slice a3 wh.length c3) ∧ W.cell? ⟨w.heap.size + 1, 2, none⟩ = some (.slice a4 row.length c4) ∧ W.cell? ⟨w.heap.size + 1, 3, none⟩ = some (.bool un) ∧ W.cell? ⟨w1.heap.size, 0, none⟩ = some (.string ⟨t.nm.toArray⟩) ∧ W.cell? ⟨w1.heap.size, 1, none⟩ = some (.slice ca t.cols.length cc) ∧ W.cell? ⟨w1.heap.size, 2, none⟩ = some (.slice ua t.uq.length uc) ∧ W.cell? ⟨w1.heap.size, 3, none⟩ = some (.bool t.rt)) := fun W h => ⟨cell_at (o := 0) h.b rfl, cell_at (o := 1) h.b rfl, cell_at (o := 2) h.b rfl, cell_at (o := 3) h.b rfl, cell_at (o := 0) h.c rfl, cell_at (o := 1) h.c rfl, cell_at (o := 2) h.c rfl, cell_at (o := 3) h.c rfl⟩
  go_wp2_with fail
  have hx := HT0.out
  clear HT0
  refine wp_region_held_drew (S := (fun W => W.cell? ⟨w.heap.size + 1, 0, none⟩ = some (.string ⟨tb.toArray⟩) ∧ W.cell? ⟨w.heap.size + 1, 1, none⟩ = some (.slice a3 wh.length c3) ∧ W.cell? ⟨w.heap.size + 1, 2, none⟩ = some (.slice a4 row.length c4) ∧ W.cell? ⟨w.heap.size + 1, 3, none⟩ = some (.bool un) ∧ W.cell? ⟨w1.heap.size, 0, none⟩ = some (.string ⟨t.nm.toArray⟩) ∧ W.cell? ⟨w1.heap.size, 1, none⟩ = some (.slice ca t.cols.length cc) ∧ W.cell? ⟨w1.heap.size, 2, none⟩ = some (.slice ua t.uq.length uc) ∧ W.cell? ⟨w1.heap.size, 3, none⟩ = some (.bool t.rt))) (by kernel_rfl) ?_ (fun hHeld => ?_)
  · (first | exact CE.out _ hx | exact CE.out _ hx.drew | exact CE.out _ (hx.later (below_allocD _ _)))
  refine tkA (i := 0) (v := ?_) rfl ?_ ?_
  rotate_left
  · (intro wS hSw; (try dsimp only at hSw); go_simp <;> with_reducible rfl)
  try simp only [Act.put, tkS]
  refine tkA (i := 1) (v := ?_) rfl ?_ ?_
  rotate_left
  · (intro wS hSw; (try dsimp only at hSw); go_simp <;> with_reducible rfl)
  try simp only [Act.put, tkS]
  refine tkA (i := 2) (v := ?_) rfl ?_ ?_
  rotate_left
  · (intro wS hSw; (try dsimp only at hSw); go_simp <;> with_reducible rfl)
  try simp only [Act.put, tkS]
  refine tkA (i := 3) (v := ?_) rfl ?_ ?_
  rotate_left
  · (intro wS hSw; (try dsimp only at hSw); go_simp <;> with_reducible rfl)
  try simp only [Act.put, tkS]
  refine tkA (i := 4) (v := ?_) rfl ?_ ?_
  rotate_left
  · (intro wS hSw; (try dsimp only at hSw); go_simp <;> with_reducible rfl)
  try simp only [Act.put, tkS]
  refine tkA (i := 6) (v := ?_) rfl ?_ ?_
  rotate_left
  · (intro wS hSw; (try dsimp only at hSw); go_simp <;> with_reducible rfl)
  try simp only [Act.put, tkS]
  refine tkA (i := 7) (v := ?_) rfl ?_ ?_
  rotate_left
  · (intro wS hSw; (try dsimp only at hSw); go_simp <;> with_reducible rfl)
  try simp only [Act.put, tkS]
  refine tkA (i := 8) (v := ?_) rfl ?_ ?_
  rotate_left
  · (intro wS hSw; (try dsimp only at hSw); go_simp <;> with_reducible rfl)
  try simp only [Act.put, tkS]
  refine wpAnyH_ready (rs := [5]) (by kernel_rfl) (by simp) (AllReadyH.cons rfl (fun K hK => ?_) AllReadyH.nil)
  go_simp
  (go_at_call 65; refine (Lwh.out _ (by first | exact hx | exact hx.drew)).mono ?_; rintro e wk1 ⟨rfl, hx1⟩; clear hx; have hx := hx1; clear hx1)
  refine hK.out _ _ ?_ (fun hHeld => ?_)
  · (first | exact CE.out _ hx | exact CE.out _ hx.drew | exact CE.out _ (hx.later (below_allocD _ _)))
  clear hK K
  try simp only [Act.put, tkS]
  refine wpAnyH_ready (rs := [9]) (by kernel_rfl) (by simp) (AllReadyH.cons rfl (fun K hK => ?_) AllReadyH.nil)
  go_simp
  (go_at_call 62; refine (Lrow.out _ (by first | exact hx | exact hx.drew)).mono ?_; rintro e wk2 ⟨rfl, hx2⟩; clear hx; have hx := hx2; clear hx2)
  refine hK.out _ _ ?_ (fun hHeld => ?_)
  · (first | exact CE.out _ hx | exact CE.out _ hx.drew | exact CE.out _ (hx.later (below_allocD _ _)))
  clear hK K
  try simp only [Act.put, tkS]
  refine wpAnyH_ready (rs := [10]) (by kernel_rfl) (by simp) (AllReadyH.cons rfl (fun K hK => ?_) AllReadyH.nil)
  go_simp
  skip
  refine hK.out _ _ ?_ (fun hHeld => ?_)
  · (first | exact CE.out _ hx | exact CE.out _ hx.drew | exact CE.out _ (hx.later (below_allocD _ _)))
  clear hK K
  try simp only [Act.put, tkS]
  refine wpAnyH_ready (rs := [11]) (by kernel_rfl) (by simp) (AllReadyH.cons rfl (fun K hK => ?_) AllReadyH.nil)
  go_simp
  (go_at_call 60; refine (or3I tk vwh vrow wk2).mono ?_; rintro e w9 ⟨rfl, rfl⟩)
  refine hK.out _ _ ?_ (fun hHeld => ?_)
  · (first | exact CE.out _ hx | exact CE.out _ hx.drew | exact CE.out _ (hx.later (below_allocD _ _)))
  clear hK K
  try simp only [Act.put, tkS]
  refine tkA (i := 12) (v := ?_) rfl ?_ ?_
  rotate_left
  · (intro wS hSw; (try dsimp only at hSw); go_simp <;> with_reducible rfl)
  try simp only [Act.put, tkS]
  refine wpAnyH_done (by kernel_rfl) ?_ _
  go_wp2_with fail
  go_ret
  exact ⟨ret_i HR.out, hx.bel.alloc hx.bel.size _⟩
set_option maxRecDepth 100000 in
set_option maxHeartbeats 12800000 in
theorem opc7 (l : List Tb) (sa : Option Addr) (sc : Nat) (w : World) :
    Calls Tryz.prog 28 #[.agg #[.slice sa l.length sc], .iface 129 (.agg #[])] w fun e w' => e = .returned (.int .i64 (0)) ∧ Below w.heap.size w w' := by
  have hb := boxD 37 w #[.slice sa l.length sc]
  have HB := Lib.hid hb.2
  clear hb
  have ta1 : ∀ (v : Value) (w : World), (Instr.typeAssert (.iface 129 v) 62 117 true).run Tryz.prog w = .ok (.tuple #[.agg #[.string ⟨#[]⟩, .string ⟨#[]⟩, .slice none 0 0], .bool false]) w := fun _ _ => by kernel_rfl
  have ta2 : ∀ (v : Value) (w : World), (Instr.typeAssert (.iface 129 v) 62 119 true).run Tryz.prog w = .ok (.tuple #[.agg #[.string ⟨#[]⟩, .slice none 0 0, .slice none 0 0], .bool false]) w := fun _ _ => by kernel_rfl
  have ta3 : ∀ (v : Value) (w : World), (Instr.typeAssert (.iface 129 v) 62 121 true).run Tryz.prog w = .ok (.tuple #[.agg #[.string ⟨#[]⟩, .slice none 0 0, .slice none 0 0], .bool false]) w := fun _ _ => by kernel_rfl
  have ta4 : ∀ (v : Value) (w : World), (Instr.typeAssert (.iface 129 v) 62 123 true).run Tryz.prog w = .ok (.tuple #[.agg #[.string ⟨#[]⟩, .slice none 0 0, .slice none 0 0], .bool false]) w := fun _ _ => by kernel_rfl
  have ta5 : ∀ (v : Value) (w : World), (Instr.typeAssert (.iface 129 v) 62 125 true).run Tryz.prog w = .ok (.tuple #[.agg #[.string ⟨#[]⟩, .slice none 0 0], .bool false]) w := fun _ _ => by kernel_rfl
  have ta6 : ∀ (v : Value) (w : World), (Instr.typeAssert (.iface 129 v) 62 127 true).run Tryz.prog w = .ok (.tuple #[.agg #[.string ⟨#[]⟩, .slice none 0 0, .slice none 0 0, .bool false], .bool false]) w := fun _ _ => by kernel_rfl
  have ta10 : ∀ (v : Value) (w : World), (Instr.typeAssert (.iface 129 v) 62 134 true).run Tryz.prog w = .ok (.tuple #[.agg #[.string ⟨#[]⟩], .bool false]) w := fun _ _ => by kernel_rfl
  go_enter Tryz.func28, Tryz.ntmps28
  go_wp2_with fail
  go_ret
  exact ⟨rfl, HB.out⟩
set_option maxRecDepth 100000 in
set_option maxHeartbeats 12800000 in
theorem opc8 (l : List Tb) (sa : Option Addr) (sc : Nat) (w : World) :
    Calls Tryz.prog 28 #[.agg #[.slice sa l.length sc], .iface 130 (.agg #[])] w fun e w' => e = .returned (.int .i64 (0)) ∧ Below w.heap.size w w' := by
  have hb := boxD 37 w #[.slice sa l.length sc]
  have HB := Lib.hid hb.2
  clear hb
  have ta1 : ∀ (v : Value) (w : World), (Instr.typeAssert (.iface 130 v) 62 117 true).run Tryz.prog w = .ok (.tuple #[.agg #[.string ⟨#[]⟩, .string ⟨#[]⟩, .slice none 0 0], .bool false]) w := fun _ _ => by kernel_rfl
  have ta2 : ∀ (v : Value) (w : World), (Instr.typeAssert (.iface 130 v) 62 119 true).run Tryz.prog w = .ok (.tuple #[.agg #[.string ⟨#[]⟩, .slice none 0 0, .slice none 0 0], .bool false]) w := fun _ _ => by kernel_rfl
  have ta3 : ∀ (v : Value) (w : World), (Instr.typeAssert (.iface 130 v) 62 121 true).run Tryz.prog w = .ok (.tuple #[.agg #[.string ⟨#[]⟩, .slice none 0 0, .slice none 0 0], .bool false]) w := fun _ _ => by kernel_rfl
  have ta4 : ∀ (v : Value) (w : World), (Instr.typeAssert (.iface 130 v) 62 123 true).run Tryz.prog w = .ok (.tuple #[.agg #[.string ⟨#[]⟩, .slice none 0 0, .slice none 0 0], .bool false]) w := fun _ _ => by kernel_rfl
  have ta5 : ∀ (v : Value) (w : World), (Instr.typeAssert (.iface 130 v) 62 125 true).run Tryz.prog w = .ok (.tuple #[.agg #[.string ⟨#[]⟩, .slice none 0 0], .bool false]) w := fun _ _ => by kernel_rfl
  have ta6 : ∀ (v : Value) (w : World), (Instr.typeAssert (.iface 130 v) 62 127 true).run Tryz.prog w = .ok (.tuple #[.agg #[.string ⟨#[]⟩, .slice none 0 0, .slice none 0 0, .bool false], .bool false]) w := fun _ _ => by kernel_rfl
  have ta10 : ∀ (v : Value) (w : World), (Instr.typeAssert (.iface 130 v) 62 134 true).run Tryz.prog w = .ok (.tuple #[.agg #[.string ⟨#[]⟩], .bool false]) w := fun _ _ => by kernel_rfl
  go_enter Tryz.func28, Tryz.ntmps28
  go_wp2_with fail
  go_ret
  exact ⟨rfl, HB.out⟩
set_option maxRecDepth 100000 in
set_option maxHeartbeats 12800000 in
theorem opc9 (l : List Tb) (sa : Option Addr) (sc : Nat) (nm : List UInt8) (w : World) :
    Calls Tryz.prog 28 #[.agg #[.slice sa l.length sc], .iface 132 (.agg #[.string ⟨nm.toArray⟩])] w fun e w' => e = .returned (.int .i64 (0)) ∧ Below w.heap.size w w' := by
  have hb := boxD 37 w #[.slice sa l.length sc]
  have HB := Lib.hid hb.2
  clear hb
  have ta1 : ∀ (v : Value) (w : World), (Instr.typeAssert (.iface 132 v) 62 117 true).run Tryz.prog w = .ok (.tuple #[.agg #[.string ⟨#[]⟩, .string ⟨#[]⟩, .slice none 0 0], .bool false]) w := fun _ _ => by kernel_rfl
  have ta2 : ∀ (v : Value) (w : World), (Instr.typeAssert (.iface 132 v) 62 119 true).run Tryz.prog w = .ok (.tuple #[.agg #[.string ⟨#[]⟩, .slice none 0 0, .slice none 0 0], .bool false]) w := fun _ _ => by kernel_rfl
  have ta3 : ∀ (v : Value) (w : World), (Instr.typeAssert (.iface 132 v) 62 121 true).run Tryz.prog w = .ok (.tuple #[.agg #[.string ⟨#[]⟩, .slice none 0 0, .slice none 0 0], .bool false]) w := fun _ _ => by kernel_rfl
  have ta4 : ∀ (v : Value) (w : World), (Instr.typeAssert (.iface 132 v) 62 123 true).run Tryz.prog w = .ok (.tuple #[.agg #[.string ⟨#[]⟩, .slice none 0 0, .slice none 0 0], .bool false]) w := fun _ _ => by kernel_rfl
  have ta5 : ∀ (v : Value) (w : World), (Instr.typeAssert (.iface 132 v) 62 125 true).run Tryz.prog w = .ok (.tuple #[.agg #[.string ⟨#[]⟩, .slice none 0 0], .bool false]) w := fun _ _ => by kernel_rfl
  have ta6 : ∀ (v : Value) (w : World), (Instr.typeAssert (.iface 132 v) 62 127 true).run Tryz.prog w = .ok (.tuple #[.agg #[.string ⟨#[]⟩, .slice none 0 0, .slice none 0 0, .bool false], .bool false]) w := fun _ _ => by kernel_rfl
  have ta10 : ∀ (v : Value) (w : World), (Instr.typeAssert (.iface 132 v) 62 134 true).run Tryz.prog w = .ok (.tuple #[.agg #[.string ⟨#[]⟩], .bool false]) w := fun _ _ => by kernel_rfl
  go_enter Tryz.func28, Tryz.ntmps28
  go_wp2_with fail
  go_ret
  exact ⟨rfl, HB.out⟩
set_option maxRecDepth 100000 in
set_option maxHeartbeats 12800000 in
theorem opc10 (l : List Tb) (sa : Option Addr) (sc : Nat) (nm : List UInt8) (w : World) (h2 : nm.length ≤ maxLen) :
    Calls Tryz.prog 28 #[.agg #[.slice sa l.length sc], .iface 134 (.agg #[.string ⟨nm.toArray⟩])] w fun e w' => e = .returned (.int .i64 (lkK nm)) ∧ Below w.heap.size w w' := by
  have hb := boxD 37 w #[.slice sa l.length sc]
  have HB := Lib.hid hb.2
  clear hb
  have HB2 : Hid (Below w.heap.size w ((w.alloc (.cells #[.slice sa l.length sc] 37)).alloc (.cells #[.string ⟨nm.toArray⟩] 134))) := HB.out.alloc HB.out.size _
  have LK : Hid (∀ W, Calls Tryz.prog 69 #[.string ⟨nm.toArray⟩] W fun e w' => e = .returned (.int .i64 (lkK nm)) ∧ w' = W) := fun W => lockI nm W h2
  clear h2
  generalize lkK nm = lk at *
  have ta1 : ∀ (v : Value) (w : World), (Instr.typeAssert (.iface 134 v) 62 117 true).run Tryz.prog w = .ok (.tuple #[.agg #[.string ⟨#[]⟩, .string ⟨#[]⟩, .slice none 0 0], .bool false]) w := fun _ _ => by kernel_rfl
  have ta2 : ∀ (v : Value) (w : World), (Instr.typeAssert (.iface 134 v) 62 119 true).run Tryz.prog w = .ok (.tuple #[.agg #[.string ⟨#[]⟩, .slice none 0 0, .slice none 0 0], .bool false]) w := fun _ _ => by kernel_rfl
  have ta3 : ∀ (v : Value) (w : World), (Instr.typeAssert (.iface 134 v) 62 121 true).run Tryz.prog w = .ok (.tuple #[.agg #[.string ⟨#[]⟩, .slice none 0 0, .slice none 0 0], .bool false]) w := fun _ _ => by kernel_rfl
  have ta4 : ∀ (v : Value) (w : World), (Instr.typeAssert (.iface 134 v) 62 123 true).run Tryz.prog w = .ok (.tuple #[.agg #[.string ⟨#[]⟩, .slice none 0 0, .slice none 0 0], .bool false]) w := fun _ _ => by kernel_rfl
  have ta5 : ∀ (v : Value) (w : World), (Instr.typeAssert (.iface 134 v) 62 125 true).run Tryz.prog w = .ok (.tuple #[.agg #[.string ⟨#[]⟩, .slice none 0 0], .bool false]) w := fun _ _ => by kernel_rfl
  have ta6 : ∀ (v : Value) (w : World), (Instr.typeAssert (.iface 134 v) 62 127 true).run Tryz.prog w = .ok (.tuple #[.agg #[.string ⟨#[]⟩, .slice none 0 0, .slice none 0 0, .bool false], .bool false]) w := fun _ _ => by kernel_rfl
  have ta10 : ∀ (v : Value) (w : World), (Instr.typeAssert (.iface 134 v) 62 134 true).run Tryz.prog w = .ok (.tuple #[v, .bool true]) w := fun _ _ => by kernel_rfl
  go_enter Tryz.func28, Tryz.ntmps28
  go_wp2_with fail
  refine (LK.out _).mono ?_
  rintro e w1 ⟨rfl, rfl⟩
  go_wp2_with fail
  go_ret
  exact ⟨rfl, HB2.out⟩
end Go.Proofs.YtaepgahejelkaaaGreat
