import Derived.Test.YtmebbinolkohjaaGreatZbr
import Derived.Test.YtmebbinolkohjaaGreatZbv
import Derived.Test.YtmebbinolkohjaaGreatZbp
namespace Go.Proofs.YtmebbinolkohjaaGreat
open Go.RowKit Go.Maps
set_option linter.unusedSimpArgs false
noncomputable def cmC (l : List Tb) (ts : List (List RowV)) : Int := if refB l ts = true then (if uniqB l ts = true then 0 else 12) else 13
noncomputable def ccR (l : List Tb) (x : StV) : Int × Int := if (schB l && formB l x) = true then (cmC l x.tables, 0) else (0, 1)
theorem cm_ref {l : List Tb} {ts : List (List RowV)} (h : refB l ts = false) : cmC l ts = 13 := by unfold cmC; rw [h]; rfl
theorem cm_uq {l : List Tb} {ts : List (List RowV)} (h : refB l ts = true) (h' : uniqB l ts = false) : cmC l ts = 12 := by unfold cmC; rw [h, h']; rfl
theorem cm_ok {l : List Tb} {ts : List (List RowV)} (h : refB l ts = true) (h' : uniqB l ts = true) : cmC l ts = 0 := by unfold cmC; rw [h, h']; rfl
theorem cc_bad {l : List Tb} {x : StV} (h : (schB l && formB l x) = false) : ccR l x = (0, 1) := by unfold ccR; rw [h]; rfl
theorem cc_ok {l : List Tb} {x : StV} (h : (schB l && formB l x) = true) : ccR l x = (cmC l x.tables, 0) := by unfold ccR; rw [if_pos h]
set_option maxRecDepth 100000 in
set_option maxHeartbeats 6400000 in
theorem cmS (l : List Tb) (sa : Option Addr) (sc : Nat) (A : Nat → Prop) (x : StV) (xa : Option Addr) (xc : Nat) (B : Nat → Prop) (w : World) (_hlo : (dTableS l).le maxLen) (ho : (dRowSS x.tables).le maxLen) (hs : SchP l) (hf : FormP l x) (hT : Rd w A (dTableS l) (.slice sa l.length sc)) (hR : Rd w B (dRowSS x.tables) (.slice xa x.tables.length xc)) :
    Calls Tryz.prog 33 #[.agg #[.slice sa l.length sc], .agg #[.slice xa x.tables.length xc, .int .i64 x.next]] w fun e w' => e = .returned (.int .i64 (cmC l x.tables)) ∧ Below w.heap.size w w' := by
  have K0 : Hid (∀ W, BoxE 37 32 w W #[.slice sa l.length sc] #[.slice xa x.tables.length xc, .int .i64 x.next] → Calls Tryz.prog 62 #[.agg #[.slice sa l.length sc], .agg #[.slice xa x.tables.length xc, .int .i64 x.next]] W fun e w' => e = .returned (.bool (refB l x.tables)) ∧ BoxE 37 32 w w' #[.slice sa l.length sc] #[.slice xa x.tables.length xc, .int .i64 x.next]) := fun W h => (refS l sa sc A x xa xc B W ho hs hf (hT.later h.bel) (hR.later h.bel)).mono (fun e w' ⟨he, hB⟩ => ⟨he, h.later hB⟩)
  have K1 : Hid (∀ W, BoxE 37 32 w W #[.slice sa l.length sc] #[.slice xa x.tables.length xc, .int .i64 x.next] → Calls Tryz.prog 63 #[.agg #[.slice sa l.length sc], .agg #[.slice xa x.tables.length xc, .int .i64 x.next]] W fun e w' => e = .returned (.bool (uniqB l x.tables)) ∧ BoxE 37 32 w w' #[.slice sa l.length sc] #[.slice xa x.tables.length xc, .int .i64 x.next]) := fun W h => (uniqS l sa sc A x xa xc B W ho hs hf (hT.later h.bel) (hR.later h.bel)).mono (fun e w' ⟨he, hB⟩ => ⟨he, h.later hB⟩)
  have HB0 := Lib.hid (boxE 37 32 w #[.slice sa l.length sc] #[.slice xa x.tables.length xc, .int .i64 x.next])
  clear _hlo ho hs hf hT hR
  have x0 := cell_at (o := 0) HB0.out.a rfl
  have y0 := cell_at (o := 0) HB0.out.b rfl
  have y1 := cell_at (o := 1) HB0.out.b rfl
  go_enter Tryz.func33, Tryz.ntmps33
  go_wp2_with fail
  refine (K0.out _ (by first | exact HB0.out | exact HB0.out.drew)).mono ?_
  rintro e w1 ⟨rfl, hb⟩
  have HB1 := Lib.hid hb
  clear hb x0 y0 y1
  have x0 := cell_at (o := 0) HB1.out.a rfl
  have y0 := cell_at (o := 0) HB1.out.b rfl
  have y1 := cell_at (o := 1) HB1.out.b rfl
  cases h0 : (refB l x.tables)
  case false =>
    have HE : Hid (cmC l x.tables = 13) := cm_ref h0
    clear h0
    go_wp2_with fail
    go_ret
    exact ⟨ret_i HE.out.symm, HB1.out.bel⟩
  go_wp2_with fail
  refine (K1.out _ (by first | exact HB1.out | exact HB1.out.drew)).mono ?_
  rintro e w2 ⟨rfl, hb⟩
  have HB2 := Lib.hid hb
  clear hb x0 y0 y1
  have x0 := cell_at (o := 0) HB2.out.a rfl
  have y0 := cell_at (o := 0) HB2.out.b rfl
  have y1 := cell_at (o := 1) HB2.out.b rfl
  cases h1 : (uniqB l x.tables)
  case false =>
    have HE : Hid (cmC l x.tables = 12) := cm_uq h0 h1
    clear h0 h1
    go_wp2_with fail
    go_ret
    exact ⟨ret_i HE.out.symm, HB2.out.bel⟩
  have HE : Hid (cmC l x.tables = 0) := cm_ok h0 h1
  clear h0 h1
  go_wp2_with fail
  go_ret
  exact ⟨ret_i HE.out.symm, HB2.out.bel⟩
set_option maxRecDepth 100000 in
set_option maxHeartbeats 6400000 in
theorem cmI (l : List Tb) (sa : Option Addr) (sc : Nat) (A : Nat → Prop) (x : StV) (xa : Option Addr) (xc : Nat) (B : Nat → Prop) (w : World) (hlo : (dTableS l).le maxLen) (ho : (dRowSS x.tables).le maxLen) (hs : SchP l) (hf : FormP l x) (hT : Rd w A (dTableS l) (.slice sa l.length sc)) (hR : Rd w B (dRowSS x.tables) (.slice xa x.tables.length xc)) :
    Calls Tryz.prog 34 #[.agg #[.slice sa l.length sc], .agg #[.slice xa x.tables.length xc, .int .i64 x.next]] w fun e w' => e = .returned (.int .i64 (cmC l x.tables)) ∧ Below w.heap.size w w' := by
  have K0 : Hid (∀ W, BoxE 37 32 w W #[.slice sa l.length sc] #[.slice xa x.tables.length xc, .int .i64 x.next] → Calls Tryz.prog 64 #[.agg #[.slice sa l.length sc], .agg #[.slice xa x.tables.length xc, .int .i64 x.next]] W fun e w' => e = .returned (.bool (refB l x.tables)) ∧ BoxE 37 32 w w' #[.slice sa l.length sc] #[.slice xa x.tables.length xc, .int .i64 x.next]) := fun W h => (refI l sa sc A x xa xc B W hlo ho hs hf (hT.later h.bel) (hR.later h.bel)).mono (fun e w' ⟨he, hB⟩ => ⟨he, h.later hB⟩)
  have K1 : Hid (∀ W, BoxE 37 32 w W #[.slice sa l.length sc] #[.slice xa x.tables.length xc, .int .i64 x.next] → Calls Tryz.prog 65 #[.agg #[.slice sa l.length sc], .agg #[.slice xa x.tables.length xc, .int .i64 x.next]] W fun e w' => e = .returned (.bool (uniqB l x.tables)) ∧ BoxE 37 32 w w' #[.slice sa l.length sc] #[.slice xa x.tables.length xc, .int .i64 x.next]) := fun W h => (uniqI l sa sc A x xa xc B W ho hs hf (hT.later h.bel) (hR.later h.bel)).mono (fun e w' ⟨he, hB⟩ => ⟨he, h.later hB⟩)
  have HB0 := Lib.hid (boxE 37 32 w #[.slice sa l.length sc] #[.slice xa x.tables.length xc, .int .i64 x.next])
  clear hlo ho hs hf hT hR
  have x0 := cell_at (o := 0) HB0.out.a rfl
  have y0 := cell_at (o := 0) HB0.out.b rfl
  have y1 := cell_at (o := 1) HB0.out.b rfl
  go_enter Tryz.func34, Tryz.ntmps34
  go_wp2_with fail
  refine (K0.out _ (by first | exact HB0.out | exact HB0.out.drew)).mono ?_
  rintro e w1 ⟨rfl, hb⟩
  have HB1 := Lib.hid hb
  clear hb x0 y0 y1
  have x0 := cell_at (o := 0) HB1.out.a rfl
  have y0 := cell_at (o := 0) HB1.out.b rfl
  have y1 := cell_at (o := 1) HB1.out.b rfl
  cases h0 : (refB l x.tables)
  case false =>
    have HE : Hid (cmC l x.tables = 13) := cm_ref h0
    clear h0
    go_wp2_with fail
    go_ret
    exact ⟨ret_i HE.out.symm, HB1.out.bel⟩
  go_wp2_with fail
  refine (K1.out _ (by first | exact HB1.out | exact HB1.out.drew)).mono ?_
  rintro e w2 ⟨rfl, hb⟩
  have HB2 := Lib.hid hb
  clear hb x0 y0 y1
  have x0 := cell_at (o := 0) HB2.out.a rfl
  have y0 := cell_at (o := 0) HB2.out.b rfl
  have y1 := cell_at (o := 1) HB2.out.b rfl
  cases h1 : (uniqB l x.tables)
  case false =>
    have HE : Hid (cmC l x.tables = 12) := cm_uq h0 h1
    clear h0 h1
    go_wp2_with fail
    go_ret
    exact ⟨ret_i HE.out.symm, HB2.out.bel⟩
  have HE : Hid (cmC l x.tables = 0) := cm_ok h0 h1
  clear h0 h1
  go_wp2_with fail
  go_ret
  exact ⟨ret_i HE.out.symm, HB2.out.bel⟩
set_option maxRecDepth 100000 in
set_option maxHeartbeats 6400000 in
theorem ccS (l : List Tb) (sa : Option Addr) (sc : Nat) (A : Nat → Prop) (x : StV) (xa : Option Addr) (xc : Nat) (B : Nat → Prop) (w : World) (hlo : (dTableS l).le maxLen) (ho : (dRowSS x.tables).le maxLen) (hT : Rd w A (dTableS l) (.slice sa l.length sc)) (hR : Rd w B (dRowSS x.tables) (.slice xa x.tables.length xc)) :
    Calls Tryz.prog 16 #[.agg #[.slice sa l.length sc], .agg #[.slice xa x.tables.length xc, .int .i64 x.next]] w fun e w' => e = .returned (.tuple #[.int .i64 (ccR l x).1, .int .i64 (ccR l x).2]) ∧ Below w.heap.size w w' := by
  have K0 : Hid (∀ W, BoxE 37 32 w W #[.slice sa l.length sc] #[.slice xa x.tables.length xc, .int .i64 x.next] → Calls Tryz.prog 20 #[.agg #[.slice sa l.length sc]] W fun e w' => e = .returned (.bool (schB l)) ∧ BoxE 37 32 w w' #[.slice sa l.length sc] #[.slice xa x.tables.length xc, .int .i64 x.next]) := fun W h => by
    obtain ⟨Ad, hA⟩ := (hT.later h.bel).tabs
    exact (schemaS l sa sc Ad A W (le_tables hlo) hA).mono (fun e w' ⟨he, hB⟩ => ⟨he, h.later hB⟩)
  have K1 : Hid (∀ W, BoxE 37 32 w W #[.slice sa l.length sc] #[.slice xa x.tables.length xc, .int .i64 x.next] → Calls Tryz.prog 21 #[.agg #[.slice sa l.length sc], .agg #[.slice xa x.tables.length xc, .int .i64 x.next]] W fun e w' => e = .returned (.bool (formB l x)) ∧ BoxE 37 32 w w' #[.slice sa l.length sc] #[.slice xa x.tables.length xc, .int .i64 x.next]) := fun W h => (formS l sa sc A x xa xc B W hlo ho (hT.later h.bel) (hR.later h.bel)).mono (fun e w' ⟨he, hB⟩ => ⟨he, h.later hB⟩)
  have KC : Hid ((schB l && formB l x) = true → ∀ W, BoxE 37 32 w W #[.slice sa l.length sc] #[.slice xa x.tables.length xc, .int .i64 x.next] → Calls Tryz.prog 33 #[.agg #[.slice sa l.length sc], .agg #[.slice xa x.tables.length xc, .int .i64 x.next]] W fun e w' => e = .returned (.int .i64 (cmC l x.tables)) ∧ BoxE 37 32 w w' #[.slice sa l.length sc] #[.slice xa x.tables.length xc, .int .i64 x.next]) := fun hsf W h => by
    rw [Bool.and_eq_true] at hsf
    exact (cmS l sa sc A x xa xc B W hlo ho (sch_ofU hsf.1) (form_of hsf.2) (hT.later h.bel) (hR.later h.bel)).mono (fun e w' ⟨he, hB⟩ => ⟨he, h.later hB⟩)
  have HB0 := Lib.hid (boxE 37 32 w #[.slice sa l.length sc] #[.slice xa x.tables.length xc, .int .i64 x.next])
  clear hlo ho hT hR
  have x0 := cell_at (o := 0) HB0.out.a rfl
  have y0 := cell_at (o := 0) HB0.out.b rfl
  have y1 := cell_at (o := 1) HB0.out.b rfl
  go_enter Tryz.func16, Tryz.ntmps16
  go_wp2_with fail
  refine (K0.out _ (by first | exact HB0.out | exact HB0.out.drew)).mono ?_
  rintro e w1 ⟨rfl, hb⟩
  have HB1 := Lib.hid hb
  clear hb x0 y0 y1
  have x0 := cell_at (o := 0) HB1.out.a rfl
  have y0 := cell_at (o := 0) HB1.out.b rfl
  have y1 := cell_at (o := 1) HB1.out.b rfl
  cases h0 : (schB l)
  case false =>
    have HE : Hid (ccR l x = (0, 1)) := cc_bad (by rw [h0]; rfl)
    clear KC h0
    go_wp2_with fail
    exact bodyPost_ret (v := .tuple #[.int .i64 0, .int .i64 1]) (by simp [results, Tryz.results16, go_sem, *]) rfl ⟨by rw [HE.out], HB1.out.bel⟩
  go_wp2_with fail
  refine (K1.out _ (by first | exact HB1.out | exact HB1.out.drew)).mono ?_
  rintro e w2 ⟨rfl, hb⟩
  have HB2 := Lib.hid hb
  clear hb x0 y0 y1
  have x0 := cell_at (o := 0) HB2.out.a rfl
  have y0 := cell_at (o := 0) HB2.out.b rfl
  have y1 := cell_at (o := 1) HB2.out.b rfl
  cases h1 : (formB l x)
  case false =>
    have HE : Hid (ccR l x = (0, 1)) := cc_bad (by rw [h0, h1]; rfl)
    clear KC h0 h1
    go_wp2_with fail
    exact bodyPost_ret (v := .tuple #[.int .i64 0, .int .i64 1]) (by simp [results, Tryz.results16, go_sem, *]) rfl ⟨by rw [HE.out], HB2.out.bel⟩
  have HSF : Hid ((schB l && formB l x) = true) := by show (_ && _) = true; rw [h0, h1]; rfl
  clear h0 h1
  have HE : Hid (ccR l x = (cmC l x.tables, 0)) := cc_ok HSF.out
  go_wp2_with fail
  refine (KC.out HSF.out _ (by first | exact HB2.out | exact HB2.out.drew)).mono ?_
  rintro e w3 ⟨rfl, hb⟩
  have HB3 := Lib.hid hb
  clear hb x0 y0 y1
  generalize hcm : cmC l x.tables = cm at *
  go_wp2_with fail
  exact bodyPost_ret (v := .tuple #[.int .i64 cm, .int .i64 0]) (by simp [results, Tryz.results16, go_sem, *]) rfl ⟨by rw [HE.out], HB3.out.bel⟩
set_option maxRecDepth 100000 in
set_option maxHeartbeats 6400000 in
theorem ccI (l : List Tb) (sa : Option Addr) (sc : Nat) (A : Nat → Prop) (x : StV) (xa : Option Addr) (xc : Nat) (B : Nat → Prop) (w : World) (hlo : (dTableS l).le maxLen) (ho : (dRowSS x.tables).le maxLen) (hT : Rd w A (dTableS l) (.slice sa l.length sc)) (hR : Rd w B (dRowSS x.tables) (.slice xa x.tables.length xc)) :
    Calls Tryz.prog 17 #[.agg #[.slice sa l.length sc], .agg #[.slice xa x.tables.length xc, .int .i64 x.next]] w fun e w' => e = .returned (.tuple #[.int .i64 (ccR l x).1, .int .i64 (ccR l x).2]) ∧ Below w.heap.size w w' := by
  have K0 : Hid (∀ W, BoxE 37 32 w W #[.slice sa l.length sc] #[.slice xa x.tables.length xc, .int .i64 x.next] → Calls Tryz.prog 25 #[.agg #[.slice sa l.length sc], .agg #[.slice xa x.tables.length xc, .int .i64 x.next]] W fun e w' => e = .returned (.bool (schB l && formB l x)) ∧ BoxE 37 32 w w' #[.slice sa l.length sc] #[.slice xa x.tables.length xc, .int .i64 x.next]) := fun W h => (storeFitsI l sa sc A x xa xc B W hlo ho (hT.later h.bel) (hR.later h.bel)).mono (fun e w' ⟨he, hB⟩ => ⟨he, h.later hB⟩)
  have KC : Hid ((schB l && formB l x) = true → ∀ W, BoxE 37 32 w W #[.slice sa l.length sc] #[.slice xa x.tables.length xc, .int .i64 x.next] → Calls Tryz.prog 34 #[.agg #[.slice sa l.length sc], .agg #[.slice xa x.tables.length xc, .int .i64 x.next]] W fun e w' => e = .returned (.int .i64 (cmC l x.tables)) ∧ BoxE 37 32 w w' #[.slice sa l.length sc] #[.slice xa x.tables.length xc, .int .i64 x.next]) := fun hsf W h => by
    rw [Bool.and_eq_true] at hsf
    exact (cmI l sa sc A x xa xc B W hlo ho (sch_ofU hsf.1) (form_of hsf.2) (hT.later h.bel) (hR.later h.bel)).mono (fun e w' ⟨he, hB⟩ => ⟨he, h.later hB⟩)
  have HB0 := Lib.hid (boxE 37 32 w #[.slice sa l.length sc] #[.slice xa x.tables.length xc, .int .i64 x.next])
  clear hlo ho hT hR
  have x0 := cell_at (o := 0) HB0.out.a rfl
  have y0 := cell_at (o := 0) HB0.out.b rfl
  have y1 := cell_at (o := 1) HB0.out.b rfl
  go_enter Tryz.func17, Tryz.ntmps17
  go_wp2_with fail
  refine (K0.out _ (by first | exact HB0.out | exact HB0.out.drew)).mono ?_
  rintro e w1 ⟨rfl, hb⟩
  have HB1 := Lib.hid hb
  clear hb x0 y0 y1
  have x0 := cell_at (o := 0) HB1.out.a rfl
  have y0 := cell_at (o := 0) HB1.out.b rfl
  have y1 := cell_at (o := 1) HB1.out.b rfl
  cases h0 : (schB l && formB l x)
  case false =>
    have HE : Hid (ccR l x = (0, 1)) := cc_bad (by rw [h0])
    clear KC h0
    go_wp2_with fail
    exact bodyPost_ret (v := .tuple #[.int .i64 0, .int .i64 1]) (by simp [results, Tryz.results17, go_sem, *]) rfl ⟨by rw [HE.out], HB1.out.bel⟩
  have HSF : Hid ((schB l && formB l x) = true) := h0
  clear h0
  have HE : Hid (ccR l x = (cmC l x.tables, 0)) := cc_ok HSF.out
  go_wp2_with fail
  refine (KC.out HSF.out _ (by first | exact HB1.out | exact HB1.out.drew)).mono ?_
  rintro e w2 ⟨rfl, hb⟩
  have HB2 := Lib.hid hb
  clear hb x0 y0 y1
  generalize hcm : cmC l x.tables = cm at *
  go_wp2_with fail
  exact bodyPost_ret (v := .tuple #[.int .i64 cm, .int .i64 0]) (by simp [results, Tryz.results17, go_sem, *]) rfl ⟨by rw [HE.out], HB2.out.bel⟩
end Go.Proofs.YtmebbinolkohjaaGreat
