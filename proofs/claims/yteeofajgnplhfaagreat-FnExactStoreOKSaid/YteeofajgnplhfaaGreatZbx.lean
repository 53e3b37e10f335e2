import Derived.Test.YteeofajgnplhfaaGreatZbh
import Derived.Test.YteeofajgnplhfaaGreatZbn
import Derived.Test.YteeofajgnplhfaaGreatZbr
import Derived.Test.YteeofajgnplhfaaGreatZbv
import Derived.Test.YteeofajgnplhfaaGreatZbw
import Derived.Test.YteeofajgnplhfaaGreatZbi
namespace Go.Proofs.YteeofajgnplhfaaGreat
open Go.RowKit Go.Maps
set_option linter.unusedSimpArgs false
noncomputable def stoB (l : List Tb) (x : StV) : Bool := schB l && formB l x && onceB x.tables && refB l x.tables && uniqB l x.tables && heldB l x.tables
set_option maxRecDepth 100000 in
set_option maxHeartbeats 6400000 in
theorem stoS (l : List Tb) (sa : Option Addr) (sc : Nat) (A : Nat → Prop) (x : StV) (xa : Option Addr) (xc : Nat) (B : Nat → Prop) (w : World) (hlo : (dTableS l).le maxLen) (ho : (dRowSS x.tables).le maxLen) (hT : Rd w A (dTableS l) (.slice sa l.length sc)) (hR : Rd w B (dRowSS x.tables) (.slice xa x.tables.length xc)) :
    Calls Tryz.prog 6 #[.agg #[.slice sa l.length sc], .agg #[.slice xa x.tables.length xc, .int .i64 x.next]] w fun e w' => e = .returned (.bool (stoB l x)) ∧ Below w.heap.size w w' := by
  have K0 : Hid (∀ W, BoxE 33 37 w W #[.slice sa l.length sc] #[.slice xa x.tables.length xc, .int .i64 x.next] → Calls Tryz.prog 14 #[.agg #[.slice sa l.length sc]] W fun e w' => e = .returned (.bool (schB l)) ∧ BoxE 33 37 w w' #[.slice sa l.length sc] #[.slice xa x.tables.length xc, .int .i64 x.next]) := fun W h => by
    obtain ⟨Ad, hA⟩ := (hT.later h.bel).tabs
    exact (schemaS l sa sc Ad A W (le_tables hlo) hA).mono (fun e w' ⟨he, hB⟩ => ⟨he, h.later hB⟩)
  have K1 : Hid (∀ W, BoxE 33 37 w W #[.slice sa l.length sc] #[.slice xa x.tables.length xc, .int .i64 x.next] → Calls Tryz.prog 15 #[.agg #[.slice sa l.length sc], .agg #[.slice xa x.tables.length xc, .int .i64 x.next]] W fun e w' => e = .returned (.bool (formB l x)) ∧ BoxE 33 37 w w' #[.slice sa l.length sc] #[.slice xa x.tables.length xc, .int .i64 x.next]) := fun W h => (formS l sa sc A x xa xc B W hlo ho (hT.later h.bel) (hR.later h.bel)).mono (fun e w' ⟨he, hB⟩ => ⟨he, h.later hB⟩)
  have K2 : Hid (SchP l → FormP l x → ∀ W, BoxE 33 37 w W #[.slice sa l.length sc] #[.slice xa x.tables.length xc, .int .i64 x.next] → Calls Tryz.prog 16 #[.agg #[.slice xa x.tables.length xc, .int .i64 x.next]] W fun e w' => e = .returned (.bool (onceB x.tables)) ∧ BoxE 33 37 w w' #[.slice sa l.length sc] #[.slice xa x.tables.length xc, .int .i64 x.next]) := fun hs hf W h => (onceS x xa xc B W ho (hR.later h.bel)).mono (fun e w' ⟨he, hB⟩ => ⟨he, h.later hB⟩)
  have K3 : Hid (SchP l → FormP l x → ∀ W, BoxE 33 37 w W #[.slice sa l.length sc] #[.slice xa x.tables.length xc, .int .i64 x.next] → Calls Tryz.prog 17 #[.agg #[.slice sa l.length sc], .agg #[.slice xa x.tables.length xc, .int .i64 x.next]] W fun e w' => e = .returned (.bool (refB l x.tables)) ∧ BoxE 33 37 w w' #[.slice sa l.length sc] #[.slice xa x.tables.length xc, .int .i64 x.next]) := fun hs hf W h => (refS l sa sc A x xa xc B W ho hs hf (hT.later h.bel) (hR.later h.bel)).mono (fun e w' ⟨he, hB⟩ => ⟨he, h.later hB⟩)
  have K4 : Hid (SchP l → FormP l x → ∀ W, BoxE 33 37 w W #[.slice sa l.length sc] #[.slice xa x.tables.length xc, .int .i64 x.next] → Calls Tryz.prog 18 #[.agg #[.slice sa l.length sc], .agg #[.slice xa x.tables.length xc, .int .i64 x.next]] W fun e w' => e = .returned (.bool (uniqB l x.tables)) ∧ BoxE 33 37 w w' #[.slice sa l.length sc] #[.slice xa x.tables.length xc, .int .i64 x.next]) := fun hs hf W h => (uniqS l sa sc A x xa xc B W ho hs hf (hT.later h.bel) (hR.later h.bel)).mono (fun e w' ⟨he, hB⟩ => ⟨he, h.later hB⟩)
  have K5 : Hid (SchP l → FormP l x → ∀ W, BoxE 33 37 w W #[.slice sa l.length sc] #[.slice xa x.tables.length xc, .int .i64 x.next] → Calls Tryz.prog 19 #[.agg #[.slice sa l.length sc], .agg #[.slice xa x.tables.length xc, .int .i64 x.next]] W fun e w' => e = .returned (.bool (heldB l x.tables)) ∧ BoxE 33 37 w w' #[.slice sa l.length sc] #[.slice xa x.tables.length xc, .int .i64 x.next]) := fun hs hf W h => (heldS l sa sc A x xa xc B W hlo ho (by have := hs.len; omega) (fun i hi => by have := (tab_ofU (hs.tab i hi)).len; omega) hf (hT.later h.bel) (hR.later h.bel)).mono (fun e w' ⟨he, hB⟩ => ⟨he, h.later hB⟩)
  have HB := Lib.hid (boxE 33 37 w #[.slice sa l.length sc] #[.slice xa x.tables.length xc, .int .i64 x.next])
  clear hlo ho hT hR
  have x0 := cell_at (o := 0) HB.out.a rfl
  have y0 := cell_at (o := 0) HB.out.b rfl
  have y1 := cell_at (o := 1) HB.out.b rfl
  go_enter Tryz.func6, Tryz.ntmps6
  go_wp2_with fail
  refine (K0.out _ (by first | exact HB.out | exact HB.out.drew)).mono ?_
  rintro e w1 ⟨rfl, hb⟩
  have HB1 := Lib.hid hb
  clear hb x0 y0 y1
  have x0 := cell_at (o := 0) HB1.out.a rfl
  have y0 := cell_at (o := 0) HB1.out.b rfl
  have y1 := cell_at (o := 1) HB1.out.b rfl
  cases h0 : (schB l)
  case false =>
    have HE : Hid (stoB l x = false) := by show stoB l x = _; unfold stoB; simp only [h0, Bool.true_and, Bool.false_and, Bool.and_false, Bool.and_true]
    clear h0
    go_wp2_with fail
    go_ret
    exact ⟨ret_b HE.out.symm, HB1.out.bel⟩
  go_wp2_with fail
  refine (K1.out _ (by first | exact HB1.out | exact HB1.out.drew)).mono ?_
  rintro e w2 ⟨rfl, hb⟩
  have HB2 := Lib.hid hb
  clear hb x0 y0 y1
  have x0 := cell_at (o := 0) HB2.out.a rfl
  have y0 := cell_at (o := 0) HB2.out.b rfl
  have y1 := cell_at (o := 1) HB2.out.b rfl
  cases h1 : (formB l x)
  case false =>
    have HE : Hid (stoB l x = false) := by show stoB l x = _; unfold stoB; simp only [h0, h1, Bool.true_and, Bool.false_and, Bool.and_false, Bool.and_true]
    clear h0 h1
    go_wp2_with fail
    go_ret
    exact ⟨ret_b HE.out.symm, HB2.out.bel⟩
  go_wp2_with fail
  have HSF : Hid (SchP l ∧ FormP l x) := by
    exact ⟨sch_ofU h0, form_of h1⟩
  refine (K2.out HSF.out.1 HSF.out.2 _ (by first | exact HB2.out | exact HB2.out.drew)).mono ?_
  rintro e w3 ⟨rfl, hb⟩
  have HB3 := Lib.hid hb
  clear hb x0 y0 y1
  have x0 := cell_at (o := 0) HB3.out.a rfl
  have y0 := cell_at (o := 0) HB3.out.b rfl
  have y1 := cell_at (o := 1) HB3.out.b rfl
  cases h2 : (onceB x.tables)
  case false =>
    have HE : Hid (stoB l x = false) := by show stoB l x = _; unfold stoB; simp only [h0, h1, h2, Bool.true_and, Bool.false_and, Bool.and_false, Bool.and_true]
    clear h0 h1 h2
    go_wp2_with fail
    go_ret
    exact ⟨ret_b HE.out.symm, HB3.out.bel⟩
  go_wp2_with fail
  refine (K3.out HSF.out.1 HSF.out.2 _ (by first | exact HB3.out | exact HB3.out.drew)).mono ?_
  rintro e w4 ⟨rfl, hb⟩
  have HB4 := Lib.hid hb
  clear hb x0 y0 y1
  have x0 := cell_at (o := 0) HB4.out.a rfl
  have y0 := cell_at (o := 0) HB4.out.b rfl
  have y1 := cell_at (o := 1) HB4.out.b rfl
  cases h3 : (refB l x.tables)
  case false =>
    have HE : Hid (stoB l x = false) := by show stoB l x = _; unfold stoB; simp only [h0, h1, h2, h3, Bool.true_and, Bool.false_and, Bool.and_false, Bool.and_true]
    clear h0 h1 h2 h3
    go_wp2_with fail
    go_ret
    exact ⟨ret_b HE.out.symm, HB4.out.bel⟩
  go_wp2_with fail
  refine (K4.out HSF.out.1 HSF.out.2 _ (by first | exact HB4.out | exact HB4.out.drew)).mono ?_
  rintro e w5 ⟨rfl, hb⟩
  have HB5 := Lib.hid hb
  clear hb x0 y0 y1
  have x0 := cell_at (o := 0) HB5.out.a rfl
  have y0 := cell_at (o := 0) HB5.out.b rfl
  have y1 := cell_at (o := 1) HB5.out.b rfl
  cases h4 : (uniqB l x.tables)
  case false =>
    have HE : Hid (stoB l x = false) := by show stoB l x = _; unfold stoB; simp only [h0, h1, h2, h3, h4, Bool.true_and, Bool.false_and, Bool.and_false, Bool.and_true]
    clear h0 h1 h2 h3 h4
    go_wp2_with fail
    go_ret
    exact ⟨ret_b HE.out.symm, HB5.out.bel⟩
  go_wp2_with fail
  refine (K5.out HSF.out.1 HSF.out.2 _ (by first | exact HB5.out | exact HB5.out.drew)).mono ?_
  rintro e w6 ⟨rfl, hb⟩
  have HB6 := Lib.hid hb
  clear hb x0 y0 y1
  have HE : Hid (stoB l x = heldB l x.tables) := by show stoB l x = _; unfold stoB; simp only [h0, h1, h2, h3, h4, Bool.true_and, Bool.and_true]
  clear h0 h1 h2 h3 h4
  go_wp2_with fail
  go_ret
  exact ⟨ret_b HE.out.symm, HB6.out.bel⟩
set_option maxRecDepth 100000 in
set_option maxHeartbeats 6400000 in
theorem stoI (l : List Tb) (sa : Option Addr) (sc : Nat) (A : Nat → Prop) (x : StV) (xa : Option Addr) (xc : Nat) (B : Nat → Prop) (w : World) (hlo : (dTableS l).le maxLen) (ho : (dRowSS x.tables).le maxLen) (hT : Rd w A (dTableS l) (.slice sa l.length sc)) (hR : Rd w B (dRowSS x.tables) (.slice xa x.tables.length xc)) :
    Calls Tryz.prog 9 #[.agg #[.slice sa l.length sc], .agg #[.slice xa x.tables.length xc, .int .i64 x.next]] w fun e w' => e = .returned (.bool (stoB l x)) ∧ Below w.heap.size w w' := by
  have K0 : Hid (∀ W, BoxE 33 37 w W #[.slice sa l.length sc] #[.slice xa x.tables.length xc, .int .i64 x.next] → Calls Tryz.prog 22 #[.agg #[.slice sa l.length sc], .agg #[.slice xa x.tables.length xc, .int .i64 x.next]] W fun e w' => e = .returned (.bool (schB l && formB l x)) ∧ BoxE 33 37 w w' #[.slice sa l.length sc] #[.slice xa x.tables.length xc, .int .i64 x.next]) := fun W h => (storeFitsI l sa sc A x xa xc B W hlo ho (hT.later h.bel) (hR.later h.bel)).mono (fun e w' ⟨he, hB⟩ => ⟨he, h.later hB⟩)
  have K1 : Hid (SchP l → FormP l x → ∀ W, BoxE 33 37 w W #[.slice sa l.length sc] #[.slice xa x.tables.length xc, .int .i64 x.next] → Calls Tryz.prog 23 #[.agg #[.slice xa x.tables.length xc, .int .i64 x.next]] W fun e w' => e = .returned (.bool (onceB x.tables)) ∧ BoxE 33 37 w w' #[.slice sa l.length sc] #[.slice xa x.tables.length xc, .int .i64 x.next]) := fun hs hf W h => (onceJ x xa xc B W ho (by have := hs.len; have := hf.1; omega) (fun i hi => by have := hf.2.2 i (by have := hf.1; omega) hi; exact ⟨this.1, this.2.1⟩) (hR.later h.bel)).mono (fun e w' ⟨he, hB⟩ => ⟨he, h.later hB⟩)
  have K2 : Hid (SchP l → FormP l x → ∀ W, BoxE 33 37 w W #[.slice sa l.length sc] #[.slice xa x.tables.length xc, .int .i64 x.next] → Calls Tryz.prog 24 #[.agg #[.slice sa l.length sc], .agg #[.slice xa x.tables.length xc, .int .i64 x.next]] W fun e w' => e = .returned (.bool (refB l x.tables)) ∧ BoxE 33 37 w w' #[.slice sa l.length sc] #[.slice xa x.tables.length xc, .int .i64 x.next]) := fun hs hf W h => (refI l sa sc A x xa xc B W hlo ho hs hf (hT.later h.bel) (hR.later h.bel)).mono (fun e w' ⟨he, hB⟩ => ⟨he, h.later hB⟩)
  have K3 : Hid (SchP l → FormP l x → ∀ W, BoxE 33 37 w W #[.slice sa l.length sc] #[.slice xa x.tables.length xc, .int .i64 x.next] → Calls Tryz.prog 25 #[.agg #[.slice sa l.length sc], .agg #[.slice xa x.tables.length xc, .int .i64 x.next]] W fun e w' => e = .returned (.bool (uniqB l x.tables)) ∧ BoxE 33 37 w w' #[.slice sa l.length sc] #[.slice xa x.tables.length xc, .int .i64 x.next]) := fun hs hf W h => (uniqI l sa sc A x xa xc B W ho hs hf (hT.later h.bel) (hR.later h.bel)).mono (fun e w' ⟨he, hB⟩ => ⟨he, h.later hB⟩)
  have K4 : Hid (SchP l → FormP l x → ∀ W, BoxE 33 37 w W #[.slice sa l.length sc] #[.slice xa x.tables.length xc, .int .i64 x.next] → Calls Tryz.prog 26 #[.agg #[.slice sa l.length sc], .agg #[.slice xa x.tables.length xc, .int .i64 x.next]] W fun e w' => e = .returned (.bool (heldB l x.tables)) ∧ BoxE 33 37 w w' #[.slice sa l.length sc] #[.slice xa x.tables.length xc, .int .i64 x.next]) := fun hs hf W h => (heldI l sa sc A x xa xc B W hlo ho (by have := hs.len; omega) (fun i hi => by have := (tab_ofU (hs.tab i hi)).len; omega) hf (hT.later h.bel) (hR.later h.bel)).mono (fun e w' ⟨he, hB⟩ => ⟨he, h.later hB⟩)
  have HB := Lib.hid (boxE 33 37 w #[.slice sa l.length sc] #[.slice xa x.tables.length xc, .int .i64 x.next])
  clear hlo ho hT hR
  have x0 := cell_at (o := 0) HB.out.a rfl
  have y0 := cell_at (o := 0) HB.out.b rfl
  have y1 := cell_at (o := 1) HB.out.b rfl
  go_enter Tryz.func9, Tryz.ntmps9
  go_wp2_with fail
  refine (K0.out _ (by first | exact HB.out | exact HB.out.drew)).mono ?_
  rintro e w1 ⟨rfl, hb⟩
  have HB1 := Lib.hid hb
  clear hb x0 y0 y1
  have x0 := cell_at (o := 0) HB1.out.a rfl
  have y0 := cell_at (o := 0) HB1.out.b rfl
  have y1 := cell_at (o := 1) HB1.out.b rfl
  cases h0 : (schB l && formB l x)
  case false =>
    have HE : Hid (stoB l x = false) := by show stoB l x = _; unfold stoB; simp only [h0, Bool.true_and, Bool.false_and, Bool.and_false, Bool.and_true]
    clear h0
    go_wp2_with fail
    go_ret
    exact ⟨ret_b HE.out.symm, HB1.out.bel⟩
  go_wp2_with fail
  have HSF : Hid (SchP l ∧ FormP l x) := by
    rw [Bool.and_eq_true] at h0
    exact ⟨sch_ofU h0.1, form_of h0.2⟩
  refine (K1.out HSF.out.1 HSF.out.2 _ (by first | exact HB1.out | exact HB1.out.drew)).mono ?_
  rintro e w2 ⟨rfl, hb⟩
  have HB2 := Lib.hid hb
  clear hb x0 y0 y1
  have x0 := cell_at (o := 0) HB2.out.a rfl
  have y0 := cell_at (o := 0) HB2.out.b rfl
  have y1 := cell_at (o := 1) HB2.out.b rfl
  cases h1 : (onceB x.tables)
  case false =>
    have HE : Hid (stoB l x = false) := by show stoB l x = _; unfold stoB; simp only [h0, h1, Bool.true_and, Bool.false_and, Bool.and_false, Bool.and_true]
    clear h0 h1
    go_wp2_with fail
    go_ret
    exact ⟨ret_b HE.out.symm, HB2.out.bel⟩
  go_wp2_with fail
  refine (K2.out HSF.out.1 HSF.out.2 _ (by first | exact HB2.out | exact HB2.out.drew)).mono ?_
  rintro e w3 ⟨rfl, hb⟩
  have HB3 := Lib.hid hb
  clear hb x0 y0 y1
  have x0 := cell_at (o := 0) HB3.out.a rfl
  have y0 := cell_at (o := 0) HB3.out.b rfl
  have y1 := cell_at (o := 1) HB3.out.b rfl
  cases h2 : (refB l x.tables)
  case false =>
    have HE : Hid (stoB l x = false) := by show stoB l x = _; unfold stoB; simp only [h0, h1, h2, Bool.true_and, Bool.false_and, Bool.and_false, Bool.and_true]
    clear h0 h1 h2
    go_wp2_with fail
    go_ret
    exact ⟨ret_b HE.out.symm, HB3.out.bel⟩
  go_wp2_with fail
  refine (K3.out HSF.out.1 HSF.out.2 _ (by first | exact HB3.out | exact HB3.out.drew)).mono ?_
  rintro e w4 ⟨rfl, hb⟩
  have HB4 := Lib.hid hb
  clear hb x0 y0 y1
  have x0 := cell_at (o := 0) HB4.out.a rfl
  have y0 := cell_at (o := 0) HB4.out.b rfl
  have y1 := cell_at (o := 1) HB4.out.b rfl
  cases h3 : (uniqB l x.tables)
  case false =>
    have HE : Hid (stoB l x = false) := by show stoB l x = _; unfold stoB; simp only [h0, h1, h2, h3, Bool.true_and, Bool.false_and, Bool.and_false, Bool.and_true]
    clear h0 h1 h2 h3
    go_wp2_with fail
    go_ret
    exact ⟨ret_b HE.out.symm, HB4.out.bel⟩
  go_wp2_with fail
  refine (K4.out HSF.out.1 HSF.out.2 _ (by first | exact HB4.out | exact HB4.out.drew)).mono ?_
  rintro e w5 ⟨rfl, hb⟩
  have HB5 := Lib.hid hb
  clear hb x0 y0 y1
  have HE : Hid (stoB l x = heldB l x.tables) := by show stoB l x = _; unfold stoB; simp only [h0, h1, h2, h3, Bool.true_and, Bool.and_true]
  clear h0 h1 h2 h3
  go_wp2_with fail
  go_ret
  exact ⟨ret_b HE.out.symm, HB5.out.bel⟩
end Go.Proofs.YteeofajgnplhfaaGreat
