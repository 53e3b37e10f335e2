import Derived.Test.YtngbhifafdbpkaaGreatZbu
import Derived.Test.YtngbhifafdbpkaaGreatZaz
import Derived.Test.YtngbhifafdbpkaaGreatZas
import Derived.Test.YtngbhifafdbpkaaGreatZbt
namespace Go.Proofs.YtngbhifafdbpkaaGreat
open Go.RowKit
set_option linter.unusedSimpArgs false
noncomputable def prT (l : List Tb) (x : StV) : List (List RowV) := if (schB l && formB l x) = true then strike l (keepT (gset l x.tables) x.tables) else []
noncomputable def prN (l : List Tb) (x : StV) : Int := if (schB l && formB l x) = true then x.next else 0
noncomputable def prC (l : List Tb) (x : StV) : Int := if (schB l && formB l x) = true then 0 else 1
theorem pr_bad {l : List Tb} {x : StV} (h : (schB l && formB l x) = false) : prT l x = [] ∧ prN l x = 0 ∧ prC l x = 1 := by unfold prT prN prC; rw [h]; exact ⟨rfl, rfl, rfl⟩
theorem pr_ok {l : List Tb} {x : StV} (h : (schB l && formB l x) = true) : prT l x = strike l (keepT (gset l x.tables) x.tables) ∧ prN l x = x.next ∧ prC l x = 0 := by unfold prT prN prC; rw [h]; exact ⟨rfl, rfl, rfl⟩
theorem strike_len (l : List Tb) (X : List (List RowV)) : (strike l X).length = X.length := by unfold strike; simp
set_option maxRecDepth 100000 in
set_option maxHeartbeats 6400000 in
theorem pruneSP (l : List Tb) (sa : Option Addr) (sc : Nat) (A : Nat → Prop) (x : StV) (xa : Option Addr) (xc : Nat) (B : Nat → Prop) (w : World) (hlo : (dTableS l).le maxLen) (ho : (dRowSS x.tables).le 1048576) (hT : Rd w A (dTableS l) (.slice sa l.length sc)) (hR : Rd w B (dRowSS x.tables) (.slice xa x.tables.length xc)) :
    Calls Tryz.prog 6 #[.agg #[.slice sa l.length sc], .agg #[.slice xa x.tables.length xc, .int .i64 x.next]] w fun e w' => ∃ ra rc, e = .returned (.tuple #[.agg #[.slice ra (prT l x).length rc, .int .i64 (prN l x)], .int .i64 (prC l x)]) ∧ Own w' (dRowSS (prT l x)) (fun d => w.heap.size ≤ d ∧ d < w'.heap.size) (.slice ra (prT l x).length rc) ∧ Below w.heap.size w w' := by
  have hom : (dRowSS x.tables).le maxLen := D.le.mono (by unfold maxLen; omega) _ ho
  have K0 : Hid (∀ W, Bx3 w W (.cells #[.slice sa l.length sc] 37) (.cells #[.slice xa x.tables.length xc, .int .i64 x.next] 32) (.cells #[.slice none 0 0, .int .i64 0] 32) → Calls Tryz.prog 17 #[.agg #[.slice sa l.length sc]] W fun e w' => e = .returned (.bool (schB l)) ∧ Bx3 w w' (.cells #[.slice sa l.length sc] 37) (.cells #[.slice xa x.tables.length xc, .int .i64 x.next] 32) (.cells #[.slice none 0 0, .int .i64 0] 32)) := fun W h => by
    obtain ⟨Ad, hA⟩ := (hT.later h.bel).tabs
    exact (schemaS l sa sc Ad A W (le_tables hlo) hA).mono (fun e w' ⟨he, hB⟩ => ⟨he, h.later hB⟩)
  have K1 : Hid (∀ W, Bx3 w W (.cells #[.slice sa l.length sc] 37) (.cells #[.slice xa x.tables.length xc, .int .i64 x.next] 32) (.cells #[.slice none 0 0, .int .i64 0] 32) → Calls Tryz.prog 18 #[.agg #[.slice sa l.length sc], .agg #[.slice xa x.tables.length xc, .int .i64 x.next]] W fun e w' => e = .returned (.bool (formB l x)) ∧ Bx3 w w' (.cells #[.slice sa l.length sc] 37) (.cells #[.slice xa x.tables.length xc, .int .i64 x.next] 32) (.cells #[.slice none 0 0, .int .i64 0] 32)) := fun W h => (formS l sa sc A x xa xc B W hlo hom (hT.later h.bel) (hR.later h.bel)).mono (fun e w' ⟨he, hB⟩ => ⟨he, h.later hB⟩)
  have KP : Hid ((schB l && formB l x) = true → ∀ W, Bx3 w W (.cells #[.slice sa l.length sc] 37) (.cells #[.slice xa x.tables.length xc, .int .i64 x.next] 32) (.cells #[.slice none 0 0, .int .i64 0] 32) → Calls Tryz.prog 19 #[.agg #[.slice sa l.length sc], .agg #[.slice xa x.tables.length xc, .int .i64 x.next]] W fun e w' => ∃ ra rc, e = .returned (.agg #[.slice ra x.tables.length rc, .int .i64 x.next]) ∧ Own w' (dRowSS (strike l (keepT (gset l x.tables) x.tables))) (fun d => W.heap.size ≤ d ∧ d < w'.heap.size) (.slice ra x.tables.length rc) ∧ Below W.heap.size W w') := fun hsf W h => by
    rw [Bool.and_eq_true] at hsf
    exact pruneS l sa sc A x xa xc B W hlo ho (sch_ofU hsf.1) (form_of hsf.2) (hT.later h.bel) (hR.later h.bel)
  have HB0 := Lib.hid (bx3 w (.cells #[.slice sa l.length sc] 37) (.cells #[.slice xa x.tables.length xc, .int .i64 x.next] 32) (.cells #[.slice none 0 0, .int .i64 0] 32))
  clear hlo ho hom hT hR
  have x0 := cell_at (o := 0) HB0.out.a rfl
  have y0 := cell_at (o := 0) HB0.out.b rfl
  have y1 := cell_at (o := 1) HB0.out.b rfl
  go_enter Tryz.func6, Tryz.ntmps6
  go_wp2_with fail
  refine (K0.out _ (by first | exact HB0.out | exact HB0.out.later (Below.refl _ _).drew)).mono ?_
  rintro e w1 ⟨rfl, hb⟩
  have HB1 := Lib.hid hb
  clear hb x0 y0 y1
  have x0 := cell_at (o := 0) HB1.out.a rfl
  have y0 := cell_at (o := 0) HB1.out.b rfl
  have y1 := cell_at (o := 1) HB1.out.b rfl
  have z0 := cell_at (o := 0) HB1.out.c rfl
  have z1 := cell_at (o := 1) HB1.out.c rfl
  have g0 := frozen_at 0 HB1.out.c
  have g1 := frozen_at 1 HB1.out.c
  cases h0 : (schB l)
  case false =>
    have HE := Lib.hid (pr_bad (l := l) (x := x) (by rw [h0]; rfl))
    clear KP h0
    go_wp2_with fail
    refine bodyPost_ret (v := .tuple #[.agg #[.slice none 0 0, .int .i64 0], .int .i64 1]) (by simp [results, Tryz.results6, go_sem, *]) rfl ?_
    refine ⟨none, 0, by rw [HE.out.1, HE.out.2.1, HE.out.2.2]; rfl, by rw [HE.out.1]; exact ⟨_, 0, rfl, Nat.zero_le _, .inl rfl⟩, (HB1.out.bel.setCell (by simp <;> omega) _).setCell (by simp <;> omega) _⟩
  go_wp2_with fail
  refine (K1.out _ (by first | exact HB1.out | exact HB1.out.later (Below.refl _ _).drew)).mono ?_
  rintro e w2 ⟨rfl, hb⟩
  have HB2 := Lib.hid hb
  clear hb x0 y0 y1 z0 z1 g0 g1
  have x0 := cell_at (o := 0) HB2.out.a rfl
  have y0 := cell_at (o := 0) HB2.out.b rfl
  have y1 := cell_at (o := 1) HB2.out.b rfl
  have z0 := cell_at (o := 0) HB2.out.c rfl
  have z1 := cell_at (o := 1) HB2.out.c rfl
  have g0 := frozen_at 0 HB2.out.c
  have g1 := frozen_at 1 HB2.out.c
  cases h1 : (formB l x)
  case false =>
    have HE := Lib.hid (pr_bad (l := l) (x := x) (by rw [h0, h1]; rfl))
    clear KP h0 h1
    go_wp2_with fail
    refine bodyPost_ret (v := .tuple #[.agg #[.slice none 0 0, .int .i64 0], .int .i64 1]) (by simp [results, Tryz.results6, go_sem, *]) rfl ?_
    refine ⟨none, 0, by rw [HE.out.1, HE.out.2.1, HE.out.2.2]; rfl, by rw [HE.out.1]; exact ⟨_, 0, rfl, Nat.zero_le _, .inl rfl⟩, (HB2.out.bel.setCell (by simp <;> omega) _).setCell (by simp <;> omega) _⟩
  have HSF : Hid ((schB l && formB l x) = true) := by show (_ && _) = true; rw [h0, h1]; rfl
  clear h0 h1
  have HE := Lib.hid (pr_ok HSF.out)
  go_wp2_with fail
  refine (KP.out HSF.out _ (by first | exact HB2.out | exact HB2.out.later (Below.refl _ _).drew)).mono ?_
  rintro e w3 ⟨ra, rc, rfl, hown, hB⟩
  have HB3 : Hid (Bx3 w w3 (.cells #[.slice sa l.length sc] 37) (.cells #[.slice xa x.tables.length xc, .int .i64 x.next] 32) (.cells #[.slice none 0 0, .int .i64 0] 32)) := by
    first | exact HB2.out.later hB | exact (HB2.out.later (Below.refl _ _).drew).later hB
  have h2 := (Array.getElem?_eq_some_iff.1 HB2.out.c).1
  have HO : Hid (Own w3 (dRowSS (strike l (keepT (gset l x.tables) x.tables))) (fun d => w.heap.size + 1 + 1 < d ∧ d < w3.heap.size) (.slice ra x.tables.length rc)) := hown.mono (fun d hd => ⟨by have h3 : w2.heap.size ≤ d := hd.1; omega, hd.2⟩)
  clear hB hown h2 x0 y0 y1 z0 z1 g0 g1
  have z0 := cell_at (o := 0) HB3.out.c rfl
  have z1 := cell_at (o := 1) HB3.out.c rfl
  have g0 := frozen_at 0 HB3.out.c
  have g1 := frozen_at 1 HB3.out.c
  go_wp2_with fail
  refine bodyPost_ret (v := .tuple #[.agg #[.slice ra x.tables.length rc, .int .i64 x.next], .int .i64 0]) (by simp [results, Tryz.results6, go_sem, *]) rfl ?_
  have hln : (strike l (keepT (gset l x.tables) x.tables)).length = x.tables.length := by rw [strike_len, keepT_len]
  have hfr : Frm (· = w.heap.size + 1 + 1) w3 ((w3.setCell ⟨w.heap.size + 1 + 1, 0, none⟩ (.slice ra x.tables.length rc)).setCell ⟨w.heap.size + 1 + 1, 1, none⟩ (.int .i64 x.next)) := (frm_set _ _ _ _).trans (frm_set _ _ _ _)
  refine ⟨ra, rc, by rw [HE.out.1, HE.out.2.1, HE.out.2.2, hln], ?_, (HB3.out.bel.setCell (by simp <;> omega) _).setCell (by simp <;> omega) _⟩
  rw [HE.out.1, hln]
  exact (HO.out.frm hfr (fun b hb e => by have h1 := hb.1; have e' : b = w.heap.size + 1 + 1 := e; omega)).mono (fun b hb => ⟨by have := hb.1; omega, by simpa using hb.2⟩)
end Go.Proofs.YtngbhifafdbpkaaGreat
namespace Go.Proofs.YtngbhifafdbpkaaGreat
open Go.RowKit Go.Deep
set_option linter.unusedSimpArgs false
set_option maxRecDepth 100000 in
set_option maxHeartbeats 6400000 in
theorem pruneIP (l : List Tb) (sa : Option Addr) (sc : Nat) (A : Nat → Prop) (x : StV) (xa : Option Addr) (xc : Nat) (B : Nat → Prop) (w : World) (hlo : (dTableS l).le maxLen) (ho : (dRowSS x.tables).le 1048576) (hT : Rd w A (dTableS l) (.slice sa l.length sc)) (hR : Rd w B (dRowSS x.tables) (.slice xa x.tables.length xc)) :
    Calls Tryz.prog 9 #[.agg #[.slice sa l.length sc], .agg #[.slice xa x.tables.length xc, .int .i64 x.next]] w fun e w' => ∃ ra rc, e = .returned (.tuple #[.agg #[.slice ra (prT l x).length rc, .int .i64 (prN l x)], .int .i64 (prC l x)]) ∧ Own w' (dRowSS (prT l x)) (fun d => w.heap.size ≤ d ∧ d < w'.heap.size) (.slice ra (prT l x).length rc) ∧ Below w.heap.size w w' := by
  have hom : (dRowSS x.tables).le maxLen := D.le.mono (by unfold maxLen; omega) _ ho
  have K0 : Hid (∀ W, Bx3 w W (.cells #[.slice sa l.length sc] 37) (.cells #[.slice xa x.tables.length xc, .int .i64 x.next] 32) (.cells #[.slice none 0 0, .int .i64 0] 32) → Calls Tryz.prog 22 #[.agg #[.slice sa l.length sc], .agg #[.slice xa x.tables.length xc, .int .i64 x.next]] W fun e w' => e = .returned (.bool (schB l && formB l x)) ∧ Bx3 w w' (.cells #[.slice sa l.length sc] 37) (.cells #[.slice xa x.tables.length xc, .int .i64 x.next] 32) (.cells #[.slice none 0 0, .int .i64 0] 32)) := fun W h =>
    (storeFitsI l sa sc A x xa xc B W hlo hom (hT.later h.bel) (hR.later h.bel)).mono (fun e w' ⟨he, hB⟩ => ⟨he, h.later hB⟩)
  have K1 : Hid (∀ W, Bx3 w W (.cells #[.slice sa l.length sc] 37) (.cells #[.slice xa x.tables.length xc, .int .i64 x.next] 32) (.cells #[.slice none 0 0, .int .i64 0] 32) → Calls Tryz.prog 23 #[.agg #[.slice xa x.tables.length xc, .int .i64 x.next]] W fun e w' => ∃ q : Nat, e = .returned (.agg #[.slice (some ⟨q, 0, none⟩) x.tables.length x.tables.length, .int .i64 x.next]) ∧ W.heap.size ≤ q ∧ Own w' (dRowSS x.tables) (fun d => q ≤ d ∧ d < w'.heap.size) (.slice (some ⟨q, 0, none⟩) x.tables.length x.tables.length) ∧ Below W.heap.size W w') := fun W h =>
    (copyStoreI x xa xc B W ho (hR.later h.bel)).mono (fun e w' ⟨q, he, hq, hTS, _, hB⟩ => ⟨q, he, hq, TS.done (by omega) hTS, hB⟩)
  have KP : Hid ((schB l && formB l x) = true → ∀ (W : World) (pb q : Nat), Below w.heap.size w W → W.heap[pb]? = some (.cells #[.slice (some ⟨q, 0, none⟩) x.tables.length x.tables.length, .int .i64 x.next] 32) → w.heap.size + 1 + 1 < q → Own W (dRowSS x.tables) (fun d => q ≤ d ∧ d < pb) (.slice (some ⟨q, 0, none⟩) x.tables.length x.tables.length) →
      Calls Tryz.prog 24 #[.agg #[.slice sa l.length sc], .pointer (some ⟨pb, 0, none⟩)] W fun e w' => e = .returned (.tuple #[]) ∧ w'.heap[pb]? = some (.cells #[.slice (some ⟨q, 0, none⟩) x.tables.length x.tables.length, .int .i64 x.next] 32) ∧ Own w' (dRowSS (strike l (keepT (gset l x.tables) x.tables))) (fun d => (q ≤ d ∧ d < pb) ∨ (W.heap.size ≤ d ∧ d < w'.heap.size)) (.slice (some ⟨q, 0, none⟩) x.tables.length x.tables.length) ∧ Frm (fun d => q ≤ d ∧ d < pb) W w') := fun hsf W pb q hB hb hq hO => by
    rw [Bool.and_eq_true] at hsf
    have hpl := (Array.getElem?_eq_some_iff.1 hb).1
    have hsz := hB.size
    have h9 := pruneI l sa sc (fun b => b < w.heap.size) x.tables x.next (fun d => q ≤ d ∧ d < pb) pb q 0 x.tables.length W hlo ho (sch_ofU hsf.1) (form_of hsf.2) (hT.lt.later hB) (fun b h => ⟨by omega, fun h8 => by omega⟩) hb ⟨fun d hd => by omega, fun h8 => by omega⟩ hO
    have hln : (strike l (keepT (gset l x.tables) x.tables)).length = x.tables.length := by rw [strike_len, keepT_len]
    rw [hln] at h9
    exact h9
  have HB0 := Lib.hid (bx3 w (.cells #[.slice sa l.length sc] 37) (.cells #[.slice xa x.tables.length xc, .int .i64 x.next] 32) (.cells #[.slice none 0 0, .int .i64 0] 32))
  clear hlo ho hom hT hR
  have x0 := cell_at (o := 0) HB0.out.a rfl
  have y0 := cell_at (o := 0) HB0.out.b rfl
  have y1 := cell_at (o := 1) HB0.out.b rfl
  go_enter Tryz.func9, Tryz.ntmps9
  go_wp2_with fail
  refine (K0.out _ (by first | exact HB0.out | exact HB0.out.later (Below.refl _ _).drew)).mono ?_
  rintro e w1 ⟨rfl, hb⟩
  have HB1 := Lib.hid hb
  clear hb x0 y0 y1
  have x0 := cell_at (o := 0) HB1.out.a rfl
  have y0 := cell_at (o := 0) HB1.out.b rfl
  have y1 := cell_at (o := 1) HB1.out.b rfl
  have z0 := cell_at (o := 0) HB1.out.c rfl
  have z1 := cell_at (o := 1) HB1.out.c rfl
  have g0 := frozen_at 0 HB1.out.c
  have g1 := frozen_at 1 HB1.out.c
  cases h0 : (schB l && formB l x)
  case false =>
    have HE := Lib.hid (pr_bad h0)
    clear KP h0
    go_wp2_with fail
    refine bodyPost_ret (v := .tuple #[.agg #[.slice none 0 0, .int .i64 0], .int .i64 1]) (by simp [results, Tryz.results9, go_sem, *]) rfl ?_
    refine ⟨none, 0, by rw [HE.out.1, HE.out.2.1, HE.out.2.2]; rfl, by rw [HE.out.1]; exact ⟨_, 0, rfl, Nat.zero_le _, .inl rfl⟩, (HB1.out.bel.setCell (by simp <;> omega) _).setCell (by simp <;> omega) _⟩
  have HSF := Lib.hid h0
  clear h0
  have HE := Lib.hid (pr_ok HSF.out)
  go_wp2_with fail
  refine (K1.out _ (by first | exact HB1.out | exact HB1.out.later (Below.refl _ _).drew)).mono ?_
  rintro e w2 ⟨q, rfl, hq, hO, hB⟩
  have HB2 : Hid (Bx3 w w2 (.cells #[.slice sa l.length sc] 37) (.cells #[.slice xa x.tables.length xc, .int .i64 x.next] 32) (.cells #[.slice none 0 0, .int .i64 0] 32)) := HB1.out.later hB
  have h2 := (Array.getElem?_eq_some_iff.1 HB1.out.c).1
  have HQ : Hid (w.heap.size + 1 + 1 < q) := by show _ < _; omega
  have hA := below_allocD w2 (.cells #[.slice (some ⟨q, 0, none⟩) x.tables.length x.tables.length, .int .i64 x.next] 32)
  have HB3 := Lib.hid (HB2.out.later hA)
  have KQ := Lib.hid (KP.out HSF.out _ w2.heap.size q HB3.out.bel (heap_newD _ _) HQ.out (hO.later hA))
  clear hB hO h2 hA hq x0 y0 y1 z0 z1 g0 g1
  have x0 := cell_at (o := 0) HB3.out.a rfl
  go_wp2_with fail
  refine KQ.out.mono ?_
  rintro e w4 ⟨rfl, hbx, hO, hF⟩
  have hql : q ≤ w2.heap.size ∨ w2.heap.size < q := by omega
  have h3 := (Array.getElem?_eq_some_iff.1 HB2.out.c).1
  have hc4 : w4.heap[w.heap.size + 1 + 1]? = some (.cells #[.slice none 0 0, .int .i64 0] 32) := (hF.block _ (Array.getElem?_eq_some_iff.1 HB3.out.c).1 (fun h8 => by have := HQ.out; omega)).trans HB3.out.c
  have HBL : Hid (Below w.heap.size w w4) := HB3.out.bel.trans (hF.below HB3.out.bel.size (fun b h8 h9 => by have := HQ.out; omega))
  have HO4 : Hid (Own w4 (dRowSS (strike l (keepT (gset l x.tables) x.tables))) (fun d => w.heap.size + 1 + 1 < d ∧ d < w4.heap.size) (.slice (some ⟨q, 0, none⟩) x.tables.length x.tables.length)) := hO.mono (fun d hd => by
    have h8 := HQ.out
    have h7 := hF.size
    have h6 := size_allocD w2 (.cells #[.slice (some ⟨q, 0, none⟩) x.tables.length x.tables.length, .int .i64 x.next] 32)
    rcases hd with hd | hd <;> omega)
  have s0 := cell_at (o := 0) hbx rfl
  have s1 := cell_at (o := 1) hbx rfl
  have z0 := cell_at (o := 0) hc4 rfl
  have z1 := cell_at (o := 1) hc4 rfl
  have g0 := frozen_at 0 hc4
  have g1 := frozen_at 1 hc4
  clear hO hF hbx hql h3 KQ x0 hc4
  go_wp2_with fail
  refine bodyPost_ret (v := .tuple #[.agg #[.slice (some ⟨q, 0, none⟩) x.tables.length x.tables.length, .int .i64 x.next], .int .i64 0]) (by simp [results, Tryz.results9, go_sem, *]) rfl ?_
  have hln : (strike l (keepT (gset l x.tables) x.tables)).length = x.tables.length := by rw [strike_len, keepT_len]
  have hfr : Frm (· = w.heap.size + 1 + 1) w4 ((w4.setCell ⟨w.heap.size + 1 + 1, 0, none⟩ (.slice (some ⟨q, 0, none⟩) x.tables.length x.tables.length)).setCell ⟨w.heap.size + 1 + 1, 1, none⟩ (.int .i64 x.next)) := (frm_set _ _ _ _).trans (frm_set _ _ _ _)
  refine ⟨some ⟨q, 0, none⟩, x.tables.length, by rw [HE.out.1, HE.out.2.1, HE.out.2.2, hln], ?_, (HBL.out.setCell (by simp <;> omega) _).setCell (by simp <;> omega) _⟩
  rw [HE.out.1, hln]
  exact (HO4.out.frm hfr (fun b hb e => by have h1 := hb.1; have e' : b = w.heap.size + 1 + 1 := e; omega)).mono (fun b hb => ⟨by have := hb.1; omega, by simpa using hb.2⟩)
end Go.Proofs.YtngbhifafdbpkaaGreat
namespace Go.Proofs.YtngbhifafdbpkaaGreat
open Go.RowKit Go.Deep
set_option linter.unusedSimpArgs false
theorem sz_pt {α : Type} {n : Nat} {d : α → Nat → D} {l l' : List α} (hl : l'.length = l.length) (h : ∀ i (hi : i < l.length), szT n (d (l'[i]'(by omega))) ≤ szT n (d l[i])) : (Ls n d l').sz ≤ (Ls n d l).sz := by
  unfold Ls
  simp only [D.sz, hl]
  have h1 : sumN l.length (fun i => sumN n (fun j => (lsF d l' i j).sz)) ≤ sumN l.length (fun i => sumN n (fun j => (lsF d l i j).sz)) := sumN_bound (fun i hi => by
    have h2 := h i hi
    unfold szT at h2
    rw [sumN_congr (g := fun j => (lsF d l' i j).sz) (h := fun j => (d (l'[i]'(by omega)) j).sz) (fun j _ => by rw [lsF_at (by omega)]), sumN_congr (g := fun j => (lsF d l i j).sz) (h := fun j => (d l[i] j).sz) (fun j _ => by rw [lsF_at hi])]
    exact h2)
  omega
theorem szL_cons {α : Type} {n : Nat} {d : α → Nat → D} (x : α) (l : List α) : (Ls n d (x :: l)).sz = 1 + szT n (d x) + (Ls n d l).sz := by
  have key : ∀ k, k ≤ l.length → szL n d (x :: l) (k + 1) = szT n (d x) + szL n d l k := by
    intro k
    induction k with
    | zero =>
      intro _
      rw [szL_succ (by simp), szL_zero, szL_zero]
      simp
    | succ k ih =>
      intro hk
      rw [szL_succ (l := x :: l) (k := k + 1) (by simp; omega), ih (by omega), szL_succ (by omega)]
      simp only [List.getElem_cons_succ]
      omega
  show (x :: l).length + szL n d (x :: l) (x :: l).length = 1 + szT n (d x) + (l.length + szL n d l l.length)
  have h := key l.length (Nat.le_refl _)
  simp only [List.length_cons] at h ⊢
  rw [h]; omega
theorem sz_filt {α : Type} {n : Nat} {d : α → Nat → D} (P : α → Bool) : ∀ l : List α, (Ls n d (l.filter P)).sz ≤ (Ls n d l).sz
  | [] => Nat.le_refl _
  | x :: l => by
    have ih := sz_filt (n := n) (d := d) P l
    rw [List.filter_cons]
    split
    · rw [szL_cons, szL_cons]; omega
    · rw [szL_cons]; omega
theorem one_sz (L : List (List RowV)) (i : Nat) (hi : i < L.length) : szT 1 (cRowS L[i]) = (dRowS L[i]).sz := by show 0 + _ = _; rw [Nat.zero_add]; rfl
theorem keep_sz (K : Nat → Int → Prop) (X : List (List RowV)) : (dRowSS (keepT K X)).sz ≤ (dRowSS X).sz := by
  refine sz_pt (n := 1) (d := cRowS) (keepT_len K X) (fun i hi => ?_)
  rw [one_sz _ _ (by rw [keepT_len]; exact hi), one_sz _ _ hi, keepT_at hi]
  exact sz_filt (n := 2) (d := dRow) _ _
theorem stk_sz {l : List Tb} {X : List (List RowV)} {cols : List Cl} {m : Nat} (r : RowV) : szT 2 (dRow (stkR l X cols m r)) ≤ szT 2 (dRow r) := by
  have hl : (stkR l X cols m r).cells.length = r.cells.length := by unfold stkR; simp
  have h : (dAtomSS (stkR l X cols m r).cells).sz ≤ (dAtomSS r.cells).sz := sz_pt (n := 1) (d := cAtomS) hl (fun i hi => by
    have e : (stkR l X cols m r).cells[i]'(by omega) = (if i < m then (match cols[i]? with | some col => stkC l X col r.cells[i] | none => r.cells[i]) else r.cells[i]) := by
      show (r.cells.mapIdx (fun c cell => if c < m then (match cols[c]? with | some col => stkC l X col cell | none => cell) else cell))[i]'(by simpa using hi) = _
      rw [List.getElem_mapIdx]
    show 0 + (dAtomS ((stkR l X cols m r).cells[i]'(by omega))).sz ≤ 0 + (dAtomS r.cells[i]).sz
    rw [e]
    split
    · split
      · unfold stkC
        split
        · exact Nat.add_le_add_left (sz_filt (n := 3) (d := dAtom) _ _) 0
        · exact Nat.le_refl _
      · exact Nat.le_refl _
    · exact Nat.le_refl _)
  show 0 + 0 + (dAtomSS (stkR l X cols m r).cells).sz ≤ 0 + 0 + (dAtomSS r.cells).sz
  omega
theorem strike_sz (l : List Tb) (X : List (List RowV)) : (dRowSS (strike l X)).sz ≤ (dRowSS X).sz := by
  refine sz_pt (n := 1) (d := cRowS) (strike_len l X) (fun i hi => ?_)
  rw [one_sz _ _ (by rw [strike_len]; exact hi), one_sz _ _ hi]
  have e : (strike l X)[i]'(by rw [strike_len]; exact hi) = (match l[i]? with | none => X[i] | some t => X[i].map (stkR l X t.cols t.cols.length)) := by
    unfold strike
    rw [List.getElem_mapIdx]
    cases l[i]? <;> rfl
  rw [e]
  split
  · exact Nat.le_refl _
  · refine sz_pt (n := 2) (d := dRow) (by simp) (fun k hk => ?_)
    rw [List.getElem_map]
    exact stk_sz _
noncomputable def prS (l : List Tb) (x : StV) : StV := ⟨prT l x, prN l x⟩
theorem pr_le {l : List Tb} {x : StV} (hk : (dRowSS x.tables).le 1048576) (hn : iOK x.next) (hz : (dRowSS x.tables).sz ≤ 1048576) : (∀ j, j < 2 → (dStore (prS l x) j).le maxLen) ∧ (dRowSS (prS l x).tables).sz ≤ 100000000 := by
  have two : ∀ (T : List (List RowV)) (m : Int), (dRowSS T).le 1048576 → iOK m → ∀ j, j < 2 → (dStore ⟨T, m⟩ j).le maxLen := fun T m h1 h2 j hj => by
    rcases (by omega : j = 0 ∨ j = 1) with rfl | rfl
    · exact D.le.mono (by unfold maxLen; omega) _ h1
    · exact h2
  cases h : (schB l && formB l x)
  · obtain ⟨e1, e2, -⟩ := pr_bad h
    unfold prS
    rw [e1, e2]
    exact ⟨two [] 0 (Ls_le.2 ⟨by omega, by simp, fun i hi => absurd hi (by simp)⟩) (by unfold iOK; decide +kernel), by decide⟩
  · obtain ⟨e1, e2, -⟩ := pr_ok h
    unfold prS
    rw [e1, e2]
    rw [Bool.and_eq_true] at h
    have hf := form_of h.2
    have hX : (keepT (gset l x.tables) x.tables).length = l.length := by rw [keepT_len]; exact hf.1
    have hl : (dRowSS (strike l (keepT (gset l x.tables) x.tables))).le 1048576 := by
      rw [← mid_end hX]
      exact mid_le hX (keepT_le hk _)
    have h1 := strike_sz l (keepT (gset l x.tables) x.tables)
    have h2 := keep_sz (gset l x.tables) x.tables
    exact ⟨two _ _ hl hn, by show (dRowSS (strike l (keepT (gset l x.tables) x.tables))).sz ≤ _; omega⟩
theorem pruneSL (l : List Tb) (sa : Option Addr) (sc : Nat) (A : Nat → Prop) (x : StV) (xa : Option Addr) (xc : Nat) (B : Nat → Prop) (w : World) (hlo : (dTableS l).le maxLen) (ho : (dRowSS x.tables).le 1048576) (hT : Rd w A (dTableS l) (.slice sa l.length sc)) (hR : Rd w B (dRowSS x.tables) (.slice xa x.tables.length xc)) :
    Calls Tryz.prog 6 #[.agg #[.slice sa l.length sc], .agg #[.slice xa x.tables.length xc, .int .i64 x.next]] w fun e w' => ∃ (ra : Option Addr) (rc : Nat), e = .returned (.tuple #[.agg #[.slice ra (prS l x).tables.length rc, .int .i64 (prS l x).next], .int .i64 (prC l x)]) ∧ Rd w' (fun d => w.heap.size ≤ d ∧ d < w'.heap.size) (dRowSS (prS l x).tables) (.slice ra (prS l x).tables.length rc) ∧ Below w.heap.size w w' :=
  (pruneSP l sa sc A x xa xc B w hlo ho hT hR).mono (fun _ _ ⟨ra, rc, he, hO, hB⟩ => ⟨ra, rc, he, hO.rd', hB⟩)
theorem pruneIL (l : List Tb) (sa : Option Addr) (sc : Nat) (A : Nat → Prop) (x : StV) (xa : Option Addr) (xc : Nat) (B : Nat → Prop) (w : World) (hlo : (dTableS l).le maxLen) (ho : (dRowSS x.tables).le 1048576) (hT : Rd w A (dTableS l) (.slice sa l.length sc)) (hR : Rd w B (dRowSS x.tables) (.slice xa x.tables.length xc)) :
    Calls Tryz.prog 9 #[.agg #[.slice sa l.length sc], .agg #[.slice xa x.tables.length xc, .int .i64 x.next]] w fun e w' => ∃ (ra : Option Addr) (rc : Nat), e = .returned (.tuple #[.agg #[.slice ra (prS l x).tables.length rc, .int .i64 (prS l x).next], .int .i64 (prC l x)]) ∧ Own w' (dRowSS (prS l x).tables) (fun d => w.heap.size ≤ d ∧ d < w'.heap.size) (.slice ra (prS l x).tables.length rc) ∧ Below w.heap.size w w' :=
  pruneIP l sa sc A x xa xc B w hlo ho hT hR
end Go.Proofs.YtngbhifafdbpkaaGreat
