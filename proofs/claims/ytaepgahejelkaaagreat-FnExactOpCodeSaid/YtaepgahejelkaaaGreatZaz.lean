import Derived.Test.YtaepgahejelkaaaGreatZay
import Derived.Test.YtaepgahejelkaaaGreatZTk
namespace Go.Proofs.YtaepgahejelkaaaGreat
open Go.RowKit
set_option linter.unusedSimpArgs false
theorem mut_fn {c : MutV} (h : mutB c = true) : 1 ≤ c.fn := by
  unfold mutB inB at h
  simp only [Bool.and_eq_true, decide_eq_true_eq] at h
  exact h.1.1
set_option maxRecDepth 100000 in
set_option maxHeartbeats 6400000 in
theorem cellCodeI (x : Cl) (c : MutV) (va : Option Addr) (vc : Nat) (S : Nat) (w : World) (h1f : 1 ≤ c.fn) (hl : c.val.length ≤ maxLen) (hw : S ≤ w.heap.size) (hA : Ats w (· < S) va c.val) :
    Calls Tryz.prog 107 #[.agg #[.string ⟨x.nm.toArray⟩, .int .i64 x.k, .int .i64 x.mn, .int .i64 x.mx, .int .i64 x.lo, .int .i64 x.hi, .string ⟨x.rf.toArray⟩, .bool x.st], .agg #[.string ⟨c.col.toArray⟩, .int .i64 c.fn, .slice va c.val.length vc]] w fun e w' => e = .returned (.int .i64 (mutK x.k c)) ∧ Below w.heap.size w w' := by
  have HH := Lib.hid hA.head
  have HW := Lib.hid hw
  have hb := boxE 91 109 w #[.string ⟨x.nm.toArray⟩, .int .i64 x.k, .int .i64 x.mn, .int .i64 x.mx, .int .i64 x.lo, .int .i64 x.hi, .string ⟨x.rf.toArray⟩, .bool x.st] #[.string ⟨c.col.toArray⟩, .int .i64 c.fn, .slice va c.val.length vc]
  have x1 := cell_at (o := 1) hb.a rfl
  have y0 := cell_at (o := 0) hb.b rfl
  have y1 := cell_at (o := 1) hb.b rfl
  have y2 := cell_at (o := 2) hb.b rfl
  have HB := Lib.hid hb
  have NU : Hid (∀ W, BoxE 91 109 w W #[.string ⟨x.nm.toArray⟩, .int .i64 x.k, .int .i64 x.mn, .int .i64 x.mx, .int .i64 x.lo, .int .i64 x.hi, .string ⟨x.rf.toArray⟩, .bool x.st] #[.string ⟨c.col.toArray⟩, .int .i64 c.fn, .slice va c.val.length vc] → Calls Tryz.prog 128 #[.agg #[.string ⟨c.col.toArray⟩, .int .i64 c.fn, .slice va c.val.length vc]] W fun e w' => e = .returned (.bool (decide (c.fn ≤ 5))) ∧ BoxE 91 109 w w' #[.string ⟨x.nm.toArray⟩, .int .i64 x.k, .int .i64 x.mn, .int .i64 x.mx, .int .i64 x.lo, .int .i64 x.hi, .string ⟨x.rf.toArray⟩, .bool x.st] #[.string ⟨c.col.toArray⟩, .int .i64 c.fn, .slice va c.val.length vc]) := fun W h => (numsI c va vc W).mono (fun e w' ⟨he, hB⟩ => ⟨he.trans (ret_b (by unfold inB; rw [Bool.eq_iff_iff]; simp; intro _; exact h1f)), h.later hB⟩)
  unfold maxLen at hl
  clear hw hA hb h1f
  rcases HH.out with h0 | ⟨b, off, q, h0, rfl, hkn, hf⟩
  · have hd : decide (0 < c.val.length) = false := decide_eq_false (by omega)
    have H0 := Lib.hid h0
    clear h0
    have HK := Lib.hid (kindNo_nil (kd := x.k) H0.out)
    by_cases hF : c.fn ≤ 5
    case neg =>
      have HC : Hid (mutK x.k c = 0) := mutK_ok HK.out hF
      have gF : decide (c.fn ≤ 5) = false := decide_eq_false hF
      rw [gF] at NU
      clear hF gF
      go_enter Tryz.func107, Tryz.ntmps107
      go_wp2_with fail
      go_quiet (fail)
      go_wp2_with fail
      refine (NU.out _ (by first | exact HB.out | exact HB.out.drew | exact HB.out.later (below_drewN (Below.refl _ _) _))).mono ?_
      rintro e w1 ⟨rfl, hb⟩
      clear x1 y0 y1 y2
      have x1 := cell_at (o := 1) hb.a rfl
      have y0 := cell_at (o := 0) hb.b rfl
      have y1 := cell_at (o := 1) hb.b rfl
      have y2 := cell_at (o := 2) hb.b rfl
      have HB1 := Lib.hid hb.bel
      clear hb
      go_wp2_with fail
      go_ret
      exact ⟨ret_i HC.out.symm, HB1.out⟩
    have gF : decide (c.fn ≤ 5) = true := decide_eq_true hF
    by_cases h1 : x.k = 1
    case neg =>
      have HC : Hid (mutK x.k c = 9) := mutK_no HK.out hF (.inl h1)
      have g1 : (x.k != 1) = true := by simpa using h1
      clear h1
      rw [gF] at NU
      clear hF gF
      go_enter Tryz.func107, Tryz.ntmps107
      go_wp2_with fail
      go_quiet (fail)
      go_wp2_with fail
      refine (NU.out _ (by first | exact HB.out | exact HB.out.drew | exact HB.out.later (below_drewN (Below.refl _ _) _))).mono ?_
      rintro e w1 ⟨rfl, hb⟩
      clear x1 y0 y1 y2
      have x1 := cell_at (o := 1) hb.a rfl
      have y0 := cell_at (o := 0) hb.b rfl
      have y1 := cell_at (o := 1) hb.b rfl
      have y2 := cell_at (o := 2) hb.b rfl
      have HB1 := Lib.hid hb.bel
      clear hb
      go_wp2_with fail
      go_ret
      exact ⟨ret_i HC.out.symm, HB1.out⟩
    have g1 : (x.k != 1) = false := by simpa using h1
    have h3 : ¬ c.val.length = 1 := by have := H0.out; omega
    have HC : Hid (mutK x.k c = 9) := mutK_no HK.out hF (.inr h3)
    have g3 : ((c.val.length : Int) != 1) = true := by simpa [bne_iff_ne] using (by omega : ¬ (c.val.length : Int) = 1)
    clear h1 h3
    rw [gF] at NU
    clear hF gF
    go_enter Tryz.func107, Tryz.ntmps107
    go_wp2_with fail
    go_quiet (fail)
    go_wp2_with fail
    refine (NU.out _ (by first | exact HB.out | exact HB.out.drew | exact HB.out.later (below_drewN (Below.refl _ _) _))).mono ?_
    rintro e w1 ⟨rfl, hb⟩
    clear x1 y0 y1 y2
    have x1 := cell_at (o := 1) hb.a rfl
    have y0 := cell_at (o := 0) hb.b rfl
    have y1 := cell_at (o := 1) hb.b rfl
    have y2 := cell_at (o := 2) hb.b rfl
    have HB1 := Lib.hid hb.bel
    clear hb
    go_wp2_with fail
    go_ret
    exact ⟨ret_i HC.out.symm, HB1.out⟩
  · have HF := Lib.hid hf
    have hd : decide (0 < c.val.length) = true := decide_eq_true (by omega)
    have hd0 : (0 : Int) < (c.val.length : Int) := by omega
    have hkn1 := hkn (x.k)
    clear hf hkn
    cases hq : (q != x.k)
    case true =>
      have HC : Hid (mutK x.k c = 9) := mutK_kind (by rw [hkn1, hq])
      clear hkn1 NU
      have f0 := HF.out _ (HB.out.bel.mono HW.out)
      go_enter Tryz.func107, Tryz.ntmps107
      go_wp2_with fail
      go_quiet (fail)
      go_wp2_with fail
      go_ret
      exact ⟨ret_i HC.out.symm, by first | exact HB.out.bel | exact HB.out.bel.drew | exact below_drewN HB.out.bel _⟩
    have HK := Lib.hid (hkn1.trans hq)
    by_cases hF : c.fn ≤ 5
    case neg =>
      have HC : Hid (mutK x.k c = 0) := mutK_ok HK.out hF
      have gF : decide (c.fn ≤ 5) = false := decide_eq_false hF
      rw [gF] at NU
      clear hF gF
      have f0 := HF.out _ (HB.out.bel.mono HW.out)
      go_enter Tryz.func107, Tryz.ntmps107
      go_wp2_with fail
      go_quiet (fail)
      go_wp2_with fail
      refine (NU.out _ (by first | exact HB.out | exact HB.out.drew | exact HB.out.later (below_drewN (Below.refl _ _) _))).mono ?_
      rintro e w1 ⟨rfl, hb⟩
      clear x1 y0 y1 y2 f0
      have x1 := cell_at (o := 1) hb.a rfl
      have y0 := cell_at (o := 0) hb.b rfl
      have y1 := cell_at (o := 1) hb.b rfl
      have y2 := cell_at (o := 2) hb.b rfl
      have HB1 := Lib.hid hb.bel
      clear hb
      go_wp2_with fail
      go_ret
      exact ⟨ret_i HC.out.symm, HB1.out⟩
    have gF : decide (c.fn ≤ 5) = true := decide_eq_true hF
    by_cases h1 : x.k = 1
    case neg =>
      have HC : Hid (mutK x.k c = 9) := mutK_no HK.out hF (.inl h1)
      have g1 : (x.k != 1) = true := by simpa using h1
      clear h1
      rw [gF] at NU
      clear hF gF
      have f0 := HF.out _ (HB.out.bel.mono HW.out)
      go_enter Tryz.func107, Tryz.ntmps107
      go_wp2_with fail
      go_quiet (fail)
      go_wp2_with fail
      refine (NU.out _ (by first | exact HB.out | exact HB.out.drew | exact HB.out.later (below_drewN (Below.refl _ _) _))).mono ?_
      rintro e w1 ⟨rfl, hb⟩
      clear x1 y0 y1 y2 f0
      have x1 := cell_at (o := 1) hb.a rfl
      have y0 := cell_at (o := 0) hb.b rfl
      have y1 := cell_at (o := 1) hb.b rfl
      have y2 := cell_at (o := 2) hb.b rfl
      have HB1 := Lib.hid hb.bel
      clear hb
      go_wp2_with fail
      go_ret
      exact ⟨ret_i HC.out.symm, HB1.out⟩
    have g1 : (x.k != 1) = false := by simpa using h1
    by_cases h3 : c.val.length = 1
    case pos =>
      have HC : Hid (mutK x.k c = 0) := mutK_yes HK.out h1 h3
      have g3 : ((c.val.length : Int) != 1) = false := by rw [h3]; rfl
      clear h1 h3
      rw [gF] at NU
      clear hF gF
      have f0 := HF.out _ (HB.out.bel.mono HW.out)
      go_enter Tryz.func107, Tryz.ntmps107
      go_wp2_with fail
      go_quiet (fail)
      go_wp2_with fail
      refine (NU.out _ (by first | exact HB.out | exact HB.out.drew | exact HB.out.later (below_drewN (Below.refl _ _) _))).mono ?_
      rintro e w1 ⟨rfl, hb⟩
      clear x1 y0 y1 y2 f0
      have x1 := cell_at (o := 1) hb.a rfl
      have y0 := cell_at (o := 0) hb.b rfl
      have y1 := cell_at (o := 1) hb.b rfl
      have y2 := cell_at (o := 2) hb.b rfl
      have HB1 := Lib.hid hb.bel
      clear hb
      go_wp2_with fail
      go_ret
      exact ⟨ret_i HC.out.symm, HB1.out⟩
    have HC : Hid (mutK x.k c = 9) := mutK_no HK.out hF (.inr h3)
    have g3 : ((c.val.length : Int) != 1) = true := by simpa [bne_iff_ne] using (by omega : ¬ (c.val.length : Int) = 1)
    clear h1 h3
    rw [gF] at NU
    clear hF gF
    have f0 := HF.out _ (HB.out.bel.mono HW.out)
    go_enter Tryz.func107, Tryz.ntmps107
    go_wp2_with fail
    go_quiet (fail)
    go_wp2_with fail
    refine (NU.out _ (by first | exact HB.out | exact HB.out.drew | exact HB.out.later (below_drewN (Below.refl _ _) _))).mono ?_
    rintro e w1 ⟨rfl, hb⟩
    clear x1 y0 y1 y2 f0
    have x1 := cell_at (o := 1) hb.a rfl
    have y0 := cell_at (o := 0) hb.b rfl
    have y1 := cell_at (o := 1) hb.b rfl
    have y2 := cell_at (o := 2) hb.b rfl
    have HB1 := Lib.hid hb.bel
    clear hb
    go_wp2_with fail
    go_ret
    exact ⟨ret_i HC.out.symm, HB1.out⟩
set_option maxRecDepth 100000 in
set_option maxHeartbeats 6400000 in
theorem mutCodeI (t : Tb) (c : MutV) (ca : Option Addr) (cc : Nat) (ua : Option Addr) (uc : Nat) (va : Option Addr) (vc : Nat) (B : Nat → Prop) (S : Nat) (w : World) (ho : t.ok) (hl : c.val.length ≤ maxLen) (hT : t.Has w B ca ua) (hw : S ≤ w.heap.size) (hA : Ats w (· < S) va c.val) (h1f : 1 ≤ c.fn) :
    Calls Tryz.prog 68 #[.agg #[.string ⟨t.nm.toArray⟩, .slice ca t.cols.length cc, .slice ua t.uq.length uc, .bool t.rt], .agg #[.string ⟨c.col.toArray⟩, .int .i64 c.fn, .slice va c.val.length vc]] w fun e w' => e = .returned (.int .i64 (mutC t c)) ∧ Below w.heap.size w w' := by
  have PL : Hid (∀ W, BoxE 89 109 w W #[.string ⟨t.nm.toArray⟩, .slice ca t.cols.length cc, .slice ua t.uq.length uc, .bool t.rt] #[.string ⟨c.col.toArray⟩, .int .i64 c.fn, .slice va c.val.length vc] → Calls Tryz.prog 90 #[.agg #[.string ⟨t.nm.toArray⟩, .slice ca t.cols.length cc, .slice ua t.uq.length uc, .bool t.rt], .string ⟨c.col.toArray⟩] W fun e w' => e = .returned (.int .i64 (placeC t.cols c.col)) ∧ BoxE 89 109 w w' #[.string ⟨t.nm.toArray⟩, .slice ca t.cols.length cc, .slice ua t.uq.length uc, .bool t.rt] #[.string ⟨c.col.toArray⟩, .int .i64 c.fn, .slice va c.val.length vc]) := fun W h => (placeI t c.col ca cc ua uc B W ho.2.1 (hT.later h.bel)).mono (fun e w' ⟨he, hB⟩ => ⟨he, h.later hB⟩)
  have CC : Hid (∀ x : Cl, ∀ W, BoxE 89 109 w W #[.string ⟨t.nm.toArray⟩, .slice ca t.cols.length cc, .slice ua t.uq.length uc, .bool t.rt] #[.string ⟨c.col.toArray⟩, .int .i64 c.fn, .slice va c.val.length vc] → Calls Tryz.prog 107 #[.agg #[.string ⟨x.nm.toArray⟩, .int .i64 x.k, .int .i64 x.mn, .int .i64 x.mx, .int .i64 x.lo, .int .i64 x.hi, .string ⟨x.rf.toArray⟩, .bool x.st], .agg #[.string ⟨c.col.toArray⟩, .int .i64 c.fn, .slice va c.val.length vc]] W fun e w' => e = .returned (.int .i64 (mutK x.k c)) ∧ BoxE 89 109 w w' #[.string ⟨t.nm.toArray⟩, .slice ca t.cols.length cc, .slice ua t.uq.length uc, .bool t.rt] #[.string ⟨c.col.toArray⟩, .int .i64 c.fn, .slice va c.val.length vc]) := fun x W h => (cellCodeI x c va vc S W h1f hl (Nat.le_trans hw h.bel.size) (hA.below (h.bel.mono hw))).mono (fun e w' ⟨he, hB⟩ => ⟨he, h.later hB⟩)
  have CL : Hid (∀ W, Below w.heap.size w W → Cols W B ca t.cols) := fun W h => hT.1.later h
  have hb := boxE 89 109 w #[.string ⟨t.nm.toArray⟩, .slice ca t.cols.length cc, .slice ua t.uq.length uc, .bool t.rt] #[.string ⟨c.col.toArray⟩, .int .i64 c.fn, .slice va c.val.length vc]
  have x0 := cell_at (o := 0) hb.a rfl
  have x1 := cell_at (o := 1) hb.a rfl
  have x2 := cell_at (o := 2) hb.a rfl
  have x3 := cell_at (o := 3) hb.a rfl
  have y0 := cell_at (o := 0) hb.b rfl
  have y1 := cell_at (o := 1) hb.b rfl
  have y2 := cell_at (o := 2) hb.b rfl
  have HB := Lib.hid hb
  have hcl := ho.2.1
  unfold maxLen at hl hcl
  clear ho hT hw hA hb h1f
  rcases place_cases t.cols c.col with hp | ⟨k, hk, hp⟩
  · have HC : Hid (mutC t c = 11) := mut_none hp
    rw [hp] at PL
    clear hp
    go_enter Tryz.func68, Tryz.ntmps68
    go_wp2_with fail
    refine (PL.out _ HB.out).mono ?_
    rintro e w1 ⟨rfl, hb⟩
    clear x0 x1 x2 x3 y0 y1 y2
    have x1 := cell_at (o := 1) hb.a rfl
    have y0 := cell_at (o := 0) hb.b rfl
    have y1 := cell_at (o := 1) hb.b rfl
    have y2 := cell_at (o := 2) hb.b rfl
    have HB1 := Lib.hid hb
    clear hb
    go_wp2_with fail
    go_ret
    exact ⟨ret_i HC.out.symm, HB1.out.bel⟩
  have HE := Lib.hid (mut_at hk hp)
  have hk1 : (k : Int) < (t.cols.length : Int) := by omega
  have hk2 : decide ((k : Int) < 0) = false := decide_eq_false (by omega)
  obtain ⟨b1, off1, rfl, -, -⟩ := (CL.out _ (Below.refl _ _)).at k hk
  rw [hp] at PL
  clear hp
  go_enter Tryz.func68, Tryz.ntmps68
  go_wp2_with fail
  refine (PL.out _ HB.out).mono ?_
  rintro e w1 ⟨rfl, hb⟩
  clear x0 x1 x2 x3 y0 y1 y2
  have x1 := cell_at (o := 1) hb.a rfl
  have y0 := cell_at (o := 0) hb.b rfl
  have y1 := cell_at (o := 1) hb.b rfl
  have y2 := cell_at (o := 2) hb.b rfl
  obtain ⟨b2, off2, e2, -, hc2⟩ := (CL.out _ hb.bel).at k hk
  simp only [Option.some.injEq, Addr.mk.injEq, and_true] at e2
  obtain ⟨rfl, rfl⟩ := e2
  obtain ⟨c0, c1, c2, c3, c4, c5, c6, c7⟩ := hc2 k hk
  clear hc2
  have HB1 := Lib.hid hb
  clear hb
  have CE : Hid (∀ W, BoxE 89 109 w W #[.string ⟨t.nm.toArray⟩, .slice (some ⟨b1, off1, none⟩) t.cols.length cc, .slice ua t.uq.length uc, .bool t.rt] #[.string ⟨c.col.toArray⟩, .int .i64 c.fn, .slice va c.val.length vc] → (W.cell? ⟨w.heap.size, 1, none⟩ = some (.slice (some ⟨b1, off1, none⟩) t.cols.length cc) ∧ W.cell? ⟨w.heap.size + 1, 0, none⟩ = some (.string ⟨c.col.toArray⟩) ∧ W.cell? ⟨w.heap.size + 1, 1, none⟩ = some (.int .i64 c.fn) ∧ W.cell? ⟨w.heap.size + 1, 2, none⟩ = some (.slice va c.val.length vc) ∧ W.cell? ⟨b1, off1 + k * 8, none⟩ = some (.string ⟨t.cols[k].nm.toArray⟩) ∧ W.cell? ⟨b1, off1 + k * 8 + 1, none⟩ = some (.int .i64 t.cols[k].k) ∧ W.cell? ⟨b1, off1 + k * 8 + 2, none⟩ = some (.int .i64 t.cols[k].mn) ∧ W.cell? ⟨b1, off1 + k * 8 + 3, none⟩ = some (.int .i64 t.cols[k].mx) ∧ W.cell? ⟨b1, off1 + k * 8 + 4, none⟩ = some (.int .i64 t.cols[k].lo) ∧ W.cell? ⟨b1, off1 + k * 8 + 5, none⟩ = some (.int .i64 t.cols[k].hi) ∧ W.cell? ⟨b1, off1 + k * 8 + 6, none⟩ = some (.string ⟨t.cols[k].rf.toArray⟩) ∧ W.cell? ⟨b1, off1 + k * 8 + 7, none⟩ = some (.bool t.cols[k].st))) := fun W h => by
    obtain ⟨b2, off2, e2, -, hc2⟩ := (CL.out _ h.bel).at k hk
    simp only [Option.some.injEq, Addr.mk.injEq, and_true] at e2
    obtain ⟨rfl, rfl⟩ := e2
    obtain ⟨c0, c1, c2, c3, c4, c5, c6, c7⟩ := hc2 k hk
    exact ⟨cell_at (o := 1) h.a rfl, cell_at (o := 0) h.b rfl, cell_at (o := 1) h.b rfl, cell_at (o := 2) h.b rfl, c0, c1, c2, c3, c4, c5, c6, c7⟩
  generalize t.cols[k] = x at *
  go_wp2_with fail
  have hx := HB1.out
  clear HB1 x1 y0 y1 y2 c0 c1 c2 c3 c4 c5 c6 c7
  refine wp_region_held_drew (S := (fun W => W.cell? ⟨w.heap.size, 1, none⟩ = some (.slice (some ⟨b1, off1, none⟩) t.cols.length cc) ∧ W.cell? ⟨w.heap.size + 1, 0, none⟩ = some (.string ⟨c.col.toArray⟩) ∧ W.cell? ⟨w.heap.size + 1, 1, none⟩ = some (.int .i64 c.fn) ∧ W.cell? ⟨w.heap.size + 1, 2, none⟩ = some (.slice va c.val.length vc) ∧ W.cell? ⟨b1, off1 + k * 8, none⟩ = some (.string ⟨x.nm.toArray⟩) ∧ W.cell? ⟨b1, off1 + k * 8 + 1, none⟩ = some (.int .i64 x.k) ∧ W.cell? ⟨b1, off1 + k * 8 + 2, none⟩ = some (.int .i64 x.mn) ∧ W.cell? ⟨b1, off1 + k * 8 + 3, none⟩ = some (.int .i64 x.mx) ∧ W.cell? ⟨b1, off1 + k * 8 + 4, none⟩ = some (.int .i64 x.lo) ∧ W.cell? ⟨b1, off1 + k * 8 + 5, none⟩ = some (.int .i64 x.hi) ∧ W.cell? ⟨b1, off1 + k * 8 + 6, none⟩ = some (.string ⟨x.rf.toArray⟩) ∧ W.cell? ⟨b1, off1 + k * 8 + 7, none⟩ = some (.bool x.st))) (by kernel_rfl) ?_ (fun hHeld => ?_)
  · (first | exact CE.out _ hx | exact CE.out _ hx.drew)
  refine tkA (i := 0) (v := ?_) rfl ?_ ?_
  rotate_left
  · (intro wS hSw; (try dsimp only at hSw); go_simp <;> with_reducible rfl)
  try simp only [Act.put, tkS]
  refine tkA (i := 1) (v := ?_) rfl ?_ ?_
  rotate_left
  · (intro wS hSw; (try dsimp only at hSw); go_simp <;> with_reducible rfl)
  try simp only [Act.put, tkS]
  refine tkA (i := 2) (v := ?_) rfl ?_ ?_
  rotate_left
  · (intro wS hSw; (try dsimp only at hSw); go_simp <;> with_reducible rfl)
  try simp only [Act.put, tkS]
  refine tkA (i := 3) (v := ?_) rfl ?_ ?_
  rotate_left
  · (intro wS hSw; (try dsimp only at hSw); go_simp <;> with_reducible rfl)
  try simp only [Act.put, tkS]
  refine tkA (i := 4) (v := ?_) rfl ?_ ?_
  rotate_left
  · (intro wS hSw; (try dsimp only at hSw); go_simp <;> with_reducible rfl)
  try simp only [Act.put, tkS]
  refine tkA (i := 5) (v := ?_) rfl ?_ ?_
  rotate_left
  · (intro wS hSw; (try dsimp only at hSw); go_simp <;> with_reducible rfl)
  try simp only [Act.put, tkS]
  refine wpAnyH_ready (rs := [6]) (by kernel_rfl) (by simp) (AllReadyH.cons rfl (fun K hK => ?_) AllReadyH.nil)
  go_simp
  (go_at_call 107; refine (CC.out x _ (by first | exact hx | exact hx.drew)).mono ?_; rintro e w2 ⟨rfl, hb⟩; clear hx; have hx := hb; clear hb)
  refine hK.out _ _ ?_ (fun hHeld => ?_)
  · (first | exact CE.out _ hx | exact CE.out _ hx.drew)
  clear hK K
  try simp only [Act.put, tkS]
  refine tkA (i := 7) (v := ?_) rfl ?_ ?_
  rotate_left
  · (intro wS hSw; (try dsimp only at hSw); go_simp <;> with_reducible rfl)
  try simp only [Act.put, tkS]
  refine wpAnyH_done (by kernel_rfl) ?_ _
  go_wp2_with fail
  go_ret
  exact ⟨ret_i HE.out.symm, by first | exact hx.bel | exact hx.drew.bel⟩
end Go.Proofs.YtaepgahejelkaaaGreat
