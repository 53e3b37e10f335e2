import Derived.Test.YtfoimmnfpheoiaaZbe
namespace Go.Proofs.Ytfoimmnfpheoiaa
open Go.RowKit
set_option linter.unusedSimpArgs false
set_option maxRecDepth 100000 in
set_option maxHeartbeats 6400000 in
theorem cellCodeI (x : Cl) (c : MutV) (va : Option Addr) (vc : Nat) (S : Nat) (w : World) (h1f : 1 ≤ c.fn) (hl : c.val.length ≤ maxLen) (hw : S ≤ w.heap.size) (hA : Ats w (· < S) va c.val) :
    Calls Try.prog 16 #[.agg #[.string ⟨x.nm.toArray⟩, .int .i64 x.k, .int .i64 x.mn, .int .i64 x.mx, .int .i64 x.lo, .int .i64 x.hi, .string ⟨x.rf.toArray⟩, .bool x.st], .agg #[.string ⟨c.col.toArray⟩, .int .i64 c.fn, .slice va c.val.length vc]] w fun e w' => e = .returned (.int .i64 (mutK x.k c)) ∧ Below w.heap.size w w' := by
  have HH := Lib.hid hA.head
  have HW := Lib.hid hw
  have hb := boxE 24 30 w #[.string ⟨x.nm.toArray⟩, .int .i64 x.k, .int .i64 x.mn, .int .i64 x.mx, .int .i64 x.lo, .int .i64 x.hi, .string ⟨x.rf.toArray⟩, .bool x.st] #[.string ⟨c.col.toArray⟩, .int .i64 c.fn, .slice va c.val.length vc]
  have x1 := cell_at (o := 1) hb.a rfl
  have y0 := cell_at (o := 0) hb.b rfl
  have y1 := cell_at (o := 1) hb.b rfl
  have y2 := cell_at (o := 2) hb.b rfl
  have HB := Lib.hid hb
  have NU : Hid (∀ W, BoxE 24 30 w W #[.string ⟨x.nm.toArray⟩, .int .i64 x.k, .int .i64 x.mn, .int .i64 x.mx, .int .i64 x.lo, .int .i64 x.hi, .string ⟨x.rf.toArray⟩, .bool x.st] #[.string ⟨c.col.toArray⟩, .int .i64 c.fn, .slice va c.val.length vc] → Calls Try.prog 31 #[.agg #[.string ⟨c.col.toArray⟩, .int .i64 c.fn, .slice va c.val.length vc]] W fun e w' => e = .returned (.bool (decide (c.fn ≤ 5))) ∧ BoxE 24 30 w w' #[.string ⟨x.nm.toArray⟩, .int .i64 x.k, .int .i64 x.mn, .int .i64 x.mx, .int .i64 x.lo, .int .i64 x.hi, .string ⟨x.rf.toArray⟩, .bool x.st] #[.string ⟨c.col.toArray⟩, .int .i64 c.fn, .slice va c.val.length vc]) := fun W h => (numsI c va vc W).mono (fun e w' ⟨he, hB⟩ => ⟨he.trans (ret_b (by unfold inB; rw [Bool.eq_iff_iff]; simp; intro _; exact h1f)), h.later hB⟩)
  unfold maxLen at hl
  clear hw hA hb h1f
  rcases HH.out with h0 | ⟨b, off, q, h0, rfl, hkn, hf⟩
  · have hd : decide (0 < c.val.length) = false := decide_eq_false (by omega)
    have H0 := Lib.hid h0
    clear h0
    have HK := Lib.hid (kindNo_nil (kd := x.k) H0.out)
    by_cases hF : c.fn ≤ 5
    case neg =>
      have HC : Hid (mutK x.k c = 0) := mutK_ok HK.out hF
      have gF : decide (c.fn ≤ 5) = false := decide_eq_false hF
      rw [gF] at NU
      clear hF gF
      go_enter Try.func16, Try.ntmps16
      go_wp2_with fail
      go_quiet (fail)
      go_wp2_with fail
      refine (NU.out _ (by first | exact HB.out | exact HB.out.drew | exact HB.out.later (below_drewN (Below.refl _ _) _))).mono ?_
      rintro e w1 ⟨rfl, hb⟩
      clear x1 y0 y1 y2
      have x1 := cell_at (o := 1) hb.a rfl
      have y0 := cell_at (o := 0) hb.b rfl
      have y1 := cell_at (o := 1) hb.b rfl
      have y2 := cell_at (o := 2) hb.b rfl
      have HB1 := Lib.hid hb.bel
      clear hb
      go_wp2_with fail
      go_ret
      exact ⟨ret_i HC.out.symm, HB1.out⟩
    have gF : decide (c.fn ≤ 5) = true := decide_eq_true hF
    by_cases h1 : x.k = 1
    case neg =>
      have HC : Hid (mutK x.k c = 9) := mutK_no HK.out hF (.inl h1)
      have g1 : (x.k != 1) = true := by simpa using h1
      clear h1
      rw [gF] at NU
      clear hF gF
      go_enter Try.func16, Try.ntmps16
      go_wp2_with fail
      go_quiet (fail)
      go_wp2_with fail
      refine (NU.out _ (by first | exact HB.out | exact HB.out.drew | exact HB.out.later (below_drewN (Below.refl _ _) _))).mono ?_
      rintro e w1 ⟨rfl, hb⟩
      clear x1 y0 y1 y2
      have x1 := cell_at (o := 1) hb.a rfl
      have y0 := cell_at (o := 0) hb.b rfl
      have y1 := cell_at (o := 1) hb.b rfl
      have y2 := cell_at (o := 2) hb.b rfl
      have HB1 := Lib.hid hb.bel
      clear hb
      go_wp2_with fail
      go_ret
      exact ⟨ret_i HC.out.symm, HB1.out⟩
    have g1 : (x.k != 1) = false := by simpa using h1
    have h3 : ¬ c.val.length = 1 := by have := H0.out; omega
    have HC : Hid (mutK x.k c = 9) := mutK_no HK.out hF (.inr h3)
    have g3 : ((c.val.length : Int) != 1) = true := by simpa [bne_iff_ne] using (by omega : ¬ (c.val.length : Int) = 1)
    clear h1 h3
    rw [gF] at NU
    clear hF gF
    go_enter Try.func16, Try.ntmps16
    go_wp2_with fail
    go_quiet (fail)
    go_wp2_with fail
    refine (NU.out _ (by first | exact HB.out | exact HB.out.drew | exact HB.out.later (below_drewN (Below.refl _ _) _))).mono ?_
    rintro e w1 ⟨rfl, hb⟩
    clear x1 y0 y1 y2
    have x1 := cell_at (o := 1) hb.a rfl
    have y0 := cell_at (o := 0) hb.b rfl
    have y1 := cell_at (o := 1) hb.b rfl
    have y2 := cell_at (o := 2) hb.b rfl
    have HB1 := Lib.hid hb.bel
    clear hb
    go_wp2_with fail
    go_ret
    exact ⟨ret_i HC.out.symm, HB1.out⟩
  · have HF := Lib.hid hf
    have hd : decide (0 < c.val.length) = true := decide_eq_true (by omega)
    have hd0 : (0 : Int) < (c.val.length : Int) := by omega
    have hkn1 := hkn (x.k)
    clear hf hkn
    cases hq : (q != x.k)
    case true =>
      have HC : Hid (mutK x.k c = 9) := mutK_kind (by rw [hkn1, hq])
      clear hkn1 NU
      have f0 := HF.out _ (HB.out.bel.mono HW.out)
      go_enter Try.func16, Try.ntmps16
      go_wp2_with fail
      go_quiet (fail)
      go_wp2_with fail
      go_ret
      exact ⟨ret_i HC.out.symm, by first | exact HB.out.bel | exact HB.out.bel.drew | exact below_drewN HB.out.bel _⟩
    have HK := Lib.hid (hkn1.trans hq)
    by_cases hF : c.fn ≤ 5
    case neg =>
      have HC : Hid (mutK x.k c = 0) := mutK_ok HK.out hF
      have gF : decide (c.fn ≤ 5) = false := decide_eq_false hF
      rw [gF] at NU
      clear hF gF
      have f0 := HF.out _ (HB.out.bel.mono HW.out)
      go_enter Try.func16, Try.ntmps16
      go_wp2_with fail
      go_quiet (fail)
      go_wp2_with fail
      refine (NU.out _ (by first | exact HB.out | exact HB.out.drew | exact HB.out.later (below_drewN (Below.refl _ _) _))).mono ?_
      rintro e w1 ⟨rfl, hb⟩
      clear x1 y0 y1 y2 f0
      have x1 := cell_at (o := 1) hb.a rfl
      have y0 := cell_at (o := 0) hb.b rfl
      have y1 := cell_at (o := 1) hb.b rfl
      have y2 := cell_at (o := 2) hb.b rfl
      have HB1 := Lib.hid hb.bel
      clear hb
      go_wp2_with fail
      go_ret
      exact ⟨ret_i HC.out.symm, HB1.out⟩
    have gF : decide (c.fn ≤ 5) = true := decide_eq_true hF
    by_cases h1 : x.k = 1
    case neg =>
      have HC : Hid (mutK x.k c = 9) := mutK_no HK.out hF (.inl h1)
      have g1 : (x.k != 1) = true := by simpa using h1
      clear h1
      rw [gF] at NU
      clear hF gF
      have f0 := HF.out _ (HB.out.bel.mono HW.out)
      go_enter Try.func16, Try.ntmps16
      go_wp2_with fail
      go_quiet (fail)
      go_wp2_with fail
      refine (NU.out _ (by first | exact HB.out | exact HB.out.drew | exact HB.out.later (below_drewN (Below.refl _ _) _))).mono ?_
      rintro e w1 ⟨rfl, hb⟩
      clear x1 y0 y1 y2 f0
      have x1 := cell_at (o := 1) hb.a rfl
      have y0 := cell_at (o := 0) hb.b rfl
      have y1 := cell_at (o := 1) hb.b rfl
      have y2 := cell_at (o := 2) hb.b rfl
      have HB1 := Lib.hid hb.bel
      clear hb
      go_wp2_with fail
      go_ret
      exact ⟨ret_i HC.out.symm, HB1.out⟩
    have g1 : (x.k != 1) = false := by simpa using h1
    by_cases h3 : c.val.length = 1
    case pos =>
      have HC : Hid (mutK x.k c = 0) := mutK_yes HK.out h1 h3
      have g3 : ((c.val.length : Int) != 1) = false := by rw [h3]; rfl
      clear h1 h3
      rw [gF] at NU
      clear hF gF
      have f0 := HF.out _ (HB.out.bel.mono HW.out)
      go_enter Try.func16, Try.ntmps16
      go_wp2_with fail
      go_quiet (fail)
      go_wp2_with fail
      refine (NU.out _ (by first | exact HB.out | exact HB.out.drew | exact HB.out.later (below_drewN (Below.refl _ _) _))).mono ?_
      rintro e w1 ⟨rfl, hb⟩
      clear x1 y0 y1 y2 f0
      have x1 := cell_at (o := 1) hb.a rfl
      have y0 := cell_at (o := 0) hb.b rfl
      have y1 := cell_at (o := 1) hb.b rfl
      have y2 := cell_at (o := 2) hb.b rfl
      have HB1 := Lib.hid hb.bel
      clear hb
      go_wp2_with fail
      go_ret
      exact ⟨ret_i HC.out.symm, HB1.out⟩
    have HC : Hid (mutK x.k c = 9) := mutK_no HK.out hF (.inr h3)
    have g3 : ((c.val.length : Int) != 1) = true := by simpa [bne_iff_ne] using (by omega : ¬ (c.val.length : Int) = 1)
    clear h1 h3
    rw [gF] at NU
    clear hF gF
    have f0 := HF.out _ (HB.out.bel.mono HW.out)
    go_enter Try.func16, Try.ntmps16
    go_wp2_with fail
    go_quiet (fail)
    go_wp2_with fail
    refine (NU.out _ (by first | exact HB.out | exact HB.out.drew | exact HB.out.later (below_drewN (Below.refl _ _) _))).mono ?_
    rintro e w1 ⟨rfl, hb⟩
    clear x1 y0 y1 y2 f0
    have x1 := cell_at (o := 1) hb.a rfl
    have y0 := cell_at (o := 0) hb.b rfl
    have y1 := cell_at (o := 1) hb.b rfl
    have y2 := cell_at (o := 2) hb.b rfl
    have HB1 := Lib.hid hb.bel
    clear hb
    go_wp2_with fail
    go_ret
    exact ⟨ret_i HC.out.symm, HB1.out⟩
end Go.Proofs.Ytfoimmnfpheoiaa
