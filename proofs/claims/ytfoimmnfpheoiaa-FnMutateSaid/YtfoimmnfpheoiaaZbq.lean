import Derived.Test.YtfoimmnfpheoiaaZbi
import Derived.Test.YtfoimmnfpheoiaaZbo
import Derived.Test.YtfoimmnfpheoiaaZbe
import Derived.Test.YtfoimmnfpheoiaaZbf
import Derived.Test.YtfoimmnfpheoiaaZbp
import Derived.Test.YtfoimmnfpheoiaaZbd
import Derived.Laws.Append
namespace Go.Proofs.Ytfoimmnfpheoiaa
open Go.RowKit
set_option linter.unusedSimpArgs false
noncomputable def mtB (x : Cl) (d : List At) (c : MutV) : Prop := colB x = true ∧ datumB d = true ∧ fitC x d = 0 ∧ mutB c = true
noncomputable def mtC (x : Cl) (d : List At) (c : MutV) : Int := if 4096 < d.length then 2 else @ite _ (mtB x d c) (Classical.propDecidable _) (if mutK x.k c = 0 then (mutP x d c).1 else mutK x.k c) 1
noncomputable def mtL (x : Cl) (d : List At) (c : MutV) : List At := @ite _ (¬ 4096 < d.length ∧ mtB x d c ∧ mutK x.k c = 0) (Classical.propDecidable _) (mutP x d c).2 []
theorem mt_long {x : Cl} {d : List At} {c : MutV} (h : 4096 < d.length) : mtL x d c = [] ∧ mtC x d c = 2 := by
  unfold mtL mtC; rw [if_neg (fun hn => hn.1 h), if_pos h]; exact ⟨rfl, rfl⟩
theorem mt_bad {x : Cl} {d : List At} {c : MutV} (h : ¬ 4096 < d.length) (hb : ¬ mtB x d c) : mtL x d c = [] ∧ mtC x d c = 1 := by
  unfold mtL mtC; rw [if_neg (fun hn => hb hn.2.1), if_neg h, if_neg hb]; exact ⟨rfl, rfl⟩
theorem mt_code {x : Cl} {d : List At} {c : MutV} (h : ¬ 4096 < d.length) (hb : mtB x d c) (hk : ¬ mutK x.k c = 0) : mtL x d c = [] ∧ mtC x d c = mutK x.k c := by
  unfold mtL mtC; rw [if_neg (fun hn => hk hn.2.2), if_neg h, if_pos hb, if_neg hk]; exact ⟨rfl, rfl⟩
theorem mt_ok {x : Cl} {d : List At} {c : MutV} (h : ¬ 4096 < d.length) (hb : mtB x d c) (hk : mutK x.k c = 0) : mtL x d c = (mutP x d c).2 ∧ mtC x d c = (mutP x d c).1 := by
  unfold mtL mtC; rw [if_pos ⟨h, hb, hk⟩, if_neg h, if_pos hb, if_pos hk]; exact ⟨rfl, rfl⟩
theorem mt_can {x : Cl} {d : List At} {c : MutV} (hb : mtB x d c) (hk : mutK x.k c = 0) : CanM x d c := CanM.mk' hb.1 hb.2.1 hb.2.2.1 hb.2.2.2 hk
set_option maxRecDepth 100000 in
set_option maxHeartbeats 12800000 in
theorem mtI (x : Cl) (d : List At) (c : MutV) (da : Option Addr) (dc : Nat) (va : Option Addr) (vc : Nat) (S : Nat) (w : World) (hxo : x.ok) (hdl : d.length ≤ maxLen) (hdx : ∀ y ∈ d, y.t.length ≤ maxLen) (hn : c.col.length ≤ maxLen) (hl : c.val.length ≤ maxLen) (hx : ∀ y ∈ c.val, y.t.length ≤ maxLen) (hw : S ≤ w.heap.size) (hD : Ats w (· < S) da d) (hA : Ats w (· < S) va c.val) :
    Calls Try.prog 5 #[.agg #[.string ⟨x.nm.toArray⟩, .int .i64 x.k, .int .i64 x.mn, .int .i64 x.mx, .int .i64 x.lo, .int .i64 x.hi, .string ⟨x.rf.toArray⟩, .bool x.st], .slice da d.length dc, .agg #[.string ⟨c.col.toArray⟩, .int .i64 c.fn, .slice va c.val.length vc]] w (AAns2 w (mtL x d c) (mtC x d c)) := by
  have CK : Hid (∀ W, BoxE 24 30 w W #[.string ⟨x.nm.toArray⟩, .int .i64 x.k, .int .i64 x.mn, .int .i64 x.mx, .int .i64 x.lo, .int .i64 x.hi, .string ⟨x.rf.toArray⟩, .bool x.st] #[.string ⟨c.col.toArray⟩, .int .i64 c.fn, .slice va c.val.length vc] → Calls Try.prog 12 #[.agg #[.string ⟨x.nm.toArray⟩, .int .i64 x.k, .int .i64 x.mn, .int .i64 x.mx, .int .i64 x.lo, .int .i64 x.hi, .string ⟨x.rf.toArray⟩, .bool x.st]] W fun e w' => e = .returned (.bool (colB x)) ∧ BoxE 24 30 w w' #[.string ⟨x.nm.toArray⟩, .int .i64 x.k, .int .i64 x.mn, .int .i64 x.mx, .int .i64 x.lo, .int .i64 x.hi, .string ⟨x.rf.toArray⟩, .bool x.st] #[.string ⟨c.col.toArray⟩, .int .i64 c.fn, .slice va c.val.length vc]) := fun W h => (columnOKi x W hxo.1 hxo.2).mono (fun e w' ⟨he, hB⟩ => ⟨he, h.later hB⟩)
  have DK : Hid (∀ W, BoxE 24 30 w W #[.string ⟨x.nm.toArray⟩, .int .i64 x.k, .int .i64 x.mn, .int .i64 x.mx, .int .i64 x.lo, .int .i64 x.hi, .string ⟨x.rf.toArray⟩, .bool x.st] #[.string ⟨c.col.toArray⟩, .int .i64 c.fn, .slice va c.val.length vc] → Calls Try.prog 14 #[.slice da d.length dc] W fun e w' => e = .returned (.bool (datumB d)) ∧ BoxE 24 30 w w' #[.string ⟨x.nm.toArray⟩, .int .i64 x.k, .int .i64 x.mn, .int .i64 x.mx, .int .i64 x.lo, .int .i64 x.hi, .string ⟨x.rf.toArray⟩, .bool x.st] #[.string ⟨c.col.toArray⟩, .int .i64 c.fn, .slice va c.val.length vc]) := fun W h => (datumOKi d da dc S W hdl hdx (Nat.le_trans hw h.bel.size) (hD.below (h.bel.mono hw))).mono (fun e w' ⟨he, hB⟩ => ⟨he, h.later hB⟩)
  have FK : Hid (∀ W, BoxE 24 30 w W #[.string ⟨x.nm.toArray⟩, .int .i64 x.k, .int .i64 x.mn, .int .i64 x.mx, .int .i64 x.lo, .int .i64 x.hi, .string ⟨x.rf.toArray⟩, .bool x.st] #[.string ⟨c.col.toArray⟩, .int .i64 c.fn, .slice va c.val.length vc] → Calls Try.prog 15 #[.agg #[.string ⟨x.nm.toArray⟩, .int .i64 x.k, .int .i64 x.mn, .int .i64 x.mx, .int .i64 x.lo, .int .i64 x.hi, .string ⟨x.rf.toArray⟩, .bool x.st], .slice da d.length dc] W fun e w' => e = .returned (.int .i64 (fitC x d)) ∧ BoxE 24 30 w w' #[.string ⟨x.nm.toArray⟩, .int .i64 x.k, .int .i64 x.mn, .int .i64 x.mx, .int .i64 x.lo, .int .i64 x.hi, .string ⟨x.rf.toArray⟩, .bool x.st] #[.string ⟨c.col.toArray⟩, .int .i64 c.fn, .slice va c.val.length vc]) := fun W h => (fitsI x d da dc S W hdl (Nat.le_trans hw h.bel.size) (hD.below (h.bel.mono hw))).mono (fun e w' ⟨he, hB⟩ => ⟨he, h.later hB⟩)
  have MK : Hid (∀ W, BoxE 24 30 w W #[.string ⟨x.nm.toArray⟩, .int .i64 x.k, .int .i64 x.mn, .int .i64 x.mx, .int .i64 x.lo, .int .i64 x.hi, .string ⟨x.rf.toArray⟩, .bool x.st] #[.string ⟨c.col.toArray⟩, .int .i64 c.fn, .slice va c.val.length vc] → Calls Try.prog 13 #[.agg #[.string ⟨c.col.toArray⟩, .int .i64 c.fn, .slice va c.val.length vc]] W fun e w' => e = .returned (.bool (mutB c)) ∧ BoxE 24 30 w w' #[.string ⟨x.nm.toArray⟩, .int .i64 x.k, .int .i64 x.mn, .int .i64 x.mx, .int .i64 x.lo, .int .i64 x.hi, .string ⟨x.rf.toArray⟩, .bool x.st] #[.string ⟨c.col.toArray⟩, .int .i64 c.fn, .slice va c.val.length vc]) := fun W h => (mutOKi c va vc S W hn hl hx (Nat.le_trans hw h.bel.size) (hA.below (h.bel.mono hw))).mono (fun e w' ⟨he, hB⟩ => ⟨he, h.later hB⟩)
  have KK : Hid (1 ≤ c.fn → ∀ W, BoxE 24 30 w W #[.string ⟨x.nm.toArray⟩, .int .i64 x.k, .int .i64 x.mn, .int .i64 x.mx, .int .i64 x.lo, .int .i64 x.hi, .string ⟨x.rf.toArray⟩, .bool x.st] #[.string ⟨c.col.toArray⟩, .int .i64 c.fn, .slice va c.val.length vc] → Calls Try.prog 16 #[.agg #[.string ⟨x.nm.toArray⟩, .int .i64 x.k, .int .i64 x.mn, .int .i64 x.mx, .int .i64 x.lo, .int .i64 x.hi, .string ⟨x.rf.toArray⟩, .bool x.st], .agg #[.string ⟨c.col.toArray⟩, .int .i64 c.fn, .slice va c.val.length vc]] W fun e w' => e = .returned (.int .i64 (mutK x.k c)) ∧ BoxE 24 30 w w' #[.string ⟨x.nm.toArray⟩, .int .i64 x.k, .int .i64 x.mn, .int .i64 x.mx, .int .i64 x.lo, .int .i64 x.hi, .string ⟨x.rf.toArray⟩, .bool x.st] #[.string ⟨c.col.toArray⟩, .int .i64 c.fn, .slice va c.val.length vc]) := fun h1 W h => (cellCodeI x c va vc S W h1 hl (Nat.le_trans hw h.bel.size) (hA.below (h.bel.mono hw))).mono (fun e w' ⟨he, hB⟩ => ⟨he, h.later hB⟩)
  have MM : Hid (CanM x d c → ∀ W, BoxE 24 30 w W #[.string ⟨x.nm.toArray⟩, .int .i64 x.k, .int .i64 x.mn, .int .i64 x.mx, .int .i64 x.lo, .int .i64 x.hi, .string ⟨x.rf.toArray⟩, .bool x.st] #[.string ⟨c.col.toArray⟩, .int .i64 c.fn, .slice va c.val.length vc] → Calls Try.prog 17 #[.agg #[.string ⟨x.nm.toArray⟩, .int .i64 x.k, .int .i64 x.mn, .int .i64 x.mx, .int .i64 x.lo, .int .i64 x.hi, .string ⟨x.rf.toArray⟩, .bool x.st], .slice da d.length dc, .agg #[.string ⟨c.col.toArray⟩, .int .i64 c.fn, .slice va c.val.length vc]] W (AAns2 W (mutP x d c).2 (mutP x d c).1)) := fun hc W h => mutatedI x d c da dc va vc S W hc (Nat.le_trans hw h.bel.size) (hD.below (h.bel.mono hw)) (hA.below (h.bel.mono hw))
  have hb := boxE 24 30 w #[.string ⟨x.nm.toArray⟩, .int .i64 x.k, .int .i64 x.mn, .int .i64 x.mx, .int .i64 x.lo, .int .i64 x.hi, .string ⟨x.rf.toArray⟩, .bool x.st] #[.string ⟨c.col.toArray⟩, .int .i64 c.fn, .slice va c.val.length vc]
  have HB := Lib.hid hb
  have x0 := cell_at (o := 0) hb.a rfl
  have x1 := cell_at (o := 1) hb.a rfl
  have x2 := cell_at (o := 2) hb.a rfl
  have x3 := cell_at (o := 3) hb.a rfl
  have x4 := cell_at (o := 4) hb.a rfl
  have x5 := cell_at (o := 5) hb.a rfl
  have x6 := cell_at (o := 6) hb.a rfl
  have x7 := cell_at (o := 7) hb.a rfl
  have y0 := cell_at (o := 0) hb.b rfl
  have y1 := cell_at (o := 1) hb.b rfl
  have y2 := cell_at (o := 2) hb.b rfl
  unfold maxLen at hdl
  clear hdx hn hl hx hw hD hA hb hxo
  by_cases h4 : 4096 < d.length
  case pos =>
    have HP := Lib.hid (mt_long (x := x) (c := c) h4)
    have hd : decide (4096 < (d.length : Int)) = true := decide_eq_true (by omega)
    clear h4
    go_enter Try.func5, Try.ntmps5
    go_wp2_with fail
    go_ret2
    rw [HP.out.2]
    exact AAns2.none HP.out.1 (by first | exact HB.out.bel | exact HB.out.bel.alloc HB.out.bel.size _)
  have hd : decide (4096 < (d.length : Int)) = false := decide_eq_false (by omega)
  have H4 := Lib.hid h4
  clear h4
  cases hck : colB x
  case false =>
    have HP := Lib.hid (mt_bad (x := x) (d := d) (c := c) H4.out (fun h => by have := h.1; rw [hck] at this; cases this))
    rw [hck] at CK
    clear hck
    go_enter Try.func5, Try.ntmps5
    go_wp2_with fail
    refine (CK.out _ HB.out).mono ?_
    rintro e w1 ⟨rfl, hb⟩
    have HB1 := Lib.hid hb
    clear x0 x1 x2 x3 x4 x5 x6 x7 y0 y1 y2
    have x0 := cell_at (o := 0) hb.a rfl
    have x1 := cell_at (o := 1) hb.a rfl
    have x2 := cell_at (o := 2) hb.a rfl
    have x3 := cell_at (o := 3) hb.a rfl
    have x4 := cell_at (o := 4) hb.a rfl
    have x5 := cell_at (o := 5) hb.a rfl
    have x6 := cell_at (o := 6) hb.a rfl
    have x7 := cell_at (o := 7) hb.a rfl
    have y0 := cell_at (o := 0) hb.b rfl
    have y1 := cell_at (o := 1) hb.b rfl
    have y2 := cell_at (o := 2) hb.b rfl
    clear hb
    go_wp2_with fail
    go_ret2
    rw [HP.out.2]
    exact AAns2.none HP.out.1 (by first | exact HB1.out.bel | exact HB1.out.bel.alloc HB1.out.bel.size _)
  rw [hck] at CK
  cases hmk : mutB c
  case false =>
    have HP := Lib.hid (mt_bad (x := x) (d := d) (c := c) H4.out (fun h => by have := h.2.2.2; rw [hmk] at this; cases this))
    rw [hmk] at MK
    clear hck hmk
    go_enter Try.func5, Try.ntmps5
    go_wp2_with fail
    refine (CK.out _ HB.out).mono ?_
    rintro e w1 ⟨rfl, hb⟩
    have HB1 := Lib.hid hb
    clear x0 x1 x2 x3 x4 x5 x6 x7 y0 y1 y2
    have x0 := cell_at (o := 0) hb.a rfl
    have x1 := cell_at (o := 1) hb.a rfl
    have x2 := cell_at (o := 2) hb.a rfl
    have x3 := cell_at (o := 3) hb.a rfl
    have x4 := cell_at (o := 4) hb.a rfl
    have x5 := cell_at (o := 5) hb.a rfl
    have x6 := cell_at (o := 6) hb.a rfl
    have x7 := cell_at (o := 7) hb.a rfl
    have y0 := cell_at (o := 0) hb.b rfl
    have y1 := cell_at (o := 1) hb.b rfl
    have y2 := cell_at (o := 2) hb.b rfl
    clear hb
    go_wp2_with fail
    refine (MK.out _ HB1.out).mono ?_
    rintro e w2 ⟨rfl, hb⟩
    have HB2 := Lib.hid hb
    clear x0 x1 x2 x3 x4 x5 x6 x7 y0 y1 y2
    have x0 := cell_at (o := 0) hb.a rfl
    have x1 := cell_at (o := 1) hb.a rfl
    have x2 := cell_at (o := 2) hb.a rfl
    have x3 := cell_at (o := 3) hb.a rfl
    have x4 := cell_at (o := 4) hb.a rfl
    have x5 := cell_at (o := 5) hb.a rfl
    have x6 := cell_at (o := 6) hb.a rfl
    have x7 := cell_at (o := 7) hb.a rfl
    have y0 := cell_at (o := 0) hb.b rfl
    have y1 := cell_at (o := 1) hb.b rfl
    have y2 := cell_at (o := 2) hb.b rfl
    clear hb
    go_wp2_with fail
    go_ret2
    rw [HP.out.2]
    exact AAns2.none HP.out.1 (by first | exact HB2.out.bel | exact HB2.out.bel.alloc HB2.out.bel.size _)
  rw [hmk] at MK
  cases hdk : datumB d
  case false =>
    have HP := Lib.hid (mt_bad (x := x) (d := d) (c := c) H4.out (fun h => by have := h.2.1; rw [hdk] at this; cases this))
    rw [hdk] at DK
    clear hck hmk hdk
    go_enter Try.func5, Try.ntmps5
    go_wp2_with fail
    refine (CK.out _ HB.out).mono ?_
    rintro e w1 ⟨rfl, hb⟩
    have HB1 := Lib.hid hb
    clear x0 x1 x2 x3 x4 x5 x6 x7 y0 y1 y2
    have x0 := cell_at (o := 0) hb.a rfl
    have x1 := cell_at (o := 1) hb.a rfl
    have x2 := cell_at (o := 2) hb.a rfl
    have x3 := cell_at (o := 3) hb.a rfl
    have x4 := cell_at (o := 4) hb.a rfl
    have x5 := cell_at (o := 5) hb.a rfl
    have x6 := cell_at (o := 6) hb.a rfl
    have x7 := cell_at (o := 7) hb.a rfl
    have y0 := cell_at (o := 0) hb.b rfl
    have y1 := cell_at (o := 1) hb.b rfl
    have y2 := cell_at (o := 2) hb.b rfl
    clear hb
    go_wp2_with fail
    refine (MK.out _ HB1.out).mono ?_
    rintro e w2 ⟨rfl, hb⟩
    have HB2 := Lib.hid hb
    clear x0 x1 x2 x3 x4 x5 x6 x7 y0 y1 y2
    have x0 := cell_at (o := 0) hb.a rfl
    have x1 := cell_at (o := 1) hb.a rfl
    have x2 := cell_at (o := 2) hb.a rfl
    have x3 := cell_at (o := 3) hb.a rfl
    have x4 := cell_at (o := 4) hb.a rfl
    have x5 := cell_at (o := 5) hb.a rfl
    have x6 := cell_at (o := 6) hb.a rfl
    have x7 := cell_at (o := 7) hb.a rfl
    have y0 := cell_at (o := 0) hb.b rfl
    have y1 := cell_at (o := 1) hb.b rfl
    have y2 := cell_at (o := 2) hb.b rfl
    clear hb
    go_wp2_with fail
    refine (DK.out _ HB2.out).mono ?_
    rintro e w3 ⟨rfl, hb⟩
    have HB3 := Lib.hid hb
    clear x0 x1 x2 x3 x4 x5 x6 x7 y0 y1 y2
    have x0 := cell_at (o := 0) hb.a rfl
    have x1 := cell_at (o := 1) hb.a rfl
    have x2 := cell_at (o := 2) hb.a rfl
    have x3 := cell_at (o := 3) hb.a rfl
    have x4 := cell_at (o := 4) hb.a rfl
    have x5 := cell_at (o := 5) hb.a rfl
    have x6 := cell_at (o := 6) hb.a rfl
    have x7 := cell_at (o := 7) hb.a rfl
    have y0 := cell_at (o := 0) hb.b rfl
    have y1 := cell_at (o := 1) hb.b rfl
    have y2 := cell_at (o := 2) hb.b rfl
    clear hb
    go_wp2_with fail
    go_ret2
    rw [HP.out.2]
    exact AAns2.none HP.out.1 (by first | exact HB3.out.bel | exact HB3.out.bel.alloc HB3.out.bel.size _)
  rw [hdk] at DK
  by_cases hf : fitC x d = 0
  case neg =>
    have HP := Lib.hid (mt_bad (x := x) (d := d) (c := c) H4.out (fun h => hf h.2.2.1))
    have hne : (fitC x d != 0) = true := by simpa using hf
    clear hf
    clear hck hmk hdk
    go_enter Try.func5, Try.ntmps5
    go_wp2_with fail
    refine (CK.out _ HB.out).mono ?_
    rintro e w1 ⟨rfl, hb⟩
    have HB1 := Lib.hid hb
    clear x0 x1 x2 x3 x4 x5 x6 x7 y0 y1 y2
    have x0 := cell_at (o := 0) hb.a rfl
    have x1 := cell_at (o := 1) hb.a rfl
    have x2 := cell_at (o := 2) hb.a rfl
    have x3 := cell_at (o := 3) hb.a rfl
    have x4 := cell_at (o := 4) hb.a rfl
    have x5 := cell_at (o := 5) hb.a rfl
    have x6 := cell_at (o := 6) hb.a rfl
    have x7 := cell_at (o := 7) hb.a rfl
    have y0 := cell_at (o := 0) hb.b rfl
    have y1 := cell_at (o := 1) hb.b rfl
    have y2 := cell_at (o := 2) hb.b rfl
    clear hb
    go_wp2_with fail
    refine (MK.out _ HB1.out).mono ?_
    rintro e w2 ⟨rfl, hb⟩
    have HB2 := Lib.hid hb
    clear x0 x1 x2 x3 x4 x5 x6 x7 y0 y1 y2
    have x0 := cell_at (o := 0) hb.a rfl
    have x1 := cell_at (o := 1) hb.a rfl
    have x2 := cell_at (o := 2) hb.a rfl
    have x3 := cell_at (o := 3) hb.a rfl
    have x4 := cell_at (o := 4) hb.a rfl
    have x5 := cell_at (o := 5) hb.a rfl
    have x6 := cell_at (o := 6) hb.a rfl
    have x7 := cell_at (o := 7) hb.a rfl
    have y0 := cell_at (o := 0) hb.b rfl
    have y1 := cell_at (o := 1) hb.b rfl
    have y2 := cell_at (o := 2) hb.b rfl
    clear hb
    go_wp2_with fail
    refine (DK.out _ HB2.out).mono ?_
    rintro e w3 ⟨rfl, hb⟩
    have HB3 := Lib.hid hb
    clear x0 x1 x2 x3 x4 x5 x6 x7 y0 y1 y2
    have x0 := cell_at (o := 0) hb.a rfl
    have x1 := cell_at (o := 1) hb.a rfl
    have x2 := cell_at (o := 2) hb.a rfl
    have x3 := cell_at (o := 3) hb.a rfl
    have x4 := cell_at (o := 4) hb.a rfl
    have x5 := cell_at (o := 5) hb.a rfl
    have x6 := cell_at (o := 6) hb.a rfl
    have x7 := cell_at (o := 7) hb.a rfl
    have y0 := cell_at (o := 0) hb.b rfl
    have y1 := cell_at (o := 1) hb.b rfl
    have y2 := cell_at (o := 2) hb.b rfl
    clear hb
    go_wp2_with fail
    refine (FK.out _ HB3.out).mono ?_
    rintro e w4 ⟨rfl, hb⟩
    have HB4 := Lib.hid hb
    clear x0 x1 x2 x3 x4 x5 x6 x7 y0 y1 y2
    have x0 := cell_at (o := 0) hb.a rfl
    have x1 := cell_at (o := 1) hb.a rfl
    have x2 := cell_at (o := 2) hb.a rfl
    have x3 := cell_at (o := 3) hb.a rfl
    have x4 := cell_at (o := 4) hb.a rfl
    have x5 := cell_at (o := 5) hb.a rfl
    have x6 := cell_at (o := 6) hb.a rfl
    have x7 := cell_at (o := 7) hb.a rfl
    have y0 := cell_at (o := 0) hb.b rfl
    have y1 := cell_at (o := 1) hb.b rfl
    have y2 := cell_at (o := 2) hb.b rfl
    clear hb
    go_wp2_with fail
    go_ret2
    rw [HP.out.2]
    exact AAns2.none HP.out.1 (by first | exact HB4.out.bel | exact HB4.out.bel.alloc HB4.out.bel.size _)
  rw [hf] at FK
  have HM : Hid (mtB x d c) := ⟨hck, hdk, hf, hmk⟩
  have H1 : Hid (1 ≤ c.fn) := by show _ ≤ _; have := hmk; unfold mutB inB at this; simp only [Bool.and_eq_true, decide_eq_true_eq] at this; exact this.1.1
  clear hck hdk hf hmk
  by_cases hk : mutK x.k c = 0
  case neg =>
    have HP := Lib.hid (mt_code H4.out HM.out hk)
    have hne : (mutK x.k c != 0) = true := by simpa using hk
    clear hk
    go_enter Try.func5, Try.ntmps5
    go_wp2_with fail
    refine (CK.out _ HB.out).mono ?_
    rintro e w1 ⟨rfl, hb⟩
    have HB1 := Lib.hid hb
    clear x0 x1 x2 x3 x4 x5 x6 x7 y0 y1 y2
    have x0 := cell_at (o := 0) hb.a rfl
    have x1 := cell_at (o := 1) hb.a rfl
    have x2 := cell_at (o := 2) hb.a rfl
    have x3 := cell_at (o := 3) hb.a rfl
    have x4 := cell_at (o := 4) hb.a rfl
    have x5 := cell_at (o := 5) hb.a rfl
    have x6 := cell_at (o := 6) hb.a rfl
    have x7 := cell_at (o := 7) hb.a rfl
    have y0 := cell_at (o := 0) hb.b rfl
    have y1 := cell_at (o := 1) hb.b rfl
    have y2 := cell_at (o := 2) hb.b rfl
    clear hb
    go_wp2_with fail
    refine (MK.out _ HB1.out).mono ?_
    rintro e w2 ⟨rfl, hb⟩
    have HB2 := Lib.hid hb
    clear x0 x1 x2 x3 x4 x5 x6 x7 y0 y1 y2
    have x0 := cell_at (o := 0) hb.a rfl
    have x1 := cell_at (o := 1) hb.a rfl
    have x2 := cell_at (o := 2) hb.a rfl
    have x3 := cell_at (o := 3) hb.a rfl
    have x4 := cell_at (o := 4) hb.a rfl
    have x5 := cell_at (o := 5) hb.a rfl
    have x6 := cell_at (o := 6) hb.a rfl
    have x7 := cell_at (o := 7) hb.a rfl
    have y0 := cell_at (o := 0) hb.b rfl
    have y1 := cell_at (o := 1) hb.b rfl
    have y2 := cell_at (o := 2) hb.b rfl
    clear hb
    go_wp2_with fail
    refine (DK.out _ HB2.out).mono ?_
    rintro e w3 ⟨rfl, hb⟩
    have HB3 := Lib.hid hb
    clear x0 x1 x2 x3 x4 x5 x6 x7 y0 y1 y2
    have x0 := cell_at (o := 0) hb.a rfl
    have x1 := cell_at (o := 1) hb.a rfl
    have x2 := cell_at (o := 2) hb.a rfl
    have x3 := cell_at (o := 3) hb.a rfl
    have x4 := cell_at (o := 4) hb.a rfl
    have x5 := cell_at (o := 5) hb.a rfl
    have x6 := cell_at (o := 6) hb.a rfl
    have x7 := cell_at (o := 7) hb.a rfl
    have y0 := cell_at (o := 0) hb.b rfl
    have y1 := cell_at (o := 1) hb.b rfl
    have y2 := cell_at (o := 2) hb.b rfl
    clear hb
    go_wp2_with fail
    refine (FK.out _ HB3.out).mono ?_
    rintro e w4 ⟨rfl, hb⟩
    have HB4 := Lib.hid hb
    clear x0 x1 x2 x3 x4 x5 x6 x7 y0 y1 y2
    have x0 := cell_at (o := 0) hb.a rfl
    have x1 := cell_at (o := 1) hb.a rfl
    have x2 := cell_at (o := 2) hb.a rfl
    have x3 := cell_at (o := 3) hb.a rfl
    have x4 := cell_at (o := 4) hb.a rfl
    have x5 := cell_at (o := 5) hb.a rfl
    have x6 := cell_at (o := 6) hb.a rfl
    have x7 := cell_at (o := 7) hb.a rfl
    have y0 := cell_at (o := 0) hb.b rfl
    have y1 := cell_at (o := 1) hb.b rfl
    have y2 := cell_at (o := 2) hb.b rfl
    clear hb
    go_wp2_with fail
    refine (KK.out H1.out _ HB4.out).mono ?_
    rintro e w5 ⟨rfl, hb⟩
    have HB5 := Lib.hid hb
    clear x0 x1 x2 x3 x4 x5 x6 x7 y0 y1 y2
    have x0 := cell_at (o := 0) hb.a rfl
    have x1 := cell_at (o := 1) hb.a rfl
    have x2 := cell_at (o := 2) hb.a rfl
    have x3 := cell_at (o := 3) hb.a rfl
    have x4 := cell_at (o := 4) hb.a rfl
    have x5 := cell_at (o := 5) hb.a rfl
    have x6 := cell_at (o := 6) hb.a rfl
    have x7 := cell_at (o := 7) hb.a rfl
    have y0 := cell_at (o := 0) hb.b rfl
    have y1 := cell_at (o := 1) hb.b rfl
    have y2 := cell_at (o := 2) hb.b rfl
    clear hb
    go_wp2_with fail
    go_ret2
    rw [HP.out.2]
    exact AAns2.none HP.out.1 (by first | exact HB5.out.bel | exact HB5.out.bel.alloc HB5.out.bel.size _)
  have HP := Lib.hid (mt_ok H4.out HM.out hk)
  have HC := Lib.hid (mt_can HM.out hk)
  rw [hk] at KK
  clear hk
  go_enter Try.func5, Try.ntmps5
  go_wp2_with fail
  refine (CK.out _ HB.out).mono ?_
  rintro e w1 ⟨rfl, hb⟩
  have HB1 := Lib.hid hb
  clear x0 x1 x2 x3 x4 x5 x6 x7 y0 y1 y2
  have x0 := cell_at (o := 0) hb.a rfl
  have x1 := cell_at (o := 1) hb.a rfl
  have x2 := cell_at (o := 2) hb.a rfl
  have x3 := cell_at (o := 3) hb.a rfl
  have x4 := cell_at (o := 4) hb.a rfl
  have x5 := cell_at (o := 5) hb.a rfl
  have x6 := cell_at (o := 6) hb.a rfl
  have x7 := cell_at (o := 7) hb.a rfl
  have y0 := cell_at (o := 0) hb.b rfl
  have y1 := cell_at (o := 1) hb.b rfl
  have y2 := cell_at (o := 2) hb.b rfl
  clear hb
  go_wp2_with fail
  refine (MK.out _ HB1.out).mono ?_
  rintro e w2 ⟨rfl, hb⟩
  have HB2 := Lib.hid hb
  clear x0 x1 x2 x3 x4 x5 x6 x7 y0 y1 y2
  have x0 := cell_at (o := 0) hb.a rfl
  have x1 := cell_at (o := 1) hb.a rfl
  have x2 := cell_at (o := 2) hb.a rfl
  have x3 := cell_at (o := 3) hb.a rfl
  have x4 := cell_at (o := 4) hb.a rfl
  have x5 := cell_at (o := 5) hb.a rfl
  have x6 := cell_at (o := 6) hb.a rfl
  have x7 := cell_at (o := 7) hb.a rfl
  have y0 := cell_at (o := 0) hb.b rfl
  have y1 := cell_at (o := 1) hb.b rfl
  have y2 := cell_at (o := 2) hb.b rfl
  clear hb
  go_wp2_with fail
  refine (DK.out _ HB2.out).mono ?_
  rintro e w3 ⟨rfl, hb⟩
  have HB3 := Lib.hid hb
  clear x0 x1 x2 x3 x4 x5 x6 x7 y0 y1 y2
  have x0 := cell_at (o := 0) hb.a rfl
  have x1 := cell_at (o := 1) hb.a rfl
  have x2 := cell_at (o := 2) hb.a rfl
  have x3 := cell_at (o := 3) hb.a rfl
  have x4 := cell_at (o := 4) hb.a rfl
  have x5 := cell_at (o := 5) hb.a rfl
  have x6 := cell_at (o := 6) hb.a rfl
  have x7 := cell_at (o := 7) hb.a rfl
  have y0 := cell_at (o := 0) hb.b rfl
  have y1 := cell_at (o := 1) hb.b rfl
  have y2 := cell_at (o := 2) hb.b rfl
  clear hb
  go_wp2_with fail
  refine (FK.out _ HB3.out).mono ?_
  rintro e w4 ⟨rfl, hb⟩
  have HB4 := Lib.hid hb
  clear x0 x1 x2 x3 x4 x5 x6 x7 y0 y1 y2
  have x0 := cell_at (o := 0) hb.a rfl
  have x1 := cell_at (o := 1) hb.a rfl
  have x2 := cell_at (o := 2) hb.a rfl
  have x3 := cell_at (o := 3) hb.a rfl
  have x4 := cell_at (o := 4) hb.a rfl
  have x5 := cell_at (o := 5) hb.a rfl
  have x6 := cell_at (o := 6) hb.a rfl
  have x7 := cell_at (o := 7) hb.a rfl
  have y0 := cell_at (o := 0) hb.b rfl
  have y1 := cell_at (o := 1) hb.b rfl
  have y2 := cell_at (o := 2) hb.b rfl
  clear hb
  go_wp2_with fail
  refine (KK.out H1.out _ HB4.out).mono ?_
  rintro e w5 ⟨rfl, hb⟩
  have HB5 := Lib.hid hb
  clear x0 x1 x2 x3 x4 x5 x6 x7 y0 y1 y2
  have x0 := cell_at (o := 0) hb.a rfl
  have x1 := cell_at (o := 1) hb.a rfl
  have x2 := cell_at (o := 2) hb.a rfl
  have x3 := cell_at (o := 3) hb.a rfl
  have x4 := cell_at (o := 4) hb.a rfl
  have x5 := cell_at (o := 5) hb.a rfl
  have x6 := cell_at (o := 6) hb.a rfl
  have x7 := cell_at (o := 7) hb.a rfl
  have y0 := cell_at (o := 0) hb.b rfl
  have y1 := cell_at (o := 1) hb.b rfl
  have y2 := cell_at (o := 2) hb.b rfl
  clear hb
  go_wp2_with fail
  refine (MM.out HC.out _ HB5.out).mono ?_
  rintro e w6 ⟨a6, c6, rfl, ho, hB⟩
  have HO := Lib.hid (And.intro ho hB)
  clear ho hB
  have HL : Hid (OwnAts w6 (fun b => w.heap.size ≤ b ∧ b < w6.heap.size) a6 (mutP x d c).2) := HO.out.1.same (fun _ _ => rfl) (fun b hb => ⟨Nat.le_trans HB5.out.bel.size hb.1, hb.2⟩)
  have HW : Hid (Below w.heap.size w w6) := HB5.out.bel.trans (HO.out.2.mono HB5.out.bel.size)
  generalize (mutP x d c).2 = L at *
  generalize (mutP x d c).1 = n at *
  go_wp2_with fail
  go_ret2
  rw [HP.out.1, HP.out.2]
  exact ⟨a6, c6, rfl, HL.out, HW.out⟩
end Go.Proofs.Ytfoimmnfpheoiaa
