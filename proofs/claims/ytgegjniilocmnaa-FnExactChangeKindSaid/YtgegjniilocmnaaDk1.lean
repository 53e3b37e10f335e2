import Derived.Test.YtgegjniilocmnaaDf2
import Derived.BigQuiet
namespace Go.Proofs.Ytgegjniilocmnaa
open Go.RowKit
set_option linter.unusedSimpArgs false
/-- a change's kind as the program tells it: 0 of an Id below 1 -/
def kndI (x : ChV) : Int := if x.cid < 1 then 0 else kindC x
theorem ck_knd (x : ChV) : ckR x = if kndI x = 0 then (0, 1) else (kndI x, 0) := by
  unfold ckR kndI
  by_cases h : x.cid < 1
  · rw [if_pos (.inl h), if_pos h, if_pos rfl]
  · rw [if_neg h]
    by_cases h2 : kindC x = 0
    · rw [if_pos (.inr h2), if_pos h2]
    · rw [if_neg (by rintro (a | a); exact h a; exact h2 a), if_neg h2]
set_option maxRecDepth 100000 in
set_option maxHeartbeats 6400000 in
theorem kndS (x : ChV) (a3 : Option Addr) (c3 : Nat) (a5 : Option Addr) (c5 : Nat) (w : World) : Calls Try.prog 12 #[.agg #[.int .i64 x.tab, .int .i64 x.cid, .int .i64 x.oid, .slice a3 x.ocs.length c3, .int .i64 x.nid, .slice a5 x.ncs.length c5]] w fun e w' => e = .returned (.int .i64 (kndI x)) ∧ Below w.heap.size w w' := by
  generalize hR : kndI x = R
  have HR := Lib.hid hR
  clear hR
  have hb := boxD 34 w #[.int .i64 x.tab, .int .i64 x.cid, .int .i64 x.oid, .slice a3 x.ocs.length c3, .int .i64 x.nid, .slice a5 x.ncs.length c5]
  have x0 := cell_at (o := 0) hb.1 rfl
  have x1 := cell_at (o := 1) hb.1 rfl
  have x2 := cell_at (o := 2) hb.1 rfl
  have x3 := cell_at (o := 3) hb.1 rfl
  have x4 := cell_at (o := 4) hb.1 rfl
  have x5 := cell_at (o := 5) hb.1 rfl
  have HB := Lib.hid hb.2
  clear hb
  cases h0 : decide (x.cid < 1)
  case' false => cases h1 : (x.oid == 0) <;> cases h2 : (x.nid == x.cid) <;> cases h3 : (x.nid == 0) <;> cases h4 : (x.oid == x.cid)
  all_goals
    have HV := Lib.hid (show kndI x = _ by unfold kndI kindC; first | rw [if_pos (of_decide_eq_true h0)] | rw [if_neg (of_decide_eq_false h0), h1, h2, h3, h4])
    go_enter Try.func12, Try.ntmps12
    go_wp2_with fail
    go_quiet (fail)
    go_wp2_with fail
    go_ret
    exact ⟨ret_i (HV.out.symm.trans HR.out), by first | exact HB.out | exact below_drewN HB.out _⟩
set_option maxRecDepth 100000 in
set_option maxHeartbeats 6400000 in
theorem ckI (x : ChV) (a3 : Option Addr) (c3 : Nat) (a5 : Option Addr) (c5 : Nat) (w : World) : Calls Try.prog 7 #[.agg #[.int .i64 x.tab, .int .i64 x.cid, .int .i64 x.oid, .slice a3 x.ocs.length c3, .int .i64 x.nid, .slice a5 x.ncs.length c5]] w fun e w' => e = .returned (.tuple #[.int .i64 (ckR x).1, .int .i64 (ckR x).2]) ∧ Below w.heap.size w w' := by
  have hE := ck_knd x
  generalize ckR x = R at hE
  have HE := Lib.hid hE
  clear hE
  have KI : Hid (∀ W, BoxD 34 w W #[.int .i64 x.tab, .int .i64 x.cid, .int .i64 x.oid, .slice a3 x.ocs.length c3, .int .i64 x.nid, .slice a5 x.ncs.length c5] → Calls Try.prog 12 #[.agg #[.int .i64 x.tab, .int .i64 x.cid, .int .i64 x.oid, .slice a3 x.ocs.length c3, .int .i64 x.nid, .slice a5 x.ncs.length c5]] W fun e w' => e = .returned (.int .i64 (kndI x)) ∧ BoxD 34 w w' #[.int .i64 x.tab, .int .i64 x.cid, .int .i64 x.oid, .slice a3 x.ocs.length c3, .int .i64 x.nid, .slice a5 x.ncs.length c5]) := fun W h => (kndS x a3 c3 a5 c5 W).mono (fun e w' ⟨he, hB⟩ => ⟨he, h.later hB⟩)
  have hb := boxD 34 w #[.int .i64 x.tab, .int .i64 x.cid, .int .i64 x.oid, .slice a3 x.ocs.length c3, .int .i64 x.nid, .slice a5 x.ncs.length c5]
  have HB := Lib.hid hb
  have x0 := cell_at (o := 0) hb.1 rfl
  have x1 := cell_at (o := 1) hb.1 rfl
  have x2 := cell_at (o := 2) hb.1 rfl
  have x3 := cell_at (o := 3) hb.1 rfl
  have x4 := cell_at (o := 4) hb.1 rfl
  have x5 := cell_at (o := 5) hb.1 rfl
  clear hb
  generalize kndI x = kd at *
  cases h : (kd == 0)
  · replace HE := Lib.hid (HE.out.trans (if_neg (fun e => by rw [e] at h; cases h)))
    go_enter Try.func7, Try.ntmps7
    go_wp2_with fail
    refine (KI.out _ HB.out).mono ?_
    rintro e w1 ⟨rfl, hb⟩
    have HB1 := Lib.hid hb.2
    clear hb x0 x1 x2 x3 x4 x5
    go_wp2_with fail
    go_ret2
    exact ⟨by rw [HE.out]; rfl, HB1.out⟩
  · replace HE := Lib.hid (HE.out.trans (if_pos (by simpa using h)))
    go_enter Try.func7, Try.ntmps7
    go_wp2_with fail
    refine (KI.out _ HB.out).mono ?_
    rintro e w1 ⟨rfl, hb⟩
    have HB1 := Lib.hid hb.2
    clear hb x0 x1 x2 x3 x4 x5
    go_wp2_with fail
    go_ret2
    exact ⟨by rw [HE.out]; rfl, HB1.out⟩
