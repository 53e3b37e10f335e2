import Derived.Test.YtdhlndpobpdfmaaYaw
import Derived.BigQuiet
namespace Go.Proofs.Ytdhlndpobpdfmaa
open Go.RowKit
set_option linter.unusedSimpArgs false
def kndI (x : ChV) : Int := if x.cid < 1 then 0 else kindC x
set_option maxRecDepth 100000 in
set_option maxHeartbeats 6400000 in
theorem kndS (x : ChV) (a3 : Option Addr) (c3 : Nat) (a5 : Option Addr) (c5 : Nat) (w : World) : Calls Try.prog 50 #[.agg #[.int .i64 x.tab, .int .i64 x.cid, .int .i64 x.oid, .slice a3 x.ocs.length c3, .int .i64 x.nid, .slice a5 x.ncs.length c5]] w fun e w' => e = .returned (.int .i64 (kndI x)) ∧ Below w.heap.size w w' := by
  generalize hR : kndI x = R
  have HR := Lib.hid hR
  clear hR
  have hb := boxD 55 w #[.int .i64 x.tab, .int .i64 x.cid, .int .i64 x.oid, .slice a3 x.ocs.length c3, .int .i64 x.nid, .slice a5 x.ncs.length c5]
  have x0 := cell_at (o := 0) hb.1 rfl
  have x1 := cell_at (o := 1) hb.1 rfl
  have x2 := cell_at (o := 2) hb.1 rfl
  have x3 := cell_at (o := 3) hb.1 rfl
  have x4 := cell_at (o := 4) hb.1 rfl
  have x5 := cell_at (o := 5) hb.1 rfl
  have HB := Lib.hid hb.2
  clear hb
  cases h0 : decide (x.cid < 1)
  case' false => cases h1 : (x.oid == 0) <;> cases h2 : (x.nid == x.cid) <;> cases h3 : (x.nid == 0) <;> cases h4 : (x.oid == x.cid)
  all_goals
    have HV := Lib.hid (show kndI x = _ by unfold kndI kindC; first | rw [if_pos (of_decide_eq_true h0)] | rw [if_neg (of_decide_eq_false h0), h1, h2, h3, h4])
    go_enter Try.func50, Try.ntmps50
    go_wp2_with fail
    go_quiet (fail)
    go_wp2_with fail
    go_ret
    exact ⟨ret_i (HV.out.symm.trans HR.out), by first | exact HB.out | exact below_drewN HB.out _⟩
