import Derived.Test.YtgegjniilocmnaaDPl
import Derived.Test.YtgegjniilocmnaaDOwn
import Derived.Test.YtgegjniilocmnaaDDrS
import Derived.Test.YtgegjniilocmnaaDChA
namespace Go.Proofs.Ytgegjniilocmnaa
open Go.RowKit
set_option linter.unusedSimpArgs false
/-- the row of an Id, zero if there is none -/
def rowD (rows : List RowV) (id : Int) : RowV := if rplI rows id < 0 then rowZ else rows.getD (rplI rows id).toNat rowZ
theorem rowD_none {rows : List RowV} {id : Int} (h : rplI rows id = -1) : rowD rows id = rowZ := by unfold rowD; rw [h, if_pos (by omega)]
theorem rowD_at {rows : List RowV} {id : Int} {k : Nat} (hk : k < rows.length) (h : rplI rows id = k) : rowD rows id = rows[k] := by
  unfold rowD; rw [h, if_neg (by omega), Int.toNat_natCast, List.getD_eq_getElem?_getD, List.getElem?_eq_getElem hk]; rfl
theorem frm_setR (w : World) (b o : Nat) (v : Value) : Frm (· = b) w (w.setCell ⟨b, o, none⟩ v) := Frm.set (B := (· = b)) (Frm.refl _ _) rfl _
/-- a row that was made -/
def RowNew (w : World) (r : RowV) (e : Ending) (w' : World) : Prop := ∃ a c, e = .returned (.agg #[.int .i64 r.id, .slice a r.cells.length c]) ∧ Rd w' (fun b => w.heap.size ≤ b ∧ b < w'.heap.size) (dAtomSS r.cells) (.slice a r.cells.length c) ∧ Below w.heap.size w w'
/-! kinds of changes -/
def kindC (x : ChV) : Int := if (x.oid == 0 && x.nid == x.cid) = true then 1 else if (x.nid == 0 && x.oid == x.cid) = true then 2 else if (x.oid == x.cid && x.nid == x.cid) = true then 3 else 0
def ckR (x : ChV) : Int × Int := if x.cid < 1 ∨ kindC x = 0 then (0, 1) else (kindC x, 0)
theorem kind_rng (x : ChV) : 0 ≤ kindC x ∧ kindC x ≤ 3 := by unfold kindC; split <;> (try split) <;> (try split) <;> omega
set_option maxRecDepth 100000 in
set_option maxHeartbeats 6400000 in
theorem kindS (x : ChV) (a3 : Option Addr) (c3 : Nat) (a5 : Option Addr) (c5 : Nat) (w : World) : Calls Try.prog 10 #[.agg #[.int .i64 x.tab, .int .i64 x.cid, .int .i64 x.oid, .slice a3 x.ocs.length c3, .int .i64 x.nid, .slice a5 x.ncs.length c5]] w fun e w' => e = .returned (.int .i64 (kindC x)) ∧ Below w.heap.size w w' := by
  generalize hR : kindC x = R
  have HR := Lib.hid hR
  clear hR
  have hb := boxD 34 w #[.int .i64 x.tab, .int .i64 x.cid, .int .i64 x.oid, .slice a3 x.ocs.length c3, .int .i64 x.nid, .slice a5 x.ncs.length c5]
  have x0 := cell_at (o := 0) hb.1 rfl
  have x1 := cell_at (o := 1) hb.1 rfl
  have x2 := cell_at (o := 2) hb.1 rfl
  have x3 := cell_at (o := 3) hb.1 rfl
  have x4 := cell_at (o := 4) hb.1 rfl
  have x5 := cell_at (o := 5) hb.1 rfl
  have HB := Lib.hid hb.2
  clear hb
  cases h1 : (x.oid == 0) <;> cases h2 : (x.nid == x.cid) <;> cases h3 : (x.nid == 0) <;> cases h4 : (x.oid == x.cid)
  all_goals
    have HV := Lib.hid (show kindC x = _ by unfold kindC; rw [h1, h2, h3, h4])
    go_enter Try.func10, Try.ntmps10
    go_wp2_with fail
    go_ret
    exact ⟨ret_i (HV.out.symm.trans HR.out), HB.out⟩
set_option maxRecDepth 100000 in
set_option maxHeartbeats 6400000 in
theorem ckS (x : ChV) (a3 : Option Addr) (c3 : Nat) (a5 : Option Addr) (c5 : Nat) (w : World) : Calls Try.prog 5 #[.agg #[.int .i64 x.tab, .int .i64 x.cid, .int .i64 x.oid, .slice a3 x.ocs.length c3, .int .i64 x.nid, .slice a5 x.ncs.length c5]] w fun e w' => e = .returned (.tuple #[.int .i64 (ckR x).1, .int .i64 (ckR x).2]) ∧ Below w.heap.size w w' := by
  have KI : Hid (∀ W, BoxD 34 w W #[.int .i64 x.tab, .int .i64 x.cid, .int .i64 x.oid, .slice a3 x.ocs.length c3, .int .i64 x.nid, .slice a5 x.ncs.length c5] → Calls Try.prog 10 #[.agg #[.int .i64 x.tab, .int .i64 x.cid, .int .i64 x.oid, .slice a3 x.ocs.length c3, .int .i64 x.nid, .slice a5 x.ncs.length c5]] W fun e w' => e = .returned (.int .i64 (kindC x)) ∧ BoxD 34 w w' #[.int .i64 x.tab, .int .i64 x.cid, .int .i64 x.oid, .slice a3 x.ocs.length c3, .int .i64 x.nid, .slice a5 x.ncs.length c5]) := fun W h => (kindS x a3 c3 a5 c5 W).mono (fun e w' ⟨he, hB⟩ => ⟨he, h.later hB⟩)
  have hb := boxD 34 w #[.int .i64 x.tab, .int .i64 x.cid, .int .i64 x.oid, .slice a3 x.ocs.length c3, .int .i64 x.nid, .slice a5 x.ncs.length c5]
  have HB := Lib.hid hb
  have x0 := cell_at (o := 0) hb.1 rfl
  have x1 := cell_at (o := 1) hb.1 rfl
  have x2 := cell_at (o := 2) hb.1 rfl
  have x3 := cell_at (o := 3) hb.1 rfl
  have x4 := cell_at (o := 4) hb.1 rfl
  have x5 := cell_at (o := 5) hb.1 rfl
  clear hb
  by_cases h1 : x.cid < 1
  case pos =>
    have HE : Hid (ckR x = (0, 1)) := by show ckR x = _; unfold ckR; rw [if_pos (.inl h1)]
    have d1 : decide (x.cid < 1) = true := decide_eq_true h1
    clear h1
    generalize kindC x = kc at *
    go_enter Try.func5, Try.ntmps5
    go_wp2_with fail
    refine (KI.out _ HB.out).mono ?_
    rintro e w1 ⟨rfl, hb⟩
    have HB1 := Lib.hid hb.2
    clear x0 x1 x2 x3 x4 x5
    have x0 := cell_at (o := 0) hb.1 rfl
    have x1 := cell_at (o := 1) hb.1 rfl
    have x2 := cell_at (o := 2) hb.1 rfl
    have x3 := cell_at (o := 3) hb.1 rfl
    have x4 := cell_at (o := 4) hb.1 rfl
    have x5 := cell_at (o := 5) hb.1 rfl
    clear hb
    go_wp2_with fail
    go_ret2
    exact ⟨by rw [HE.out]; rfl, HB1.out⟩
  have d1 : decide (x.cid < 1) = false := decide_eq_false h1
  by_cases h2 : kindC x = 0
  case pos =>
    have HE : Hid (ckR x = (0, 1)) := by show ckR x = _; unfold ckR; rw [if_pos (.inr h2)]
    rw [h2] at KI
    clear h1 h2
    go_enter Try.func5, Try.ntmps5
    go_wp2_with fail
    refine (KI.out _ HB.out).mono ?_
    rintro e w1 ⟨rfl, hb⟩
    have HB1 := Lib.hid hb.2
    clear x0 x1 x2 x3 x4 x5
    have x0 := cell_at (o := 0) hb.1 rfl
    have x1 := cell_at (o := 1) hb.1 rfl
    have x2 := cell_at (o := 2) hb.1 rfl
    have x3 := cell_at (o := 3) hb.1 rfl
    have x4 := cell_at (o := 4) hb.1 rfl
    have x5 := cell_at (o := 5) hb.1 rfl
    clear hb
    go_wp2_with fail
    go_ret2
    exact ⟨by rw [HE.out]; rfl, HB1.out⟩
  have HE : Hid (ckR x = (kindC x, 0)) := by show ckR x = _; unfold ckR; rw [if_neg (by intro h; rcases h with h | h <;> contradiction)]
  have e2 : (kindC x == 0) = false := by simpa using h2
  clear h1 h2
  generalize kindC x = kc at *
  go_enter Try.func5, Try.ntmps5
  go_wp2_with fail
  refine (KI.out _ HB.out).mono ?_
  rintro e w1 ⟨rfl, hb⟩
  have HB1 := Lib.hid hb.2
  clear x0 x1 x2 x3 x4 x5
  have x0 := cell_at (o := 0) hb.1 rfl
  have x1 := cell_at (o := 1) hb.1 rfl
  have x2 := cell_at (o := 2) hb.1 rfl
  have x3 := cell_at (o := 3) hb.1 rfl
  have x4 := cell_at (o := 4) hb.1 rfl
  have x5 := cell_at (o := 5) hb.1 rfl
  clear hb
  go_wp2_with fail
  go_ret2
  exact ⟨by rw [HE.out]; rfl, HB1.out⟩
end Go.Proofs.Ytgegjniilocmnaa
