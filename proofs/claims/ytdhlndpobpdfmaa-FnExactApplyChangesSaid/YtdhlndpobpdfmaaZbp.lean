import Derived.Test.YtdhlndpobpdfmaaZbo
import Derived.Test.YtdhlndpobpdfmaaZbc
import Derived.Deep.CutRange
import Derived.Test.YtdhlndpobpdfmaaZak
import Derived.Test.YtdhlndpobpdfmaaZat
namespace Go.Proofs.Ytdhlndpobpdfmaa
open Go.RowKit
set_option linter.unusedSimpArgs false
noncomputable def acC (x : StV) (list : List ChV) : Int := if 4096 < list.length then 2 else if plainB x = true then 0 else 1
noncomputable def acP (x : StV) (l : List ChV) : StV × Int := if acC x l = 0 then apL x l else (stZ, acC x l)
theorem ac_long {x : StV} {l : List ChV} (h : 4096 < l.length) : acC x l = 2 := by unfold acC; rw [if_pos h]
theorem ac_bad {x : StV} {l : List ChV} (h : ¬ 4096 < l.length) (h2 : plainB x = false) : acC x l = 1 := by unfold acC; rw [if_neg h, h2]; rfl
theorem ac_ok {x : StV} {l : List ChV} (h : ¬ 4096 < l.length) (h2 : plainB x = true) : acC x l = 0 := by unfold acC; rw [if_neg h, if_pos h2]
theorem ac_len {x : StV} {l m : List ChV} (h : l.length = m.length) : acC x l = acC x m := by unfold acC; rw [h]
theorem ap_plain {x : StV} (h : plainB x = true) (ho : (dRowSS x.tables).le 1048576) : ApP x := ⟨fun l hl => by
  obtain ⟨i, hi, rfl⟩ := List.mem_iff_getElem.1 hl
  exact asc_of (plain_of h i hi), ho⟩
theorem ApAns.zero {w w' : World} {x : StV} {l : List ChV} {n : Int} (h : acC x l = n) (hn : n ≠ 0) (hB : Below w.heap.size w w') : ApAns w (acP x l) (.returned (.tuple #[.agg #[.slice none 0 0, .int .i64 0], .int .i64 n])) w' := by
  have e : acP x l = (stZ, n) := by unfold acP; rw [h, if_neg hn]
  rw [e]
  exact ⟨none, 0, rfl, Rd.lsNil _ _, hB⟩
theorem ac_yes {x : StV} {l : List ChV} (h : acC x l = 0) : acP x l = apL x l := by unfold acP; rw [if_pos h]
set_option maxRecDepth 100000 in
set_option maxHeartbeats 6400000 in
theorem askS (x : StV) (list : List ChV) (xa : Option Addr) (xc : Nat) (A : Nat → Prop) (la : Option Addr) (lc : Nat) (w : World) (hl : list.length ≤ 1048576) (hx : (dRowSS x.tables).le maxLen) (rx : Rd w A (dRowSS x.tables) (.slice xa x.tables.length xc)) :
    Calls Try.prog 20 #[.agg #[.slice xa x.tables.length xc, .int .i64 x.next], .slice la list.length lc] w fun e w' => e = .returned (.int .i64 (acC x list)) ∧ Below w.heap.size w w' := by
  have K0 : Hid (∀ W, BoxD 30 w W #[.slice xa x.tables.length xc, .int .i64 x.next] → Calls Try.prog 35 #[.agg #[.slice xa x.tables.length xc, .int .i64 x.next]] W fun e w' => e = .returned (.bool (plainB x)) ∧ BoxD 30 w w' #[.slice xa x.tables.length xc, .int .i64 x.next]) := fun W h => (plainS x xa xc A W hx (rx.later h.2)).mono (fun e w' ⟨he, hB⟩ => ⟨he, h.later hB⟩)
  have HB0 := Lib.hid (boxD 30 w #[.slice xa x.tables.length xc, .int .i64 x.next])
  clear hx rx
  have x0 := cell_at (o := 0) HB0.out.1 rfl
  have x1 := cell_at (o := 1) HB0.out.1 rfl
  by_cases h : 4096 < list.length
  case pos =>
    have HR := Lib.hid (ac_long (x := x) h)
    have hg : decide ((list.length : Int) > 4096) = true := by simp; omega
    clear h
    go_enter Try.func20, Try.ntmps20
    go_wp2_with fail
    go_ret
    exact ⟨ret_i HR.out.symm, HB0.out.2⟩
  have hg : decide ((list.length : Int) > 4096) = false := by simp; omega
  cases h2 : plainB x
  case false =>
    have HR := Lib.hid (ac_bad h h2)
    rw [h2] at K0
    clear h h2
    go_enter Try.func20, Try.ntmps20
    go_wp2_with fail
    refine (K0.out _ HB0.out).mono ?_
    rintro e w1 ⟨rfl, hb⟩
    have HB1 := Lib.hid hb
    clear hb x0 x1
    go_wp2_with fail
    go_ret
    exact ⟨ret_i HR.out.symm, HB1.out.2⟩
  have HR := Lib.hid (ac_ok h h2)
  rw [h2] at K0
  clear h h2
  go_enter Try.func20, Try.ntmps20
  go_wp2_with fail
  refine (K0.out _ HB0.out).mono ?_
  rintro e w1 ⟨rfl, hb⟩
  have HB1 := Lib.hid hb
  clear hb x0 x1
  go_wp2_with fail
  go_ret
  exact ⟨ret_i HR.out.symm, HB1.out.2⟩
set_option maxRecDepth 100000 in
set_option maxHeartbeats 6400000 in
theorem acS (x : StV) (list : List ChV) (xa : Option Addr) (xc : Nat) (A : Nat → Prop) (la : Option Addr) (lc : Nat) (B : Nat → Prop) (w : World) (hl : (dChangeS list).le 1048576) (hx : (dRowSS x.tables).le 1048576) (rx : Rd w A (dRowSS x.tables) (.slice xa x.tables.length xc)) (rl : Rd w B (dChangeS list) (.slice la list.length lc)) :
    Calls Try.prog 7 #[.agg #[.slice xa x.tables.length xc, .int .i64 x.next], .slice la list.length lc] w (ApAns w (acP x list)) := by
  have hll : list.length ≤ 1048576 := (Ls_le.1 hl).2.1
  have hxm : (dRowSS x.tables).le maxLen := D.le.mono (by unfold maxLen; omega) _ hx
  have HC : Hid (acC x list = acC x list) := ac_len (by simp)
  have K0 : Hid (∀ W, Box2D 30 w W #[.slice xa x.tables.length xc, .int .i64 x.next] #[.slice none 0 0, .int .i64 0] → Calls Try.prog 20 #[.agg #[.slice xa x.tables.length xc, .int .i64 x.next], .slice la list.length lc] W fun e w' => e = .returned (.int .i64 (acC x list)) ∧ Box2D 30 w w' #[.slice xa x.tables.length xc, .int .i64 x.next] #[.slice none 0 0, .int .i64 0]) := fun W h => (askS x list xa xc A la lc W hll hxm (rx.later h.bel)).mono (fun e w' ⟨he, hB⟩ => ⟨he, h.later hB⟩)
  have KA : Hid (plainB x = true → ∀ W, Below w.heap.size w W → Calls Try.prog 21 #[.agg #[.slice xa x.tables.length xc, .int .i64 x.next], .slice la list.length lc, .bool false] W (ApAns W (apL x list))) := fun hp W h => apF x list xa xc A la lc B W (ap_plain hp hx) hl (rx.later h) (rl.later h)
  have HB0 := Lib.hid (box2D 30 w #[.slice xa x.tables.length xc, .int .i64 x.next] #[.slice none 0 0, .int .i64 0])
  clear hx hxm hl rx rl
  have x0 := cell_at (o := 0) HB0.out.a rfl
  have y0 := cell_at (o := 0) HB0.out.b rfl
  have g0 := frozen_at 0 HB0.out.b
  have x1 := cell_at (o := 1) HB0.out.a rfl
  have y1 := cell_at (o := 1) HB0.out.b rfl
  have g1 := frozen_at 1 HB0.out.b
  by_cases h : 4096 < list.length
  case pos =>
    have HR := Lib.hid (HC.out.trans (ac_long (x := x) h))
    have hg : decide ((list.length : Int) > 4096) = true := by simp; omega
    clear h
    go_enter Try.func7, Try.ntmps7
    go_wp2_with fail
    exact bodyPost_ret (v := .tuple #[.agg #[.slice none 0 0, .int .i64 0], .int .i64 2]) (by simp [results, Try.results7, go_sem, *]) rfl (ApAns.zero HR.out (by omega) HB0.out.bel)
  have hg : decide ((list.length : Int) > 4096) = false := by simp; omega
  cases h2 : plainB x
  case false =>
    have HR := Lib.hid (HC.out.trans (ac_bad h h2))
    rw [ac_bad h h2] at K0
    clear h h2
    go_enter Try.func7, Try.ntmps7
    go_wp2_with fail
    refine (K0.out _ HB0.out).mono ?_
    rintro e w1 ⟨rfl, hb⟩
    have HB1 := Lib.hid hb
    clear hb x0 x1 y0 y1 g0 g1
    have x0 := cell_at (o := 0) HB1.out.a rfl
    have y0 := cell_at (o := 0) HB1.out.b rfl
    have g0 := frozen_at 0 HB1.out.b
    have x1 := cell_at (o := 1) HB1.out.a rfl
    have y1 := cell_at (o := 1) HB1.out.b rfl
    have g1 := frozen_at 1 HB1.out.b
    go_wp2_with fail
    exact bodyPost_ret (v := .tuple #[.agg #[.slice none 0 0, .int .i64 0], .int .i64 1]) (by simp [results, Try.results7, go_sem, *]) rfl (ApAns.zero HR.out (by omega) ((HB1.out.bel.setCell (by simp <;> omega) _).setCell (by simp <;> omega) _))
  have HR := Lib.hid (ac_yes (HC.out.trans (ac_ok h h2)))
  have KE := Lib.hid (KA.out h2)
  rw [ac_ok h h2] at K0
  clear h h2 KA HC
  rw [HR.out]
  clear HR
  generalize apL x list = R at *
  go_enter Try.func7, Try.ntmps7
  go_wp2_with fail
  refine (K0.out _ HB0.out).mono ?_
  rintro e w1 ⟨rfl, hb⟩
  have HB1 := Lib.hid hb
  clear hb x0 x1 y0 y1 g0 g1
  have x0 := cell_at (o := 0) HB1.out.a rfl
  have y0 := cell_at (o := 0) HB1.out.b rfl
  have g0 := frozen_at 0 HB1.out.b
  have x1 := cell_at (o := 1) HB1.out.a rfl
  have y1 := cell_at (o := 1) HB1.out.b rfl
  have g1 := frozen_at 1 HB1.out.b
  go_wp2_with fail
  refine (KE.out _ HB1.out.bel).mono ?_
  rintro e w2 ⟨ra, rc, rfl, hrd, hB⟩
  have HB2 := Lib.hid (HB1.out.later hB)
  have HS1 : Hid (w.heap.size + 1 < w1.heap.size) := (Array.getElem?_eq_some_iff.1 HB1.out.b).1
  have HRD := Lib.hid hrd
  clear hrd hB x0 x1 y0 y1 g0 g1
  have x0 := cell_at (o := 0) HB2.out.a rfl
  have y0 := cell_at (o := 0) HB2.out.b rfl
  have g0 := frozen_at 0 HB2.out.b
  have x1 := cell_at (o := 1) HB2.out.a rfl
  have y1 := cell_at (o := 1) HB2.out.b rfl
  have g1 := frozen_at 1 HB2.out.b
  go_wp2_with fail
  refine bodyPost_ret (v := .tuple #[.agg #[.slice ra R.1.tables.length rc, .int .i64 R.1.next], .int .i64 R.2]) (by simp [results, Try.results7, go_sem, *]) rfl ?_
  refine ⟨ra, rc, rfl, ?_, (HB2.out.bel.setCell (by simp <;> omega) _).setCell (by simp <;> omega) _⟩
  have hs := HS1.out
  exact (HRD.out.frm (F := (· = w.heap.size + 1)) ((frm_set _ _ _ _).trans (frm_set _ _ _ _)) (fun b hb e => by have h1 := hb.1; have e2 : b = w.heap.size + 1 := e; omega)).mono (fun b hb => ⟨by have := hb.1; omega, by have := hb.2; simpa using this⟩)
end Go.Proofs.Ytdhlndpobpdfmaa
