import Derived.Test.YtdhlndpobpdfmaaZak
import Derived.Test.YtdhlndpobpdfmaaZan
import Derived.Test.YtdhlndpobpdfmaaZau
import Derived.Test.YtdhlndpobpdfmaaZas
import Derived.Test.YtdhlndpobpdfmaaZai
import Derived.Maps.OwnSet
import Derived.Maps.OwnOps
import Derived.Maps.Views
import Derived.Deep.RegionHeld3
import Derived.Test.YtdhlndpobpdfmaaZal
import Derived.Test.YtdhlndpobpdfmaaZav
namespace Go.Proofs.Ytdhlndpobpdfmaa
open Go.RowKit
set_option linter.unusedSimpArgs false
def rowD (rows : List RowV) (id : Int) : RowV := if rplI rows id < 0 then rowZ else rows.getD (rplI rows id).toNat rowZ
theorem rowD_none {rows : List RowV} {id : Int} (h : rplI rows id = -1) : rowD rows id = rowZ := by unfold rowD; rw [h, if_pos (by omega)]
theorem rowD_at {rows : List RowV} {id : Int} {k : Nat} (hk : k < rows.length) (h : rplI rows id = k) : rowD rows id = rows[k] := by
  unfold rowD; rw [h, if_neg (by omega), Int.toNat_natCast, List.getD_eq_getElem?_getD, List.getElem?_eq_getElem hk]; rfl
theorem frm_setR (w : World) (b o : Nat) (v : Value) : Frm (· = b) w (w.setCell ⟨b, o, none⟩ v) := Frm.set (B := (· = b)) (Frm.refl _ _) rfl _
def RowNew (w : World) (r : RowV) (e : Ending) (w' : World) : Prop := ∃ a c, e = .returned (.agg #[.int .i64 r.id, .slice a r.cells.length c]) ∧ Rd w' (fun b => w.heap.size ≤ b ∧ b < w'.heap.size) (dAtomSS r.cells) (.slice a r.cells.length c) ∧ Below w.heap.size w w'
set_option maxRecDepth 100000 in
set_option maxHeartbeats 6400000 in
theorem l10RowS (rows : List RowV) (id : Int) (ra : Option Addr) (rc : Nat) (B : Nat → Prop) (w : World) (ho : (dRowS rows).le 1048576) (hS : Rd w B (dRowS rows) (.slice ra rows.length rc)) :
    Calls Try.prog 40 #[.slice ra rows.length rc, .int .i64 id] w (RowNew w (rowD rows id)) := by
  have hl : rows.length ≤ 1048576 := (Ls_le.1 ho).2.1
  have PL : Hid (∀ W, BoxD 53 w W #[.int .i64 0, .slice none 0 0] → Calls Try.prog 42 #[.slice ra rows.length rc, .int .i64 id] W fun e w' => e = .returned (.int .i64 (rplI rows id)) ∧ BoxD 53 w w' #[.int .i64 0, .slice none 0 0]) := fun W h => (rplS rows ra rc id B W (by unfold maxLen; omega) (hS.later h.2)).mono (fun e w' ⟨he, hB⟩ => ⟨he, h.later hB⟩)
  have HR : Hid (∀ W, Below w.heap.size w W → Rd W B (Ls 2 dRow rows) (.slice ra rows.length rc)) := fun W h => Rd.later hS h
  have HO : Hid (∀ k (h : k < rows.length), (dAtomSS rows[k].cells).le 1048576) := fun k h => (Ls_le.1 ho).2.2 k h 1 (by omega)
  have hb := boxD 53 w #[.int .i64 0, .slice none 0 0]
  have HB := Lib.hid hb
  clear hS ho hb
  rcases rpl_cases rows id with ⟨hp, -⟩ | ⟨k, hk, hp, -⟩
  · have HE := Lib.hid (rowD_none hp)
    rw [hp] at PL
    clear hp
    go_enter Try.func40, Try.ntmps40
    go_wp2_with fail
    refine (PL.out _ HB.out).mono ?_
    rintro e w1 ⟨rfl, hb⟩
    have HB1 := Lib.hid hb
    have hb2 := hb.later (below_allocD w1 (.cells #[] 87))
    have z0 := cell_at (o := 0) hb2.1 rfl
    have f0 := frozen_at 0 hb2.1
    have z1 := cell_at (o := 1) hb2.1 rfl
    have f1 := frozen_at 1 hb2.1
    clear hb hb2
    go_wp2_with fail
    refine bodyPost_ret (v := .agg #[.int .i64 0, .slice (some ⟨w1.heap.size, 0, none⟩) 0 0]) (by simp [results, Try.results40, go_sem, *]) rfl ?_
    rw [HE.out]
    exact ⟨_, _, rfl, Rd.lsNil _ _, ((HB1.out.2.alloc HB1.out.2.size _).setCell (Nat.le_refl _) _).setCell (Nat.le_refl _) _⟩
  have HE := Lib.hid (rowD_at hk hp)
  have dk0 : decide ((k : Int) < 0) = false := decide_eq_false (by omega)
  have hki : (k : Int) < (rows.length : Int) := by omega
  rw [hp] at PL
  clear hp
  obtain ⟨b, off, rfl, -, hc⟩ := (HR.out w (Below.refl _ _)).things k hk
  obtain ⟨u0, c0, r0⟩ := hc 0 (by omega)
  obtain rfl : u0 = .int .i64 rows[k].id := r0
  rw [Nat.add_zero] at c0
  obtain ⟨u1, c1, r1⟩ := hc 1 (by omega)
  replace r1 : Rd w B (dAtomSS rows[k].cells) u1 := r1
  obtain ⟨sa, sq, rfl⟩ := r1.lsSlice
  have CC : Hid (∀ W, Below w.heap.size w W → W.cell? ⟨b, off + k * 2, none⟩ = some (.int .i64 rows[k].id) ∧ W.cell? ⟨b, off + k * 2 + 1, none⟩ = some (.slice sa rows[k].cells.length sq)) := fun W h => ⟨(h.cell (p := ⟨b, off + k * 2, none⟩) (World.block_lt_of_cell? _ _ c0)).trans c0, (h.cell (p := ⟨b, off + k * 2 + 1, none⟩) (World.block_lt_of_cell? _ _ c1)).trans c1⟩
  have OR : Hid (∀ W, Below w.heap.size w W → Calls Try.prog 58 #[.agg #[.int .i64 rows[k].id, .slice sa rows[k].cells.length sq]] W fun e w' => ∃ a c, e = .returned (.agg #[.int .i64 rows[k].id, .slice a rows[k].cells.length c]) ∧ Rd w' (fun d => W.heap.size ≤ d ∧ d < w'.heap.size) (dAtomSS rows[k].cells) (.slice a rows[k].cells.length c) ∧ Below W.heap.size W w') := fun W h => ownRowS rows[k] sa sq B W (HO.out k hk) (r1.later h)
  clear hc c0 c1 r1 HO HR
  generalize rows[k] = y at *
  clear hk
  go_enter Try.func40, Try.ntmps40
  go_wp2_with fail
  refine (PL.out _ HB.out).mono ?_
  rintro e w1 ⟨rfl, hb⟩
  have HB1 := Lib.hid hb
  obtain ⟨c0, c1⟩ := CC.out _ hb.2
  clear hb
  go_wp2_with fail
  refine (OR.out _ HB1.out.2).mono ?_
  rintro e w2 ⟨oa, oc, rfl, hrd, hB⟩
  have hb := HB1.out.later hB
  have HB2 := Lib.hid hb
  have HRD : Hid (Rd w2 (fun d => w.heap.size < d ∧ d < w2.heap.size) (dAtomSS y.cells) (.slice oa y.cells.length oc)) := hrd.mono (fun d hd => ⟨by have h1 := hd.1; have h2 := (Array.getElem?_eq_some_iff.1 HB1.out.1).1; omega, hd.2⟩)
  clear hrd hB c0 c1
  have z0 := cell_at (o := 0) hb.1 rfl
  have f0 := frozen_at 0 hb.1
  have z1 := cell_at (o := 1) hb.1 rfl
  have f1 := frozen_at 1 hb.1
  clear hb
  go_wp2_with fail
  refine bodyPost_ret (v := .agg #[.int .i64 y.id, .slice oa y.cells.length oc]) (by simp [results, Try.results40, go_sem, *]) rfl ?_
  rw [HE.out]
  refine ⟨oa, oc, rfl, ?_, (HB2.out.2.setCell (Nat.le_refl _) _).setCell (Nat.le_refl _) _⟩
  exact (HRD.out.frm (F := (· = w.heap.size)) ((frm_setR _ _ _ _).trans (frm_setR _ _ _ _)) (fun d hd e => by have h1 := hd.1; have e2 : d = w.heap.size := e; omega)).mono (fun d hd => ⟨by have := hd.1; omega, by simpa using hd.2⟩)
def kindC (x : ChV) : Int := if (x.oid == 0 && x.nid == x.cid) = true then 1 else if (x.nid == 0 && x.oid == x.cid) = true then 2 else if (x.oid == x.cid && x.nid == x.cid) = true then 3 else 0
theorem kind_rng (x : ChV) : 0 ≤ kindC x ∧ kindC x ≤ 3 := by unfold kindC; split <;> (try split) <;> (try split) <;> omega
set_option maxRecDepth 100000 in
set_option maxHeartbeats 6400000 in
theorem kindS (x : ChV) (a3 : Option Addr) (c3 : Nat) (a5 : Option Addr) (c5 : Nat) (w : World) : Calls Try.prog 38 #[.agg #[.int .i64 x.tab, .int .i64 x.cid, .int .i64 x.oid, .slice a3 x.ocs.length c3, .int .i64 x.nid, .slice a5 x.ncs.length c5]] w fun e w' => e = .returned (.int .i64 (kindC x)) ∧ Below w.heap.size w w' := by
  generalize hR : kindC x = R
  have HR := Lib.hid hR
  clear hR
  have hb := boxD 55 w #[.int .i64 x.tab, .int .i64 x.cid, .int .i64 x.oid, .slice a3 x.ocs.length c3, .int .i64 x.nid, .slice a5 x.ncs.length c5]
  have x0 := cell_at (o := 0) hb.1 rfl
  have x1 := cell_at (o := 1) hb.1 rfl
  have x2 := cell_at (o := 2) hb.1 rfl
  have x3 := cell_at (o := 3) hb.1 rfl
  have x4 := cell_at (o := 4) hb.1 rfl
  have x5 := cell_at (o := 5) hb.1 rfl
  have HB := Lib.hid hb.2
  clear hb
  cases h1 : (x.oid == 0) <;> cases h2 : (x.nid == x.cid) <;> cases h3 : (x.nid == 0) <;> cases h4 : (x.oid == x.cid)
  all_goals
    have HV := Lib.hid (show kindC x = _ by unfold kindC; rw [h1, h2, h3, h4])
    go_enter Try.func38, Try.ntmps38
    go_wp2_with fail
    go_ret
    exact ⟨ret_i (HV.out.symm.trans HR.out), HB.out⟩
end Go.Proofs.Ytdhlndpobpdfmaa
