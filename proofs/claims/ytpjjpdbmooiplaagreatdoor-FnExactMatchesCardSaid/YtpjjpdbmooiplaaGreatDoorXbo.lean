import Derived.Test.YtpjjpdbmooiplaaGreatDoorXbn
namespace Go.Proofs.YtpjjpdbmooiplaaGreatDoor
open Go.RowKit
set_option linter.unusedSimpArgs false
noncomputable def rokB (t : Tb) (r : RowV) : Bool := tabB t && rowB t r.id r.cells
noncomputable def mC (t : Tb) (r : RowV) (c : CondV) : Int := if rokB t r = true ∧ condB c = true then condC t c else 1
noncomputable def mR (t : Tb) (r : RowV) (c : CondV) : Bool := if rokB t r = true ∧ condB c = true ∧ condC t c = 0 then matchC t r c else false
noncomputable def maC (t : Tb) (r : RowV) (list : List CondV) : Int := if 4096 < list.length then 2 else if rokB t r = true ∧ condsB list = true then condsC t list else 1
noncomputable def maR (t : Tb) (r : RowV) (list : List CondV) : Bool := if 4096 < list.length then false else if rokB t r = true ∧ condsB list = true ∧ condsC t list = 0 then allM t r list else false
theorem rok_row {t : Tb} {r : RowV} (h : rokB t r = true) : rowB t r.id r.cells = true := by unfold rokB at h; simp only [Bool.and_eq_true] at h; exact h.2
theorem asks_list {t : Tb} {r : RowV} {list : List CondV} (h : rokB t r = true) (hb : condsB list = true) (hc : condsC t list = 0) : ∀ k (h : k < list.length), Asks t r list[k] := fun _ hk => asks_of (rok_row h) (conds_all hb _ (List.getElem_mem hk)) (condsC_all hc _ (List.getElem_mem hk))
theorem Rd.row {w : World} {B : Nat → Prop} {l : List (List At)} {a : Option Addr} {c : Nat} (h : Rd w B (dAtomSS l) (.slice a l.length c)) : ∃ X, Sets w (· < w.heap.size) a l X := h.lt.sets
set_option maxRecDepth 100000 in
set_option maxHeartbeats 6400000 in
theorem matchesS (t : Tb) (ca : Option Addr) (cc : Nat) (ua : Option Addr) (uc : Nat) (A : Nat → Prop) (r : RowV) (ra : Option Addr) (rc : Nat) (R : Nat → Prop) (c : CondV) (va : Option Addr) (vc : Nat) (C : Nat → Prop) (w : World) (ho : t.ok) (hn : c.col.length ≤ maxLen) (hl : (dAtomS c.val).le 1048576) (hr : (dAtomSS r.cells).le maxLen) (hid : iOK r.id) (hT : t.Has w A ca ua) (hR : Rd w R (dAtomSS r.cells) (.slice ra r.cells.length rc)) (hV : Rd w C (dAtomS c.val) (.slice va c.val.length vc)) :
    Calls Tryz.prog 9 #[.agg #[.string ⟨t.nm.toArray⟩, .slice ca t.cols.length cc, .slice ua t.uq.length uc, .bool t.rt], .agg #[.int .i64 r.id, .slice ra r.cells.length rc], .agg #[.string ⟨c.col.toArray⟩, .int .i64 c.fn, .slice va c.val.length vc]] w fun e w' => e = .returned (.tuple #[.bool (mR t r c), .int .i64 (mC t r c)]) ∧ Below w.heap.size w w' := by
  have hlm : (dAtomS c.val).le maxLen := D.le.mono (by unfold maxLen; omega) _ hl
  have RO : Hid (∀ W, BoxF 39 43 47 w W #[.string ⟨t.nm.toArray⟩, .slice ca t.cols.length cc, .slice ua t.uq.length uc, .bool t.rt] #[.int .i64 r.id, .slice ra r.cells.length rc] #[.string ⟨c.col.toArray⟩, .int .i64 c.fn, .slice va c.val.length vc] → Calls Tryz.prog 40 #[.agg #[.string ⟨t.nm.toArray⟩, .slice ca t.cols.length cc, .slice ua t.uq.length uc, .bool t.rt], .agg #[.int .i64 r.id, .slice ra r.cells.length rc]] W fun e w' => e = .returned (.bool (rokB t r)) ∧ BoxF 39 43 47 w w' #[.string ⟨t.nm.toArray⟩, .slice ca t.cols.length cc, .slice ua t.uq.length uc, .bool t.rt] #[.int .i64 r.id, .slice ra r.cells.length rc] #[.string ⟨c.col.toArray⟩, .int .i64 c.fn, .slice va c.val.length vc]) := fun W h => by
    obtain ⟨X, hX⟩ := (hR.later h.bel).row
    exact (rowOKs t ca cc ua uc r.id r.cells ra rc X A W.heap.size W ho (le_sets hr) (hT.later h.bel) (Nat.le_refl _) hX).mono (fun e w' ⟨he, hB⟩ => ⟨he, h.later hB⟩)
  have CO : Hid (∀ W, BoxF 39 43 47 w W #[.string ⟨t.nm.toArray⟩, .slice ca t.cols.length cc, .slice ua t.uq.length uc, .bool t.rt] #[.int .i64 r.id, .slice ra r.cells.length rc] #[.string ⟨c.col.toArray⟩, .int .i64 c.fn, .slice va c.val.length vc] → Calls Tryz.prog 41 #[.agg #[.string ⟨c.col.toArray⟩, .int .i64 c.fn, .slice va c.val.length vc]] W fun e w' => e = .returned (.bool (condB c)) ∧ BoxF 39 43 47 w w' #[.string ⟨t.nm.toArray⟩, .slice ca t.cols.length cc, .slice ua t.uq.length uc, .bool t.rt] #[.int .i64 r.id, .slice ra r.cells.length rc] #[.string ⟨c.col.toArray⟩, .int .i64 c.fn, .slice va c.val.length vc]) := fun W h => (condOKs c va vc W.heap.size W hn (le_atoms hlm).1 (le_atoms hlm).2 (Nat.le_refl _) (hV.later h.bel).lt.ats).mono (fun e w' ⟨he, hB⟩ => ⟨he, h.later hB⟩)
  have CC : Hid (∀ W, BoxF 39 43 47 w W #[.string ⟨t.nm.toArray⟩, .slice ca t.cols.length cc, .slice ua t.uq.length uc, .bool t.rt] #[.int .i64 r.id, .slice ra r.cells.length rc] #[.string ⟨c.col.toArray⟩, .int .i64 c.fn, .slice va c.val.length vc] → Calls Tryz.prog 42 #[.agg #[.string ⟨t.nm.toArray⟩, .slice ca t.cols.length cc, .slice ua t.uq.length uc, .bool t.rt], .agg #[.string ⟨c.col.toArray⟩, .int .i64 c.fn, .slice va c.val.length vc]] W fun e w' => e = .returned (.int .i64 (condC t c)) ∧ BoxF 39 43 47 w w' #[.string ⟨t.nm.toArray⟩, .slice ca t.cols.length cc, .slice ua t.uq.length uc, .bool t.rt] #[.int .i64 r.id, .slice ra r.cells.length rc] #[.string ⟨c.col.toArray⟩, .int .i64 c.fn, .slice va c.val.length vc]) := fun W h => (condCodeS t c ca cc ua uc va vc A W.heap.size W ho (le_atoms hlm).1 (hT.later h.bel) (Nat.le_refl _) (hV.later h.bel).lt.ats).mono (fun e w' ⟨he, hB⟩ => ⟨he, h.later hB⟩)
  have MA : Hid (∀ W, BoxF 39 43 47 w W #[.string ⟨t.nm.toArray⟩, .slice ca t.cols.length cc, .slice ua t.uq.length uc, .bool t.rt] #[.int .i64 r.id, .slice ra r.cells.length rc] #[.string ⟨c.col.toArray⟩, .int .i64 c.fn, .slice va c.val.length vc] → Asks t r c → Calls Tryz.prog 43 #[.agg #[.string ⟨t.nm.toArray⟩, .slice ca t.cols.length cc, .slice ua t.uq.length uc, .bool t.rt], .agg #[.int .i64 r.id, .slice ra r.cells.length rc], .agg #[.string ⟨c.col.toArray⟩, .int .i64 c.fn, .slice va c.val.length vc]] W fun e w' => e = .returned (.bool (matchC t r c)) ∧ BoxF 39 43 47 w w' #[.string ⟨t.nm.toArray⟩, .slice ca t.cols.length cc, .slice ua t.uq.length uc, .bool t.rt] #[.int .i64 r.id, .slice ra r.cells.length rc] #[.string ⟨c.col.toArray⟩, .int .i64 c.fn, .slice va c.val.length vc]) := fun W h hq => (matchS t r c ca cc ua uc ra rc va vc A R C W ho hl hr hid hq (hT.later h.bel) (hR.later h.bel) (hV.later h.bel)).mono (fun e w' ⟨he, hB⟩ => ⟨he, h.later hB⟩)
  have hb := boxF 39 43 47 w #[.string ⟨t.nm.toArray⟩, .slice ca t.cols.length cc, .slice ua t.uq.length uc, .bool t.rt] #[.int .i64 r.id, .slice ra r.cells.length rc] #[.string ⟨c.col.toArray⟩, .int .i64 c.fn, .slice va c.val.length vc]
  have HB := Lib.hid hb
  have HR : Hid (mR t r c = if rokB t r = true ∧ condB c = true ∧ condC t c = 0 then matchC t r c else false) := rfl
  have HC : Hid (mC t r c = if rokB t r = true ∧ condB c = true then condC t c else 1) := rfl
  have x0 := cell_at (o := 0) hb.a rfl
  have x1 := cell_at (o := 1) hb.a rfl
  have x2 := cell_at (o := 2) hb.a rfl
  have x3 := cell_at (o := 3) hb.a rfl
  have y0 := cell_at (o := 0) hb.b rfl
  have y1 := cell_at (o := 1) hb.b rfl
  have z0 := cell_at (o := 0) hb.c rfl
  have z1 := cell_at (o := 1) hb.c rfl
  have z2 := cell_at (o := 2) hb.c rfl
  clear ho hn hl hlm hr hid hT hR hV hb
  cases ht : rokB t r
  case false =>
    have HR1 : Hid (mR t r c = false) := by show mR t r c = _; rw [HR.out, ht]; simp
    have HC1 : Hid (mC t r c = 1) := by show mC t r c = _; rw [HC.out, ht]; simp
    rw [ht] at RO
    clear ht HR HC
    go_enter Tryz.func9, Tryz.ntmps9
    go_wp2_with fail
    refine (RO.out _ HB.out).mono ?_
    rintro e w1 ⟨rfl, hb⟩
    have HB1 := Lib.hid hb
    clear x0 x1 x2 x3 y0 y1 z0 z1 z2
    have x0 := cell_at (o := 0) hb.a rfl
    have x1 := cell_at (o := 1) hb.a rfl
    have x2 := cell_at (o := 2) hb.a rfl
    have x3 := cell_at (o := 3) hb.a rfl
    have y0 := cell_at (o := 0) hb.b rfl
    have y1 := cell_at (o := 1) hb.b rfl
    have z0 := cell_at (o := 0) hb.c rfl
    have z1 := cell_at (o := 1) hb.c rfl
    have z2 := cell_at (o := 2) hb.c rfl
    clear hb
    go_wp2_with fail
    go_ret2
    exact ⟨ret_bi HR1.out.symm HC1.out.symm, HB1.out.bel⟩
  cases hc : condB c
  case false =>
    have HR1 : Hid (mR t r c = false) := by show mR t r c = _; rw [HR.out, hc]; simp
    have HC1 : Hid (mC t r c = 1) := by show mC t r c = _; rw [HC.out, hc]; simp
    rw [ht] at RO
    rw [hc] at CO
    clear ht hc HR HC
    go_enter Tryz.func9, Tryz.ntmps9
    go_wp2_with fail
    refine (RO.out _ HB.out).mono ?_
    rintro e w1 ⟨rfl, hb⟩
    have HB1 := Lib.hid hb
    clear x0 x1 x2 x3 y0 y1 z0 z1 z2
    have x0 := cell_at (o := 0) hb.a rfl
    have x1 := cell_at (o := 1) hb.a rfl
    have x2 := cell_at (o := 2) hb.a rfl
    have x3 := cell_at (o := 3) hb.a rfl
    have y0 := cell_at (o := 0) hb.b rfl
    have y1 := cell_at (o := 1) hb.b rfl
    have z0 := cell_at (o := 0) hb.c rfl
    have z1 := cell_at (o := 1) hb.c rfl
    have z2 := cell_at (o := 2) hb.c rfl
    clear hb
    go_wp2_with fail
    refine (CO.out _ HB1.out).mono ?_
    rintro e w2 ⟨rfl, hb⟩
    have HB2 := Lib.hid hb
    clear x0 x1 x2 x3 y0 y1 z0 z1 z2
    have x0 := cell_at (o := 0) hb.a rfl
    have x1 := cell_at (o := 1) hb.a rfl
    have x2 := cell_at (o := 2) hb.a rfl
    have x3 := cell_at (o := 3) hb.a rfl
    have y0 := cell_at (o := 0) hb.b rfl
    have y1 := cell_at (o := 1) hb.b rfl
    have z0 := cell_at (o := 0) hb.c rfl
    have z1 := cell_at (o := 1) hb.c rfl
    have z2 := cell_at (o := 2) hb.c rfl
    clear hb
    go_wp2_with fail
    go_ret2
    exact ⟨ret_bi HR1.out.symm HC1.out.symm, HB2.out.bel⟩
  have HRT := Lib.hid (And.intro ht hc)
  rw [ht] at RO
  rw [hc] at CO
  by_cases h0 : condC t c = 0
  case neg =>
    have HR1 : Hid (mR t r c = false) := by show mR t r c = _; rw [HR.out, if_neg (fun h => h0 h.2.2)]
    have HC1 : Hid (mC t r c = condC t c) := by show mC t r c = _; rw [HC.out, if_pos HRT.out]
    have hne : (condC t c != 0) = true := by simpa using h0
    clear ht hc h0 HR HC
    go_enter Tryz.func9, Tryz.ntmps9
    go_wp2_with fail
    refine (RO.out _ HB.out).mono ?_
    rintro e w1 ⟨rfl, hb⟩
    have HB1 := Lib.hid hb
    clear x0 x1 x2 x3 y0 y1 z0 z1 z2
    have x0 := cell_at (o := 0) hb.a rfl
    have x1 := cell_at (o := 1) hb.a rfl
    have x2 := cell_at (o := 2) hb.a rfl
    have x3 := cell_at (o := 3) hb.a rfl
    have y0 := cell_at (o := 0) hb.b rfl
    have y1 := cell_at (o := 1) hb.b rfl
    have z0 := cell_at (o := 0) hb.c rfl
    have z1 := cell_at (o := 1) hb.c rfl
    have z2 := cell_at (o := 2) hb.c rfl
    clear hb
    go_wp2_with fail
    refine (CO.out _ HB1.out).mono ?_
    rintro e w2 ⟨rfl, hb⟩
    have HB2 := Lib.hid hb
    clear x0 x1 x2 x3 y0 y1 z0 z1 z2
    have x0 := cell_at (o := 0) hb.a rfl
    have x1 := cell_at (o := 1) hb.a rfl
    have x2 := cell_at (o := 2) hb.a rfl
    have x3 := cell_at (o := 3) hb.a rfl
    have y0 := cell_at (o := 0) hb.b rfl
    have y1 := cell_at (o := 1) hb.b rfl
    have z0 := cell_at (o := 0) hb.c rfl
    have z1 := cell_at (o := 1) hb.c rfl
    have z2 := cell_at (o := 2) hb.c rfl
    clear hb
    go_wp2_with fail
    refine (CC.out _ HB2.out).mono ?_
    rintro e w3 ⟨rfl, hb⟩
    have HB3 := Lib.hid hb
    clear x0 x1 x2 x3 y0 y1 z0 z1 z2
    have x0 := cell_at (o := 0) hb.a rfl
    have x1 := cell_at (o := 1) hb.a rfl
    have x2 := cell_at (o := 2) hb.a rfl
    have x3 := cell_at (o := 3) hb.a rfl
    have y0 := cell_at (o := 0) hb.b rfl
    have y1 := cell_at (o := 1) hb.b rfl
    have z0 := cell_at (o := 0) hb.c rfl
    have z1 := cell_at (o := 1) hb.c rfl
    have z2 := cell_at (o := 2) hb.c rfl
    clear hb
    go_wp2_with fail
    go_ret2
    exact ⟨ret_bi HR1.out.symm HC1.out.symm, HB3.out.bel⟩
  have HR1 : Hid (mR t r c = matchC t r c) := by show mR t r c = _; rw [HR.out, if_pos ⟨HRT.out.1, HRT.out.2, h0⟩]
  have HC1 : Hid (mC t r c = 0) := by show mC t r c = _; rw [HC.out, if_pos HRT.out, h0]
  have HQ := Lib.hid (asks_of (rok_row ht) hc h0)
  rw [h0] at CC
  clear ht hc h0 HR HC
  go_enter Tryz.func9, Tryz.ntmps9
  go_wp2_with fail
  refine (RO.out _ HB.out).mono ?_
  rintro e w1 ⟨rfl, hb⟩
  have HB1 := Lib.hid hb
  clear x0 x1 x2 x3 y0 y1 z0 z1 z2
  have x0 := cell_at (o := 0) hb.a rfl
  have x1 := cell_at (o := 1) hb.a rfl
  have x2 := cell_at (o := 2) hb.a rfl
  have x3 := cell_at (o := 3) hb.a rfl
  have y0 := cell_at (o := 0) hb.b rfl
  have y1 := cell_at (o := 1) hb.b rfl
  have z0 := cell_at (o := 0) hb.c rfl
  have z1 := cell_at (o := 1) hb.c rfl
  have z2 := cell_at (o := 2) hb.c rfl
  clear hb
  go_wp2_with fail
  refine (CO.out _ HB1.out).mono ?_
  rintro e w2 ⟨rfl, hb⟩
  have HB2 := Lib.hid hb
  clear x0 x1 x2 x3 y0 y1 z0 z1 z2
  have x0 := cell_at (o := 0) hb.a rfl
  have x1 := cell_at (o := 1) hb.a rfl
  have x2 := cell_at (o := 2) hb.a rfl
  have x3 := cell_at (o := 3) hb.a rfl
  have y0 := cell_at (o := 0) hb.b rfl
  have y1 := cell_at (o := 1) hb.b rfl
  have z0 := cell_at (o := 0) hb.c rfl
  have z1 := cell_at (o := 1) hb.c rfl
  have z2 := cell_at (o := 2) hb.c rfl
  clear hb
  go_wp2_with fail
  refine (CC.out _ HB2.out).mono ?_
  rintro e w3 ⟨rfl, hb⟩
  have HB3 := Lib.hid hb
  clear x0 x1 x2 x3 y0 y1 z0 z1 z2
  have x0 := cell_at (o := 0) hb.a rfl
  have x1 := cell_at (o := 1) hb.a rfl
  have x2 := cell_at (o := 2) hb.a rfl
  have x3 := cell_at (o := 3) hb.a rfl
  have y0 := cell_at (o := 0) hb.b rfl
  have y1 := cell_at (o := 1) hb.b rfl
  have z0 := cell_at (o := 0) hb.c rfl
  have z1 := cell_at (o := 1) hb.c rfl
  have z2 := cell_at (o := 2) hb.c rfl
  clear hb
  go_wp2_with fail
  refine (MA.out _ HB3.out HQ.out).mono ?_
  rintro e w4 ⟨rfl, hb⟩
  have HB4 := Lib.hid hb
  clear x0 x1 x2 x3 y0 y1 z0 z1 z2 hb
  go_wp2_with fail
  go_ret2
  exact ⟨ret_bi HR1.out.symm HC1.out.symm, HB4.out.bel⟩
end Go.Proofs.YtpjjpdbmooiplaaGreatDoor
