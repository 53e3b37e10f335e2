import Derived.Test.YtpjjpdbmooiplaaGreatDoorXbs
import Derived.Test.YtpjjpdbmooiplaaGreatDoorXbr
namespace Go.Proofs.YtpjjpdbmooiplaaGreatDoor
open Go.RowKit
set_option linter.unusedSimpArgs false
set_option maxRecDepth 100000 in
set_option maxHeartbeats 6400000 in
theorem matchesAllI (t : Tb) (ca : Option Addr) (cc : Nat) (ua : Option Addr) (uc : Nat) (A : Nat → Prop) (r : RowV) (ra : Option Addr) (rc : Nat) (R : Nat → Prop) (list : List CondV) (a : Option Addr) (c : Nat) (B : Nat → Prop) (w : World) (ho : t.ok) (hl : (dCondS list).le 1048576) (hr : (dAtomSS r.cells).le maxLen) (hid : iOK r.id) (hrs : (dAtomSS r.cells).le 1048576) (hTab : TabW w) (h0w : 0 < w.heap.size) (hT : t.Has w A ca ua) (hR : Rd w R (dAtomSS r.cells) (.slice ra r.cells.length rc)) (hL : Rd w B (dCondS list) (.slice a list.length c)) :
    Calls Tryz.prog 20 #[.agg #[.string ⟨t.nm.toArray⟩, .slice ca t.cols.length cc, .slice ua t.uq.length uc, .bool t.rt], .agg #[.int .i64 r.id, .slice ra r.cells.length rc], .slice a list.length c] w fun e w' => e = .returned (.tuple #[.bool (maR t r list), .int .i64 (maC t r list)]) ∧ Below w.heap.size w w' := by
  have hlm : (dCondS list).le maxLen := D.le.mono (by unfold maxLen; omega) _ hl
  have RO : Hid (∀ W, BoxE 39 43 w W #[.string ⟨t.nm.toArray⟩, .slice ca t.cols.length cc, .slice ua t.uq.length uc, .bool t.rt] #[.int .i64 r.id, .slice ra r.cells.length rc] → Calls Tryz.prog 54 #[.agg #[.string ⟨t.nm.toArray⟩, .slice ca t.cols.length cc, .slice ua t.uq.length uc, .bool t.rt], .agg #[.int .i64 r.id, .slice ra r.cells.length rc]] W fun e w' => e = .returned (.bool (rokB t r)) ∧ BoxE 39 43 w w' #[.string ⟨t.nm.toArray⟩, .slice ca t.cols.length cc, .slice ua t.uq.length uc, .bool t.rt] #[.int .i64 r.id, .slice ra r.cells.length rc]) := fun W h => by
    obtain ⟨X, hX⟩ := (hR.later h.bel).row
    exact (rowOKi t ca cc ua uc r.id r.cells ra rc X A W.heap.size W ho (le_sets hr) (hT.later h.bel) (Nat.le_refl _) hX).mono (fun e w' ⟨he, hB⟩ => ⟨he, h.later hB⟩)
  have CO : Hid (∀ W, BoxE 39 43 w W #[.string ⟨t.nm.toArray⟩, .slice ca t.cols.length cc, .slice ua t.uq.length uc, .bool t.rt] #[.int .i64 r.id, .slice ra r.cells.length rc] → Calls Tryz.prog 55 #[.slice a list.length c, .int .i64 8, .func (.func 56) #[] #[]] W fun e w' => e = .returned (.bool (condsB list)) ∧ BoxE 39 43 w w' #[.string ⟨t.nm.toArray⟩, .slice ca t.cols.length cc, .slice ua t.uq.length uc, .bool t.rt] #[.int .i64 r.id, .slice ra r.cells.length rc]) := fun W h => (fewI list a c B W hlm (hL.later h.bel)).mono (fun e w' ⟨he, hB⟩ => ⟨he, h.later hB⟩)
  have CC : Hid (∀ W, BoxE 39 43 w W #[.string ⟨t.nm.toArray⟩, .slice ca t.cols.length cc, .slice ua t.uq.length uc, .bool t.rt] #[.int .i64 r.id, .slice ra r.cells.length rc] → Calls Tryz.prog 57 #[.agg #[.string ⟨t.nm.toArray⟩, .slice ca t.cols.length cc, .slice ua t.uq.length uc, .bool t.rt], .slice a list.length c, .func (.func 58) #[] #[]] W fun e w' => e = .returned (.int .i64 (condsC t list)) ∧ BoxE 39 43 w w' #[.string ⟨t.nm.toArray⟩, .slice ca t.cols.length cc, .slice ua t.uq.length uc, .bool t.rt] #[.int .i64 r.id, .slice ra r.cells.length rc]) := fun W h => (firstI t ca cc ua uc A list a c B W ho hlm (hT.later h.bel) (hL.later h.bel)).mono (fun e w' ⟨he, hB⟩ => ⟨he, h.later hB⟩)
  have CH : Hid (∀ W, BoxE 39 43 w W #[.string ⟨t.nm.toArray⟩, .slice ca t.cols.length cc, .slice ua t.uq.length uc, .bool t.rt] #[.int .i64 r.id, .slice ra r.cells.length rc] → (∀ k (h : k < list.length), Asks t r list[k]) → Calls Tryz.prog 59 #[.agg #[.string ⟨t.nm.toArray⟩, .slice ca t.cols.length cc, .slice ua t.uq.length uc, .bool t.rt], .slice (some ⟨W.heap.size, 0, none⟩) 1 1, .slice a list.length c] (W.alloc (.cells #[.int .i64 r.id, .slice ra r.cells.length rc] 43)) fun e w' => ∃ va vq, e = .returned (.slice va (chosen t [r] list).length vq) ∧ BoxE 39 43 w w' #[.string ⟨t.nm.toArray⟩, .slice ca t.cols.length cc, .slice ua t.uq.length uc, .bool t.rt] #[.int .i64 r.id, .slice ra r.cells.length rc]) := fun W h hq =>
    have hB : Below w.heap.size w (W.alloc (.cells #[.int .i64 r.id, .slice ra r.cells.length rc] 43)) := h.bel.trans ((below_allocD _ _).mono h.bel.size)
    (chosen1 t ca cc ua uc A r ra rc R list a c B W ho hlm hrs hid (hTab.later h0w hB) (Nat.lt_of_lt_of_le h0w hB.size) hq (hT.later hB) (hR.later h.bel) (hL.later hB)).mono (fun e w' ⟨va, vq, he, _, hB'⟩ => ⟨va, vq, he, (h.later (below_allocD _ _)).later hB'⟩)
  have hb := boxE 39 43 w #[.string ⟨t.nm.toArray⟩, .slice ca t.cols.length cc, .slice ua t.uq.length uc, .bool t.rt] #[.int .i64 r.id, .slice ra r.cells.length rc]
  have HB := Lib.hid hb
  have hll : list.length ≤ 1048576 := (Ls_le.1 hl).2.1
  have x0 := cell_at (o := 0) hb.a rfl
  have x1 := cell_at (o := 1) hb.a rfl
  have x2 := cell_at (o := 2) hb.a rfl
  have x3 := cell_at (o := 3) hb.a rfl
  have y0 := cell_at (o := 0) hb.b rfl
  have y1 := cell_at (o := 1) hb.b rfl
  clear ho hl hlm hr hid hT hR hL hb hrs hTab h0w
  by_cases h4 : 4096 < list.length
  case pos =>
    have HR1 : Hid (maR t r list = false) := by show maR t r list = _; unfold maR; rw [if_pos h4]
    have HC1 : Hid (maC t r list = 2) := by show maC t r list = _; unfold maC; rw [if_pos h4]
    have hd : decide (4096 < (list.length : Int)) = true := decide_eq_true (by omega)
    clear h4
    go_enter Tryz.func20, Tryz.ntmps20
    go_wp2_with fail
    go_ret2
    exact ⟨ret_bi HR1.out.symm HC1.out.symm, HB.out.bel⟩
  have HR : Hid (maR t r list = if rokB t r = true ∧ condsB list = true ∧ condsC t list = 0 then allM t r list else false) := by show maR t r list = _; unfold maR; rw [if_neg h4]
  have HC : Hid (maC t r list = if rokB t r = true ∧ condsB list = true then condsC t list else 1) := by show maC t r list = _; unfold maC; rw [if_neg h4]
  have hd : decide (4096 < (list.length : Int)) = false := decide_eq_false (by omega)
  clear h4
  cases ht : rokB t r
  case false =>
    have HR1 : Hid (maR t r list = false) := by show maR t r list = _; rw [HR.out, ht]; simp
    have HC1 : Hid (maC t r list = 1) := by show maC t r list = _; rw [HC.out, ht]; simp
    rw [ht] at RO
    clear ht HR HC
    go_enter Tryz.func20, Tryz.ntmps20
    go_wp2_with fail
    refine (RO.out _ HB.out).mono ?_
    rintro e w1 ⟨rfl, hb⟩
    have HB1 := Lib.hid hb
    clear x0 x1 x2 x3 y0 y1
    have x0 := cell_at (o := 0) hb.a rfl
    have x1 := cell_at (o := 1) hb.a rfl
    have x2 := cell_at (o := 2) hb.a rfl
    have x3 := cell_at (o := 3) hb.a rfl
    have y0 := cell_at (o := 0) hb.b rfl
    have y1 := cell_at (o := 1) hb.b rfl
    clear hb
    go_wp2_with fail
    go_ret2
    exact ⟨ret_bi HR1.out.symm HC1.out.symm, HB1.out.bel⟩
  cases hc : condsB list
  case false =>
    have HR1 : Hid (maR t r list = false) := by show maR t r list = _; rw [HR.out, hc]; simp
    have HC1 : Hid (maC t r list = 1) := by show maC t r list = _; rw [HC.out, hc]; simp
    rw [ht] at RO
    rw [hc] at CO
    clear ht hc HR HC
    go_enter Tryz.func20, Tryz.ntmps20
    go_wp2_with fail
    refine (RO.out _ HB.out).mono ?_
    rintro e w1 ⟨rfl, hb⟩
    have HB1 := Lib.hid hb
    clear x0 x1 x2 x3 y0 y1
    have x0 := cell_at (o := 0) hb.a rfl
    have x1 := cell_at (o := 1) hb.a rfl
    have x2 := cell_at (o := 2) hb.a rfl
    have x3 := cell_at (o := 3) hb.a rfl
    have y0 := cell_at (o := 0) hb.b rfl
    have y1 := cell_at (o := 1) hb.b rfl
    clear hb
    go_wp2_with fail
    refine (CO.out _ HB1.out).mono ?_
    rintro e w2 ⟨rfl, hb⟩
    have HB2 := Lib.hid hb
    clear x0 x1 x2 x3 y0 y1
    have x0 := cell_at (o := 0) hb.a rfl
    have x1 := cell_at (o := 1) hb.a rfl
    have x2 := cell_at (o := 2) hb.a rfl
    have x3 := cell_at (o := 3) hb.a rfl
    have y0 := cell_at (o := 0) hb.b rfl
    have y1 := cell_at (o := 1) hb.b rfl
    clear hb
    go_wp2_with fail
    go_ret2
    exact ⟨ret_bi HR1.out.symm HC1.out.symm, HB2.out.bel⟩
  have HRT := Lib.hid (And.intro ht hc)
  rw [ht] at RO
  rw [hc] at CO
  by_cases h0 : condsC t list = 0
  case neg =>
    have HR1 : Hid (maR t r list = false) := by show maR t r list = _; rw [HR.out, if_neg (fun h => h0 h.2.2)]
    have HC1 : Hid (maC t r list = condsC t list) := by show maC t r list = _; rw [HC.out, if_pos HRT.out]
    have hne : (condsC t list != 0) = true := by simpa using h0
    clear ht hc h0 HR HC
    go_enter Tryz.func20, Tryz.ntmps20
    go_wp2_with fail
    refine (RO.out _ HB.out).mono ?_
    rintro e w1 ⟨rfl, hb⟩
    have HB1 := Lib.hid hb
    clear x0 x1 x2 x3 y0 y1
    have x0 := cell_at (o := 0) hb.a rfl
    have x1 := cell_at (o := 1) hb.a rfl
    have x2 := cell_at (o := 2) hb.a rfl
    have x3 := cell_at (o := 3) hb.a rfl
    have y0 := cell_at (o := 0) hb.b rfl
    have y1 := cell_at (o := 1) hb.b rfl
    clear hb
    go_wp2_with fail
    refine (CO.out _ HB1.out).mono ?_
    rintro e w2 ⟨rfl, hb⟩
    have HB2 := Lib.hid hb
    clear x0 x1 x2 x3 y0 y1
    have x0 := cell_at (o := 0) hb.a rfl
    have x1 := cell_at (o := 1) hb.a rfl
    have x2 := cell_at (o := 2) hb.a rfl
    have x3 := cell_at (o := 3) hb.a rfl
    have y0 := cell_at (o := 0) hb.b rfl
    have y1 := cell_at (o := 1) hb.b rfl
    clear hb
    go_wp2_with fail
    refine (CC.out _ HB2.out).mono ?_
    rintro e w3 ⟨rfl, hb⟩
    have HB3 := Lib.hid hb
    clear x0 x1 x2 x3 y0 y1
    have x0 := cell_at (o := 0) hb.a rfl
    have x1 := cell_at (o := 1) hb.a rfl
    have x2 := cell_at (o := 2) hb.a rfl
    have x3 := cell_at (o := 3) hb.a rfl
    have y0 := cell_at (o := 0) hb.b rfl
    have y1 := cell_at (o := 1) hb.b rfl
    clear hb
    go_wp2_with fail
    go_ret2
    exact ⟨ret_bi HR1.out.symm HC1.out.symm, HB3.out.bel⟩
  have HR1 : Hid (maR t r list = allM t r list) := by show maR t r list = _; rw [HR.out, if_pos ⟨HRT.out.1, HRT.out.2, h0⟩]
  have HC1 : Hid (maC t r list = 0) := by show maC t r list = _; rw [HC.out, if_pos HRT.out, h0]
  have HQ := Lib.hid (asks_list ht hc h0)
  rw [h0] at CC
  clear ht hc h0 HR HC
  go_enter Tryz.func20, Tryz.ntmps20
  go_wp2_with fail
  refine (RO.out _ HB.out).mono ?_
  rintro e w1 ⟨rfl, hb⟩
  have HB1 := Lib.hid hb
  clear x0 x1 x2 x3 y0 y1
  have x0 := cell_at (o := 0) hb.a rfl
  have x1 := cell_at (o := 1) hb.a rfl
  have x2 := cell_at (o := 2) hb.a rfl
  have x3 := cell_at (o := 3) hb.a rfl
  have y0 := cell_at (o := 0) hb.b rfl
  have y1 := cell_at (o := 1) hb.b rfl
  clear hb
  go_wp2_with fail
  refine (CO.out _ HB1.out).mono ?_
  rintro e w2 ⟨rfl, hb⟩
  have HB2 := Lib.hid hb
  clear x0 x1 x2 x3 y0 y1
  have x0 := cell_at (o := 0) hb.a rfl
  have x1 := cell_at (o := 1) hb.a rfl
  have x2 := cell_at (o := 2) hb.a rfl
  have x3 := cell_at (o := 3) hb.a rfl
  have y0 := cell_at (o := 0) hb.b rfl
  have y1 := cell_at (o := 1) hb.b rfl
  clear hb
  go_wp2_with fail
  refine (CC.out _ HB2.out).mono ?_
  rintro e w3 ⟨rfl, hb⟩
  have HB3 := Lib.hid hb
  clear x0 x1 x2 x3 y0 y1
  have x0 := cell_at (o := 0) hb.a rfl
  have x1 := cell_at (o := 1) hb.a rfl
  have x2 := cell_at (o := 2) hb.a rfl
  have x3 := cell_at (o := 3) hb.a rfl
  have y0 := cell_at (o := 0) hb.b rfl
  have y1 := cell_at (o := 1) hb.b rfl
  clear hb
  go_wp2_with fail
  with_reducible refine (CH.out _ HB3.out HQ.out).mono ?_
  rintro e w4 ⟨va, vq, rfl, hb⟩
  have HB4 := Lib.hid hb
  have HON := Lib.hid (chosen_one t r list)
  clear x0 x1 x2 x3 y0 y1 hb
  go_wp2_with fail
  go_ret2
  exact ⟨ret_bi (by rw [HR1.out]; exact HON.out) HC1.out.symm, HB4.out.bel⟩
end Go.Proofs.YtpjjpdbmooiplaaGreatDoor
