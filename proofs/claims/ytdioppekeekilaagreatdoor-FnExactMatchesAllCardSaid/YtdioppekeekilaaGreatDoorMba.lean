import Derived.Test.YtdioppekeekilaaGreatDoorMaz
namespace Go.Proofs.YtdioppekeekilaaGreatDoor
open Go.RowKit
set_option linter.unusedSimpArgs false
theorem chosen_one (t : Tb) (r : RowV) (list : List CondV) : (((chosen t [r] list).length : Int) == 1) = allM t r list := by
  unfold chosen
  cases h : allM t r list
  · simp [h]
  · simp [h]
/-- a list of one row that was just made -/
theorem rd_row1 {W : World} {R : Nat → Prop} {r : RowV} {ra : Option Addr} {rc : Nat} (ty : TypeId) (h : Rd W R (dAtomSS r.cells) (.slice ra r.cells.length rc)) : Rd (W.alloc (.cells #[.int .i64 r.id, .slice ra r.cells.length rc] ty)) (fun _ => True) (dRowS [r]) (.slice (some ⟨W.heap.size, 0, none⟩) [r].length 1) := by
  refine ⟨_, _, rfl, .inr ⟨W.heap.size, 0, rfl, trivial, by omega, fun i j hi hj => ?_⟩⟩
  have hi' : i = 0 := by simpa using hi
  subst hi'
  rw [Nat.zero_mul, Nat.add_zero, Nat.zero_add]
  rcases (by omega : j = 0 ∨ j = 1) with rfl | rfl
  · exact ⟨_, cell_at (o := 0) (heap_newD _ _) rfl, rfl⟩
  · exact ⟨_, cell_at (o := 1) (heap_newD _ _) rfl, (h.later (below_allocD _ _)).any⟩
theorem le_row1 {r : RowV} (h : (dAtomSS r.cells).le 1048576) (hid : iOK r.id) : (dRowS [r]).le 1048576 := by
  refine Ls_le.2 ⟨by omega, by simp, fun i hi j hj => ?_⟩
  have hi' : i = 0 := by simpa using hi
  subst hi'
  rcases (by omega : j = 0 ∨ j = 1) with rfl | rfl
  · exact hid
  · exact h
theorem asks1 {t : Tb} {r : RowV} {list : List CondV} (hq : ∀ k (h : k < list.length), Asks t r list[k]) : ∀ i (h : i < [r].length) k (h' : k < list.length), Asks t [r][i] list[k] := fun i hi k hk => by
  have hi' : i = 0 := by simpa using hi
  subst hi'
  exact hq k hk
theorem chosen1 (t : Tb) (ca : Option Addr) (cc : Nat) (ua : Option Addr) (uc : Nat) (A : Nat → Prop) (r : RowV) (ra : Option Addr) (rc : Nat) (R : Nat → Prop) (list : List CondV) (a : Option Addr) (c : Nat) (B : Nat → Prop) (W : World) (ho : t.ok) (hlm : (dCondS list).le maxLen) (hrs : (dAtomSS r.cells).le 1048576) (hid : iOK r.id) (hTab : TabW (W.alloc (.cells #[.int .i64 r.id, .slice ra r.cells.length rc] 43))) (h0w : 0 < (W.alloc (.cells #[.int .i64 r.id, .slice ra r.cells.length rc] 43)).heap.size) (hq : ∀ k (h : k < list.length), Asks t r list[k]) (hT : t.Has (W.alloc (.cells #[.int .i64 r.id, .slice ra r.cells.length rc] 43)) A ca ua) (hR : Rd W R (dAtomSS r.cells) (.slice ra r.cells.length rc)) (hL : Rd (W.alloc (.cells #[.int .i64 r.id, .slice ra r.cells.length rc] 43)) B (dCondS list) (.slice a list.length c)) :
    Calls Tryz.prog 43 #[.agg #[.string ⟨t.nm.toArray⟩, .slice ca t.cols.length cc, .slice ua t.uq.length uc, .bool t.rt], .slice (some ⟨W.heap.size, 0, none⟩) 1 1, .slice a list.length c] (W.alloc (.cells #[.int .i64 r.id, .slice ra r.cells.length rc] 43)) (ChAns (W.alloc (.cells #[.int .i64 r.id, .slice ra r.cells.length rc] 43)) (chosen t [r] list)) :=
  chosenI t ca cc ua uc A [r] (some ⟨W.heap.size, 0, none⟩) 1 (fun _ => True) list a c B (W.alloc (.cells #[.int .i64 r.id, .slice ra r.cells.length rc] 43)) ho hlm (le_row1 hrs hid) hTab h0w (asks1 hq) hT (rd_row1 _ hR) hL
end Go.Proofs.YtdioppekeekilaaGreatDoor
namespace Go.Proofs.YtdioppekeekilaaGreatDoor
open Go.RowKit
set_option linter.unusedSimpArgs false
set_option maxRecDepth 100000 in
set_option maxHeartbeats 6400000 in
theorem matchesAllI (t : Tb) (ca : Option Addr) (cc : Nat) (ua : Option Addr) (uc : Nat) (A : Nat → Prop) (r : RowV) (ra : Option Addr) (rc : Nat) (R : Nat → Prop) (list : List CondV) (a : Option Addr) (c : Nat) (B : Nat → Prop) (w : World) (ho : t.ok) (hl : (dCondS list).le 1048576) (hr : (dAtomSS r.cells).le maxLen) (hid : iOK r.id) (hrs : (dAtomSS r.cells).le 1048576) (hTab : TabW w) (h0w : 0 < w.heap.size) (hT : t.Has w A ca ua) (hR : Rd w R (dAtomSS r.cells) (.slice ra r.cells.length rc)) (hL : Rd w B (dCondS list) (.slice a list.length c)) :
    Calls Tryz.prog 19 #[.agg #[.string ⟨t.nm.toArray⟩, .slice ca t.cols.length cc, .slice ua t.uq.length uc, .bool t.rt], .agg #[.int .i64 r.id, .slice ra r.cells.length rc], .slice a list.length c] w fun e w' => e = .returned (.tuple #[.bool (maR t r list), .int .i64 (maC t r list)]) ∧ Below w.heap.size w w' := by
  have hlm : (dCondS list).le maxLen := D.le.mono (by unfold maxLen; omega) _ hl
  have RO : Hid (∀ W, BoxE 39 43 w W #[.string ⟨t.nm.toArray⟩, .slice ca t.cols.length cc, .slice ua t.uq.length uc, .bool t.rt] #[.int .i64 r.id, .slice ra r.cells.length rc] → Calls Tryz.prog 40 #[.agg #[.string ⟨t.nm.toArray⟩, .slice ca t.cols.length cc, .slice ua t.uq.length uc, .bool t.rt], .agg #[.int .i64 r.id, .slice ra r.cells.length rc]] W fun e w' => e = .returned (.bool (rokB t r)) ∧ BoxE 39 43 w w' #[.string ⟨t.nm.toArray⟩, .slice ca t.cols.length cc, .slice ua t.uq.length uc, .bool t.rt] #[.int .i64 r.id, .slice ra r.cells.length rc]) := fun W h => by
    obtain ⟨X, hX⟩ := (hR.later h.bel).row
    exact (rowOKi t ca cc ua uc r.id r.cells ra rc X A W.heap.size W ho (le_sets hr) (hT.later h.bel) (Nat.le_refl _) hX).mono (fun e w' ⟨he, hB⟩ => ⟨he, h.later hB⟩)
  have CO : Hid (∀ W, BoxE 39 43 w W #[.string ⟨t.nm.toArray⟩, .slice ca t.cols.length cc, .slice ua t.uq.length uc, .bool t.rt] #[.int .i64 r.id, .slice ra r.cells.length rc] → Calls Tryz.prog 41 #[.slice a list.length c] W fun e w' => e = .returned (.bool (condsB list)) ∧ BoxE 39 43 w w' #[.string ⟨t.nm.toArray⟩, .slice ca t.cols.length cc, .slice ua t.uq.length uc, .bool t.rt] #[.int .i64 r.id, .slice ra r.cells.length rc]) := fun W h => (listI list a c B W hlm (hL.later h.bel)).mono (fun e w' ⟨he, hB⟩ => ⟨he, h.later hB⟩)
  have CC : Hid (∀ W, BoxE 39 43 w W #[.string ⟨t.nm.toArray⟩, .slice ca t.cols.length cc, .slice ua t.uq.length uc, .bool t.rt] #[.int .i64 r.id, .slice ra r.cells.length rc] → Calls Tryz.prog 42 #[.agg #[.string ⟨t.nm.toArray⟩, .slice ca t.cols.length cc, .slice ua t.uq.length uc, .bool t.rt], .slice a list.length c] W fun e w' => e = .returned (.int .i64 (condsC t list)) ∧ BoxE 39 43 w w' #[.string ⟨t.nm.toArray⟩, .slice ca t.cols.length cc, .slice ua t.uq.length uc, .bool t.rt] #[.int .i64 r.id, .slice ra r.cells.length rc]) := fun W h => (condsI t ca cc ua uc A list a c B W ho hlm (hT.later h.bel) (hL.later h.bel)).mono (fun e w' ⟨he, hB⟩ => ⟨he, h.later hB⟩)
  have CH : Hid (∀ W, BoxE 39 43 w W #[.string ⟨t.nm.toArray⟩, .slice ca t.cols.length cc, .slice ua t.uq.length uc, .bool t.rt] #[.int .i64 r.id, .slice ra r.cells.length rc] → (∀ k (h : k < list.length), Asks t r list[k]) → Calls Tryz.prog 43 #[.agg #[.string ⟨t.nm.toArray⟩, .slice ca t.cols.length cc, .slice ua t.uq.length uc, .bool t.rt], .slice (some ⟨W.heap.size, 0, none⟩) 1 1, .slice a list.length c] (W.alloc (.cells #[.int .i64 r.id, .slice ra r.cells.length rc] 43)) fun e w' => ∃ va vq, e = .returned (.slice va (chosen t [r] list).length vq) ∧ BoxE 39 43 w w' #[.string ⟨t.nm.toArray⟩, .slice ca t.cols.length cc, .slice ua t.uq.length uc, .bool t.rt] #[.int .i64 r.id, .slice ra r.cells.length rc]) := fun W h hq =>
    have hB : Below w.heap.size w (W.alloc (.cells #[.int .i64 r.id, .slice ra r.cells.length rc] 43)) := h.bel.trans ((below_allocD _ _).mono h.bel.size)
    (chosen1 t ca cc ua uc A r ra rc R list a c B W ho hlm hrs hid (hTab.later h0w hB) (Nat.lt_of_lt_of_le h0w hB.size) hq (hT.later hB) (hR.later h.bel) (hL.later hB)).mono (fun e w' ⟨va, vq, he, _, hB'⟩ => ⟨va, vq, he, (h.later (below_allocD _ _)).later hB'⟩)
  have hb := boxE 39 43 w #[.string ⟨t.nm.toArray⟩, .slice ca t.cols.length cc, .slice ua t.uq.length uc, .bool t.rt] #[.int .i64 r.id, .slice ra r.cells.length rc]
  have HB := Lib.hid hb
  have hll : list.length ≤ 1048576 := (Ls_le.1 hl).2.1
  have x0 := cell_at (o := 0) hb.a rfl
  have x1 := cell_at (o := 1) hb.a rfl
  have x2 := cell_at (o := 2) hb.a rfl
  have x3 := cell_at (o := 3) hb.a rfl
  have y0 := cell_at (o := 0) hb.b rfl
  have y1 := cell_at (o := 1) hb.b rfl
  clear ho hl hlm hr hid hT hR hL hb hrs hTab h0w
  by_cases h4 : 4096 < list.length
  case pos =>
    have HR1 : Hid (maR t r list = false) := by show maR t r list = _; unfold maR; rw [if_pos h4]
    have HC1 : Hid (maC t r list = 2) := by show maC t r list = _; unfold maC; rw [if_pos h4]
    have hd : decide (4096 < (list.length : Int)) = true := decide_eq_true (by omega)
    clear h4
    go_enter Tryz.func19, Tryz.ntmps19
    go_wp2_with fail
    go_ret2
    exact ⟨ret_bi HR1.out.symm HC1.out.symm, HB.out.bel⟩
  have HR : Hid (maR t r list = if rokB t r = true ∧ condsB list = true ∧ condsC t list = 0 then allM t r list else false) := by show maR t r list = _; unfold maR; rw [if_neg h4]
  have HC : Hid (maC t r list = if rokB t r = true ∧ condsB list = true then condsC t list else 1) := by show maC t r list = _; unfold maC; rw [if_neg h4]
  have hd : decide (4096 < (list.length : Int)) = false := decide_eq_false (by omega)
  clear h4
  cases ht : rokB t r
  case false =>
    have HR1 : Hid (maR t r list = false) := by show maR t r list = _; rw [HR.out, ht]; simp
    have HC1 : Hid (maC t r list = 1) := by show maC t r list = _; rw [HC.out, ht]; simp
    rw [ht] at RO
    clear ht HR HC
    go_enter Tryz.func19, Tryz.ntmps19
    go_wp2_with fail
    refine (RO.out _ HB.out).mono ?_
    rintro e w1 ⟨rfl, hb⟩
    have HB1 := Lib.hid hb
    clear x0 x1 x2 x3 y0 y1
    have x0 := cell_at (o := 0) hb.a rfl
    have x1 := cell_at (o := 1) hb.a rfl
    have x2 := cell_at (o := 2) hb.a rfl
    have x3 := cell_at (o := 3) hb.a rfl
    have y0 := cell_at (o := 0) hb.b rfl
    have y1 := cell_at (o := 1) hb.b rfl
    clear hb
    go_wp2_with fail
    go_ret2
    exact ⟨ret_bi HR1.out.symm HC1.out.symm, HB1.out.bel⟩
  cases hc : condsB list
  case false =>
    have HR1 : Hid (maR t r list = false) := by show maR t r list = _; rw [HR.out, hc]; simp
    have HC1 : Hid (maC t r list = 1) := by show maC t r list = _; rw [HC.out, hc]; simp
    rw [ht] at RO
    rw [hc] at CO
    clear ht hc HR HC
    go_enter Tryz.func19, Tryz.ntmps19
    go_wp2_with fail
    refine (RO.out _ HB.out).mono ?_
    rintro e w1 ⟨rfl, hb⟩
    have HB1 := Lib.hid hb
    clear x0 x1 x2 x3 y0 y1
    have x0 := cell_at (o := 0) hb.a rfl
    have x1 := cell_at (o := 1) hb.a rfl
    have x2 := cell_at (o := 2) hb.a rfl
    have x3 := cell_at (o := 3) hb.a rfl
    have y0 := cell_at (o := 0) hb.b rfl
    have y1 := cell_at (o := 1) hb.b rfl
    clear hb
    go_wp2_with fail
    refine (CO.out _ HB1.out).mono ?_
    rintro e w2 ⟨rfl, hb⟩
    have HB2 := Lib.hid hb
    clear x0 x1 x2 x3 y0 y1
    have x0 := cell_at (o := 0) hb.a rfl
    have x1 := cell_at (o := 1) hb.a rfl
    have x2 := cell_at (o := 2) hb.a rfl
    have x3 := cell_at (o := 3) hb.a rfl
    have y0 := cell_at (o := 0) hb.b rfl
    have y1 := cell_at (o := 1) hb.b rfl
    clear hb
    go_wp2_with fail
    go_ret2
    exact ⟨ret_bi HR1.out.symm HC1.out.symm, HB2.out.bel⟩
  have HRT := Lib.hid (And.intro ht hc)
  rw [ht] at RO
  rw [hc] at CO
  by_cases h0 : condsC t list = 0
  case neg =>
    have HR1 : Hid (maR t r list = false) := by show maR t r list = _; rw [HR.out, if_neg (fun h => h0 h.2.2)]
    have HC1 : Hid (maC t r list = condsC t list) := by show maC t r list = _; rw [HC.out, if_pos HRT.out]
    have hne : (condsC t list != 0) = true := by simpa using h0
    clear ht hc h0 HR HC
    go_enter Tryz.func19, Tryz.ntmps19
    go_wp2_with fail
    refine (RO.out _ HB.out).mono ?_
    rintro e w1 ⟨rfl, hb⟩
    have HB1 := Lib.hid hb
    clear x0 x1 x2 x3 y0 y1
    have x0 := cell_at (o := 0) hb.a rfl
    have x1 := cell_at (o := 1) hb.a rfl
    have x2 := cell_at (o := 2) hb.a rfl
    have x3 := cell_at (o := 3) hb.a rfl
    have y0 := cell_at (o := 0) hb.b rfl
    have y1 := cell_at (o := 1) hb.b rfl
    clear hb
    go_wp2_with fail
    refine (CO.out _ HB1.out).mono ?_
    rintro e w2 ⟨rfl, hb⟩
    have HB2 := Lib.hid hb
    clear x0 x1 x2 x3 y0 y1
    have x0 := cell_at (o := 0) hb.a rfl
    have x1 := cell_at (o := 1) hb.a rfl
    have x2 := cell_at (o := 2) hb.a rfl
    have x3 := cell_at (o := 3) hb.a rfl
    have y0 := cell_at (o := 0) hb.b rfl
    have y1 := cell_at (o := 1) hb.b rfl
    clear hb
    go_wp2_with fail
    refine (CC.out _ HB2.out).mono ?_
    rintro e w3 ⟨rfl, hb⟩
    have HB3 := Lib.hid hb
    clear x0 x1 x2 x3 y0 y1
    have x0 := cell_at (o := 0) hb.a rfl
    have x1 := cell_at (o := 1) hb.a rfl
    have x2 := cell_at (o := 2) hb.a rfl
    have x3 := cell_at (o := 3) hb.a rfl
    have y0 := cell_at (o := 0) hb.b rfl
    have y1 := cell_at (o := 1) hb.b rfl
    clear hb
    go_wp2_with fail
    go_ret2
    exact ⟨ret_bi HR1.out.symm HC1.out.symm, HB3.out.bel⟩
  have HR1 : Hid (maR t r list = allM t r list) := by show maR t r list = _; rw [HR.out, if_pos ⟨HRT.out.1, HRT.out.2, h0⟩]
  have HC1 : Hid (maC t r list = 0) := by show maC t r list = _; rw [HC.out, if_pos HRT.out, h0]
  have HQ := Lib.hid (asks_list ht hc h0)
  rw [h0] at CC
  clear ht hc h0 HR HC
  go_enter Tryz.func19, Tryz.ntmps19
  go_wp2_with fail
  refine (RO.out _ HB.out).mono ?_
  rintro e w1 ⟨rfl, hb⟩
  have HB1 := Lib.hid hb
  clear x0 x1 x2 x3 y0 y1
  have x0 := cell_at (o := 0) hb.a rfl
  have x1 := cell_at (o := 1) hb.a rfl
  have x2 := cell_at (o := 2) hb.a rfl
  have x3 := cell_at (o := 3) hb.a rfl
  have y0 := cell_at (o := 0) hb.b rfl
  have y1 := cell_at (o := 1) hb.b rfl
  clear hb
  go_wp2_with fail
  refine (CO.out _ HB1.out).mono ?_
  rintro e w2 ⟨rfl, hb⟩
  have HB2 := Lib.hid hb
  clear x0 x1 x2 x3 y0 y1
  have x0 := cell_at (o := 0) hb.a rfl
  have x1 := cell_at (o := 1) hb.a rfl
  have x2 := cell_at (o := 2) hb.a rfl
  have x3 := cell_at (o := 3) hb.a rfl
  have y0 := cell_at (o := 0) hb.b rfl
  have y1 := cell_at (o := 1) hb.b rfl
  clear hb
  go_wp2_with fail
  refine (CC.out _ HB2.out).mono ?_
  rintro e w3 ⟨rfl, hb⟩
  have HB3 := Lib.hid hb
  clear x0 x1 x2 x3 y0 y1
  have x0 := cell_at (o := 0) hb.a rfl
  have x1 := cell_at (o := 1) hb.a rfl
  have x2 := cell_at (o := 2) hb.a rfl
  have x3 := cell_at (o := 3) hb.a rfl
  have y0 := cell_at (o := 0) hb.b rfl
  have y1 := cell_at (o := 1) hb.b rfl
  clear hb
  go_wp2_with fail
  with_reducible refine (CH.out _ HB3.out HQ.out).mono ?_
  rintro e w4 ⟨va, vq, rfl, hb⟩
  have HB4 := Lib.hid hb
  have HON := Lib.hid (chosen_one t r list)
  clear x0 x1 x2 x3 y0 y1 hb
  go_wp2_with fail
  go_ret2
  exact ⟨ret_bi (by rw [HR1.out]; exact HON.out) HC1.out.symm, HB4.out.bel⟩
end Go.Proofs.YtdioppekeekilaaGreatDoor
namespace Go.Proofs.YtdioppekeekilaaGreatDoor
open Go.RowKit
set_option linter.unusedSimpArgs false
theorem maOne (t : Tb) (r : RowV) (c : CondV) : maR t r [c] = mR t r c ∧ maC t r [c] = mC t r c := by
  have h1 : condsB [c] = condB c := by simp [condsB]
  have h2 : condsC t [c] = condC t c := by
    unfold condsC condsC
    by_cases h : condC t c = 0
    · rw [if_pos h, h]
    · rw [if_neg h]
  have h3 : allM t r [c] = matchC t r c := by simp [allM]
  unfold maR maC mR mC
  rw [h1, h2, h3]
  exact ⟨by rw [if_neg (by simp)], by rw [if_neg (by simp)]⟩
/-- a list of one condition that was just made -/
theorem rd_cond1 {W : World} {C : Nat → Prop} {c : CondV} {va : Option Addr} {vc : Nat} (ty : TypeId) (h : Rd W C (dAtomS c.val) (.slice va c.val.length vc)) : Rd (W.alloc (.cells #[.string ⟨c.col.toArray⟩, .int .i64 c.fn, .slice va c.val.length vc] ty)) (fun _ => True) (dCondS [c]) (.slice (some ⟨W.heap.size, 0, none⟩) [c].length 1) := by
  refine ⟨_, _, rfl, .inr ⟨W.heap.size, 0, rfl, trivial, by omega, fun i j hi hj => ?_⟩⟩
  have hi' : i = 0 := by simpa using hi
  subst hi'
  rw [Nat.zero_mul, Nat.add_zero, Nat.zero_add]
  rcases (by omega : j = 0 ∨ j = 1 ∨ j = 2) with rfl | rfl | rfl
  · exact ⟨_, cell_at (o := 0) (heap_newD _ _) rfl, rfl⟩
  · exact ⟨_, cell_at (o := 1) (heap_newD _ _) rfl, rfl⟩
  · exact ⟨_, cell_at (o := 2) (heap_newD _ _) rfl, (h.later (below_allocD _ _)).any⟩
theorem le_cond1 {c : CondV} (hn : c.col.length ≤ 1048576) (hf : iOK c.fn) (h : (dAtomS c.val).le 1048576) : (dCondS [c]).le 1048576 := by
  refine Ls_le.2 ⟨by omega, by simp, fun i hi j hj => ?_⟩
  have hi' : i = 0 := by simpa using hi
  subst hi'
  rcases (by omega : j = 0 ∨ j = 1 ∨ j = 2) with rfl | rfl | rfl
  · exact hn
  · exact hf
  · exact h
set_option maxRecDepth 100000 in
set_option maxHeartbeats 6400000 in
theorem matchesI (t : Tb) (ca : Option Addr) (cc : Nat) (ua : Option Addr) (uc : Nat) (A : Nat → Prop) (r : RowV) (ra : Option Addr) (rc : Nat) (R : Nat → Prop) (c : CondV) (va : Option Addr) (vc : Nat) (C : Nat → Prop) (w : World) (ho : t.ok) (hn : c.col.length ≤ 1048576) (hf : iOK c.fn) (hl : (dAtomS c.val).le 1048576) (hr : (dAtomSS r.cells).le 1048576) (hid : iOK r.id) (hTab : TabW w) (h0w : 0 < w.heap.size) (hT : t.Has w A ca ua) (hR : Rd w R (dAtomSS r.cells) (.slice ra r.cells.length rc)) (hV : Rd w C (dAtomS c.val) (.slice va c.val.length vc)) :
    Calls Tryz.prog 12 #[.agg #[.string ⟨t.nm.toArray⟩, .slice ca t.cols.length cc, .slice ua t.uq.length uc, .bool t.rt], .agg #[.int .i64 r.id, .slice ra r.cells.length rc], .agg #[.string ⟨c.col.toArray⟩, .int .i64 c.fn, .slice va c.val.length vc]] w fun e w' => e = .returned (.tuple #[.bool (mR t r c), .int .i64 (mC t r c)]) ∧ Below w.heap.size w w' := by
  have hrm : (dAtomSS r.cells).le maxLen := D.le.mono (by unfold maxLen; omega) _ hr
  have MA : Hid (∀ W, BoxF 39 43 47 w W #[.string ⟨t.nm.toArray⟩, .slice ca t.cols.length cc, .slice ua t.uq.length uc, .bool t.rt] #[.int .i64 r.id, .slice ra r.cells.length rc] #[.string ⟨c.col.toArray⟩, .int .i64 c.fn, .slice va c.val.length vc] → Calls Tryz.prog 19 #[.agg #[.string ⟨t.nm.toArray⟩, .slice ca t.cols.length cc, .slice ua t.uq.length uc, .bool t.rt], .agg #[.int .i64 r.id, .slice ra r.cells.length rc], .slice (some ⟨W.heap.size, 0, none⟩) 1 1] (W.alloc (.cells #[.string ⟨c.col.toArray⟩, .int .i64 c.fn, .slice va c.val.length vc] 47)) fun e w' => e = .returned (.tuple #[.bool (maR t r [c]), .int .i64 (maC t r [c])]) ∧ BoxF 39 43 47 w w' #[.string ⟨t.nm.toArray⟩, .slice ca t.cols.length cc, .slice ua t.uq.length uc, .bool t.rt] #[.int .i64 r.id, .slice ra r.cells.length rc] #[.string ⟨c.col.toArray⟩, .int .i64 c.fn, .slice va c.val.length vc]) := fun W h =>
    have hB : Below w.heap.size w (W.alloc (.cells #[.string ⟨c.col.toArray⟩, .int .i64 c.fn, .slice va c.val.length vc] 47)) := h.bel.trans ((below_allocD _ _).mono h.bel.size)
    (matchesAllI t ca cc ua uc A r ra rc R [c] (some ⟨W.heap.size, 0, none⟩) 1 (fun _ => True) (W.alloc (.cells #[.string ⟨c.col.toArray⟩, .int .i64 c.fn, .slice va c.val.length vc] 47)) ho (le_cond1 hn hf hl) hrm hid hr (hTab.later h0w hB) (Nat.lt_of_lt_of_le h0w hB.size) (hT.later hB) (hR.later hB) (rd_cond1 _ (hV.later h.bel))).mono (fun e w' ⟨he, hB'⟩ => ⟨he, (h.later (below_allocD _ _)).later hB'⟩)
  have HO := Lib.hid (maOne t r c)
  have hb := boxF 39 43 47 w #[.string ⟨t.nm.toArray⟩, .slice ca t.cols.length cc, .slice ua t.uq.length uc, .bool t.rt] #[.int .i64 r.id, .slice ra r.cells.length rc] #[.string ⟨c.col.toArray⟩, .int .i64 c.fn, .slice va c.val.length vc]
  have HB := Lib.hid hb
  have x0 := cell_at (o := 0) hb.a rfl
  have x1 := cell_at (o := 1) hb.a rfl
  have x2 := cell_at (o := 2) hb.a rfl
  have x3 := cell_at (o := 3) hb.a rfl
  have y0 := cell_at (o := 0) hb.b rfl
  have y1 := cell_at (o := 1) hb.b rfl
  have z0 := cell_at (o := 0) hb.c rfl
  have z1 := cell_at (o := 1) hb.c rfl
  have z2 := cell_at (o := 2) hb.c rfl
  clear ho hn hf hl hr hrm hid hTab h0w hT hR hV hb
  rw [HO.out.1, HO.out.2] at MA
  have M0 := MA.out _ HB.out
  simp only [size_allocD] at M0
  have HM0 := Lib.hid M0
  clear M0 MA
  go_enter Tryz.func12, Tryz.ntmps12
  go_wp2_with fail
  with_reducible refine HM0.out.mono ?_
  rintro e w1 ⟨rfl, hb⟩
  have HB1 := Lib.hid hb
  clear x0 x1 x2 x3 y0 y1 z0 z1 z2 hb
  go_wp2_with fail
  go_ret2
  exact ⟨rfl, HB1.out.bel⟩
end Go.Proofs.YtdioppekeekilaaGreatDoor
