import Derived.Test.YtpjjpdbmooiplaaGreatDoorXbt
import Derived.Test.YtpjjpdbmooiplaaGreatDoorXbr
namespace Go.Proofs.YtpjjpdbmooiplaaGreatDoor
open Go.RowKit
set_option linter.unusedSimpArgs false
theorem maOne (t : Tb) (r : RowV) (c : CondV) : maR t r [c] = mR t r c ∧ maC t r [c] = mC t r c := by
  have h1 : condsB [c] = condB c := by simp [condsB]
  have h2 : condsC t [c] = condC t c := by
    unfold condsC condsC
    by_cases h : condC t c = 0
    · rw [if_pos h, h]
    · rw [if_neg h]
  have h3 : allM t r [c] = matchC t r c := by simp [allM]
  unfold maR maC mR mC
  rw [h1, h2, h3]
  exact ⟨by rw [if_neg (by simp)], by rw [if_neg (by simp)]⟩
theorem rd_cond1 {W : World} {C : Nat → Prop} {c : CondV} {va : Option Addr} {vc : Nat} (ty : TypeId) (h : Rd W C (dAtomS c.val) (.slice va c.val.length vc)) : Rd (W.alloc (.cells #[.string ⟨c.col.toArray⟩, .int .i64 c.fn, .slice va c.val.length vc] ty)) (fun _ => True) (dCondS [c]) (.slice (some ⟨W.heap.size, 0, none⟩) [c].length 1) := by
  refine ⟨_, _, rfl, .inr ⟨W.heap.size, 0, rfl, trivial, by omega, fun i j hi hj => ?_⟩⟩
  have hi' : i = 0 := by simpa using hi
  subst hi'
  rw [Nat.zero_mul, Nat.add_zero, Nat.zero_add]
  rcases (by omega : j = 0 ∨ j = 1 ∨ j = 2) with rfl | rfl | rfl
  · exact ⟨_, cell_at (o := 0) (heap_newD _ _) rfl, rfl⟩
  · exact ⟨_, cell_at (o := 1) (heap_newD _ _) rfl, rfl⟩
  · exact ⟨_, cell_at (o := 2) (heap_newD _ _) rfl, (h.later (below_allocD _ _)).any⟩
theorem le_cond1 {c : CondV} (hn : c.col.length ≤ 1048576) (hf : iOK c.fn) (h : (dAtomS c.val).le 1048576) : (dCondS [c]).le 1048576 := by
  refine Ls_le.2 ⟨by omega, by simp, fun i hi j hj => ?_⟩
  have hi' : i = 0 := by simpa using hi
  subst hi'
  rcases (by omega : j = 0 ∨ j = 1 ∨ j = 2) with rfl | rfl | rfl
  · exact hn
  · exact hf
  · exact h
set_option maxRecDepth 100000 in
set_option maxHeartbeats 6400000 in
theorem matchesI (t : Tb) (ca : Option Addr) (cc : Nat) (ua : Option Addr) (uc : Nat) (A : Nat → Prop) (r : RowV) (ra : Option Addr) (rc : Nat) (R : Nat → Prop) (c : CondV) (va : Option Addr) (vc : Nat) (C : Nat → Prop) (w : World) (ho : t.ok) (hn : c.col.length ≤ 1048576) (hf : iOK c.fn) (hl : (dAtomS c.val).le 1048576) (hr : (dAtomSS r.cells).le 1048576) (hid : iOK r.id) (hTab : TabW w) (h0w : 0 < w.heap.size) (hT : t.Has w A ca ua) (hR : Rd w R (dAtomSS r.cells) (.slice ra r.cells.length rc)) (hV : Rd w C (dAtomS c.val) (.slice va c.val.length vc)) :
    Calls Tryz.prog 13 #[.agg #[.string ⟨t.nm.toArray⟩, .slice ca t.cols.length cc, .slice ua t.uq.length uc, .bool t.rt], .agg #[.int .i64 r.id, .slice ra r.cells.length rc], .agg #[.string ⟨c.col.toArray⟩, .int .i64 c.fn, .slice va c.val.length vc]] w fun e w' => e = .returned (.tuple #[.bool (mR t r c), .int .i64 (mC t r c)]) ∧ Below w.heap.size w w' := by
  have hrm : (dAtomSS r.cells).le maxLen := D.le.mono (by unfold maxLen; omega) _ hr
  have MA : Hid (∀ W, BoxF 39 43 47 w W #[.string ⟨t.nm.toArray⟩, .slice ca t.cols.length cc, .slice ua t.uq.length uc, .bool t.rt] #[.int .i64 r.id, .slice ra r.cells.length rc] #[.string ⟨c.col.toArray⟩, .int .i64 c.fn, .slice va c.val.length vc] → Calls Tryz.prog 20 #[.agg #[.string ⟨t.nm.toArray⟩, .slice ca t.cols.length cc, .slice ua t.uq.length uc, .bool t.rt], .agg #[.int .i64 r.id, .slice ra r.cells.length rc], .slice (some ⟨W.heap.size, 0, none⟩) 1 1] (W.alloc (.cells #[.string ⟨c.col.toArray⟩, .int .i64 c.fn, .slice va c.val.length vc] 47)) fun e w' => e = .returned (.tuple #[.bool (maR t r [c]), .int .i64 (maC t r [c])]) ∧ BoxF 39 43 47 w w' #[.string ⟨t.nm.toArray⟩, .slice ca t.cols.length cc, .slice ua t.uq.length uc, .bool t.rt] #[.int .i64 r.id, .slice ra r.cells.length rc] #[.string ⟨c.col.toArray⟩, .int .i64 c.fn, .slice va c.val.length vc]) := fun W h =>
    have hB : Below w.heap.size w (W.alloc (.cells #[.string ⟨c.col.toArray⟩, .int .i64 c.fn, .slice va c.val.length vc] 47)) := h.bel.trans ((below_allocD _ _).mono h.bel.size)
    (matchesAllI t ca cc ua uc A r ra rc R [c] (some ⟨W.heap.size, 0, none⟩) 1 (fun _ => True) (W.alloc (.cells #[.string ⟨c.col.toArray⟩, .int .i64 c.fn, .slice va c.val.length vc] 47)) ho (le_cond1 hn hf hl) hrm hid hr (hTab.later h0w hB) (Nat.lt_of_lt_of_le h0w hB.size) (hT.later hB) (hR.later hB) (rd_cond1 _ (hV.later h.bel))).mono (fun e w' ⟨he, hB'⟩ => ⟨he, (h.later (below_allocD _ _)).later hB'⟩)
  have HO := Lib.hid (maOne t r c)
  have hb := boxF 39 43 47 w #[.string ⟨t.nm.toArray⟩, .slice ca t.cols.length cc, .slice ua t.uq.length uc, .bool t.rt] #[.int .i64 r.id, .slice ra r.cells.length rc] #[.string ⟨c.col.toArray⟩, .int .i64 c.fn, .slice va c.val.length vc]
  have HB := Lib.hid hb
  have x0 := cell_at (o := 0) hb.a rfl
  have x1 := cell_at (o := 1) hb.a rfl
  have x2 := cell_at (o := 2) hb.a rfl
  have x3 := cell_at (o := 3) hb.a rfl
  have y0 := cell_at (o := 0) hb.b rfl
  have y1 := cell_at (o := 1) hb.b rfl
  have z0 := cell_at (o := 0) hb.c rfl
  have z1 := cell_at (o := 1) hb.c rfl
  have z2 := cell_at (o := 2) hb.c rfl
  clear ho hn hf hl hr hrm hid hTab h0w hT hR hV hb
  rw [HO.out.1, HO.out.2] at MA
  have M0 := MA.out _ HB.out
  simp only [size_allocD] at M0
  have HM0 := Lib.hid M0
  clear M0 MA
  go_enter Tryz.func13, Tryz.ntmps13
  go_wp2_with fail
  with_reducible refine HM0.out.mono ?_
  rintro e w1 ⟨rfl, hb⟩
  have HB1 := Lib.hid hb
  clear x0 x1 x2 x3 y0 y1 z0 z1 z2 hb
  go_wp2_with fail
  go_ret2
  exact ⟨rfl, HB1.out.bel⟩
end Go.Proofs.YtpjjpdbmooiplaaGreatDoor
