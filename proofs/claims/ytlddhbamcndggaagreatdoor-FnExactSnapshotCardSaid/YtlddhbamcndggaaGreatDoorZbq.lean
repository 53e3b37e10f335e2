import Derived.Test.YtlddhbamcndggaaGreatDoorZbb
import Derived.Test.YtlddhbamcndggaaGreatDoorZbc
import Derived.Test.YtlddhbamcndggaaGreatDoorZag
import Derived.Deep.RegionHeld3
import Derived.Test.YtlddhbamcndggaaGreatDoorZbn
import Derived.Test.YtlddhbamcndggaaGreatDoorZbi
import Derived.Test.YtlddhbamcndggaaGreatDoorZbl
import Derived.Test.YtlddhbamcndggaaGreatDoorZbp
import Derived.Test.YtlddhbamcndggaaGreatDoorZTk
namespace Go.Proofs.YtlddhbamcndggaaGreatDoor
open Go.RowKit
set_option linter.unusedSimpArgs false
noncomputable def ownB (t : Tb) (s : List UInt8) : Bool := decide (0 ≤ placeC t.cols s)
noncomputable def owK (t : Tb) (l : List (List UInt8)) : Int := if l.all (ownB t) = true then 0 else 11
theorem owK_no {t : Tb} {l : List (List UInt8)} {k : Nat} (hk : k < l.length) (h : ownB t l[k] = false) : owK t l = 11 := by
 unfold owK; rw [if_neg]; intro hn
 rw [List.all_eq_true.1 hn _ (List.getElem_mem hk)] at h; simp at h
theorem owK_yes {t : Tb} {l : List (List UInt8)} (h : ∀ k (hk : k < l.length), ownB t l[k] = true) : owK t l = 0 := by
 unfold owK; rw [if_pos]
 exact List.all_eq_true.2 (fun x hx => by obtain ⟨k, hk, rfl⟩ := List.mem_iff_getElem.1 hx; exact h k hk)
theorem moT_ow (t : Tb) (m : MoV) : moT t m = if owK t m.cs = 0 then condsC t m.wh else 11 := by
 unfold moT owK
 show (if m.cs.all (ownB t) = true then _ else _) = _
 by_cases h : m.cs.all (ownB t) = true
 ·
  rw [if_pos h, if_pos h, if_pos rfl]
 ·
  rw [if_neg h, if_neg h, if_neg (by omega)]
theorem owK_two (t : Tb) (l : List (List UInt8)) : owK t l = 0 ∨ owK t l = 11 := by
  unfold owK
  by_cases h : l.all (ownB t) = true
  · rw [if_pos h]; exact .inl rfl
  · rw [if_neg h]; exact .inr rfl
set_option maxRecDepth 100000 in
set_option maxHeartbeats 6400000 in
theorem ownColI (t : Tb) (s : List UInt8) (ca : Option Addr) (cc : Nat) (ua : Option Addr) (uc : Nat) (B : Nat → Prop) (w : World) (ho : t.ok) (hT : t.Has w B ca ua) :
  Calls Tryz.prog 76 #[.agg #[.string ⟨t.nm.toArray⟩, .slice ca t.cols.length cc, .slice ua t.uq.length uc, .bool t.rt], .string ⟨s.toArray⟩] w fun e w' => e = .returned (.int .i64 (if ownB t s = true then 0 else 11)) ∧ Below w.heap.size w w' := by
 have hcl : t.cols.length ≤ maxLen := ho.2.1
 have AC : Hid (∀ W, BoxD 75 w W #[.string ⟨t.nm.toArray⟩, .slice ca t.cols.length cc, .slice ua t.uq.length uc, .bool t.rt] → Calls Tryz.prog 116 #[.agg #[.string ⟨t.nm.toArray⟩, .slice ca t.cols.length cc, .slice ua t.uq.length uc, .bool t.rt], .string ⟨s.toArray⟩] W fun e w' => e = .returned (.int .i64 (placeC t.cols s)) ∧ BoxD 75 w w' #[.string ⟨t.nm.toArray⟩, .slice ca t.cols.length cc, .slice ua t.uq.length uc, .bool t.rt]) := fun W h => (placeI t s ca cc ua uc B W hcl (hT.later h.2)).mono (fun e w' ⟨he, hB⟩ => ⟨he, h.later hB⟩)
 have hb := boxD 75 w #[.string ⟨t.nm.toArray⟩, .slice ca t.cols.length cc, .slice ua t.uq.length uc, .bool t.rt]
 have HB := Lib.hid hb
 have x0 := cell_at (o := 0) hb.1 rfl
 have x1 := cell_at (o := 1) hb.1 rfl
 have x2 := cell_at (o := 2) hb.1 rfl
 have x3 := cell_at (o := 3) hb.1 rfl
 clear ho hT hb hcl
 rcases place_cases t.cols s with ha | ⟨k, hk, ha⟩
 ·
  have HO : Hid (ownB t s = false) := by show ownB t s = false; unfold ownB; rw [ha]; rfl
  rw [HO.out, if_neg (by decide)]
  rw [ha] at AC
  clear ha
  go_enter Tryz.func76, Tryz.ntmps76
  go_wp2_with fail
  refine (AC.out _ HB.out).mono ?_
  rintro e w1 ⟨rfl, hb⟩
  have HB1 := Lib.hid hb.2
  clear hb x0 x1 x2 x3
  go_wp2_with fail
  go_ret
  exact ⟨rfl, HB1.out⟩
 ·
  have HO : Hid (ownB t s = true) := by show ownB t s = true; unfold ownB; rw [ha]; exact decide_eq_true (by omega)
  rw [HO.out, if_pos rfl]
  rw [ha] at AC
  have dk : decide ((k : Int) < 0) = false := decide_eq_false (by omega)
  clear ha hk
  go_enter Tryz.func76, Tryz.ntmps76
  go_wp2_with fail
  refine (AC.out _ HB.out).mono ?_
  rintro e w1 ⟨rfl, hb⟩
  have HB1 := Lib.hid hb.2
  clear hb x0 x1 x2 x3
  go_wp2_with fail
  go_ret
  exact ⟨rfl, HB1.out⟩
set_option maxRecDepth 100000 in
set_option maxHeartbeats 6400000 in
theorem firstOwnI (t : Tb) (ca : Option Addr) (cc : Nat) (ua : Option Addr) (uc : Nat) (A : Nat → Prop) (list : List (List UInt8)) (a : Option Addr) (c : Nat) (B : Nat → Prop) (w : World) (hto : t.ok) (ho : (dStringS list).le maxLen) (hT : t.Has w A ca ua) (hL : Rd w B (dStringS list) (.slice a list.length c)) :
  Calls Tryz.prog 75 #[.agg #[.string ⟨t.nm.toArray⟩, .slice ca t.cols.length cc, .slice ua t.uq.length uc, .bool t.rt], .slice a list.length c, .func (.func 76) #[] #[]] w fun e w' => e = .returned (.int .i64 (owK t list)) ∧ Below w.heap.size w w' := by
 have HL : Hid (∀ W, Below w.heap.size w W → Rd W B (Ls 1 cString list) (.slice a list.length c)) := fun W h => Rd.later hL h
 have HT : Hid (t.ok ∧ ∀ W, Below w.heap.size w W → t.Has W A ca ua) := ⟨hto, fun W h => hT.later h⟩
 have hll : list.length ≤ maxLen := (Ls_le.1 ho).2.1
 unfold maxLen at hll
 have HX := Lib.hid (boxD 75 w #[.string ⟨t.nm.toArray⟩, .slice ca t.cols.length cc, .slice ua t.uq.length uc, .bool t.rt])
 clear ho hL hT hto
 go_enter Tryz.func75, Tryz.ntmps75
 go_wp2_with fail
 go_loopw [11] (fun i wr => ∃ k : Nat, k ≤ list.length ∧ i = .int .i64 k ∧ Hid ((∀ m (h : m < list.length), m < k → ownB t list[m] = true) ∧ BoxD 75 w wr #[.string ⟨t.nm.toArray⟩, .slice ca t.cols.length cc, .slice ua t.uq.length uc, .bool t.rt])) (fun i _ => list.length - (intOf i).toNat)
 case atStart => exact ⟨0, Nat.zero_le _, rfl, fun m _ h => absurd h (by omega), HX.out⟩
 case round =>
  obtain ⟨k, hk, rfl, HW⟩ := hrel
  by_cases hlt : k < list.length
  case neg =>
   have hki : decide ((k : Int) < (list.length : Int)) = false := by simp; omega
   have HR : Hid (owK t list = 0) := owK_yes (fun m h => HW.out.1 m h (by omega))
   go_wp2_with fail
   go_ret
   exact ⟨ret_i HR.out.symm, HW.out.2.2⟩
  have hki : (k : Int) < (list.length : Int) := by omega
  obtain ⟨b, off, rfl, -, hc⟩ := (HL.out _ HW.out.2.2).things k hlt
  clear hc
  have HNO : Hid (ownB t list[k] = false → owK t list = 11) := fun h => owK_no hlt h
  have HNX : Hid (ownB t list[k] = true → ∀ m (h : m < list.length), m < k + 1 → ownB t list[m] = true) := fun he m h hm => by
   by_cases e : m = k
   ·
    subst e; exact he
   ·
    exact HW.out.1 m h (by omega)
  have CC : Hid (∀ W, Below wr.heap.size wr W → Calls Tryz.prog 76 #[.agg #[.string ⟨t.nm.toArray⟩, .slice ca t.cols.length cc, .slice ua t.uq.length uc, .bool t.rt], .string ⟨list[k].toArray⟩] W fun e w' => e = .returned (.int .i64 (if ownB t list[k] = true then 0 else 11)) ∧ Below W.heap.size W w') := fun W h => ownColI t list[k] ca cc ua uc A W HT.out.1 (HT.out.2 W (HW.out.2.2.trans (h.mono HW.out.2.2.size)))
  have CX : Hid (∀ W, Below wr.heap.size wr W → W.cell? ⟨w.heap.size, 0, none⟩ = some (.string ⟨t.nm.toArray⟩) ∧ W.cell? ⟨w.heap.size, 1, none⟩ = some (.slice ca t.cols.length cc) ∧ W.cell? ⟨w.heap.size, 2, none⟩ = some (.slice ua t.uq.length uc) ∧ W.cell? ⟨w.heap.size, 3, none⟩ = some (.bool t.rt) ∧ W.cell? ⟨b, off + k, none⟩ = some (.string ⟨list[k].toArray⟩)) := fun W h => ⟨cell_at (o := 0) (HW.out.2.later h).1 rfl, cell_at (o := 1) (HW.out.2.later h).1 rfl, cell_at (o := 2) (HW.out.2.later h).1 rfl, cell_at (o := 3) (HW.out.2.later h).1 rfl, by
   obtain ⟨u, e, hr⟩ := (HL.out W (HW.out.2.later h).2).spotT hlt (j := 0) (by omega)
   obtain rfl : u = .string ⟨list[k].toArray⟩ := hr
   rw [Nat.mul_one, Nat.add_zero] at e
   exact e⟩
  generalize list[k] = x at *
  go_wp2_with fail
  refine wp_region_held_drew (S := (fun W => W.cell? ⟨w.heap.size, 0, none⟩ = some (.string ⟨t.nm.toArray⟩) ∧ W.cell? ⟨w.heap.size, 1, none⟩ = some (.slice ca t.cols.length cc) ∧ W.cell? ⟨w.heap.size, 2, none⟩ = some (.slice ua t.uq.length uc) ∧ W.cell? ⟨w.heap.size, 3, none⟩ = some (.bool t.rt) ∧ W.cell? ⟨b, off + k, none⟩ = some (.string ⟨x.toArray⟩))) (by kernel_rfl) ?_ (fun hHeld => ?_)
  ·
   (first | exact CX.out _ (Below.refl _ _) | exact CX.out _ (Below.refl _ _).drew | exact CX.out _ BW.out)
  refine tkB (i := 0) ?_
  refine tkB (i := 1) ?_
  refine tkB (i := 2) ?_
  refine tkB (i := 3) ?_
  refine tkB (i := 4) ?_
  refine tkB (i := 5) ?_
  refine tkR (i := 6) (fun K hK => ?_)
  go_simp
  (go_at_call 76; refine (CC.out _ (Below.refl _ _).drew).mono ?_; rintro e w1 ⟨rfl, hB1⟩; have BW : Hid (Below wr.heap.size wr w1) := (Below.refl _ _).drew.trans hB1; clear hB1)
  refine hK.out _ _ ?_ (fun hHeld => ?_)
  ·
   (first | exact CX.out _ (Below.refl _ _) | exact CX.out _ (Below.refl _ _).drew | exact CX.out _ BW.out)
  clear hK K
  try simp only [Act.put, tkS]
  refine tkB (i := 7) ?_
  refine wpAnyH_done (by kernel_rfl) ?_ _
  have HB1 := Lib.hid (HW.out.2.later BW.out)
  cases he : ownB t x
  case false =>
   have HR := Lib.hid (HNO.out he)
   rw [if_neg (by decide)]
   clear HNO HNX he CC
   go_wp2_with fail
   go_ret
   exact ⟨ret_i HR.out.symm, HB1.out.2⟩
  have HN := Lib.hid (HNX.out he)
  rw [if_pos rfl]
  clear HNO HNX he CC
  go_wp2_with fail
  go_roundw
  case rel => exact ⟨k + 1, by omega, by go_num, HN.out, HB1.out⟩
  case measure => simp [intOf]; omega
theorem mo_parts (m : MoV) : moB m = (nameB m.nm && (shortB m.tb && ((m.cs.all shortB && decide (m.cs.length ≤ 6)) && condsB m.wh))) := by
 unfold moB
 show (_ && (shortB m.tb && (decide (m.cs.length ≤ 6) && (condsB m.wh && m.cs.all shortB)))) = _
 cases nameB m.nm <;> cases shortB m.tb <;> cases decide (m.cs.length ≤ 6) <;> cases condsB m.wh <;> cases m.cs.all shortB <;> rfl
set_option maxRecDepth 100000 in
set_option maxHeartbeats 6400000 in
theorem monOKi (m : MoV) (a2 : Option Addr) (c2 : Nat) (a7 : Option Addr) (c7 : Nat) (B : Nat → Prop) (w : World) (hn : m.nm.length ≤ maxLen) (ht : m.tb.length ≤ maxLen) (hc : (dStringS m.cs).le maxLen) (hw : (dCondS m.wh).le maxLen) (rc : Rd w B (dStringS m.cs) (.slice a2 m.cs.length c2)) (rh : Rd w B (dCondS m.wh) (.slice a7 m.wh.length c7)) :
  Calls Tryz.prog 35 #[.agg #[.string ⟨m.nm.toArray⟩, .string ⟨m.tb.toArray⟩, .slice a2 m.cs.length c2, .bool m.ini, .bool m.ins, .bool m.del, .bool m.mod, .slice a7 m.wh.length c7]] w fun e w' => e = .returned (.bool (moB m)) ∧ Below w.heap.size w w' := by
 rw [mo_parts]
 have K0 : Hid (∀ W, BoxD 48 w W #[.string ⟨m.nm.toArray⟩, .string ⟨m.tb.toArray⟩, .slice a2 m.cs.length c2, .bool m.ini, .bool m.ins, .bool m.del, .bool m.mod, .slice a7 m.wh.length c7] → Calls Tryz.prog 69 #[.string ⟨m.nm.toArray⟩] W fun e w' => e = .returned (.bool (nameB m.nm)) ∧ BoxD 48 w w' #[.string ⟨m.nm.toArray⟩, .string ⟨m.tb.toArray⟩, .slice a2 m.cs.length c2, .bool m.ini, .bool m.ins, .bool m.del, .bool m.mod, .slice a7 m.wh.length c7]) := fun W h => (nameI m.nm W hn).mono (fun e w' ⟨h1, h2⟩ => ⟨h1, by rw [h2]; exact h⟩)
 have K1 : Hid (∀ W, BoxD 48 w W #[.string ⟨m.nm.toArray⟩, .string ⟨m.tb.toArray⟩, .slice a2 m.cs.length c2, .bool m.ini, .bool m.ins, .bool m.del, .bool m.mod, .slice a7 m.wh.length c7] → Calls Tryz.prog 70 #[.string ⟨m.tb.toArray⟩] W fun e w' => e = .returned (.bool (shortB m.tb)) ∧ BoxD 48 w w' #[.string ⟨m.nm.toArray⟩, .string ⟨m.tb.toArray⟩, .slice a2 m.cs.length c2, .bool m.ini, .bool m.ins, .bool m.del, .bool m.mod, .slice a7 m.wh.length c7]) := fun W h => (shortI m.tb W ht).mono (fun e w' ⟨h1, h2⟩ => ⟨h1, by rw [h2]; exact h⟩)
 have K2 : Hid (∀ W, BoxD 48 w W #[.string ⟨m.nm.toArray⟩, .string ⟨m.tb.toArray⟩, .slice a2 m.cs.length c2, .bool m.ini, .bool m.ins, .bool m.del, .bool m.mod, .slice a7 m.wh.length c7] → Calls Tryz.prog 71 #[.slice a2 m.cs.length c2, .int .i64 6, .func (.func 70) #[] #[]] W fun e w' => e = .returned (.bool (m.cs.all shortB && decide (m.cs.length ≤ 6))) ∧ BoxD 48 w w' #[.string ⟨m.nm.toArray⟩, .string ⟨m.tb.toArray⟩, .slice a2 m.cs.length c2, .bool m.ini, .bool m.ins, .bool m.del, .bool m.mod, .slice a7 m.wh.length c7]) := fun W h => (fewShortI m.cs a2 c2 B W hc (rc.later h.2)).mono (fun e w' ⟨h1, h2⟩ => ⟨h1, h.later h2⟩)
 have K3 : Hid (∀ W, BoxD 48 w W #[.string ⟨m.nm.toArray⟩, .string ⟨m.tb.toArray⟩, .slice a2 m.cs.length c2, .bool m.ini, .bool m.ins, .bool m.del, .bool m.mod, .slice a7 m.wh.length c7] → Calls Tryz.prog 72 #[.slice a7 m.wh.length c7, .int .i64 8, .func (.func 73) #[] #[]] W fun e w' => e = .returned (.bool (condsB m.wh)) ∧ BoxD 48 w w' #[.string ⟨m.nm.toArray⟩, .string ⟨m.tb.toArray⟩, .slice a2 m.cs.length c2, .bool m.ini, .bool m.ins, .bool m.del, .bool m.mod, .slice a7 m.wh.length c7]) := fun W h => (fewI m.wh a7 c7 B W hw (rh.later h.2)).mono (fun e w' ⟨h1, h2⟩ => ⟨h1, h.later h2⟩)
 have HB0 := Lib.hid (boxD 48 w #[.string ⟨m.nm.toArray⟩, .string ⟨m.tb.toArray⟩, .slice a2 m.cs.length c2, .bool m.ini, .bool m.ins, .bool m.del, .bool m.mod, .slice a7 m.wh.length c7])
 clear hn ht hc hw rc rh
 generalize (m.cs.all shortB && decide (m.cs.length ≤ 6)) = b2 at *
 generalize condsB m.wh = b3 at *
 generalize shortB m.tb = b1 at *
 generalize nameB m.nm = b0 at *
 have y0 := cell_at (o := 0) HB0.out.1 rfl
 have y1 := cell_at (o := 1) HB0.out.1 rfl
 have y2 := cell_at (o := 2) HB0.out.1 rfl
 have y3 := cell_at (o := 3) HB0.out.1 rfl
 have y4 := cell_at (o := 4) HB0.out.1 rfl
 have y5 := cell_at (o := 5) HB0.out.1 rfl
 have y6 := cell_at (o := 6) HB0.out.1 rfl
 have y7 := cell_at (o := 7) HB0.out.1 rfl
 cases b0
 case false =>
  go_enter Tryz.func35, Tryz.ntmps35
  go_wp2_with fail
  refine (K0.out _ HB0.out).mono ?_
  rintro e w1 ⟨rfl, hb⟩
  have HB1 := Lib.hid hb
  clear hb y0 y1 y2 y3 y4 y5 y6 y7
  have y0 := cell_at (o := 0) HB1.out.1 rfl
  have y1 := cell_at (o := 1) HB1.out.1 rfl
  have y2 := cell_at (o := 2) HB1.out.1 rfl
  have y3 := cell_at (o := 3) HB1.out.1 rfl
  have y4 := cell_at (o := 4) HB1.out.1 rfl
  have y5 := cell_at (o := 5) HB1.out.1 rfl
  have y6 := cell_at (o := 6) HB1.out.1 rfl
  have y7 := cell_at (o := 7) HB1.out.1 rfl
  go_wp2_with fail
  go_ret
  exact ⟨rfl, HB1.out.2⟩
 cases b1
 case false =>
  go_enter Tryz.func35, Tryz.ntmps35
  go_wp2_with fail
  refine (K0.out _ HB0.out).mono ?_
  rintro e w1 ⟨rfl, hb⟩
  have HB1 := Lib.hid hb
  clear hb y0 y1 y2 y3 y4 y5 y6 y7
  have y0 := cell_at (o := 0) HB1.out.1 rfl
  have y1 := cell_at (o := 1) HB1.out.1 rfl
  have y2 := cell_at (o := 2) HB1.out.1 rfl
  have y3 := cell_at (o := 3) HB1.out.1 rfl
  have y4 := cell_at (o := 4) HB1.out.1 rfl
  have y5 := cell_at (o := 5) HB1.out.1 rfl
  have y6 := cell_at (o := 6) HB1.out.1 rfl
  have y7 := cell_at (o := 7) HB1.out.1 rfl
  go_wp2_with fail
  refine (K1.out _ HB1.out).mono ?_
  rintro e w2 ⟨rfl, hb⟩
  have HB2 := Lib.hid hb
  clear hb y0 y1 y2 y3 y4 y5 y6 y7
  have y0 := cell_at (o := 0) HB2.out.1 rfl
  have y1 := cell_at (o := 1) HB2.out.1 rfl
  have y2 := cell_at (o := 2) HB2.out.1 rfl
  have y3 := cell_at (o := 3) HB2.out.1 rfl
  have y4 := cell_at (o := 4) HB2.out.1 rfl
  have y5 := cell_at (o := 5) HB2.out.1 rfl
  have y6 := cell_at (o := 6) HB2.out.1 rfl
  have y7 := cell_at (o := 7) HB2.out.1 rfl
  go_wp2_with fail
  go_ret
  exact ⟨rfl, HB2.out.2⟩
 cases b2
 case false =>
  go_enter Tryz.func35, Tryz.ntmps35
  go_wp2_with fail
  refine (K0.out _ HB0.out).mono ?_
  rintro e w1 ⟨rfl, hb⟩
  have HB1 := Lib.hid hb
  clear hb y0 y1 y2 y3 y4 y5 y6 y7
  have y0 := cell_at (o := 0) HB1.out.1 rfl
  have y1 := cell_at (o := 1) HB1.out.1 rfl
  have y2 := cell_at (o := 2) HB1.out.1 rfl
  have y3 := cell_at (o := 3) HB1.out.1 rfl
  have y4 := cell_at (o := 4) HB1.out.1 rfl
  have y5 := cell_at (o := 5) HB1.out.1 rfl
  have y6 := cell_at (o := 6) HB1.out.1 rfl
  have y7 := cell_at (o := 7) HB1.out.1 rfl
  go_wp2_with fail
  refine (K1.out _ HB1.out).mono ?_
  rintro e w2 ⟨rfl, hb⟩
  have HB2 := Lib.hid hb
  clear hb y0 y1 y2 y3 y4 y5 y6 y7
  have y0 := cell_at (o := 0) HB2.out.1 rfl
  have y1 := cell_at (o := 1) HB2.out.1 rfl
  have y2 := cell_at (o := 2) HB2.out.1 rfl
  have y3 := cell_at (o := 3) HB2.out.1 rfl
  have y4 := cell_at (o := 4) HB2.out.1 rfl
  have y5 := cell_at (o := 5) HB2.out.1 rfl
  have y6 := cell_at (o := 6) HB2.out.1 rfl
  have y7 := cell_at (o := 7) HB2.out.1 rfl
  go_wp2_with fail
  refine (K2.out _ HB2.out).mono ?_
  rintro e w3 ⟨rfl, hb⟩
  have HB3 := Lib.hid hb
  clear hb y0 y1 y2 y3 y4 y5 y6 y7
  have y0 := cell_at (o := 0) HB3.out.1 rfl
  have y1 := cell_at (o := 1) HB3.out.1 rfl
  have y2 := cell_at (o := 2) HB3.out.1 rfl
  have y3 := cell_at (o := 3) HB3.out.1 rfl
  have y4 := cell_at (o := 4) HB3.out.1 rfl
  have y5 := cell_at (o := 5) HB3.out.1 rfl
  have y6 := cell_at (o := 6) HB3.out.1 rfl
  have y7 := cell_at (o := 7) HB3.out.1 rfl
  go_wp2_with fail
  go_ret
  exact ⟨rfl, HB3.out.2⟩
 cases b3
 case false =>
  go_enter Tryz.func35, Tryz.ntmps35
  go_wp2_with fail
  refine (K0.out _ HB0.out).mono ?_
  rintro e w1 ⟨rfl, hb⟩
  have HB1 := Lib.hid hb
  clear hb y0 y1 y2 y3 y4 y5 y6 y7
  have y0 := cell_at (o := 0) HB1.out.1 rfl
  have y1 := cell_at (o := 1) HB1.out.1 rfl
  have y2 := cell_at (o := 2) HB1.out.1 rfl
  have y3 := cell_at (o := 3) HB1.out.1 rfl
  have y4 := cell_at (o := 4) HB1.out.1 rfl
  have y5 := cell_at (o := 5) HB1.out.1 rfl
  have y6 := cell_at (o := 6) HB1.out.1 rfl
  have y7 := cell_at (o := 7) HB1.out.1 rfl
  go_wp2_with fail
  refine (K1.out _ HB1.out).mono ?_
  rintro e w2 ⟨rfl, hb⟩
  have HB2 := Lib.hid hb
  clear hb y0 y1 y2 y3 y4 y5 y6 y7
  have y0 := cell_at (o := 0) HB2.out.1 rfl
  have y1 := cell_at (o := 1) HB2.out.1 rfl
  have y2 := cell_at (o := 2) HB2.out.1 rfl
  have y3 := cell_at (o := 3) HB2.out.1 rfl
  have y4 := cell_at (o := 4) HB2.out.1 rfl
  have y5 := cell_at (o := 5) HB2.out.1 rfl
  have y6 := cell_at (o := 6) HB2.out.1 rfl
  have y7 := cell_at (o := 7) HB2.out.1 rfl
  go_wp2_with fail
  refine (K2.out _ HB2.out).mono ?_
  rintro e w3 ⟨rfl, hb⟩
  have HB3 := Lib.hid hb
  clear hb y0 y1 y2 y3 y4 y5 y6 y7
  have y0 := cell_at (o := 0) HB3.out.1 rfl
  have y1 := cell_at (o := 1) HB3.out.1 rfl
  have y2 := cell_at (o := 2) HB3.out.1 rfl
  have y3 := cell_at (o := 3) HB3.out.1 rfl
  have y4 := cell_at (o := 4) HB3.out.1 rfl
  have y5 := cell_at (o := 5) HB3.out.1 rfl
  have y6 := cell_at (o := 6) HB3.out.1 rfl
  have y7 := cell_at (o := 7) HB3.out.1 rfl
  go_wp2_with fail
  refine (K3.out _ HB3.out).mono ?_
  rintro e w4 ⟨rfl, hb⟩
  have HB4 := Lib.hid hb
  clear hb y0 y1 y2 y3 y4 y5 y6 y7
  have y0 := cell_at (o := 0) HB4.out.1 rfl
  have y1 := cell_at (o := 1) HB4.out.1 rfl
  have y2 := cell_at (o := 2) HB4.out.1 rfl
  have y3 := cell_at (o := 3) HB4.out.1 rfl
  have y4 := cell_at (o := 4) HB4.out.1 rfl
  have y5 := cell_at (o := 5) HB4.out.1 rfl
  have y6 := cell_at (o := 6) HB4.out.1 rfl
  have y7 := cell_at (o := 7) HB4.out.1 rfl
  go_wp2_with fail
  go_ret
  exact ⟨rfl, HB4.out.2⟩
 go_enter Tryz.func35, Tryz.ntmps35
 go_wp2_with fail
 refine (K0.out _ HB0.out).mono ?_
 rintro e w1 ⟨rfl, hb⟩
 have HB1 := Lib.hid hb
 clear hb y0 y1 y2 y3 y4 y5 y6 y7
 have y0 := cell_at (o := 0) HB1.out.1 rfl
 have y1 := cell_at (o := 1) HB1.out.1 rfl
 have y2 := cell_at (o := 2) HB1.out.1 rfl
 have y3 := cell_at (o := 3) HB1.out.1 rfl
 have y4 := cell_at (o := 4) HB1.out.1 rfl
 have y5 := cell_at (o := 5) HB1.out.1 rfl
 have y6 := cell_at (o := 6) HB1.out.1 rfl
 have y7 := cell_at (o := 7) HB1.out.1 rfl
 go_wp2_with fail
 refine (K1.out _ HB1.out).mono ?_
 rintro e w2 ⟨rfl, hb⟩
 have HB2 := Lib.hid hb
 clear hb y0 y1 y2 y3 y4 y5 y6 y7
 have y0 := cell_at (o := 0) HB2.out.1 rfl
 have y1 := cell_at (o := 1) HB2.out.1 rfl
 have y2 := cell_at (o := 2) HB2.out.1 rfl
 have y3 := cell_at (o := 3) HB2.out.1 rfl
 have y4 := cell_at (o := 4) HB2.out.1 rfl
 have y5 := cell_at (o := 5) HB2.out.1 rfl
 have y6 := cell_at (o := 6) HB2.out.1 rfl
 have y7 := cell_at (o := 7) HB2.out.1 rfl
 go_wp2_with fail
 refine (K2.out _ HB2.out).mono ?_
 rintro e w3 ⟨rfl, hb⟩
 have HB3 := Lib.hid hb
 clear hb y0 y1 y2 y3 y4 y5 y6 y7
 have y0 := cell_at (o := 0) HB3.out.1 rfl
 have y1 := cell_at (o := 1) HB3.out.1 rfl
 have y2 := cell_at (o := 2) HB3.out.1 rfl
 have y3 := cell_at (o := 3) HB3.out.1 rfl
 have y4 := cell_at (o := 4) HB3.out.1 rfl
 have y5 := cell_at (o := 5) HB3.out.1 rfl
 have y6 := cell_at (o := 6) HB3.out.1 rfl
 have y7 := cell_at (o := 7) HB3.out.1 rfl
 go_wp2_with fail
 refine (K3.out _ HB3.out).mono ?_
 rintro e w4 ⟨rfl, hb⟩
 have HB4 := Lib.hid hb
 clear hb y0 y1 y2 y3 y4 y5 y6 y7
 have y0 := cell_at (o := 0) HB4.out.1 rfl
 have y1 := cell_at (o := 1) HB4.out.1 rfl
 have y2 := cell_at (o := 2) HB4.out.1 rfl
 have y3 := cell_at (o := 3) HB4.out.1 rfl
 have y4 := cell_at (o := 4) HB4.out.1 rfl
 have y5 := cell_at (o := 5) HB4.out.1 rfl
 have y6 := cell_at (o := 6) HB4.out.1 rfl
 have y7 := cell_at (o := 7) HB4.out.1 rfl
 go_wp2_with fail
 go_ret
 exact ⟨rfl, HB4.out.2⟩
set_option maxRecDepth 100000 in
set_option maxHeartbeats 6400000 in
theorem mcodeI (l : List Tb) (sa : Option Addr) (sc : Nat) (A : Nat → Prop) (m : MoV) (a2 : Option Addr) (c2 : Nat) (a7 : Option Addr) (c7 : Nat) (B : Nat → Prop) (w : World) (hlo : (dTableS l).le maxLen) (hc : (dStringS m.cs).le maxLen) (hw : (dCondS m.wh).le maxLen) (hT : Rd w A (dTableS l) (.slice sa l.length sc)) (rc : Rd w B (dStringS m.cs) (.slice a2 m.cs.length c2)) (rh : Rd w B (dCondS m.wh) (.slice a7 m.wh.length c7)) :
  Calls Tryz.prog 36 #[.agg #[.slice sa l.length sc], .agg #[.string ⟨m.nm.toArray⟩, .string ⟨m.tb.toArray⟩, .slice a2 m.cs.length c2, .bool m.ini, .bool m.ins, .bool m.del, .bool m.mod, .slice a7 m.wh.length c7]] w fun e w' => e = .returned (.int .i64 (moC l m)) ∧ Below w.heap.size w w' := by
 have TQ : Hid (∀ W, BoxE 40 48 w W #[.slice sa l.length sc] #[.string ⟨m.nm.toArray⟩, .string ⟨m.tb.toArray⟩, .slice a2 m.cs.length c2, .bool m.ini, .bool m.ins, .bool m.del, .bool m.mod, .slice a7 m.wh.length c7] → Calls Tryz.prog 74 #[.agg #[.slice sa l.length sc], .string ⟨m.tb.toArray⟩] W (TcAns l m.tb A w W)) := fun W h => tabCalledI l m.tb sa sc A w W h.bel hlo hT
 have HB0 := Lib.hid (boxE 40 48 w #[.slice sa l.length sc] #[.string ⟨m.nm.toArray⟩, .string ⟨m.tb.toArray⟩, .slice a2 m.cs.length c2, .bool m.ini, .bool m.ins, .bool m.del, .bool m.mod, .slice a7 m.wh.length c7])
 have x0 := cell_at (o := 0) HB0.out.a rfl
 have y1 := cell_at (o := 1) HB0.out.b rfl
 rcases tpl_rng m.tb l with hp | ⟨k, hk, hp, -⟩
 ·
  have HE := Lib.hid (tabN_none hp)
  have HR := Lib.hid (mo_none hp)
  have TR : Hid (∀ W, BoxE 40 48 w W #[.slice sa l.length sc] #[.string ⟨m.nm.toArray⟩, .string ⟨m.tb.toArray⟩, .slice a2 m.cs.length c2, .bool m.ini, .bool m.ins, .bool m.del, .bool m.mod, .slice a7 m.wh.length c7] → Calls Tryz.prog 74 #[.agg #[.slice sa l.length sc], .string ⟨m.tb.toArray⟩] W fun e w' => ∃ ca cc ua uc, e = .returned (.tuple #[.agg #[.string ⟨tbZ.nm.toArray⟩, .slice ca tbZ.cols.length cc, .slice ua tbZ.uq.length uc, .bool tbZ.rt], .int .i64 10]) ∧ Below W.heap.size W w') := fun W h => (TQ.out W h).mono (fun e w' ⟨ca, cc, ua, uc, he, hh, hB⟩ => ⟨ca, cc, ua, uc, by rw [HE.out.1, HE.out.2] at he; exact he, hB⟩)
  clear hp hlo hT rc rh hc hw TQ
  go_enter Tryz.func36, Tryz.ntmps36
  go_wp2_with fail
  refine (TR.out _ HB0.out).mono ?_
  rintro e w1 ⟨ca, cc, ua, uc, rfl, hB⟩
  have HB1 := Lib.hid (HB0.out.bel.trans (hB.mono HB0.out.bel.size))
  clear hB x0 y1
  go_wp2_with fail
  go_ret
  exact ⟨ret_i HR.out.symm, HB1.out.trans ((below_allocD _ _).mono HB1.out.size)⟩
 have HE := Lib.hid (tabN_at hk hp)
 have HM := Lib.hid (mo_at hk hp)
 have HTO : Hid (l[k].ok) := by have := tabN_ok (s := m.tb) hlo; rw [HE.out.1] at this; exact this
 have TR : Hid (∀ W, BoxE 40 48 w W #[.slice sa l.length sc] #[.string ⟨m.nm.toArray⟩, .string ⟨m.tb.toArray⟩, .slice a2 m.cs.length c2, .bool m.ini, .bool m.ins, .bool m.del, .bool m.mod, .slice a7 m.wh.length c7] → Calls Tryz.prog 74 #[.agg #[.slice sa l.length sc], .string ⟨m.tb.toArray⟩] W fun e w' => ∃ ca cc ua uc, e = .returned (.tuple #[.agg #[.string ⟨l[k].nm.toArray⟩, .slice ca l[k].cols.length cc, .slice ua l[k].uq.length uc, .bool l[k].rt], .int .i64 0]) ∧ l[k].Has w A ca ua ∧ Below W.heap.size W w') := fun W h => (TQ.out W h).mono (fun e w' ⟨ca, cc, ua, uc, he, hh, hB⟩ => ⟨ca, cc, ua, uc, by rw [HE.out.1, HE.out.2] at he; exact he, by rw [HE.out.1] at hh; exact hh, hB⟩)
 have HC := Lib.hid hc
 have HW := Lib.hid hw
 have RC := Lib.hid rc
 have RH := Lib.hid rh
 clear HE hp hlo hT rc rh hc hw TQ
 generalize l[k] = t at *
 clear hk k
 go_enter Tryz.func36, Tryz.ntmps36
 go_wp2_with fail
 refine (TR.out _ HB0.out).mono ?_
 rintro e w1 ⟨ca, cc, ua, uc, rfl, hh, hB⟩
 have HB1 := Lib.hid (HB0.out.later hB)
 have HH := Lib.hid hh
 clear hB x0 y1 hh TR
 obtain ⟨V, hV⟩ : ∃ V, V = w1.alloc (.cells #[.string ⟨t.nm.toArray⟩, .slice ca t.cols.length cc, .slice ua t.uq.length uc, .bool t.rt] 75) := ⟨_, rfl⟩
 have HV := Lib.hid hV
 have htb : V.heap[w1.heap.size]? = some (.cells #[.string ⟨t.nm.toArray⟩, .slice ca t.cols.length cc, .slice ua t.uq.length uc, .bool t.rt] 75) := by rw [hV]; exact heap_newD _ _
 have HB2 : Hid (BoxE 40 48 w V #[.slice sa l.length sc] #[.string ⟨m.nm.toArray⟩, .string ⟨m.tb.toArray⟩, .slice a2 m.cs.length c2, .bool m.ini, .bool m.ins, .bool m.del, .bool m.mod, .slice a7 m.wh.length c7]) := by show BoxE 40 48 w V #[.slice sa l.length sc] #[.string ⟨m.nm.toArray⟩, .string ⟨m.tb.toArray⟩, .slice a2 m.cs.length c2, .bool m.ini, .bool m.ins, .bool m.del, .bool m.mod, .slice a7 m.wh.length c7]; rw [hV]; exact HB1.out.later (below_allocD _ _)
 obtain ⟨pt, hpt⟩ : ∃ pt, pt = w1.heap.size := ⟨_, rfl⟩
 have HPT := Lib.hid hpt
 have HTB := Lib.hid htb
 have K0 : Hid (∀ W, BoxE 40 48 w W #[.slice sa l.length sc] #[.string ⟨m.nm.toArray⟩, .string ⟨m.tb.toArray⟩, .slice a2 m.cs.length c2, .bool m.ini, .bool m.ins, .bool m.del, .bool m.mod, .slice a7 m.wh.length c7] → W.heap[w1.heap.size]? = some (.cells #[.string ⟨t.nm.toArray⟩, .slice ca t.cols.length cc, .slice ua t.uq.length uc, .bool t.rt] 75) → Calls Tryz.prog 75 #[.agg #[.string ⟨t.nm.toArray⟩, .slice ca t.cols.length cc, .slice ua t.uq.length uc, .bool t.rt], .slice a2 m.cs.length c2, .func (.func 76) #[] #[]] W fun e w' => e = .returned (.int .i64 (owK t m.cs)) ∧ BoxE 40 48 w w' #[.slice sa l.length sc] #[.string ⟨m.nm.toArray⟩, .string ⟨m.tb.toArray⟩, .slice a2 m.cs.length c2, .bool m.ini, .bool m.ins, .bool m.del, .bool m.mod, .slice a7 m.wh.length c7] ∧ w'.heap[w1.heap.size]? = some (.cells #[.string ⟨t.nm.toArray⟩, .slice ca t.cols.length cc, .slice ua t.uq.length uc, .bool t.rt] 75)) := fun W h h2 => (firstOwnI t ca cc ua uc A m.cs a2 c2 B W HTO.out HC.out (HH.out.later h.bel) (RC.out.later h.bel)).mono (fun e w' ⟨he, hB⟩ => ⟨he, h.later hB, heap_keptD h2 hB⟩)
 have K1 : Hid (∀ W, BoxE 40 48 w W #[.slice sa l.length sc] #[.string ⟨m.nm.toArray⟩, .string ⟨m.tb.toArray⟩, .slice a2 m.cs.length c2, .bool m.ini, .bool m.ins, .bool m.del, .bool m.mod, .slice a7 m.wh.length c7] → Calls Tryz.prog 77 #[.agg #[.string ⟨t.nm.toArray⟩, .slice ca t.cols.length cc, .slice ua t.uq.length uc, .bool t.rt], .slice a7 m.wh.length c7, .func (.func 78) #[] #[]] W fun e w' => e = .returned (.int .i64 (condsC t m.wh)) ∧ BoxE 40 48 w w' #[.slice sa l.length sc] #[.string ⟨m.nm.toArray⟩, .string ⟨m.tb.toArray⟩, .slice a2 m.cs.length c2, .bool m.ini, .bool m.ins, .bool m.del, .bool m.mod, .slice a7 m.wh.length c7]) := fun W h => (firstI t ca cc ua uc A m.wh a7 c7 B W HTO.out HW.out (HH.out.later h.bel) (RH.out.later h.bel)).mono (fun e w' ⟨he, hB⟩ => ⟨he, h.later hB⟩)
 have HMT := Lib.hid (moT_ow t m)
 clear hpt htb HC HW RC RH
 have t0 := cell_at (o := 0) HTB.out rfl
 have t1 := cell_at (o := 1) HTB.out rfl
 have t2 := cell_at (o := 2) HTB.out rfl
 have t3 := cell_at (o := 3) HTB.out rfl
 have y2 := cell_at (o := 2) HB2.out.b rfl
 have y7 := cell_at (o := 7) HB2.out.b rfl
 rw [hV] at t0 t1 t2 t3 y2 y7
 clear hV
 rcases owK_two t m.cs with h0 | h0
 ·
  have HR : Hid (moC l m = condsC t m.wh) := by show _ = _; rw [HM.out, HMT.out, if_pos h0]
  rw [h0] at K0
  clear h0 HM HMT
  generalize condsC t m.wh = oc at *
  go_wp2_with fail
  rw [← HV.out]
  refine (K0.out _ HB2.out HTB.out).mono ?_
  rintro e w2 ⟨rfl, hb, hq⟩
  have HB3 := Lib.hid hb
  clear t0 t1 t2 t3 y2 y7
  have t0 := cell_at (o := 0) hq rfl
  have t1 := cell_at (o := 1) hq rfl
  have t2 := cell_at (o := 2) hq rfl
  have t3 := cell_at (o := 3) hq rfl
  have y2 := cell_at (o := 2) hb.b rfl
  have y7 := cell_at (o := 7) hb.b rfl
  clear hb hq
  go_wp2_with fail
  refine (K1.out _ HB3.out).mono ?_
  rintro e w3 ⟨rfl, hb⟩
  have HB4 := Lib.hid hb
  clear t0 t1 t2 t3 y2 y7 hb
  go_wp2_with fail
  go_ret
  exact ⟨ret_i HR.out.symm, HB4.out.bel⟩
 ·
  have HR : Hid (moC l m = 11) := by show _ = _; rw [HM.out, HMT.out, if_neg (by rw [h0]; decide)]
  rw [h0] at K0
  clear h0 HM HMT
  go_wp2_with fail
  rw [← HV.out]
  refine (K0.out _ HB2.out HTB.out).mono ?_
  rintro e w2 ⟨rfl, hb, hq⟩
  have HB3 := Lib.hid hb
  clear t0 t1 t2 t3 y2 y7
  have t0 := cell_at (o := 0) hq rfl
  have t1 := cell_at (o := 1) hq rfl
  have t2 := cell_at (o := 2) hq rfl
  have t3 := cell_at (o := 3) hq rfl
  have y2 := cell_at (o := 2) hb.b rfl
  have y7 := cell_at (o := 7) hb.b rfl
  clear hb hq
  go_wp2_with fail
  go_ret
  exact ⟨ret_i HR.out.symm, HB3.out.bel⟩
end Go.Proofs.YtlddhbamcndggaaGreatDoor
