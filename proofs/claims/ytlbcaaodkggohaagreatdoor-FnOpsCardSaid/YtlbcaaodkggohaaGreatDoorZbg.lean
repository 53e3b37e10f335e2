import Derived.Test.YtlbcaaodkggohaaGreatDoorZbf
import Derived.Test.YtlbcaaodkggohaaGreatDoorZak
import Derived.Test.YtlbcaaodkggohaaGreatDoorZam
import Derived.Test.YtlbcaaodkggohaaGreatDoorZae
import Derived.Great.BuildSlice
import Derived.Test.YtlbcaaodkggohaaGreatDoorZaj
import Derived.Test.YtlbcaaodkggohaaGreatDoorZab
import Derived.Test.YtlbcaaodkggohaaGreatDoorZal
import Derived.Test.YtlbcaaodkggohaaGreatDoorZad
namespace Go.Proofs.YtlbcaaodkggohaaGreatDoor
open Go.RowKit
set_option linter.unusedSimpArgs false
variable {V W W' : World} {p S : Nat} {a : Option Addr} {l : List UInt8} {c m m' s : Nat}
set_option maxRecDepth 100000 in
set_option maxHeartbeats 12800000 in
theorem srcOps (h : Src W p S a l c m s) (hm : m < 840000) :
  Calls Tryz.prog 11 #[.pointer (some ⟨p, 0, none⟩)] W (OpsA W p S a l c m) := by
 have hpl : p < W.heap.size := (Array.getElem?_eq_some_iff.1 h.box).1; have HM := Lib.hid hm; have NX : Hid (∀ W2 mm n, (∃ s, Src W2 p S a l c mm s) → mm < 1000000 → 1 < n → n ≤ 256 → Calls Tryz.prog 28 #[.pointer (some ⟨p, 0, none⟩), .int .i64 ((n : Nat) : Int)] W2 (NextAns W2 p S a l c mm n)) := fun W2 mm n ⟨s, h⟩ hb h1 h2 => srcNext h hb n h1 h2
 have CH : Hid (∀ W2 mm n, (∃ s, Src W2 p S a l c mm s) → mm < 1000000 → 1 < n → n ≤ 256 → Calls Tryz.prog 26 #[.pointer (some ⟨p, 0, none⟩), .int .i64 ((n : Nat) : Int)] W2 (ChanceW W2 p S a l c mm)) := fun W2 mm n ⟨s, h⟩ hb h1 h2 => srcChanceW h hb n h1 h2
 have SN : Hid (∀ W2 mm (t : Nat), (∃ s, Src W2 p S a l c mm s) → mm < 890000 → t < 3 → Calls Tryz.prog 27 #[.pointer (some ⟨p, 0, none⟩), .int .i64 (t : Int)] W2 (SetsV W2 p S a l c mm)) := fun W2 mm t ⟨s, h⟩ hb ht => srcSets t ht h (by omega)
 have OP : Hid (∀ W2 mm, (∃ s, Src W2 p S a l c mm s) → mm < 850000 → Calls Tryz.prog 29 #[.pointer (some ⟨p, 0, none⟩)] W2 (OpA W2 p S a l c mm)) := fun W2 mm ⟨s, h⟩ hb => srcOp h hb
 have H0 : Hid (DQ W (W.alloc (.cells #[] 36)) p S a l c m 36 8 (lsF dOp []) 0 (.slice (some ⟨W.heap.size, 0, none⟩) 0 0)) := ⟨⟨s, h.on (below_allocD _ _)⟩, Frm.of_below (below_allocD _ _), hpl, SQ.start (Nat.le_refl _) (heap_newD W _)⟩; have HP := Lib.hid hpl; clear h hm hpl; (go_enter Tryz.func11, Tryz.ntmps11); (go_wp2_with fail); refine (CH.out _ _ 2 H0.out.src (by have := HM.out; omega) (by omega) (by omega)).mono ?_; rintro e w1 ⟨b1, s1, rfl, hS, hF⟩; have H1 := Lib.hid (H0.out.draw hF ⟨_, hS⟩); clear hS hF H0; (go_upto_if 8 with fail); go_cut [3] from 4 to 42 (fun v wx => ∃ (L : List OpV) (va : Option Addr) (vc m2 : Nat), v = .slice va L.length vc ∧ Hid (DQ W wx p S a l c m2 36 8 (lsF dOp L) L.length (.slice va L.length vc) ∧ L.length ≤ 2 ∧ m2 ≤ m + 100 ∧ ∀ x ∈ L, OpR x))
 case first =>
  cases b1
  case false =>
   (go_wp2_with fail); go_meet; exact ⟨[], _, _, m + 1, rfl, H1.out, by simp, by omega, fun _ h => absurd h List.not_mem_nil⟩
  case true =>
   (go_wp2_with fail); refine (SN.out _ _ 1 H1.out.src (by have := HM.out; omega) (by omega)).mono ?_; rintro e w2 ⟨L4, b4, e4, m4, s4, rfl, hl4, hc4, hsg4, hm4, hS, hF⟩; have hr4 := hsg4.rd (by omega) (fun g hg => (hsg4.low hg).1); obtain ⟨a9, c9, w3, hrun, hdl⟩ := DQ.op (L := []) (o := ⟨1, portN, [112], [], L4, [], [], false⟩) (a3 := none) (c3 := 0) (a5 := none) (c5 := 0) (a6 := none) (c6 := 0) H1.out hF ⟨_, hS⟩ ⟨_, _, rfl, .inl rfl⟩ hr4 ⟨_, _, rfl, .inl rfl⟩ ⟨_, _, rfl, .inl rfl⟩ hsg4.capD (by simp); have HRUN := Lib.hid hrun; have H3 : Hid (DQ W w3 p S a l c m4 36 8 (lsF dOp [(⟨1, portN, [112], [], L4, [], [], false⟩ : OpV)]) [(⟨1, portN, [112], [], L4, [], [], false⟩ : OpV)].length (.slice a9 1 c9)) := hdl; have HR4 : Hid (L4.length ≤ 3 ∧ (∀ x ∈ L4, SetD x) ∧ m4 ≤ m + 1 + 30) := ⟨hl4.2, hc4, hm4⟩; clear hrun hdl hl4 hc4 hsg4 hm4 hr4 hS hF H1; (go_wp2_with (at_builtin; go_must (refine wpList_append_is rfl (.tmp 9) (.tmp 13) 27 rfl _ _ rfl rfl _ _ HRUN.out ?_))); clear HRUN; refine (SN.out _ _ 2 H3.out.src (by have := HM.out; have := HR4.out; omega) (by omega)).mono ?_; rintro e w4 ⟨L5, b5, e5, m5, s5, rfl, hl5, hc5, hsg5, hm5, hS, hF⟩; obtain ⟨g5, rfl⟩ := hsg5.addr (by omega); have hcap : 1 ≤ e5 := Nat.le_trans hl5.1 hsg5.capD
   have hle5 : (1 : Int) ≤ (e5 : Int) := by omega
   have H4 := Lib.hid (H3.out.draw hF ⟨_, hS⟩); have HSG := Lib.hid (hsg5.cut hl5.1); have HC5 : Hid ((L5.length ≤ 3 ∧ 1 ≤ L5.length) ∧ (∀ x ∈ L5, SetD x) ∧ m5 ≤ m4 + 30) := ⟨⟨hl5.2, hl5.1⟩, hc5, hm5⟩; have HF5 : Hid (Frm (· = p) w3 w4 ∧ ∃ s, Src w4 p S a l c m5 s) := ⟨hF, _, hS⟩; clear hl5 hc5 hsg5 hm5 hS hF; (go_upto_region 5 with fail); obtain ⟨x0, Lr, rfl⟩ : ∃ x0 Lr, L5 = x0 :: Lr := by cases L5 with | nil => exact absurd HC5.out.1.2 (by simp) | cons x0 Lr => exact ⟨x0, Lr, rfl⟩
   obtain ⟨w5, hw5⟩ : ∃ W9, W9 = w4.alloc (.cells #[.int .i64 1, .string ⟨#[115, 119, 105, 116, 99, 104]⟩, .string ⟨#[]⟩, .slice none 0 0, .slice (some ⟨g5, 0, none⟩) 1 e5, .slice none 0 0, .slice none 0 0, .bool false] 36) := ⟨_, rfl⟩; obtain ⟨a7, c7, w6, hr7, hb7, hF7, hs7, hb8, hR7⟩ := portsL HSG.out HF5.out.1 HF5.out.2 (Nat.lt_of_lt_of_le HP.out H3.out.fr.size); rw [← hw5] at hr7 ⊢; rw [show ((w5.alloc (.cells #[] 132)).alloc (.cells #[.string ⟨#[112]⟩] 9)).heap.size = w5.heap.size + 1 + 1 by simp] at hr7; have HRUN := Lib.hid hr7; have HB7 := Lib.hid hb7; have HB8 := Lib.hid hb8; have HR7 := Lib.hid (And.intro hF7 (And.intro hs7 hR7)); clear hr7 hb7 hb8 hF7 hs7 hR7; have y4 : w5.cell? ⟨w4.heap.size, 4, none⟩ = some (.slice (some ⟨g5, 0, none⟩) 1 e5) := by rw [hw5]; exact cell_at (o := 4) (heap_newD w4 _) rfl
   clear hw5; obtain ⟨qs, hqs⟩ : ∃ n, n = w4.heap.size := ⟨_, rfl⟩; rw [← hqs] at HB7 HB8 HR7 y4 ⊢; clear hqs; have y5 : w6.cell? ⟨qs, 4, none⟩ = some (.slice (some ⟨g5, 0, none⟩) 1 e5) := cell_at (o := 4) HB7.out rfl; have fy := frozen_at 4 HB7.out; (go_upto_region 6 with (at_builtin; go_must (refine wpList_append_is rfl (.tmp 20) (.tmp 24) 32 rfl _ _ rfl rfl _ _ HRUN.out ?_))); clear y4 y5 fy HRUN; obtain ⟨w7, hw7⟩ : ∃ W9, W9 = w6.setCell ⟨qs, 4, none⟩ (.slice a7 2 c7) := ⟨_, rfl⟩; rw [← hw7] at HB8 HR7 ⊢; clear hw7 HB7; have hb := HB8.out; obtain ⟨y0, y1, y2, y3, y4, y5, y6, y7⟩ := ck8 0 1 2 3 4 5 6 7 hb; clear hb; obtain ⟨a8, c8, w8, hr8, hdl⟩ := DQ.op (L := [⟨1, portN, [112], [], L4, [], [], false⟩]) (o := ⟨1, switchN, [], [], [x0, ⟨portsN, [], [[112]]⟩], [], [], false⟩) (a3 := none) (c3 := 0) (a5 := none) (c5 := 0) (a6 := none) (c6 := 0) H3.out HR7.out.1 HR7.out.2.1 ⟨_, _, rfl, .inl rfl⟩ HR7.out.2.2.1 ⟨_, _, rfl, .inl rfl⟩ ⟨_, _, rfl, .inl rfl⟩ HR7.out.2.2.2 (by simp); have HRUN := Lib.hid hr8; have HDL := Lib.hid hdl; clear hr8 hdl; (go_wp2_with (at_builtin; go_must (refine wpList_append_is rfl (.tmp 27) (.tmp 29) 27 rfl _ _ rfl rfl _ _ HRUN.out ?_))); go_meet; refine ⟨[⟨1, portN, [112], [], L4, [], [], false⟩, ⟨1, switchN, [], [], [x0, ⟨portsN, [], [[112]]⟩], [], [], false⟩], a8, c8, m5, rfl, HDL.out, by simp, by have := HC5.out; have := HR4.out; omega, fun z hz => ?_⟩
   have hsd : SetD x0 := HC5.out.2.1 x0 List.mem_cons_self; have hp : SetD ⟨portsN, [], [[112]]⟩ := ⟨by decide, .inr ⟨rfl, [112], List.mem_cons_self, rfl⟩⟩; rcases List.mem_cons.1 hz with rfl | hz
   ·
    exact (show OpP 1 portN [112] [] L4 [] [] false from ⟨by decide, ⟨by decide, fun h => absurd h (by decide)⟩, ⟨by simp, fun _ h => absurd h List.not_mem_nil, fun _ => rfl⟩, ⟨by decide, fun h => absurd (.inl rfl) h⟩, ⟨HR4.out.1, HR4.out.2.1, fun h => absurd (.inl rfl) h⟩, ⟨by simp, fun _ h => absurd h List.not_mem_nil, fun _ => rfl⟩, ⟨by simp, fun _ h => absurd h List.not_mem_nil, fun _ => rfl⟩, fun _ => rfl⟩).right
   ·
    rw [List.mem_singleton.1 hz]; exact (show OpP 1 switchN [] [] [x0, ⟨portsN, [], [[112]]⟩] [] [] false from ⟨by decide, ⟨by decide, fun h => absurd h (by decide)⟩, ⟨by simp, fun _ h => absurd h List.not_mem_nil, fun _ => rfl⟩, ⟨by simp, fun _ => rfl⟩, ⟨by simp, fun z hz => by rcases List.mem_cons.1 hz with rfl | hz; exact hsd; rw [List.mem_singleton.1 hz]; exact hp, fun h => absurd (.inl rfl) h⟩, ⟨by simp, fun _ h => absurd h List.not_mem_nil, fun _ => rfl⟩, ⟨by simp, fun _ h => absurd h List.not_mem_nil, fun _ => rfl⟩, fun _ => rfl⟩).right
 obtain ⟨L, va, vc, m2, rfl, HY⟩ := hcut; generalize wc = wx at *; have HD := Lib.hid HY.out.1; (go_wp2_with fail); refine (NX.out _ _ 4 HD.out.src (by have := HM.out; have := HY.out.2.2.1; omega) (by omega) (by omega)).mono ?_; rintro e w9 ⟨r9, s9, rfl, hr9, hS, hF⟩; have H9 := Lib.hid (HD.out.draw hF ⟨_, hS⟩); have HR9 : Hid (r9 ≤ 3) := by show _ ≤ _; omega
 clear hS hF hr9; (go_wp2_with fail); go_loopg [3, 5] r9 (fun g v i wr => ∃ (mm : Nat) (L : List OpV) (va : Option Addr) (vc : Nat), i = .int .i64 (g : Int) ∧ v = .slice va L.length vc ∧ Hid (DQ W wr p S a l c mm 36 8 (lsF dOp L) L.length (.slice va L.length vc) ∧ L.length + g ≤ 5 ∧ mm ≤ m + 101 + L.length * 200 ∧ ∀ x ∈ L, OpR x))
 case atStart => exact ⟨m2 + 1, L, va, vc, rfl, rfl, H9.out, by have := HR9.out; have := HY.out.2.1; omega, by have := HY.out.2.2.1; omega, HY.out.2.2.2⟩
 case round =>
  obtain ⟨mm, L, va, vc, rfl, rfl, HJ⟩ := hrel
  by_cases hg0 : gk = 0
  case pos =>
   subst hg0; (go_wp2_with fail); go_ret; obtain ⟨s8, hs8⟩ := HJ.out.1.src; exact ⟨L, va, vc, mm, s8, rfl, by have := HJ.out.2.1; omega, HJ.out.2.2.2, HJ.out.1.sg, by have := HJ.out.2.1; have := HJ.out.2.2.1; omega, hs8, HJ.out.1.fr⟩
  obtain ⟨g', rfl⟩ : ∃ g', gk = g' + 1 := ⟨gk - 1, by omega⟩; obtain ⟨i2, hi2⟩ : ∃ i2, i2 = g' + 1 := ⟨_, rfl⟩; have d1 : decide (0 < (i2 : Int)) = true := decide_eq_true (by omega); have d2 : decide (0 < i2) = true := decide_eq_true (by omega); have f1 : IntKind.i64.wrap ((i2 : Int) - 1) = (g' : Int) := by have := HJ.out.2.1; rw [IntKind.wrap_i64]; omega
  have HI2 := Lib.hid hi2; rw [← hi2]; clear hi2 hg0; (go_wp2_with fail); refine (OP.out _ _ HJ.out.1.src (by have := HM.out; have := HJ.out.2.1; have := HJ.out.2.2.1; omega)).mono ?_; rintro e w3 ⟨o, a3, c3, a4, c4, a5, c5, a6, c6, m5, s5, rfl, hor, hoc, r3, r4, r5, r6, hm5, hS, hF⟩; obtain ⟨a9, c9, w8, hr8, hdl⟩ := HJ.out.1.op (o := o) hF ⟨_, hS⟩ r3 r4 r5 r6 hoc (by have := HJ.out.2.1; omega); have HRUN := Lib.hid hr8; have HDL : Hid (DQ W w8 p S a l c m5 36 8 (lsF dOp (L ++ [o])) (L ++ [o]).length (.slice a9 (L ++ [o]).length c9)) := by have := hdl; rw [List.length_append]; exact this
  have HXX : Hid (OpR o ∧ m5 ≤ mm + 200) := ⟨hor, hm5⟩; clear hr8 hdl hor hoc r3 r4 r5 r6 hm5 hS hF; (go_wp2_with (at_builtin; go_must (refine wpList_append_is rfl (.tmp 37) (.tmp 40) 27 rfl _ _ rfl rfl _ _ HRUN.out ?_))); go_roundg g'
  case measure => omega
  case rel => exact ⟨m5, L ++ [o], a9, c9, by go_num, by rw [List.length_append]; rfl, HDL.out, by have := HJ.out.2.1; rw [List.length_append]; simp; omega, by have := HJ.out.2.2.1; have := HXX.out.2; rw [List.length_append]; simp; omega, fun z hz => by rcases List.mem_append.1 hz with h1 | h1; exact HJ.out.2.2.2 z h1; rw [List.mem_singleton.1 h1]; exact HXX.out.1⟩
end Go.Proofs.YtlbcaaodkggohaaGreatDoor
namespace Go.Proofs.YtlbcaaodkggohaaGreatDoor
open Go.RowKit
set_option linter.unusedSimpArgs false
def OpsW (w : World) (e : Ending) (w' : World) : Prop := ∃ (L : List OpV) (va : Option Addr) (vc : Nat), e = .returned (.slice va L.length vc) ∧ L.length ≤ 5 ∧ (∀ x ∈ L, OpR x) ∧ SQ w' w.heap.size (w.heap.size ≤ ·) 36 8 (lsF dOp L) CapQ L.length (.slice va L.length vc) ∧ Below w.heap.size w w'
set_option maxRecDepth 100000 in
set_option maxHeartbeats 6400000 in
theorem opsOfS (l : List UInt8) (a : Option Addr) (c S : Nat) (w : World) (hS : S ≤ w.heap.size) (hb : Byts w (· < S) a l) :
  Calls Tryz.prog 5 #[.slice a l.length c] w (OpsW w) := by
 have NW := Lib.hid (srcNew (c := c) w hS hb); have OV : Hid (∀ W s, Src W w.heap.size S a l c 0 s → Calls Tryz.prog 11 #[.pointer (some ⟨w.heap.size, 0, none⟩)] W (OpsA W w.heap.size S a l c 0)) := fun W s h => srcOps h (by omega)
 clear hb hS; (go_enter Tryz.func5, Tryz.ntmps5); (go_wp2_with fail); refine NW.out.mono ?_; rintro e w1 ⟨s1, rfl, hs1, hB1⟩; have S1 := Lib.hid (OV.out _ _ hs1); have HB : Hid (Below w.heap.size w w1 ∧ w.heap.size < w1.heap.size) := ⟨hB1, (Array.getElem?_eq_some_iff.1 hs1.box).1⟩; clear hs1 NW OV hB1; (go_wp2_with fail); refine S1.out.mono ?_; rintro e w2 ⟨L, va, vc, m', s', rfl, hl, hle, hsg, -, -, hF⟩
 have HQ : Hid (L.length ≤ 5 ∧ (∀ x ∈ L, OpR x) ∧ SQ w2 w.heap.size (w.heap.size ≤ ·) 36 8 (lsF dOp L) CapQ L.length (.slice va L.length vc) ∧ Below w.heap.size w w2) := by
  have h1 := HB.out.1; have h2 := HB.out.2; exact ⟨hl, hle, hsg.wide (by omega) (fun b hb => by have h3 : w1.heap.size ≤ b := hb; show w.heap.size ≤ b; omega), h1.trans (hF.below h1.size (fun b hb e => by have e' : b = w.heap.size := e; omega))⟩
 clear S1 hl hle hsg hF HB; (go_wp2_with fail); go_ret; exact ⟨L, va, vc, rfl, HQ.out⟩
theorem plT_tab : ∀ t, t < 3 → TabP (plT t) ∧ (plT t).ok := by
 intro t ht; rcases (by omega : t = 0 ∨ t = 1 ∨ t = 2) with rfl | rfl | rfl
 ·
  refine ⟨⟨by decide, by decide, fun i h => ?_, fun i h => absurd h (by simp [plT])⟩, by simp [plT, Tb.ok, maxLen], by simp [plT, maxLen], ?_, by simp [plT]⟩
  ·
   rcases (by simp [plT] at h; omega : i = 0 ∨ i = 1) with rfl | rfl
   ·
    exact ⟨rfl, fun k hk => absurd hk (by omega)⟩
   ·
    refine ⟨rfl, fun k hk => ?_⟩; obtain rfl : k = 0 := by omega
    simp [plT]
  ·
   intro x hx; simp only [plT, List.mem_cons, List.not_mem_nil, or_false] at hx; rcases hx with rfl | rfl <;> simp [Cl.ok, maxLen]
 ·
  refine ⟨⟨by decide, by decide, fun i h => ?_, fun i h => ?_⟩, by simp [plT, Tb.ok, maxLen], by simp [plT, maxLen], ?_, by simp [plT, maxLen]⟩
  ·
   rcases (by simp [plT] at h; omega : i = 0 ∨ i = 1 ∨ i = 2) with rfl | rfl | rfl
   ·
    exact ⟨rfl, fun k hk => absurd hk (by omega)⟩
   ·
    refine ⟨rfl, fun k hk => ?_⟩; obtain rfl : k = 0 := by omega
    simp [plT]
   ·
    refine ⟨rfl, fun k hk => ?_⟩; rcases (by omega : k = 0 ∨ k = 1) with rfl | rfl <;> simp [plT]
  ·
   obtain rfl : i = 0 := by simp [plT] at h; omega
   exact ⟨by simp [plT], fun j hj => by omega⟩
  ·
   intro x hx; simp only [plT, List.mem_cons, List.not_mem_nil, or_false] at hx; rcases hx with rfl | rfl | rfl <;> simp [Cl.ok, maxLen]
 ·
  refine ⟨⟨by decide, by decide, fun i h => ?_, fun i h => ?_⟩, by simp [plT, Tb.ok, maxLen], by simp [plT, maxLen], ?_, by simp [plT, maxLen]⟩
  ·
   rcases (by simp [plT] at h; omega : i = 0 ∨ i = 1 ∨ i = 2) with rfl | rfl | rfl
   ·
    exact ⟨rfl, fun k hk => absurd hk (by omega)⟩
   ·
    refine ⟨rfl, fun k hk => ?_⟩; obtain rfl : k = 0 := by omega
    simp [plT]
   ·
    refine ⟨rfl, fun k hk => ?_⟩; rcases (by omega : k = 0 ∨ k = 1) with rfl | rfl <;> simp [plT]
  ·
   obtain rfl : i = 0 := by simp [plT] at h; omega
   exact ⟨by simp [plT], fun j hj => by omega⟩
  ·
   intro x hx; simp only [plT, List.mem_cons, List.not_mem_nil, or_false] at hx; rcases hx with rfl | rfl | rfl <;> simp [Cl.ok, maxLen]
end Go.Proofs.YtlbcaaodkggohaaGreatDoor
