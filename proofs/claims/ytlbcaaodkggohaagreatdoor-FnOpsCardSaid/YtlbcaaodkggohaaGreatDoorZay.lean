import Derived.Test.YtlbcaaodkggohaaGreatDoorZav
import Derived.Test.YtlbcaaodkggohaaGreatDoorZax
import Derived.Test.YtlbcaaodkggohaaGreatDoorZak
namespace Go.Proofs.YtlbcaaodkggohaaGreatDoor
open Go.RowKit
set_option linter.unusedSimpArgs false
variable {V W W' : World} {p S : Nat} {a : Option Addr} {l : List UInt8} {c m m' s : Nat}
theorem infoCond : ∃ i, Tryz.prog.info? 111 = some i ∧ i.zero = some (.agg #[.string ⟨#[]⟩, .int .i64 0, .slice none 0 0]) ∧ i.size = 3 ∧ i.bytes = 48 := by
 have h : (Tryz.prog.info? 111).map (fun i => (i.zero, i.size, i.bytes)) = some (some (.agg #[.string ⟨#[]⟩, .int .i64 0, .slice none 0 0]), 3, 48) := by kernel_rfl
 obtain ⟨i, hi, hzz⟩ := Option.map_eq_some_iff.1 h; simp only [Prod.mk.injEq] at hzz; exact ⟨i, hi, hzz⟩
theorem DL.cond {W1 : World} {L : List CondV} {v : Value} {x : CondV} {va : Option Addr} {vc : Nat} (h : DL V W p S a l c m 111 3 (lsF dCond L) L.length v) (hF : Frm (· = p) W W1) (hs : ∃ s, Src W1 p S a l c m' s) (hr : Rd W1 (fun b => W.heap.size ≤ b ∧ b < W1.heap.size) (dAtomS x.val) (.slice va x.val.length vc)) (hL : L.length ≤ 1000) :
  ∃ a' c' W2, (Builtin.append_ #[31, 31] 31 #[v, .slice (some ⟨W1.heap.size, 0, none⟩) 1 1]).run Tryz.prog (W1.alloc (.cells #[.string ⟨x.col.toArray⟩, .int .i64 x.fn, .slice va x.val.length vc] 111)) = .ok (.slice a' (L.length + 1) c') W2 ∧ DL V W2 p S a l c m' 111 3 (lsF dCond (L ++ [x])) (L.length + 1) (.slice a' (L.length + 1) c') := by
 obtain ⟨i, hi, hz, hsz, hby⟩ := infoCond; have hA := below_allocD W1 (.cells #[.string ⟨x.col.toArray⟩, .int .i64 x.fn, .slice va x.val.length vc] 111); have hn := heap_newD W1 (.cells #[.string ⟨x.col.toArray⟩, .int .i64 x.fn, .slice va x.val.length vc] 111); have hlow : ∀ g, v.ownBlock = some g → g < W.heap.size := fun g hg => (h.sg.low hg).2
 have hV := h.fr.size; have h2 := (h.draw hF hs).later hA; refine h2.push (P := Tryz.prog) (f' := lsF dCond (L ++ [x])) lsF_snoc.1 _ _ i _ 48 Tryz.underlying31 hi hz hsz hby rfl (by omega) _ _ [.string ⟨x.col.toArray⟩, .int .i64 x.fn, .slice va x.val.length vc] rfl ?_ ?_ (by unfold maxLen; omega) (by omega) ?_
 ·
  intro j u hj; have hj3 := (List.getElem?_eq_some_iff.1 hj).1; rcases (by simp at hj3; omega : j = 0 ∨ j = 1 ∨ j = 2) with rfl | rfl | rfl
  ·
   cases hj; exact cell_at (o := 0) hn rfl
  ·
   cases hj; exact cell_at (o := 1) hn rfl
  ·
   cases hj; exact cell_at (o := 2) hn rfl
 ·
  intro u hu; simp only [List.mem_cons, List.not_mem_nil, or_false] at hu; rcases hu with rfl | rfl | rfl <;> rfl
 ·
  intro j hj; rw [lsF_snoc.2]; rcases (by omega : j = 0 ∨ j = 1 ∨ j = 2) with rfl | rfl | rfl
  ·
   exact ⟨_, rfl, rfl⟩
  ·
   exact ⟨_, rfl, rfl⟩
  ·
   exact ⟨_, rfl, (hr.later hA).mono (fun b hb => ⟨⟨fun e => by have := hlow b e; omega, Nat.lt_of_lt_of_le hb.2 hA.size⟩, by omega⟩)⟩
def CondsV (t : Nat) (W : World) (p S : Nat) (a : Option Addr) (l : List UInt8) (c m : Nat) (e : Ending) (W' : World) : Prop := ∃ (L : List CondV) (va : Option Addr) (vc m' s' : Nat), e = .returned (.slice va L.length vc) ∧ L.length ≤ 2 ∧ (∀ x ∈ L, CdR t x) ∧ SG W' W.heap.size (W.heap.size ≤ ·) 111 3 (lsF dCond L) L.length (.slice va L.length vc) ∧ m' ≤ m + 50 ∧ Src W' p S a l c m' s' ∧ Frm (· = p) W W'
set_option maxRecDepth 100000 in
set_option maxHeartbeats 6400000 in
theorem srcConds (t : Nat) (ht : t < 3) (h : Src W p S a l c m s) (hm : m < 890000) :
  Calls Tryz.prog 70 #[.pointer (some ⟨p, 0, none⟩), .int .i64 (t : Int)] W (CondsV t W p S a l c m) := by
 have hpl : p < W.heap.size := (Array.getElem?_eq_some_iff.1 h.box).1; have HM := Lib.hid hm; have NX : Hid (∀ W2 mm n, (∃ s, Src W2 p S a l c mm s) → mm < 1000000 → 1 < n → n ≤ 256 → Calls Tryz.prog 28 #[.pointer (some ⟨p, 0, none⟩), .int .i64 ((n : Nat) : Int)] W2 (NextAns W2 p S a l c mm n)) := fun W2 mm n ⟨s, h⟩ hb h1 h2 => srcNext h hb n h1 h2
 have CD : Hid (∀ W2 mm, (∃ s, Src W2 p S a l c mm s) → mm < 900000 → Calls Tryz.prog 96 #[.pointer (some ⟨p, 0, none⟩), .int .i64 (t : Int)] W2 (CondA t W2 p S a l c mm)) := fun W2 mm ⟨s, h⟩ hb => srcCond t ht h hb
 have H0 : Hid (DL W (W.alloc (.cells #[] 111)) p S a l c m 111 3 (lsF dCond []) 0 (.slice (some ⟨W.heap.size, 0, none⟩) 0 0)) := by
  have hA := below_allocD W (.cells #[] 111); exact ⟨⟨s, h.on hA⟩, Frm.of_below hA, hpl, SG.start (Nat.le_refl _) (heap_newD W _)⟩
 clear h hm hpl; (go_enter Tryz.func70, Tryz.ntmps70); (go_wp2_with fail); refine (NX.out _ _ 3 H0.out.src (by have := HM.out; omega) (by omega) (by omega)).mono ?_; rintro e w1 ⟨r1, s1, rfl, hr1, hS, hF⟩; have H1 : Hid (DL W w1 p S a l c (m + 1) 111 3 (lsF dCond []) 0 (.slice (some ⟨W.heap.size, 0, none⟩) 0 0)) := H0.out.draw hF ⟨s1, hS⟩; have HR1 : Hid (r1 ≤ 2) := by show _ ≤ _; omega
 clear hS hF H0 hr1; (go_wp2_with fail); go_loopg [5, 6] r1 (fun g o i wr => ∃ (mm : Nat) (L : List CondV) (va : Option Addr) (vc : Nat), i = .int .i64 (g : Int) ∧ o = .slice va L.length vc ∧ Hid (DL W wr p S a l c mm 111 3 (lsF dCond L) L.length (.slice va L.length vc) ∧ L.length + g ≤ 2 ∧ mm ≤ m + 1 + L.length * 20 ∧ ∀ x ∈ L, CdR t x))
 case atStart => exact ⟨m + 1, [], _, _, rfl, rfl, H1.out, by have := HR1.out; simpa using this, by simp, fun _ h => absurd h List.not_mem_nil⟩
 case round =>
  obtain ⟨mm, L, va, vc, rfl, rfl, HR⟩ := hrel; have HD := Lib.hid HR.out.1
  by_cases hg : 0 < gk
  case neg =>
   have hd : decide (0 < (gk : Int)) = false := by simp; omega
   (go_wp2_with fail); go_ret; obtain ⟨s9, hs9⟩ := HD.out.src; exact ⟨L, va, vc, mm, s9, rfl, by have := HR.out.2.1; omega, HR.out.2.2.2, HD.out.sg, by have := HR.out.2.1; have := HR.out.2.2.1; omega, hs9, HD.out.fr⟩
  have hd : decide (0 < (gk : Int)) = true := by simp; omega
  have HG := Lib.hid hg; have fg : IntKind.i64.wrap ((gk : Int) - 1) = ((gk - 1 : Nat) : Int) := by have := HR.out.2.1; rw [IntKind.wrap_i64]; omega
  clear hg; (go_wp2_with fail); refine (CD.out _ _ HD.out.src (by have := HM.out; have := HR.out.2.1; have := HR.out.2.2.1; omega)).mono ?_; rintro e w2 ⟨x, xa, xc, m2, s2, rfl, hx, hr, hm2, hS, hF⟩; obtain ⟨a9, c9, w9, hr9, hdl⟩ := HD.out.cond hF ⟨s2, hS⟩ hr (by have := HR.out.2.1; omega); have HRUN := Lib.hid hr9; have HX := Lib.hid hx; have HM2 := Lib.hid hm2; have HDL : Hid (DL W w9 p S a l c m2 111 3 (lsF dCond (L ++ [x])) (L ++ [x]).length (.slice a9 (L ++ [x]).length c9)) := by have := hdl; rw [List.length_append]; exact this
  clear hr9 hdl hS hF hr hx hm2; (go_wp2_with (at_builtin; go_must (refine wpList_append_is rfl (.tmp 14) (.tmp 18) 31 rfl _ _ rfl rfl _ _ HRUN.out ?_))); go_roundg (gk - 1)
  case measure => have := HG.out; omega
  case rel => exact ⟨m2, L ++ [x], a9, c9, by go_num, by rw [List.length_append]; rfl, HDL.out, by have := HR.out.2.1; have := HG.out; rw [List.length_append]; simp; omega, by have := HR.out.2.2.1; have := HM2.out; rw [List.length_append]; simp; omega, fun z hz => by rcases List.mem_append.1 hz with h1 | h1; exact HR.out.2.2.2 z h1; rw [List.mem_singleton.1 h1]; exact HX.out⟩
end Go.Proofs.YtlbcaaodkggohaaGreatDoor
namespace Go.Proofs.YtlbcaaodkggohaaGreatDoor
open Go.RowKit
set_option linter.unusedSimpArgs false
variable {V W W' : World} {p S : Nat} {a : Option Addr} {l : List UInt8} {c m m' s : Nat}
theorem infoStrD : ∃ i, Tryz.prog.info? 9 = some i ∧ i.zero = some (.string ⟨#[]⟩) ∧ i.size = 1 ∧ i.bytes = 16 := by
 have h : (Tryz.prog.info? 9).map (fun i => (i.zero, i.size, i.bytes)) = some (some (.string ⟨#[]⟩), 1, 16) := by kernel_rfl
 obtain ⟨i, hi, hzz⟩ := Option.map_eq_some_iff.1 h; simp only [Prod.mk.injEq] at hzz; exact ⟨i, hi, hzz⟩
theorem DL.str {L : List (List UInt8)} {v : Value} (x : List UInt8) (h : DL V W p S a l c m 9 1 (lsF cString L) L.length v) (hL : L.length ≤ 1000) :
    ∃ a' c' W2, (Builtin.append_ #[34, 34] 34 #[v, .slice (some ⟨W.heap.size, 0, none⟩) 1 1]).run Tryz.prog (W.alloc (.cells #[.string ⟨x.toArray⟩] 9)) = .ok (.slice a' (L.length + 1) c') W2 ∧ DL V W2 p S a l c m 9 1 (lsF cString (L ++ [x])) (L.length + 1) (.slice a' (L.length + 1) c') := by
  obtain ⟨i, hi, hz, hsz, hby⟩ := infoStrD; have hA := below_allocD W (.cells #[.string ⟨x.toArray⟩] 9); have hn := heap_newD W (.cells #[.string ⟨x.toArray⟩] 9); refine (h.later hA).push (P := Tryz.prog) (f' := lsF cString (L ++ [x])) lsF_snoc.1 _ _ i _ 16 Tryz.underlying34 hi hz hsz hby rfl (by omega) _ _ [.string ⟨x.toArray⟩] rfl ?_ ?_ (by unfold maxLen; omega) (by omega) ?_
  · intro j u hj
    have hj3 := (List.getElem?_eq_some_iff.1 hj).1; obtain rfl : j = 0 := by simpa using hj3
    cases hj; exact cell_at (o := 0) hn rfl
  · intro u hu
    rw [List.mem_singleton.1 hu]; rfl
  · intro j hj
    rw [lsF_snoc.2]
    exact ⟨_, by obtain rfl : j = 0 := by omega
                 rfl, rfl⟩
def NamesV (W : World) (p S : Nat) (a : Option Addr) (l : List UInt8) (c m : Nat) (e : Ending) (W' : World) : Prop := ∃ (L : List (List UInt8)) (va : Option Addr) (vc m' s' : Nat), e = .returned (.slice va L.length vc) ∧ L.length ≤ 4 ∧ (∀ x ∈ L, x.length ≤ 40) ∧ SG W' W.heap.size (W.heap.size ≤ ·) 9 1 (lsF cString L) L.length (.slice va L.length vc) ∧ m' ≤ m + 5 ∧ Src W' p S a l c m' s' ∧ Frm (· = p) W W'
set_option maxRecDepth 100000 in
set_option maxHeartbeats 6400000 in
theorem srcPickNames (t : Nat) (ht : t < 3) (h : Src W p S a l c m s) (hm : m < 890000) :
  Calls Tryz.prog 72 #[.pointer (some ⟨p, 0, none⟩), .int .i64 (t : Int)] W (NamesV W p S a l c m) := by
 have hpl : p < W.heap.size := (Array.getElem?_eq_some_iff.1 h.box).1; have PL := Lib.hid (plainT W); have HS0 : Hid (∀ W2, Below W.heap.size W W2 → ∃ s, Src W2 p S a l c m s) := fun W2 hB => ⟨s, h.on hB⟩
 have HM := Lib.hid hm; have HPT := Lib.hid (plT_cols t ht); have ht3 : (t : Int) < 3 := by omega
 clear h hm; (go_enter Tryz.func72, Tryz.ntmps72); (go_wp2_with fail); refine PL.out.mono ?_; rintro e w1 ⟨A, rb, off, rfl, hT, hB⟩; obtain ⟨⟨c0, c1, c2, c3⟩, hth⟩ := hT t ht; clear hT PL; generalize plT t = tb at *; generalize A t = ad at *
 have H0 : Hid (DL (w1.alloc (.cells #[.string ⟨tb.nm.toArray⟩, .slice ad.ca tb.cols.length ad.cc, .slice ad.ua tb.uq.length ad.uc, .bool tb.rt] 48)) ((w1.alloc (.cells #[.string ⟨tb.nm.toArray⟩, .slice ad.ca tb.cols.length ad.cc, .slice ad.ua tb.uq.length ad.uc, .bool tb.rt] 48)).alloc (.cells #[] 9)) p S a l c m 9 1 (lsF cString []) 0 (.slice (some ⟨w1.heap.size + 1, 0, none⟩) 0 0)) := by
  have hA := below_allocD w1 (.cells #[.string ⟨tb.nm.toArray⟩, .slice ad.ca tb.cols.length ad.cc, .slice ad.ua tb.uq.length ad.uc, .bool tb.rt] 48); have hA2 := below_allocD (w1.alloc (.cells #[.string ⟨tb.nm.toArray⟩, .slice ad.ca tb.cols.length ad.cc, .slice ad.ua tb.uq.length ad.uc, .bool tb.rt] 48)) (.cells #[] 9); have e1 : (w1.alloc (.cells #[.string ⟨tb.nm.toArray⟩, .slice ad.ca tb.cols.length ad.cc, .slice ad.ua tb.uq.length ad.uc, .bool tb.rt] 48)).heap.size = w1.heap.size + 1 := by simp
  refine ⟨HS0.out _ ((hB.trans (hA.mono hB.size)).trans (hA2.mono (Nat.le_trans hB.size hA.size))), Frm.of_below hA2, Nat.lt_of_lt_of_le hpl (Nat.le_trans hB.size hA.size), ?_⟩; refine SG.start (by omega) ?_; have hn := heap_newD (w1.alloc (.cells #[.string ⟨tb.nm.toArray⟩, .slice ad.ca tb.cols.length ad.cc, .slice ad.ua tb.uq.length ad.uc, .bool tb.rt] 48)) (.cells #[] 9)
  rwa [e1] at hn
 have TF : Hid (∀ W2, Frm (· = p) (w1.alloc (.cells #[.string ⟨tb.nm.toArray⟩, .slice ad.ca tb.cols.length ad.cc, .slice ad.ua tb.uq.length ad.uc, .bool tb.rt] 48)) W2 → W2.heap[w1.heap.size]? = some (.cells #[.string ⟨tb.nm.toArray⟩, .slice ad.ca tb.cols.length ad.cc, .slice ad.ua tb.uq.length ad.uc, .bool tb.rt] 48) ∧ Cols W2 (fun _ => True) ad.ca tb.cols) := fun W2 hF => by
  have hA := below_allocD w1 (.cells #[.string ⟨tb.nm.toArray⟩, .slice ad.ca tb.cols.length ad.cc, .slice ad.ua tb.uq.length ad.uc, .bool tb.rt] 48); refine ⟨keepF (heap_newD _ _) hF (by have := hB.size; omega), ?_⟩; exact Rw.same (Cols.later hth.1 hA) (fun b hb => hF.block b (Nat.lt_of_lt_of_le hb.2 hA.size) (by omega)) (fun _ _ => trivial)
 have HV : Hid (Frm (· = p) W (w1.alloc (.cells #[.string ⟨tb.nm.toArray⟩, .slice ad.ca tb.cols.length ad.cc, .slice ad.ua tb.uq.length ad.uc, .bool tb.rt] 48)) ∧ W.heap.size ≤ (w1.alloc (.cells #[.string ⟨tb.nm.toArray⟩, .slice ad.ca tb.cols.length ad.cc, .slice ad.ua tb.uq.length ad.uc, .bool tb.rt] 48)).heap.size) := ⟨(Frm.of_below hB).trans (Frm.of_below (below_allocD _ _)), Nat.le_trans hB.size (below_allocD _ _).size⟩; have hfd : ∀ w : World, (Instr.field 25 (.agg #[.slice (some ⟨rb, off, none⟩) 3 3]) 0).run Tryz.prog w = .ok (.slice (some ⟨rb, off, none⟩) 3 3) w := fun _ => by kernel_rfl
 clear HS0 hth hB ht; (go_wp2_with fail); clear c0 c1 c2 c3 ht3 hfd; obtain ⟨V, hV⟩ : ∃ V, V = (w1.alloc (.cells #[.string ⟨tb.nm.toArray⟩, .slice ad.ca tb.cols.length ad.cc, .slice ad.ua tb.uq.length ad.uc, .bool tb.rt] 48)) := ⟨_, rfl⟩; rw [← hV] at H0 TF HV ⊢; clear hV; obtain ⟨qt, hqt⟩ : ∃ n, n = w1.heap.size := ⟨_, rfl⟩; rw [← hqt] at H0 TF ⊢; clear hqt; have CH : Hid (∀ W2 mm n, (∃ s, Src W2 p S a l c mm s) → mm < 1000000 → 1 < n → n ≤ 256 → Calls Tryz.prog 26 #[.pointer (some ⟨p, 0, none⟩), .int .i64 ((n : Nat) : Int)] W2 (ChanceW W2 p S a l c mm)) := fun W2 mm n ⟨s, h⟩ hb h1 h2 => srcChanceW h hb n h1 h2
 go_loopg [6, 7] tb.cols.length (fun g o i wr => ∃ (k mm : Nat) (L : List (List UInt8)) (va : Option Addr) (vc : Nat), k + g = tb.cols.length ∧ i = .int .i64 (k : Int) ∧ o = .slice va L.length vc ∧ Hid (DL V wr p S a l c mm 9 1 (lsF cString L) L.length (.slice va L.length vc) ∧ mm ≤ m + k ∧ L.length ≤ k ∧ ∀ x ∈ L, x.length ≤ 40))
 case atStart => exact ⟨0, m, [], _, _, by omega, rfl, rfl, H0.out, by omega, by simp, fun _ h => absurd h List.not_mem_nil⟩
 case round =>
  obtain ⟨k, mm, L, va, vc, hkg, rfl, rfl, HR⟩ := hrel; have HD := Lib.hid HR.out.1; obtain ⟨hbx, hcl⟩ := TF.out _ HD.out.fr; have t1 := cell_at (o := 1) hbx rfl; have HKG := Lib.hid hkg
  by_cases hlt : k < tb.cols.length
  case neg =>
   have hkd : decide ((k : Int) < (tb.cols.length : Int)) = false := by simp; omega
   have HK3 : Hid (k ≤ 3) := by have := HPT.out.1; show _ ≤ _; omega
   clear hbx hcl; (go_wp2_with fail); refine (CH.out _ _ 3 HD.out.src (by have := HM.out; have := HR.out.2.1; have := HK3.out; omega) (by omega) (by omega)).mono ?_; rintro e w2 ⟨b2, s2, rfl, hS, hF⟩; have HD2 := Lib.hid (HD.out.draw hF ⟨s2, hS⟩); clear hS hF t1 HD
   cases b2
   case false =>
    (go_wp2_with fail); go_ret; obtain ⟨s9, hs9⟩ := HD2.out.src; have hk3 := HK3.out; exact ⟨L, va, vc, mm + 1, s9, rfl, by have := HR.out.2.2.1; omega, HR.out.2.2.2, HD2.out.sg.wide HV.out.2 (fun b hb => Nat.le_trans HV.out.2 hb), by have := HR.out.2.1; omega, hs9, HV.out.1.trans HD2.out.fr⟩
   case true =>
    obtain ⟨a9, c9, w9, hr9, hdl⟩ := HD2.out.str [95, 117, 117, 105, 100] (by have := HR.out.2.2.1; have := HK3.out; omega); have HRUN := Lib.hid hr9; have HDL := Lib.hid hdl; clear hr9 hdl; (go_wp2_with (at_builtin; go_must (refine wpList_append_is rfl (.tmp 34) (.tmp 35) 34 rfl _ _ rfl rfl _ _ HRUN.out ?_))); go_ret; obtain ⟨s9, hs9⟩ := HDL.out.src; have hk3 := HK3.out; refine ⟨L ++ [[95, 117, 117, 105, 100]], a9, c9, mm + 1, s9, by rw [List.length_append]; rfl, by have := HR.out.2.2.1; rw [List.length_append]; simp; omega, fun z hz => ?_, ?_, by have := HR.out.2.1; omega, hs9, HV.out.1.trans HDL.out.fr⟩
    ·
     rcases List.mem_append.1 hz with h1 | h1
     ·
      exact HR.out.2.2.2 z h1
     ·
      rw [List.mem_singleton.1 h1]; decide
    ·
     rw [List.length_append]; exact HDL.out.sg.wide HV.out.2 (fun b hb => Nat.le_trans HV.out.2 hb)
  have hki : (k : Int) < (tb.cols.length : Int) := by omega
  have f1 : IntKind.i64.wrap ((k : Int) + 1) = ((k + 1 : Nat) : Int) := by have := HPT.out.1; rw [IntKind.wrap_i64]; omega
  have HK3 : Hid (k ≤ 3) := by have := HPT.out.1; show _ ≤ _; omega
  clear hbx hcl hkg; (go_wp2_with fail); refine (CH.out _ _ 2 HD.out.src (by have := HM.out; have := HR.out.2.1; have := HK3.out; omega) (by omega) (by omega)).mono ?_; rintro e w2 ⟨b2, s2, rfl, hS, hF⟩; have HD2 := Lib.hid (HD.out.draw hF ⟨s2, hS⟩); clear hS hF t1 HD
  cases b2
  case false =>
   (go_wp2_with fail); go_roundg (tb.cols.length - (k + 1))
   case measure => have := HKG.out; omega
   case rel => exact ⟨k + 1, mm + 1, L, va, vc, by have := HKG.out; omega, by go_num, rfl, HD2.out, by have := HR.out.2.1; omega, Nat.le_succ_of_le HR.out.2.2.1, HR.out.2.2.2⟩
  obtain ⟨hbx, hcl⟩ := TF.out _ HD2.out.fr; have t1 := cell_at (o := 1) hbx rfl; obtain ⟨cb, co, hca, -, hcs⟩ := Cols.at hcl k hlt; obtain ⟨k0, -⟩ := hcs k hlt; have HNM : Hid (tb.cols[k].nm.length ≤ 40) := (HPT.out.2 _ (List.getElem_mem hlt)).2; generalize tb.cols[k].nm = nm at *; rw [hca] at t1; obtain ⟨a9, c9, w9, hr9, hdl⟩ := HD2.out.str nm (by have := HR.out.2.2.1; have := HK3.out; omega); have HRUN := Lib.hid hr9; have HDL := Lib.hid hdl; clear hr9 hdl hbx hcl hcs hca; (go_wp2_with (at_builtin; go_must (refine wpList_append_is rfl (.tmp 23) (.tmp 30) 34 rfl _ _ rfl rfl _ _ HRUN.out ?_))); go_roundg (tb.cols.length - (k + 1))
  case measure => have := HKG.out; omega
  case rel => exact ⟨k + 1, mm + 1, L ++ [nm], a9, c9, by have := HKG.out; omega, by go_num, by rw [List.length_append]; rfl, by rw [List.length_append]; exact HDL.out, by have := HR.out.2.1; omega, by have := HR.out.2.2.1; rw [List.length_append]; simp; omega, fun z hz => by rcases List.mem_append.1 hz with h1 | h1; exact HR.out.2.2.2 z h1; rw [List.mem_singleton.1 h1]; exact HNM.out⟩
end Go.Proofs.YtlbcaaodkggohaaGreatDoor
