import Derived.Test.YtlbcaaodkggohaaGreatDoorZbk
import Derived.Test.YtlbcaaodkggohaaGreatDoorZTk
namespace Go.Proofs.YtlbcaaodkggohaaGreatDoor
open Go.RowKit
set_option linter.unusedSimpArgs false
set_option maxRecDepth 100000 in
set_option maxHeartbeats 12800000 in
theorem setsS (t : Tb) (ca : Option Addr) (cc : Nat) (ua : Option Addr) (uc : Nat) (A : Nat → Prop) (list : List SetV) (a : Option Addr) (c : Nat) (B : Nat → Prop) (w : World) (hto : t.ok) (ho : (dSetS list).le maxLen) (hT : t.Has w A ca ua) (hL : Rd w B (dSetS list) (.slice a list.length c)) :
  Calls Tryz.prog 54 #[.agg #[.string ⟨t.nm.toArray⟩, .slice ca t.cols.length cc, .slice ua t.uq.length uc, .bool t.rt], .slice a list.length c] w fun e w' => e = .returned (.int .i64 (setsC t list)) ∧ Below w.heap.size w w' := by
 have HL : Hid (∀ W, Below w.heap.size w W → Rd W B (Ls 3 dSet list) (.slice a list.length c)) := fun W h => Rd.later hL h
 have HT : Hid (t.ok ∧ ∀ W, Below w.heap.size w W → t.Has W A ca ua) := ⟨hto, fun W h => hT.later h⟩; have HO := Lib.hid ho; have hll : list.length ≤ maxLen := (Ls_le.1 ho).2.1; have hcl := hto.2.1; unfold maxLen at hll hcl; have HX := Lib.hid (boxD 48 w #[.string ⟨t.nm.toArray⟩, .slice ca t.cols.length cc, .slice ua t.uq.length uc, .bool t.rt]); have HQ := Lib.hid trivial; have HC := Lib.hid trivial; clear ho hL hT hto; (go_enter Tryz.func54, Tryz.ntmps54); (go_wp2_with fail); go_loopw [5] (fun i wr => ∃ k : Nat, k ≤ list.length ∧ i = .int .i64 k ∧ Hid (setsC t list = setsG t (list.take k) (list.drop k) ∧ BoxD 48 w wr #[.string ⟨t.nm.toArray⟩, .slice ca t.cols.length cc, .slice ua t.uq.length uc, .bool t.rt])) (fun i _ => list.length - (intOf i).toNat)
 case atStart => exact ⟨0, Nat.zero_le _, rfl, setsG_first t list, HX.out⟩
 case round =>
  obtain ⟨k, hk, rfl, HW⟩ := hrel
  by_cases hlt : k < list.length
  case neg =>
   have hki : decide ((k : Int) < (list.length : Int)) = false := by simp; omega
   have HR := Lib.hid (setsG_end (by omega) HW.out.1); (go_wp2_with fail); go_ret; exact ⟨ret_i HR.out.symm, HW.out.2.2⟩
  have hki : (k : Int) < (list.length : Int) := by omega
  obtain ⟨b, off, rfl, -, hc⟩ := (HL.out _ HW.out.2.2).things k hlt; obtain ⟨u0, c0, r0⟩ := hc 0 (by omega); obtain rfl : u0 = .string ⟨list[k].col.toArray⟩ := r0; rw [Nat.add_zero] at c0; obtain ⟨u1, c1, r1⟩ := hc 1 (by omega); replace r1 : Rd wr B (dAtomS list[k].val) u1 := r1; obtain ⟨va, vc, rfl⟩ := r1.lsSlice; obtain ⟨u2, c2, r2⟩ := hc 2 (by omega); replace r2 : Rd wr B (dStringS list[k].nms) u2 := r2; obtain ⟨na, nc, rfl⟩ := r2.lsSlice; clear hc r2; have HLE := Lib.hid (le_set HO.out hlt); have HNO : Hid (∀ n : Int, setK t (list.take k) list[k] = n → n ≠ 0 → setsC t list = n) := fun n h h0 => (setsG_no hlt HW.out.1 (by rw [h]; exact h0)).trans h
  have HNX : Hid (setK t (list.take k) list[k] = 0 → setsC t list = setsG t (list.take (k + 1)) (list.drop (k + 1))) := fun h => setsG_next hlt HW.out.1 h
  have PLI : Hid (∀ W, Below wr.heap.size wr W → Calls Tryz.prog 52 #[.agg #[.string ⟨t.nm.toArray⟩, .slice ca t.cols.length cc, .slice ua t.uq.length uc, .bool t.rt], .string ⟨list[k].col.toArray⟩] W fun e w' => e = .returned (.int .i64 (placeC t.cols list[k].col)) ∧ Below W.heap.size W w') := fun W h => placeS t list[k].col ca cc ua uc A W HT.out.1.2.1 (HT.out.2 W (HW.out.2.2.trans (h.mono HW.out.2.2.size)))
  have CX4 : Hid (∀ W, Below wr.heap.size wr W → W.cell? ⟨w.heap.size, 0, none⟩ = some (.string ⟨t.nm.toArray⟩) ∧ W.cell? ⟨w.heap.size, 1, none⟩ = some (.slice ca t.cols.length cc) ∧ W.cell? ⟨w.heap.size, 2, none⟩ = some (.slice ua t.uq.length uc) ∧ W.cell? ⟨w.heap.size, 3, none⟩ = some (.bool t.rt) ∧ W.cell? ⟨b, off + k * 3, none⟩ = some (.string ⟨list[k].col.toArray⟩)) := fun W h => ⟨cell_at (o := 0) (HW.out.2.later h).1 rfl, cell_at (o := 1) (HW.out.2.later h).1 rfl, cell_at (o := 2) (HW.out.2.later h).1 rfl, cell_at (o := 3) (HW.out.2.later h).1 rfl, (h.cell (p := ⟨b, off + k * 3, none⟩) (World.block_lt_of_cell? _ _ c0)).trans c0⟩
  have CXV : Hid (∀ W, Below wr.heap.size wr W → W.cell? ⟨b, off + k * 3 + 1, none⟩ = some (.slice va list[k].val.length vc) ∧ W.cell? ⟨b, off + k * 3 + 2, none⟩ = some (.slice na list[k].nms.length nc)) := fun W h => ⟨(h.cell (p := ⟨b, off + k * 3 + 1, none⟩) (World.block_lt_of_cell? _ _ c1)).trans c1, (h.cell (p := ⟨b, off + k * 3 + 2, none⟩) (World.block_lt_of_cell? _ _ c2)).trans c2⟩
  have HCM : Hid (∀ m (h : m < list.length) W, Below wr.heap.size wr W → W.cell? ⟨b, off + m * 3, none⟩ = some (.string ⟨list[m].col.toArray⟩)) := fun m h W hB => by
   obtain ⟨u, e, hr⟩ := (HL.out W (HW.out.2.2.trans (hB.mono HW.out.2.2.size))).spotT h (j := 0) (by omega); obtain rfl : u = .string ⟨list[m].col.toArray⟩ := hr; rw [Nat.add_zero] at e; exact e
  have HHD := Lib.hid (r1.lt.ats.head); have HVL : Hid (list[k].val.length ≤ maxLen ∧ list[k].nms.length ≤ maxLen) := ⟨(Ls_le.1 HLE.out.2.1).2.1, (Ls_le.1 HLE.out.2.2).2.1⟩; have HS1 : Hid (placeC t.cols list[k].col = -1 → setK t (list.take k) list[k] = 11) := fun h => setK_col h
  have HS2 : Hid (∀ j : Nat, placeC t.cols list[k].col = (j : Int) → colIn (list.take k) list[k].col = true → setK t (list.take k) list[k] = 8) := fun j h h2 => setK_twice h h2
  have HS3 : Hid (∀ (j : Nat) (hj : j < t.cols.length), placeC t.cols list[k].col = (j : Int) → colIn (list.take k) list[k].col = false → setK t (list.take k) list[k] = if typeNo t.cols[j].k list[k] = true then 9 else 0) := fun j hj h h2 => setK_type hj h h2
  have HIY : Hid (∀ m (h : m < list.length), m < k → list[m].col = list[k].col → colIn (list.take k) list[k].col = true) := fun m h hm e => colIn_yes (k := m) (by rw [List.length_take]; omega) (by rw [List.getElem_take]; exact e)
  have HIN : Hid ((∀ m (h : m < list.length), m < k → list[m].col ≠ list[k].col) → colIn (list.take k) list[k].col = false) := fun hn => colIn_no (fun m hm => by rw [List.getElem_take]; exact hn m (by rw [List.length_take] at hm; omega) (by rw [List.length_take] at hm; omega))
  clear r1 c0 c1 c2 HQ HC HO; generalize setK t (list.take k) list[k] = sk at *; generalize colIn (list.take k) list[k].col = ci at *; generalize list[k] = y at *; (go_wp2_with fail); refine wp_region_held_drew (S := (fun W => W.cell? ⟨w.heap.size, 0, none⟩ = some (.string ⟨t.nm.toArray⟩) ∧ W.cell? ⟨w.heap.size, 1, none⟩ = some (.slice ca t.cols.length cc) ∧ W.cell? ⟨w.heap.size, 2, none⟩ = some (.slice ua t.uq.length uc) ∧ W.cell? ⟨w.heap.size, 3, none⟩ = some (.bool t.rt) ∧ W.cell? ⟨b, off + k * 3, none⟩ = some (.string ⟨y.col.toArray⟩))) (by kernel_rfl) ?_ (fun hHeld => ?_)
  ·
   (first | exact CX4.out _ (Below.refl _ _) | exact CX4.out _ (Below.refl _ _).drew | exact CX4.out _ BW.out)
  refine tkB (i := 0) ?_; refine tkB (i := 1) ?_; refine tkB (i := 2) ?_; refine tkB (i := 3) ?_; refine tkB (i := 4) ?_; refine tkB (i := 5) ?_; refine tkR (i := 6) (fun K hK => ?_); go_simp
  (go_at_call 52; refine (PLI.out _ (Below.refl _ _).drew).mono ?_; rintro e w1 ⟨rfl, hB⟩; have BW : Hid (Below wr.heap.size wr w1) := (Below.refl _ _).drew.trans hB; clear hB)
  refine hK.out _ _ ?_ (fun hHeld => ?_)
  ·
   (first | exact CX4.out _ (Below.refl _ _) | exact CX4.out _ (Below.refl _ _).drew | exact CX4.out _ BW.out)
  clear hK K; (try simp only [Act.put, tkS]); refine tkB (i := 7) ?_; refine wpAnyH_done (by kernel_rfl) ?_ _; rcases place_cases t.cols y.col with hp | ⟨j, hj, hp⟩
  ·
   have HR := Lib.hid (HNO.out 11 (HS1.out hp) (by omega)); have BF : Hid (Below w.heap.size w w1) := HW.out.2.2.trans (BW.out.mono HW.out.2.2.size); rw [hp]; clear hp HS1 HS2 HS3 HNX HNO PLI HIY HIN; (go_wp2_with fail); go_ret; exact ⟨ret_i HR.out.symm, BF.out⟩
  have hdj : decide ((j : Int) < 0) = false := decide_eq_false (by omega); have HS2 := Lib.hid (HS2.out j hp); have HS3 := Lib.hid (HS3.out j hj hp); obtain ⟨b1, off1, hca, -, -⟩ := (HT.out.2 _ HW.out.2.2).1.at j hj; subst hca
  have CCE : Hid (∀ W, Below w.heap.size w W → W.cell? ⟨b1, off1 + j * 8 + 1, none⟩ = some (.int .i64 t.cols[j].k)) := fun W h => by
   obtain ⟨b2, off2, e2, -, hc2⟩ := (HT.out.2 W h).1.at j hj; simp only [Option.some.injEq, Addr.mk.injEq, and_true] at e2; obtain ⟨rfl, rfl⟩ := e2; exact (hc2 j hj).2.1
  have hji : (j : Int) < (t.cols.length : Int) := by omega
  rw [hp]; clear HS1 PLI; generalize t.cols[j].k = kd at *; clear hp hj; generalize wr = wo at *; (go_wp2_with fail); go_loopw [7] (fun i wr => ∃ n : Nat, n ≤ k ∧ i = .int .i64 n ∧ Hid ((∀ m (h : m < list.length), m < n → list[m].col ≠ y.col) ∧ Below wo.heap.size wo wr)) (fun i _ => k - (intOf i).toNat)
  case atStart => exact ⟨0, Nat.zero_le _, rfl, fun m _ h => absurd h (by omega), BW.out⟩
  case round =>
   obtain ⟨n, hnk, rfl, HV⟩ := hrel
   by_cases hnl : n < k
   case pos =>
    have hni : decide ((n : Int) < (k : Int)) = true := decide_eq_true (by omega); have hn2 : (n : Int) < (list.length : Int) := by omega
    have hn3 : n < list.length := by omega
    have CX10 : Hid (∀ W, Below wr.heap.size wr W → W.cell? ⟨b, off + n * 3, none⟩ = some (.string ⟨list[n].col.toArray⟩) ∧ W.cell? ⟨b, off + k * 3, none⟩ = some (.string ⟨y.col.toArray⟩)) := fun W h => ⟨HCM.out n hn3 W (HV.out.2.trans (h.mono HV.out.2.size)), (CX4.out W (HV.out.2.trans (h.mono HV.out.2.size))).2.2.2.2⟩
    have HNN : Hid (list[n].col ≠ y.col → ∀ m (h : m < list.length), m < n + 1 → list[m].col ≠ y.col) := fun he m h hm => by
     by_cases e : m = n
     ·
      subst e; exact he
     ·
      exact HV.out.1 m h (by omega)
    have HYY := Lib.hid (HIY.out n hn3 hnl); generalize list[n] = z at *
    by_cases he : z.col = y.col
    case pos =>
     have HR := Lib.hid (HNO.out 8 (HS2.out (HYY.out he)) (by omega)); have e1 : (z.col == y.col) = true := by simpa using he
     have BF : Hid (Below w.heap.size w wr) := HW.out.2.2.trans (HV.out.2.mono HW.out.2.2.size); clear he HNN HYY HNO HNX HS2 HS3 HIY HIN; (go_wp2_with fail); refine wp_region_held_drew (S := (fun W => W.cell? ⟨b, off + n * 3, none⟩ = some (.string ⟨z.col.toArray⟩) ∧ W.cell? ⟨b, off + k * 3, none⟩ = some (.string ⟨y.col.toArray⟩))) (by kernel_rfl) ?_ (fun hHeld => ?_)
     ·
      (first | exact CX10.out _ (Below.refl _ _) | exact CX10.out _ (Below.refl _ _).drew)
     refine tkB (i := 0) ?_; refine tkB (i := 1) ?_; refine tkB (i := 2) ?_; refine tkB (i := 3) ?_; refine tkB (i := 4) ?_; refine tkB (i := 5) ?_; refine tkB (i := 6) ?_; refine tkB (i := 7) ?_; refine tkB (i := 8) ?_; refine tkB (i := 9) ?_; refine tkB (i := 10) ?_; refine wpAnyH_done (by kernel_rfl) ?_ _; (go_wp2_with fail); go_ret; exact ⟨ret_i HR.out.symm, BF.out.drew⟩
    have HN := Lib.hid (HNN.out he); have e1 : (z.col == y.col) = false := by simpa using he
    clear he HNN HYY; (go_wp2_with fail); refine wp_region_held_drew (S := (fun W => W.cell? ⟨b, off + n * 3, none⟩ = some (.string ⟨z.col.toArray⟩) ∧ W.cell? ⟨b, off + k * 3, none⟩ = some (.string ⟨y.col.toArray⟩))) (by kernel_rfl) ?_ (fun hHeld => ?_)
    ·
     (first | exact CX10.out _ (Below.refl _ _) | exact CX10.out _ (Below.refl _ _).drew)
    refine tkB (i := 0) ?_; refine tkB (i := 1) ?_; refine tkB (i := 2) ?_; refine tkB (i := 3) ?_; refine tkB (i := 4) ?_; refine tkB (i := 5) ?_; refine tkB (i := 6) ?_; refine tkB (i := 7) ?_; refine tkB (i := 8) ?_; refine tkB (i := 9) ?_; refine tkB (i := 10) ?_; refine wpAnyH_done (by kernel_rfl) ?_ _; (go_wp2_with fail); go_roundw
    case rel => exact ⟨n + 1, by omega, by go_num, HN.out, HV.out.2.drew⟩
    case measure => simp [intOf]; omega
   have hni : decide ((n : Int) < (k : Int)) = false := decide_eq_false (by omega); have HS3 := Lib.hid (HS3.out (HIN.out (fun m h hm => HV.out.1 m h (by omega)))); have hbt := heap_keptD HW.out.2.1 HV.out.2; have x1 := cell_at (o := 1) hbt rfl; have ck := CCE.out wr (HW.out.2.2.trans (HV.out.2.mono HW.out.2.2.size)); obtain ⟨cv1, cv2⟩ := CXV.out wr HV.out.2; have HBX : Hid (BoxD 48 w wr #[.string ⟨t.nm.toArray⟩, .slice (some ⟨b1, off1, none⟩) t.cols.length cc, .slice ua t.uq.length uc, .bool t.rt]) := ⟨hbt, HW.out.2.2.trans (HV.out.2.mono HW.out.2.2.size)⟩; have hv1 := HVL.out.1; have hv2 := HVL.out.2; unfold maxLen at hv1 hv2; clear HS2 HIY HIN hbt CCE HCM; rcases HHD.out with h0 | ⟨b3, off3, kq, h0, ha, hkn, hcell⟩
   ·
    have HKN := Lib.hid (kindNo_nil (kd := kd) h0); have g1 : decide (0 < y.val.length) = false := decide_eq_false (by omega); clear h0 HHD
    by_cases hm : 0 < y.nms.length
    case neg =>
     have f1 : decide (0 < y.nms.length) = false := decide_eq_false hm; have HTY : Hid (typeNo kd y = false) := by show typeNo kd y = false; unfold typeNo; rw [HKN.out, f1]; rfl
     clear hm HKN; have HN := Lib.hid (HNX.out (by rw [HS3.out, HTY.out]; rfl)); clear HNO HNX HS3 HTY; (go_wp2_with fail); go_roundw
     case rel => exact ⟨k + 1, by omega, by go_num, HN.out, HBX.out⟩
     case measure => simp [intOf]; omega
    have f1 : decide (0 < y.nms.length) = true := decide_eq_true hm
    cases hk4 : (kd != 4)
    case false =>
     have HTY : Hid (typeNo kd y = false) := by show typeNo kd y = false; unfold typeNo; rw [HKN.out, f1, hk4]; rfl
     clear hm HKN; have HN := Lib.hid (HNX.out (by rw [HS3.out, HTY.out]; rfl)); clear HNO HNX HS3 HTY; (go_wp2_with fail); go_roundw
     case rel => exact ⟨k + 1, by omega, by go_num, HN.out, HBX.out⟩
     case measure => simp [intOf]; omega
    case true =>
     have HTY : Hid (typeNo kd y = true) := by show typeNo kd y = true; unfold typeNo; rw [HKN.out, f1, hk4]; rfl
     clear hm HKN; have HR := Lib.hid (HNO.out 9 (by rw [HS3.out, HTY.out]; rfl) (by omega)); clear HNO HNX HS3 HTY; (go_wp2_with fail); go_ret; exact ⟨ret_i HR.out.symm, HBX.out.2⟩
   have g1 : decide (0 < y.val.length) = true := decide_eq_true h0; have cv := hcell wr HV.out.2; have HKE := Lib.hid (hkn kd); subst ha; clear hkn hcell HHD
   cases hkq : (kq != kd)
   case true =>
    have HTY : Hid (typeNo kd y = true) := by show typeNo kd y = true; unfold typeNo; rw [HKE.out, hkq]; rfl
    clear HKE; have HR := Lib.hid (HNO.out 9 (by rw [HS3.out, HTY.out]; rfl) (by omega)); clear HNO HNX HS3 HTY; (go_wp2_with fail); go_ret; exact ⟨ret_i HR.out.symm, HBX.out.2⟩
   have HKN : Hid (kindNo kd y.val = false) := by show kindNo kd y.val = false; rw [HKE.out, hkq]
   clear HKE
   by_cases hm : 0 < y.nms.length
   case neg =>
    have f1 : decide (0 < y.nms.length) = false := decide_eq_false hm; have HTY : Hid (typeNo kd y = false) := by show typeNo kd y = false; unfold typeNo; rw [HKN.out, f1]; rfl
    clear hm HKN; have HN := Lib.hid (HNX.out (by rw [HS3.out, HTY.out]; rfl)); clear HNO HNX HS3 HTY; (go_wp2_with fail); go_roundw
    case rel => exact ⟨k + 1, by omega, by go_num, HN.out, HBX.out⟩
    case measure => simp [intOf]; omega
   have f1 : decide (0 < y.nms.length) = true := decide_eq_true hm
   cases hk4 : (kd != 4)
   case false =>
    have HTY : Hid (typeNo kd y = false) := by show typeNo kd y = false; unfold typeNo; rw [HKN.out, f1, hk4]; rfl
    clear hm HKN; have HN := Lib.hid (HNX.out (by rw [HS3.out, HTY.out]; rfl)); clear HNO HNX HS3 HTY; (go_wp2_with fail); go_roundw
    case rel => exact ⟨k + 1, by omega, by go_num, HN.out, HBX.out⟩
    case measure => simp [intOf]; omega
   case true =>
    have HTY : Hid (typeNo kd y = true) := by show typeNo kd y = true; unfold typeNo; rw [HKN.out, f1, hk4]; rfl
    clear hm HKN; have HR := Lib.hid (HNO.out 9 (by rw [HS3.out, HTY.out]; rfl) (by omega)); clear HNO HNX HS3 HTY; (go_wp2_with fail); go_ret; exact ⟨ret_i HR.out.symm, HBX.out.2⟩
end Go.Proofs.YtlbcaaodkggohaaGreatDoor
