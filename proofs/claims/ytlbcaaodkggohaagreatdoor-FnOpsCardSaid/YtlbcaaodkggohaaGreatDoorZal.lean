import Derived.Test.YtlbcaaodkggohaaGreatDoorZak
import Derived.Deep.RegionHeld3
import Derived.Test.YtlbcaaodkggohaaGreatDoorZTk
namespace Go.Proofs.YtlbcaaodkggohaaGreatDoor
open Go.RowKit
set_option linter.unusedSimpArgs false
set_option maxRecDepth 100000 in
set_option maxHeartbeats 6400000 in
theorem tableS (t : Tb) (ca : Option Addr) (cc : Nat) (ua : Option Addr) (uc : Nat) (B : Nat → Prop) (w : World) (ho : t.ok) (hS : t.Has w B ca ua) :
  Calls Tryz.prog 46 #[.agg #[.string ⟨t.nm.toArray⟩, .slice ca t.cols.length cc, .slice ua t.uq.length uc, .bool t.rt]] w fun e w' => e = .returned (.bool (tabB t)) ∧ Below w.heap.size w w' := by
 have HO : Hid t.ok := ho; have hcl := ho.2.1; have hul := ho.2.2.2; unfold maxLen at hcl hul; have HS : Hid (t.Has w B ca ua) := hS; have hx := boxT 48 w t ca cc ua uc; clear ho hS; obtain ⟨x0, x1, x2⟩ := ck3 0 1 2 hx.1
 cases hn : nameB t.nm
 case false =>
  have HP : Hid (tabB t = false) := tab_no (fun h => by rw [h.nm] at hn; cases hn); (go_enter Tryz.func46, Tryz.ntmps46); (go_wp2_with (go_at_call 51; refine (nameS _ _ HO.out.1).mono ?_; rintro e w' ⟨rfl, rfl⟩)); go_ret; exact ⟨ret_b HP.out.symm, hx.2⟩
 cases hc : inB 1 t.cols.length 6
 case false =>
  have HP : Hid (tabB t = false) := tab_no (fun h => by have := h.len; unfold inB at hc; simp at hc; omega); (go_enter Tryz.func46, Tryz.ntmps46); (go_wp2_with (first | (go_at_call 51; refine (nameS _ _ HO.out.1).mono ?_; rintro e w' ⟨rfl, rfl⟩) | (go_at_call 45; refine (inS _ _ _ _).mono ?_; rintro e w' ⟨rfl, rfl⟩))); go_ret; exact ⟨ret_b HP.out.symm, hx.2⟩
 have hc6 : 1 ≤ t.cols.length ∧ t.cols.length ≤ 6 := by unfold inB at hc; simp at hc; omega
 by_cases hu : 6 < t.uq.length
 case pos =>
  have HP : Hid (tabB t = false) := tab_no (fun h => by have := uq_len h.uq; omega); have d1 : decide (6 < (t.uq.length : Int)) = true := decide_eq_true (by omega); (go_enter Tryz.func46, Tryz.ntmps46); (go_wp2_with (first | (go_at_call 51; refine (nameS _ _ HO.out.1).mono ?_; rintro e w' ⟨rfl, rfl⟩) | (go_at_call 45; refine (inS _ _ _ _).mono ?_; rintro e w' ⟨rfl, rfl⟩))); go_ret; exact ⟨ret_b HP.out.symm, hx.2⟩
 have d1 : decide (6 < (t.uq.length : Int)) = false := decide_eq_false (by omega); have HN := Lib.hid hn; have HC6 := Lib.hid hc6; (go_enter Tryz.func46, Tryz.ntmps46); (go_wp2_with (first | (go_at_call 51; refine (nameS _ _ HO.out.1).mono ?_; rintro e w' ⟨rfl, rfl⟩) | (go_at_call 45; refine (inS _ _ _ _).mono ?_; rintro e w' ⟨rfl, rfl⟩))); have HX0 := Lib.hid hx; clear hx x0 x1 x2 hn hc hc6 hu d1; go_loopw [3] (fun i wr => ∃ k : Nat, k ≤ t.cols.length ∧ i = .int .i64 k ∧ Hid ((∀ m (h : m < t.cols.length), m < k → GoodC t.cols m h) ∧ BoxT 48 w wr t ca cc ua uc)) (fun i _ => t.cols.length - (intOf i).toNat)
 case atStart => exact ⟨0, Nat.zero_le _, rfl, fun m _ h => absurd h (by omega), HX0.out⟩
 case round =>
  obtain ⟨i, hi, rfl, HW⟩ := hrel; have hx := HW.out.2; obtain ⟨x1, x2⟩ := ck2 1 2 hx.1
  by_cases hlt : i < t.cols.length
  case pos =>
   have hki : (i : Int) < (t.cols.length : Int) := by omega
   obtain ⟨b, off, rfl, -, hcc⟩ := (HS.out.later hx.2).1.at i hlt
   have HCA : Hid (∀ W, BoxT 48 w W t (some ⟨b, off, none⟩) cc ua uc → ∀ j (h : j < t.cols.length), ColAt W b (off + j * 8) t.cols[j]) := fun W h j hj => by
    obtain ⟨b', off', e, -, hc'⟩ := (HS.out.later h.2).1.at j hj; simp only [Option.some.injEq, Addr.mk.injEq, and_true] at e; obtain ⟨rfl, rfl⟩ := e; exact hc' j hj
   obtain ⟨c0, c1, c2, c3, c4, c5, c6, c7⟩ := hcc i hlt; clear hcc; have CO : Hid (∀ W, Calls Tryz.prog 84 #[.agg #[.string ⟨t.cols[i].nm.toArray⟩, .int .i64 t.cols[i].k, .int .i64 t.cols[i].mn, .int .i64 t.cols[i].mx, .int .i64 t.cols[i].lo, .int .i64 t.cols[i].hi, .string ⟨t.cols[i].rf.toArray⟩, .bool t.cols[i].st]] W fun e w' => e = .returned (.bool (colB t.cols[i])) ∧ Below W.heap.size W w') := fun W => columnOKs t.cols[i] W (HO.out.2.2.1 _ (List.getElem_mem hlt)).1 (HO.out.2.2.1 _ (List.getElem_mem hlt)).2
   cases hcb : colB t.cols[i]
   case false =>
    have HP : Hid (tabB t = false) := tab_no (fun h => by have := (h.cols i hlt).1; rw [hcb] at this; cases this); rw [hcb] at CO; clear hcb; generalize t.cols[i] = z at *; (go_wp2_with (go_at_call 84; refine (CO.out _).mono ?_; rintro e w1 ⟨rfl, hB1⟩; have hx := hx.later hB1)); go_ret; exact ⟨ret_b HP.out.symm, hx.2⟩
   have HCB := Lib.hid hcb; rw [hcb] at CO; obtain ⟨z, hz⟩ : ∃ z, z = t.cols[i] := ⟨_, rfl⟩; rw [← hz] at CO c0 c1 c2 c3 c4 c5 c6 c7; have HZ := Lib.hid hz; clear hcb hz; (go_wp2_with (go_at_call 84; refine (CO.out _).mono ?_; rintro e w1 ⟨rfl, hB1⟩; have hx := hx.later hB1)); have HX1 := Lib.hid hx; clear hx x1 x2 c0 c1 c2 c3 c4 c5 c6 c7; go_loopw [4] (fun q wq => ∃ j : Nat, j ≤ i ∧ q = .int .i64 j ∧ Hid ((∀ m (h : m < i), m < j → (t.cols[m]'(by omega)).nm ≠ z.nm) ∧ BoxT 48 w wq t (some ⟨b, off, none⟩) cc ua uc)) (fun q _ => i - (intOf q).toNat)
   case atStart => exact ⟨0, Nat.zero_le _, rfl, fun m _ h => absurd h (by omega), HX1.out⟩
   case round =>
    obtain ⟨j, hj, rfl, HV⟩ := hrel; have hx := HV.out.2; have x1 := cell_at (o := 1) hx.1 rfl
    by_cases hji : j < i
    case pos =>
     have hjl : j < t.cols.length := by omega
     have hjk : (j : Int) < (i : Int) := by omega
     have hjk2 : (j : Int) < (t.cols.length : Int) := by omega
     have c0 := (HCA.out _ hx j hjl).1; have b0 := (HCA.out _ hx i hlt).1; rw [← HZ.out] at b0
     by_cases he : t.cols[j].nm = z.nm
     case pos =>
      have HP : Hid (tabB t = false) := tab_no (fun h => by have := (h.cols i hlt).2 j hji; rw [← HZ.out] at this; exact this he); rw [he] at c0; clear he; (go_wp2_with fail); (go_quiet (fail)); (go_wp2_with fail); go_ret; exact ⟨ret_b HP.out.symm, below_drewN hx.2 _⟩
     have HN2 : Hid (∀ m (h : m < i), m < j + 1 → (t.cols[m]'(by omega)).nm ≠ z.nm) := fun m h hm => by
      by_cases e : m = j
      ·
       subst e; exact he
      ·
       exact HV.out.1 m h (by omega)
     have hne : (t.cols[j].nm == z.nm) = false := by simpa using he
     clear he HV; generalize t.cols[j] = y at *; (go_wp2_with fail); (go_quiet (fail)); (go_wp2_with fail); go_roundw
     case rel => exact ⟨j + 1, by omega, by go_num, HN2.out, hx.drewN _⟩
     case measure => simp [intOf]; omega
    have hji' : j = i := by omega
    subst hji'; have hjd : decide ((j : Int) < (j : Int)) = false := by simp
    have HG : Hid (∀ m (h : m < t.cols.length), m < j + 1 → GoodC t.cols m h) := fun m h hm => by
     by_cases e : m = j
     ·
      subst e; exact ⟨HCB.out, fun q hq => by have := HV.out.1 q hq hq; rw [HZ.out] at this; exact this⟩
     ·
      exact HW.out.1 m h (by omega)
    clear HV HW; (go_wp2_with fail); go_roundw
    case rel => exact ⟨j + 1, by omega, by go_num, HG.out, hx⟩
    case measure => simp [intOf]; omega
  have hid : decide ((i : Int) < (t.cols.length : Int)) = false := by simp; omega
  have HGC : Hid (∀ m (h : m < t.cols.length), GoodC t.cols m h) := fun m h => HW.out.1 m h (by omega)
  clear HW; (go_wp2_with fail); have HX2 := Lib.hid hx; clear hx x1 x2 hlt hid; go_loopw [5] (fun q wq => ∃ k : Nat, k ≤ t.uq.length ∧ q = .int .i64 k ∧ Hid ((∀ m (h : m < t.uq.length), m < k → GoodU t.cols.length t.uq m h) ∧ BoxT 48 w wq t ca cc ua uc)) (fun q _ => t.uq.length - (intOf q).toNat)
  case atStart => exact ⟨0, Nat.zero_le _, rfl, fun m _ h => absurd h (by omega), HX2.out⟩
  case round =>
   obtain ⟨k, hk, rfl, HV⟩ := hrel; have hx := HV.out.2; obtain ⟨x1, x2⟩ := ck2 1 2 hx.1
   by_cases hkl : k < t.uq.length
   case neg =>
    have hkd : decide ((k : Int) < (t.uq.length : Int)) = false := by simp; omega
    have HP : Hid (tabB t = true) := tab_yes ⟨HN.out, HC6.out, HGC.out, fun m h => HV.out.1 m h (by omega)⟩; (go_wp2_with fail); go_ret; exact ⟨ret_b HP.out.symm, hx.2⟩
   have hki : (k : Int) < (t.uq.length : Int) := by omega
   have fn : IntKind.i64.wrap ((t.cols.length : Int) - 1) = (t.cols.length : Int) - 1 := by rw [IntKind.wrap_i64]; omega
   obtain ⟨b, off, rfl, -, -⟩ := (HS.out.later hx.2).2.at k hkl
   have HUA : Hid (∀ W, BoxT 48 w W t ca cc (some ⟨b, off, none⟩) uc → ∀ j (h : j < t.uq.length), W.cell? ⟨b, off + j, none⟩ = some (.int .i64 t.uq[j])) := fun W h j hj => by
    obtain ⟨b', off', e, -, hc'⟩ := (HS.out.later h.2).2.at j hj; simp only [Option.some.injEq, Addr.mk.injEq, and_true] at e; obtain ⟨rfl, rfl⟩ := e; exact hc' j hj
   have HNX : Hid (GoodU t.cols.length t.uq k hkl → ∀ m (h : m < t.uq.length), m < k + 1 → GoodU t.cols.length t.uq m h) := fun hg m h hm => by
    by_cases e : m = k
    ·
     subst e; exact hg
    ·
     exact HV.out.1 m h (by omega)
   clear HV
   cases hin : inB 0 t.uq[k] ((t.cols.length : Int) - 1)
   case false =>
    have HP : Hid (tabB t = false) := tab_no (fun h => by have := (h.uq k hkl).1; unfold inB at hin; simp at hin; omega); have CE : Hid (∀ W, BoxT 48 w W t ca cc (some ⟨b, off, none⟩) uc → W.cell? ⟨w.heap.size, 1, none⟩ = some (.slice ca t.cols.length cc) ∧ W.cell? ⟨w.heap.size, 2, none⟩ = some (.slice (some ⟨b, off, none⟩) t.uq.length uc) ∧ W.cell? ⟨b, off + k, none⟩ = some (.int .i64 t.uq[k])) := fun W h => ⟨cell_at (o := 1) h.1 rfl, cell_at (o := 2) h.1 rfl, HUA.out W h k hkl⟩
    clear HUA HNX; generalize t.uq[k] = x at *; (go_wp2_with fail); refine wp_region_held_drew (S := (fun W => W.cell? ⟨w.heap.size, 1, none⟩ = some (.slice ca t.cols.length cc) ∧ W.cell? ⟨w.heap.size, 2, none⟩ = some (.slice (some ⟨b, off, none⟩) t.uq.length uc) ∧ W.cell? ⟨b, off + k, none⟩ = some (.int .i64 x))) (by kernel_rfl) ?_ (fun hHeld => ?_)
    ·
     (first | exact CE.out _ hx | exact CE.out _ hx.drew)
    refine tkB (i := 0) ?_; refine tkB (i := 1) ?_; refine tkB (i := 2) ?_; refine tkB (i := 3) ?_; refine tkB (i := 4) ?_; refine tkB (i := 5) ?_; refine tkB (i := 6) ?_; refine tkB (i := 7) ?_; refine tkB (i := 8) ?_; refine tkR (i := 9) (fun K hK => ?_); go_simp
    (go_at_call 45; refine (inS _ _ _ _).mono ?_; rintro e w' ⟨rfl, rfl⟩)
    refine hK.out _ _ ?_ (fun hHeld => ?_)
    ·
     (first | exact CE.out _ hx | exact CE.out _ hx.drew)
    clear hK K; (try simp only [Act.put, tkS]); refine tkB (i := 10) ?_; refine tkB (i := 11) ?_; refine tkV (i := 12) ?_; refine tkV (i := 13) ?_; refine tkV (i := 14) ?_; refine tkV (i := 15) ?_; refine tkV (i := 16) ?_; refine tkV (i := 17) ?_; refine tkV (i := 18) ?_; refine tkV (i := 19) ?_; refine tkV (i := 20) ?_; refine tkV (i := 21) ?_; refine tkV (i := 22) ?_; refine tkV (i := 23) ?_; refine tkV (i := 24) ?_; refine tkV (i := 25) ?_; refine tkV (i := 26) ?_; refine tkV (i := 27) ?_; refine tkB (i := 28) ?_; refine wpAnyH_done (by kernel_rfl) ?_ _; (go_wp2_with fail); go_ret; exact ⟨ret_b HP.out.symm, by first | exact hx.2 | exact hx.2.drew⟩
   have hrg : 0 ≤ t.uq[k] ∧ t.uq[k] < (t.cols.length : Int) := by unfold inB at hin; simp at hin; omega
   by_cases hk0 : k = 0
   case pos =>
    subst hk0; have HG := Lib.hid (HNX.out ⟨hrg, fun j hj => absurd hj (by omega)⟩); have CE : Hid (∀ W, BoxT 48 w W t ca cc (some ⟨b, off, none⟩) uc → W.cell? ⟨w.heap.size, 1, none⟩ = some (.slice ca t.cols.length cc) ∧ W.cell? ⟨w.heap.size, 2, none⟩ = some (.slice (some ⟨b, off, none⟩) t.uq.length uc) ∧ W.cell? ⟨b, off, none⟩ = some (.int .i64 t.uq[0])) := fun W h => ⟨cell_at (o := 1) h.1 rfl, cell_at (o := 2) h.1 rfl, HUA.out W h 0 hkl⟩
    clear HUA HNX hrg; generalize t.uq[0] = x at *; (go_wp2_with fail); refine wp_region_held_drew (S := (fun W => W.cell? ⟨w.heap.size, 1, none⟩ = some (.slice ca t.cols.length cc) ∧ W.cell? ⟨w.heap.size, 2, none⟩ = some (.slice (some ⟨b, off, none⟩) t.uq.length uc) ∧ W.cell? ⟨b, off, none⟩ = some (.int .i64 x))) (by kernel_rfl) ?_ (fun hHeld => ?_)
    ·
     (first | exact CE.out _ hx | exact CE.out _ hx.drew)
    refine tkB (i := 0) ?_; refine tkB (i := 1) ?_; refine tkB (i := 2) ?_; refine tkB (i := 3) ?_; refine tkB (i := 4) ?_; refine tkB (i := 5) ?_; refine tkB (i := 6) ?_; refine tkB (i := 7) ?_; refine tkB (i := 8) ?_; refine tkR (i := 9) (fun K hK => ?_); go_simp
    (go_at_call 45; refine (inS _ _ _ _).mono ?_; rintro e w' ⟨rfl, rfl⟩)
    refine hK.out _ _ ?_ (fun hHeld => ?_)
    ·
     (first | exact CE.out _ hx | exact CE.out _ hx.drew)
    clear hK K; (try simp only [Act.put, tkS]); refine tkB (i := 10) ?_; refine tkB (i := 11) ?_; refine tkB (i := 12) ?_; refine tkB (i := 13) ?_; refine tkB (i := 14) ?_; refine tkV (i := 15) ?_; refine tkV (i := 16) ?_; refine tkV (i := 17) ?_; refine tkV (i := 18) ?_; refine tkV (i := 19) ?_; refine tkV (i := 20) ?_; refine tkV (i := 21) ?_; refine tkV (i := 22) ?_; refine tkV (i := 23) ?_; refine tkV (i := 24) ?_; refine tkV (i := 25) ?_; refine tkV (i := 26) ?_; refine tkB (i := 27) ?_; refine tkB (i := 28) ?_; refine wpAnyH_done (by kernel_rfl) ?_ _; (go_wp2_with fail); go_roundw
    case rel => exact ⟨1, by omega, by first | rfl | go_num, HG.out, by first | exact hx | exact hx.drew⟩
    case measure => simp [intOf]; omega
   obtain ⟨m, hkm⟩ : ∃ m, k = m + 1 := ⟨k - 1, by omega⟩; have hml : m < t.uq.length := by omega
   have fk : IntKind.i64.wrap ((k : Int) - 1) = (m : Int) := by rw [IntKind.wrap_i64]; omega
   have hmi : (m : Int) < (t.uq.length : Int) := by omega
   have hk1 : decide ((0 : Int) < (k : Int)) = true := by simp; omega
   have hk1' : decide (0 < k) = true := by simp; omega
   have CE : Hid (∀ W, BoxT 48 w W t ca cc (some ⟨b, off, none⟩) uc → W.cell? ⟨w.heap.size, 1, none⟩ = some (.slice ca t.cols.length cc) ∧ W.cell? ⟨w.heap.size, 2, none⟩ = some (.slice (some ⟨b, off, none⟩) t.uq.length uc) ∧ W.cell? ⟨b, off + k, none⟩ = some (.int .i64 t.uq[k]) ∧ W.cell? ⟨b, off + m, none⟩ = some (.int .i64 t.uq[m])) := fun W h => ⟨cell_at (o := 1) h.1 rfl, cell_at (o := 2) h.1 rfl, HUA.out W h k hkl, HUA.out W h m hml⟩
   by_cases hup : t.uq[m] < t.uq[k]
   case pos =>
    have HG := Lib.hid (HNX.out ⟨hrg, fun j hj => by obtain rfl : j = m := (by omega); exact hup⟩); have hge : decide (t.uq[m] ≥ t.uq[k]) = false := decide_eq_false (by omega); have hge' : decide (t.uq[k] ≤ t.uq[m]) = false := decide_eq_false (by omega); clear HUA HNX hrg hup hkm hk0; generalize t.uq[k] = x at *; generalize t.uq[m] = y at *; (go_wp2_with fail); refine wp_region_held_drew (S := (fun W => W.cell? ⟨w.heap.size, 1, none⟩ = some (.slice ca t.cols.length cc) ∧ W.cell? ⟨w.heap.size, 2, none⟩ = some (.slice (some ⟨b, off, none⟩) t.uq.length uc) ∧ W.cell? ⟨b, off + k, none⟩ = some (.int .i64 x) ∧ W.cell? ⟨b, off + m, none⟩ = some (.int .i64 y))) (by kernel_rfl) ?_ (fun hHeld => ?_)
    ·
     (first | exact CE.out _ hx | exact CE.out _ hx.drew)
    refine tkB (i := 0) ?_; refine tkB (i := 1) ?_; refine tkB (i := 2) ?_; refine tkB (i := 3) ?_; refine tkB (i := 4) ?_; refine tkB (i := 5) ?_; refine tkB (i := 6) ?_; refine tkB (i := 7) ?_; refine tkB (i := 8) ?_; refine tkR (i := 9) (fun K hK => ?_); go_simp
    (go_at_call 45; refine (inS _ _ _ _).mono ?_; rintro e w' ⟨rfl, rfl⟩)
    refine hK.out _ _ ?_ (fun hHeld => ?_)
    ·
     (first | exact CE.out _ hx | exact CE.out _ hx.drew)
    clear hK K; (try simp only [Act.put, tkS]); refine tkB (i := 10) ?_; refine tkB (i := 11) ?_; refine tkB (i := 12) ?_; refine tkB (i := 13) ?_; refine tkB (i := 14) ?_; refine tkB (i := 15) ?_; refine tkB (i := 16) ?_; refine tkB (i := 17) ?_; refine tkB (i := 18) ?_; refine tkB (i := 19) ?_; refine tkB (i := 20) ?_; refine tkB (i := 21) ?_; refine tkB (i := 22) ?_; refine tkB (i := 23) ?_; refine tkB (i := 24) ?_; refine tkB (i := 25) ?_; refine tkB (i := 26) ?_; refine tkB (i := 27) ?_; refine tkB (i := 28) ?_; refine wpAnyH_done (by kernel_rfl) ?_ _; (go_wp2_with fail); go_roundw
    case rel => exact ⟨k + 1, by omega, by go_num, HG.out, by first | exact hx | exact hx.drew⟩
    case measure => simp [intOf]; omega
   have HP : Hid (tabB t = false) := tab_no (fun h => by have := (h.uq k hkl).2 m hkm.symm; omega); have hge : decide (t.uq[m] ≥ t.uq[k]) = true := decide_eq_true (by omega); have hge' : decide (t.uq[k] ≤ t.uq[m]) = true := decide_eq_true (by omega); clear HUA HNX hrg hup hkm hk0; generalize t.uq[k] = x at *; generalize t.uq[m] = y at *; (go_wp2_with fail); refine wp_region_held_drew (S := (fun W => W.cell? ⟨w.heap.size, 1, none⟩ = some (.slice ca t.cols.length cc) ∧ W.cell? ⟨w.heap.size, 2, none⟩ = some (.slice (some ⟨b, off, none⟩) t.uq.length uc) ∧ W.cell? ⟨b, off + k, none⟩ = some (.int .i64 x) ∧ W.cell? ⟨b, off + m, none⟩ = some (.int .i64 y))) (by kernel_rfl) ?_ (fun hHeld => ?_)
   ·
    (first | exact CE.out _ hx | exact CE.out _ hx.drew)
   refine tkB (i := 0) ?_; refine tkB (i := 1) ?_; refine tkB (i := 2) ?_; refine tkB (i := 3) ?_; refine tkB (i := 4) ?_; refine tkB (i := 5) ?_; refine tkB (i := 6) ?_; refine tkB (i := 7) ?_; refine tkB (i := 8) ?_; refine tkR (i := 9) (fun K hK => ?_); go_simp
   (go_at_call 45; refine (inS _ _ _ _).mono ?_; rintro e w' ⟨rfl, rfl⟩)
   refine hK.out _ _ ?_ (fun hHeld => ?_)
   ·
    (first | exact CE.out _ hx | exact CE.out _ hx.drew)
   clear hK K; (try simp only [Act.put, tkS]); refine tkB (i := 10) ?_; refine tkB (i := 11) ?_; refine tkB (i := 12) ?_; refine tkB (i := 13) ?_; refine tkB (i := 14) ?_; refine tkB (i := 15) ?_; refine tkB (i := 16) ?_; refine tkB (i := 17) ?_; refine tkB (i := 18) ?_; refine tkB (i := 19) ?_; refine tkB (i := 20) ?_; refine tkB (i := 21) ?_; refine tkB (i := 22) ?_; refine tkB (i := 23) ?_; refine tkB (i := 24) ?_; refine tkB (i := 25) ?_; refine tkB (i := 26) ?_; refine tkB (i := 27) ?_; refine tkB (i := 28) ?_; refine wpAnyH_done (by kernel_rfl) ?_ _; (go_wp2_with fail); go_ret; exact ⟨ret_b HP.out.symm, by first | exact hx.2 | exact hx.2.drew⟩
end Go.Proofs.YtlbcaaodkggohaaGreatDoor
