import Derived.Test.YtlbcaaodkggohaaGreatDoorZal
import Derived.Test.YtlbcaaodkggohaaGreatDoorZam
import Derived.Test.YtlbcaaodkggohaaGreatDoorZae
import Derived.Test.YtlbcaaodkggohaaGreatDoorZTk
namespace Go.Proofs.YtlbcaaodkggohaaGreatDoor
open Go.RowKit
set_option linter.unusedSimpArgs false
noncomputable def riB (u : List Int) : Bool := @decide (∀ j (h : j + 1 < u.length), u[j] < u[j + 1]) (Classical.propDecidable _)
theorem ri_yes {u : List Int} (h : ∀ j (h : j + 1 < u.length), u[j] < u[j + 1]) : riB u = true := by unfold riB; exact @decide_eq_true _ (Classical.propDecidable _) h
theorem ri_no {u : List Int} (h : ¬ ∀ j (h : j + 1 < u.length), u[j] < u[j + 1]) : riB u = false := by unfold riB; exact @decide_eq_false _ (Classical.propDecidable _) h
noncomputable def uqB (n : Nat) (u : List Int) : Bool := @decide (∀ i (h : i < u.length), GoodU n u i h) (Classical.propDecidable _)
theorem uqB_yes {n : Nat} {u : List Int} (h : ∀ i (h : i < u.length), GoodU n u i h) : uqB n u = true := by unfold uqB; exact @decide_eq_true _ (Classical.propDecidable _) h
theorem uqB_no {n : Nat} {u : List Int} (h : ¬ ∀ i (h : i < u.length), GoodU n u i h) : uqB n u = false := by unfold uqB; exact @decide_eq_false _ (Classical.propDecidable _) h
set_option maxRecDepth 100000 in
set_option maxHeartbeats 3200000 in
theorem risesInt (u : List Int) (a : Option Addr) (c : Nat) (B : Nat → Prop) (w : World) (hl : u.length ≤ maxLen) (hA : Ints w B a u) :
  Calls Tryz.prog 100 #[.slice a u.length c, .func (.func 101) #[] #[]] w fun e w' => e = .returned (.bool (riB u)) ∧ Below w.heap.size w w' := by
 unfold maxLen at hl; have HA : Hid (∀ W, Below w.heap.size w W → Ints W B a u) := fun W h => hA.later h
 clear hA; (go_enter Tryz.func100, Tryz.ntmps100); (go_wp2_with fail); go_loopw [5] (fun i wr => ∃ k : Nat, 1 ≤ k ∧ k ≤ maxLen + 1 ∧ i = .int .i64 k ∧ Hid ((∀ m (h : m + 1 < u.length), m + 1 < k → u[m] < u[m + 1]) ∧ Below w.heap.size w wr)) (fun i _ => u.length - (intOf i).toNat)
 case atStart => exact ⟨1, by omega, by unfold maxLen; omega, rfl, fun m _ h => absurd h (by omega), Below.refl _ _⟩
 case round =>
  obtain ⟨k, hk1, hk, rfl, HW⟩ := hrel
  by_cases hlt : k < u.length
  ·
   obtain ⟨m, rfl⟩ : ∃ m, k = m + 1 := ⟨k - 1, by omega⟩; have hx := HW.out.2; obtain ⟨b, off, rfl, -, hc⟩ := (HA.out _ hx).at m (by omega); have g0 := hc m (by omega); have f0 := hc (m + 1) hlt; clear hc; have hm1 : (m : Int) < (u.length : Int) := by omega
   have hm2 : (m : Int) + 1 < (u.length : Int) := by omega
   have hm0 : (0 : Int) ≤ (m : Int) := by omega
   have hm3 : (0 : Int) ≤ (m : Int) + 1 := by omega
   have hsb : ((m + 1 : Nat) : Int) - 1 = (m : Int) := by omega
   have hwm : IntKind.i64.wrap (m : Int) = (m : Int) := by rw [IntKind.wrap_i64]; omega
   by_cases hr : u[m] < u[m + 1]
   ·
    have HN : Hid (∀ q (h : q + 1 < u.length), q + 1 < m + 1 + 1 → u[q] < u[q + 1]) := fun q h hq => by
     by_cases e : q = m
     ·
      subst e; exact hr
     ·
      exact HW.out.1 q h (by omega)
    have HR := Lib.hid hr; clear hr HW; generalize u[m] = x at *; generalize u[m + 1] = y at *; (go_wp2_with fail); go_region_with (go_at_call 101; refine (cmpInt x y _).mono ?_; rintro e w1 ⟨rfl, rfl⟩; rw [if_pos HR.out])
    all_goals
     (go_wp2_with fail); go_roundw
     case rel => exact ⟨m + 1 + 1, by omega, by unfold maxLen; omega, by go_num, HN.out, by first | exact hx | exact hx.drew⟩
     case measure => simp [intOf]; omega
   ·
    have HP : Hid (riB u = false) := ri_no (fun h => hr (h m hlt)); obtain ⟨q, hq⟩ : ∃ q : Int, q = (if u[m] < u[m + 1] then -1 else if u[m + 1] < u[m] then 1 else 0) := ⟨_, rfl⟩; have hd : decide (q ≥ 0) = true := decide_eq_true (by rw [hq, if_neg hr]; split <;> omega)
    have hd2 : decide (0 ≤ q) = true := decide_eq_true (by rw [hq, if_neg hr]; split <;> omega)
    have HQ := Lib.hid hq; clear hr HW hq; generalize u[m] = x at *; generalize u[m + 1] = y at *; (go_wp2_with fail); go_region_with (go_at_call 101; refine (cmpInt x y _).mono ?_; rintro e w1 ⟨rfl, rfl⟩; rw [← HQ.out])
    all_goals
     (go_wp2_with fail); go_ret; exact ⟨ret_b HP.out.symm, by first | exact hx | exact hx.drew⟩
  ·
   have HP : Hid (riB u = true) := ri_yes (fun m h => HW.out.1 m h (by omega)); have hd : decide ((k : Int) < (u.length : Int)) = false := by simp; omega
   (go_wp2_with fail); go_ret; exact ⟨ret_b HP.out.symm, HW.out.2⟩
set_option maxRecDepth 100000 in
set_option maxHeartbeats 3200000 in
theorem uniqueI (t : Tb) (ca : Option Addr) (cc : Nat) (ua : Option Addr) (uc : Nat) (B : Nat → Prop) (w : World) (ho : t.ok) (hS : t.Has w B ca ua) :
  Calls Tryz.prog 75 #[.agg #[.string ⟨t.nm.toArray⟩, .slice ca t.cols.length cc, .slice ua t.uq.length uc, .bool t.rt]] w fun e w' => e = .returned (.bool (uqB t.cols.length t.uq)) ∧ Below w.heap.size w w' := by
 have hcl := ho.2.1; have hul := ho.2.2.2; have RI : Hid (∀ W, Below w.heap.size w W → Calls Tryz.prog 100 #[.slice ua t.uq.length uc, .func (.func 101) #[] #[]] W fun e w' => e = .returned (.bool (riB t.uq)) ∧ Below W.heap.size W w') := fun W h => risesInt t.uq ua uc B W hul (hS.later h).2
 unfold maxLen at hcl hul; have HS : Hid (t.Has w B ca ua) := hS; have hx := boxT 48 w t ca cc ua uc; obtain ⟨x1, x2⟩ := ck2 1 2 hx.1; clear ho hS
 by_cases hb : t.cols.length < t.uq.length
 case pos =>
  have HP : Hid (uqB t.cols.length t.uq = false) := uqB_no (fun h => by have := uq_len h; omega); have d1 : decide ((t.cols.length : Int) < (t.uq.length : Int)) = true := decide_eq_true (by omega); (go_enter Tryz.func75, Tryz.ntmps75); (go_wp2_with fail); go_ret; exact ⟨ret_b HP.out.symm, hx.2⟩
 have d1 : decide ((t.cols.length : Int) < (t.uq.length : Int)) = false := decide_eq_false (by omega); (go_enter Tryz.func75, Tryz.ntmps75); (go_wp2_with fail); have HX := Lib.hid hx; clear hx x1 x2; go_loopw [15] (fun i wr => ∃ k : Nat, k ≤ t.uq.length ∧ i = .int .i64 k ∧ Hid ((∀ m (h : m < t.uq.length), m < k → 0 ≤ t.uq[m] ∧ t.uq[m] < (t.cols.length : Int)) ∧ BoxT 48 w wr t ca cc ua uc)) (fun i _ => t.uq.length - (intOf i).toNat)
 case atStart => exact ⟨0, Nat.zero_le _, rfl, fun m _ h => absurd h (by omega), HX.out⟩
 case round =>
  obtain ⟨k, hk, rfl, HW⟩ := hrel; have hx := HW.out.2; obtain ⟨x1, x2⟩ := ck2 1 2 hx.1
  by_cases hlt : k < t.uq.length
  case neg =>
   have hkd : decide ((k : Int) < (t.uq.length : Int)) = false := by simp; omega
   have HP : Hid (uqB t.cols.length t.uq = riB t.uq) := by
    show _ = _
    by_cases h : ∀ j (h : j + 1 < t.uq.length), t.uq[j] < t.uq[j + 1]
    ·
     rw [ri_yes h]; refine uqB_yes (fun i hi => ⟨HW.out.1 i hi (by omega), fun j hj => ?_⟩); subst hj; exact h j hi
    ·
     rw [ri_no h]; exact uqB_no (fun hg => h (fun j hj => (hg (j + 1) hj).2 j rfl))
   clear HW; (go_wp2_with (go_at_call 100; refine (RI.out _ hx.2).mono ?_; rintro e w1 ⟨rfl, hB1⟩)); go_ret; exact ⟨ret_b HP.out.symm, (hx.later hB1).2⟩
  have hki : (k : Int) < (t.uq.length : Int) := by omega
  obtain ⟨b, off, rfl, -, hc⟩ := (HS.out.later hx.2).2.at k hlt; have c0 := hc k hlt; clear hc
  by_cases hr : 0 ≤ t.uq[k] ∧ t.uq[k] < (t.cols.length : Int)
  case pos =>
   have HN : Hid (∀ m (h : m < t.uq.length), m < k + 1 → 0 ≤ t.uq[m] ∧ t.uq[m] < (t.cols.length : Int)) := fun m h hm => by
    by_cases e : m = k
    ·
     subst e; exact hr
    ·
     exact HW.out.1 m h (by omega)
   have e1 : decide (t.uq[k] < 0) = false := decide_eq_false (by omega); have e2 : decide (t.uq[k] ≥ (t.cols.length : Int)) = false := decide_eq_false (by omega); have e3 : decide ((t.cols.length : Int) ≤ t.uq[k]) = false := decide_eq_false (by omega); clear hr HW; generalize t.uq[k] = x at *; (go_wp2_with fail); go_roundw
   case rel => exact ⟨k + 1, by omega, by go_num, HN.out, hx⟩
   case measure => simp [intOf]; omega
  have HP : Hid (uqB t.cols.length t.uq = false) := uqB_no (fun h => hr (h k hlt).1)
  by_cases hn : t.uq[k] < 0
  case pos =>
   have e1 : decide (t.uq[k] < 0) = true := decide_eq_true hn; clear hr hn HW; generalize t.uq[k] = x at *; (go_wp2_with fail); go_ret; exact ⟨ret_b HP.out.symm, hx.2⟩
  have e1 : decide (t.uq[k] < 0) = false := decide_eq_false hn; have e2 : decide (t.uq[k] ≥ (t.cols.length : Int)) = true := decide_eq_true (by omega); have e3 : decide ((t.cols.length : Int) ≤ t.uq[k]) = true := decide_eq_true (by omega); clear hr hn HW; generalize t.uq[k] = x at *; (go_wp2_with fail); go_ret; exact ⟨ret_b HP.out.symm, hx.2⟩
theorem place_good {l : List Cl} {i : Nat} (h : i < l.length) : (∀ k (hk : k < i), (l[k]'(by omega)).nm ≠ l[i].nm) ↔ placeC l l[i].nm = i := by
 constructor
 ·
  intro hg; exact place_eq (.inr ⟨i, h, rfl, rfl, hg⟩)
 ·
  intro hp; have := place_first l l[i].nm; rw [hp] at this; rcases this with ⟨e, -⟩ | ⟨k, hk, e, -, hq⟩
  ·
   omega
  ·
   obtain rfl : i = k := by omega
   exact hq
theorem tab_uq {t : Tb} (hn : nameB t.nm = true) (hl : 1 ≤ t.cols.length ∧ t.cols.length ≤ 6) (hc : ∀ i (h : i < t.cols.length), GoodC t.cols i h) : tabB t = uqB t.cols.length t.uq := by
  by_cases h : ∀ i (h : i < t.uq.length), GoodU t.cols.length t.uq i h
  · rw [uqB_yes h, tab_yes ⟨hn, hl, hc, h⟩]
  · rw [uqB_no h, tab_no (fun hh => h hh.uq)]
set_option maxRecDepth 100000 in
set_option maxHeartbeats 6400000 in
theorem tableI (t : Tb) (ca : Option Addr) (cc : Nat) (ua : Option Addr) (uc : Nat) (B : Nat → Prop) (w : World) (ho : t.ok) (hS : t.Has w B ca ua) :
  Calls Tryz.prog 30 #[.agg #[.string ⟨t.nm.toArray⟩, .slice ca t.cols.length cc, .slice ua t.uq.length uc, .bool t.rt]] w fun e w' => e = .returned (.bool (tabB t)) ∧ Below w.heap.size w w' := by
 have HO : Hid t.ok := ho; have hcl := ho.2.1; unfold maxLen at hcl; have HS : Hid (t.Has w B ca ua) := hS; have UQ : Hid (∀ W, BoxT 48 w W t ca cc ua uc → Calls Tryz.prog 75 #[.agg #[.string ⟨t.nm.toArray⟩, .slice ca t.cols.length cc, .slice ua t.uq.length uc, .bool t.rt]] W fun e w' => e = .returned (.bool (uqB t.cols.length t.uq)) ∧ BoxT 48 w w' t ca cc ua uc) := fun W h => (uniqueI t ca cc ua uc B W ho (hS.later h.2)).mono (fun e w' ⟨he, hB⟩ => ⟨he, h.later hB⟩)
 have PL : Hid (∀ s W, BoxT 48 w W t ca cc ua uc → Calls Tryz.prog 74 #[.agg #[.string ⟨t.nm.toArray⟩, .slice ca t.cols.length cc, .slice ua t.uq.length uc, .bool t.rt], .string ⟨(s : List UInt8).toArray⟩] W fun e w' => e = .returned (.int .i64 (placeC t.cols s)) ∧ BoxT 48 w w' t ca cc ua uc) := fun s W h => (placeI t s ca cc ua uc B W ho.2.1 (hS.later h.2)).mono (fun e w' ⟨he, hB⟩ => ⟨he, h.later hB⟩)
 have hx := boxT 48 w t ca cc ua uc; clear ho hS; obtain ⟨x0, x1⟩ := ck2 0 1 hx.1
 cases hn : nameB t.nm
 case false =>
  have HP : Hid (tabB t = false) := tab_no (fun h => by rw [h.nm] at hn; cases hn); (go_enter Tryz.func30, Tryz.ntmps30); (go_wp2_with (go_at_call 22; refine (nameI _ _ HO.out.1).mono ?_; rintro e w' ⟨rfl, rfl⟩)); go_ret; exact ⟨ret_b HP.out.symm, hx.2⟩
 by_cases hc1 : t.cols.length < 1
 case pos =>
  have HP : Hid (tabB t = false) := tab_no (fun h => by have := h.len; omega); have d1 : decide ((t.cols.length : Int) < 1) = true := decide_eq_true (by omega); (go_enter Tryz.func30, Tryz.ntmps30); (go_wp2_with (go_at_call 22; refine (nameI _ _ HO.out.1).mono ?_; rintro e w' ⟨rfl, rfl⟩)); go_ret; exact ⟨ret_b HP.out.symm, hx.2⟩
 have d1 : decide ((t.cols.length : Int) < 1) = false := decide_eq_false (by omega)
 by_cases hc6 : 6 < t.cols.length
 case pos =>
  have HP : Hid (tabB t = false) := tab_no (fun h => by have := h.len; omega); have d2 : decide (6 < (t.cols.length : Int)) = true := decide_eq_true (by omega); (go_enter Tryz.func30, Tryz.ntmps30); (go_wp2_with (go_at_call 22; refine (nameI _ _ HO.out.1).mono ?_; rintro e w' ⟨rfl, rfl⟩)); go_ret; exact ⟨ret_b HP.out.symm, hx.2⟩
 have d2 : decide (6 < (t.cols.length : Int)) = false := decide_eq_false (by omega); have HN := Lib.hid hn; have HC6 : Hid (1 ≤ t.cols.length ∧ t.cols.length ≤ 6) := by show _ ∧ _; omega
 (go_enter Tryz.func30, Tryz.ntmps30); (go_wp2_with (go_at_call 22; refine (nameI _ _ HO.out.1).mono ?_; rintro e w' ⟨rfl, rfl⟩)); have HX0 := Lib.hid hx; clear hx x0 x1 hn hc1 hc6 d1 d2; go_loopw [23] (fun i wr => ∃ k : Nat, k ≤ t.cols.length ∧ i = .int .i64 k ∧ Hid ((∀ m (h : m < t.cols.length), m < k → GoodC t.cols m h) ∧ BoxT 48 w wr t ca cc ua uc)) (fun i _ => t.cols.length - (intOf i).toNat)
 case atStart => exact ⟨0, Nat.zero_le _, rfl, fun m _ h => absurd h (by omega), HX0.out⟩
 case round =>
  obtain ⟨i, hi, rfl, HW⟩ := hrel; have hx := HW.out.2
  by_cases hlt : i < t.cols.length
  case neg =>
   have hid : decide ((i : Int) < (t.cols.length : Int)) = false := by simp; omega
   have HP : Hid (tabB t = uqB t.cols.length t.uq) := tab_uq HN.out HC6.out (fun m h => HW.out.1 m h (by omega)); obtain ⟨x0, x1, x2, x3⟩ := ck4 0 1 2 3 hx.1; clear HW; (go_wp2_with (go_at_call 75; refine (UQ.out _ hx).mono ?_; rintro e w1 ⟨rfl, hx⟩)); go_ret; exact ⟨ret_b HP.out.symm, hx.2⟩
  have hki : (i : Int) < (t.cols.length : Int) := by omega
  obtain ⟨b, off, rfl, -, -⟩ := (HS.out.later hx.2).1.at i hlt
  have CE : Hid (∀ W, BoxT 48 w W t (some ⟨b, off, none⟩) cc ua uc → W.cell? ⟨w.heap.size, 0, none⟩ = some (.string ⟨t.nm.toArray⟩) ∧ W.cell? ⟨w.heap.size, 1, none⟩ = some (.slice (some ⟨b, off, none⟩) t.cols.length cc) ∧ W.cell? ⟨w.heap.size, 2, none⟩ = some (.slice ua t.uq.length uc) ∧ W.cell? ⟨w.heap.size, 3, none⟩ = some (.bool t.rt) ∧ ColAt W b (off + i * 8) t.cols[i]) := fun W h => by
   refine ⟨cell_at (o := 0) h.1 rfl, cell_at (o := 1) h.1 rfl, cell_at (o := 2) h.1 rfl, cell_at (o := 3) h.1 rfl, ?_⟩; obtain ⟨b', off', e, -, hc'⟩ := (HS.out.later h.2).1.at i hlt; simp only [Option.some.injEq, Addr.mk.injEq, and_true] at e; obtain ⟨rfl, rfl⟩ := e; exact hc' i hlt
  unfold ColAt at CE; have CO : Hid (∀ W, BoxT 48 w W t (some ⟨b, off, none⟩) cc ua uc → Calls Tryz.prog 73 #[.agg #[.string ⟨t.cols[i].nm.toArray⟩, .int .i64 t.cols[i].k, .int .i64 t.cols[i].mn, .int .i64 t.cols[i].mx, .int .i64 t.cols[i].lo, .int .i64 t.cols[i].hi, .string ⟨t.cols[i].rf.toArray⟩, .bool t.cols[i].st]] W fun e w' => e = .returned (.bool (colB t.cols[i])) ∧ BoxT 48 w w' t (some ⟨b, off, none⟩) cc ua uc) := fun W h => (columnOKi t.cols[i] W (HO.out.2.2.1 _ (List.getElem_mem hlt)).1 (HO.out.2.2.1 _ (List.getElem_mem hlt)).2).mono (fun e w' ⟨he, hB⟩ => ⟨he, h.later hB⟩)
  cases hcb : colB t.cols[i]
  case false =>
   have HP : Hid (tabB t = false) := tab_no (fun h => by have := (h.cols i hlt).1; rw [hcb] at this; cases this); rw [hcb] at CO; clear hcb HW; generalize t.cols[i] = z at *; (go_wp2_with fail); refine wp_region_held_drew (S := (fun W => W.cell? ⟨w.heap.size, 0, none⟩ = some (.string ⟨t.nm.toArray⟩) ∧ W.cell? ⟨w.heap.size, 1, none⟩ = some (.slice (some ⟨b, off, none⟩) t.cols.length cc) ∧ W.cell? ⟨w.heap.size, 2, none⟩ = some (.slice ua t.uq.length uc) ∧ W.cell? ⟨w.heap.size, 3, none⟩ = some (.bool t.rt) ∧ W.cell? ⟨b, off + i * 8, none⟩ = some (.string ⟨z.nm.toArray⟩) ∧ W.cell? ⟨b, off + i * 8 + 1, none⟩ = some (.int .i64 z.k) ∧ W.cell? ⟨b, off + i * 8 + 2, none⟩ = some (.int .i64 z.mn) ∧ W.cell? ⟨b, off + i * 8 + 3, none⟩ = some (.int .i64 z.mx) ∧ W.cell? ⟨b, off + i * 8 + 4, none⟩ = some (.int .i64 z.lo) ∧ W.cell? ⟨b, off + i * 8 + 5, none⟩ = some (.int .i64 z.hi) ∧ W.cell? ⟨b, off + i * 8 + 6, none⟩ = some (.string ⟨z.rf.toArray⟩) ∧ W.cell? ⟨b, off + i * 8 + 7, none⟩ = some (.bool z.st))) (by kernel_rfl) ?_ (fun hHeld => ?_)
   ·
    (first | exact CE.out _ hx | exact CE.out _ hx.drew)
   refine tkB (i := 0) ?_; refine tkB (i := 1) ?_; refine tkB (i := 2) ?_; refine tkB (i := 3) ?_; refine tkB (i := 4) ?_; refine tkR (i := 5) (fun K hK => ?_); go_simp
   (go_at_call 73; (with_reducible refine (CO.out _ ?_).mono ?_); (first | exact hx | exact hx.drew); rintro e w1 ⟨rfl, hx⟩)
   refine hK.out _ _ ?_ (fun hHeld => ?_)
   ·
    (first | exact CE.out _ hx | exact CE.out _ hx.drew)
   clear hK K; (try simp only [Act.put, tkS]); refine tkB (i := 6) ?_; refine tkB (i := 7) ?_; refine tkV (i := 8) ?_; refine tkV (i := 9) ?_; refine tkV (i := 10) ?_; refine tkV (i := 11) ?_; refine tkV (i := 12) ?_; refine tkV (i := 13) ?_; refine tkV (i := 14) ?_; refine tkV (i := 15) ?_; refine tkV (i := 16) ?_; refine tkV (i := 17) ?_; refine tkB (i := 18) ?_; refine wpAnyH_done (by kernel_rfl) ?_ _; (go_wp2_with fail); go_ret; exact ⟨ret_b HP.out.symm, by first | exact hx.2 | exact hx.2.drew⟩
  have PLI := Lib.hid (PL.out t.cols[i].nm); rw [hcb] at CO
  by_cases hpl : placeC t.cols t.cols[i].nm = i
  case pos =>
   have HG : Hid (∀ m (h : m < t.cols.length), m < i + 1 → GoodC t.cols m h) := fun m h hm => by
    by_cases e : m = i
    ·
     subst e; exact ⟨hcb, (place_good h).2 hpl⟩
    ·
     exact HW.out.1 m h (by omega)
   rw [hpl] at PLI; have hii : ((i : Int) != (i : Int)) = false := by simp
   clear hcb HW hpl; generalize t.cols[i] = z at *; (go_wp2_with fail); refine wp_region_held_drew (S := (fun W => W.cell? ⟨w.heap.size, 0, none⟩ = some (.string ⟨t.nm.toArray⟩) ∧ W.cell? ⟨w.heap.size, 1, none⟩ = some (.slice (some ⟨b, off, none⟩) t.cols.length cc) ∧ W.cell? ⟨w.heap.size, 2, none⟩ = some (.slice ua t.uq.length uc) ∧ W.cell? ⟨w.heap.size, 3, none⟩ = some (.bool t.rt) ∧ W.cell? ⟨b, off + i * 8, none⟩ = some (.string ⟨z.nm.toArray⟩) ∧ W.cell? ⟨b, off + i * 8 + 1, none⟩ = some (.int .i64 z.k) ∧ W.cell? ⟨b, off + i * 8 + 2, none⟩ = some (.int .i64 z.mn) ∧ W.cell? ⟨b, off + i * 8 + 3, none⟩ = some (.int .i64 z.mx) ∧ W.cell? ⟨b, off + i * 8 + 4, none⟩ = some (.int .i64 z.lo) ∧ W.cell? ⟨b, off + i * 8 + 5, none⟩ = some (.int .i64 z.hi) ∧ W.cell? ⟨b, off + i * 8 + 6, none⟩ = some (.string ⟨z.rf.toArray⟩) ∧ W.cell? ⟨b, off + i * 8 + 7, none⟩ = some (.bool z.st))) (by kernel_rfl) ?_ (fun hHeld => ?_)
   ·
    (first | exact CE.out _ hx | exact CE.out _ hx.drew)
   refine tkB (i := 0) ?_; refine tkB (i := 1) ?_; refine tkB (i := 2) ?_; refine tkB (i := 3) ?_; refine tkB (i := 4) ?_; refine tkR (i := 5) (fun K hK => ?_); go_simp
   (go_at_call 73; (with_reducible refine (CO.out _ ?_).mono ?_); (first | exact hx | exact hx.drew); rintro e w1 ⟨rfl, hx⟩)
   refine hK.out _ _ ?_ (fun hHeld => ?_)
   ·
    (first | exact CE.out _ hx | exact CE.out _ hx.drew)
   clear hK K; (try simp only [Act.put, tkS]); refine tkB (i := 6) ?_; refine tkB (i := 7) ?_; refine tkB (i := 8) ?_; refine tkB (i := 9) ?_; refine tkB (i := 10) ?_; refine tkB (i := 11) ?_; refine tkB (i := 12) ?_; refine tkB (i := 13) ?_; refine tkB (i := 14) ?_; refine tkB (i := 16) ?_; refine tkR (i := 15) (fun K hK => ?_); go_simp
   (go_at_call 74; (with_reducible refine (PLI.out _ ?_).mono ?_); (first | exact hx | exact hx.drew); rintro e w2 ⟨rfl, hx⟩)
   refine hK.out _ _ ?_ (fun hHeld => ?_)
   ·
    (first | exact CE.out _ hx | exact CE.out _ hx.drew)
   clear hK K; (try simp only [Act.put, tkS]); refine tkB (i := 17) ?_; refine tkB (i := 18) ?_; refine wpAnyH_done (by kernel_rfl) ?_ _; (go_wp2_with fail); go_roundw
   case rel => exact ⟨i + 1, by omega, by go_num, HG.out, by first | exact hx | exact hx.drew⟩
   case measure => simp [intOf]; omega
  have HP : Hid (tabB t = false) := tab_no (fun h => hpl ((place_good hlt).1 (h.cols i hlt).2)); have hii : (placeC t.cols t.cols[i].nm != (i : Int)) = true := by simpa using hpl
  clear hcb HW hpl; generalize placeC t.cols t.cols[i].nm = q at *; generalize t.cols[i] = z at *; (go_wp2_with fail); refine wp_region_held_drew (S := (fun W => W.cell? ⟨w.heap.size, 0, none⟩ = some (.string ⟨t.nm.toArray⟩) ∧ W.cell? ⟨w.heap.size, 1, none⟩ = some (.slice (some ⟨b, off, none⟩) t.cols.length cc) ∧ W.cell? ⟨w.heap.size, 2, none⟩ = some (.slice ua t.uq.length uc) ∧ W.cell? ⟨w.heap.size, 3, none⟩ = some (.bool t.rt) ∧ W.cell? ⟨b, off + i * 8, none⟩ = some (.string ⟨z.nm.toArray⟩) ∧ W.cell? ⟨b, off + i * 8 + 1, none⟩ = some (.int .i64 z.k) ∧ W.cell? ⟨b, off + i * 8 + 2, none⟩ = some (.int .i64 z.mn) ∧ W.cell? ⟨b, off + i * 8 + 3, none⟩ = some (.int .i64 z.mx) ∧ W.cell? ⟨b, off + i * 8 + 4, none⟩ = some (.int .i64 z.lo) ∧ W.cell? ⟨b, off + i * 8 + 5, none⟩ = some (.int .i64 z.hi) ∧ W.cell? ⟨b, off + i * 8 + 6, none⟩ = some (.string ⟨z.rf.toArray⟩) ∧ W.cell? ⟨b, off + i * 8 + 7, none⟩ = some (.bool z.st))) (by kernel_rfl) ?_ (fun hHeld => ?_)
  ·
   (first | exact CE.out _ hx | exact CE.out _ hx.drew)
  refine tkB (i := 0) ?_; refine tkB (i := 1) ?_; refine tkB (i := 2) ?_; refine tkB (i := 3) ?_; refine tkB (i := 4) ?_; refine tkR (i := 5) (fun K hK => ?_); go_simp
  (go_at_call 73; (with_reducible refine (CO.out _ ?_).mono ?_); (first | exact hx | exact hx.drew); rintro e w1 ⟨rfl, hx⟩)
  refine hK.out _ _ ?_ (fun hHeld => ?_)
  ·
   (first | exact CE.out _ hx | exact CE.out _ hx.drew)
  clear hK K; (try simp only [Act.put, tkS]); refine tkB (i := 6) ?_; refine tkB (i := 7) ?_; refine tkB (i := 8) ?_; refine tkB (i := 9) ?_; refine tkB (i := 10) ?_; refine tkB (i := 11) ?_; refine tkB (i := 12) ?_; refine tkB (i := 13) ?_; refine tkB (i := 14) ?_; refine tkB (i := 16) ?_; refine tkR (i := 15) (fun K hK => ?_); go_simp
  (go_at_call 74; (with_reducible refine (PLI.out _ ?_).mono ?_); (first | exact hx | exact hx.drew); rintro e w2 ⟨rfl, hx⟩)
  refine hK.out _ _ ?_ (fun hHeld => ?_)
  ·
   (first | exact CE.out _ hx | exact CE.out _ hx.drew)
  clear hK K; (try simp only [Act.put, tkS]); refine tkB (i := 17) ?_; refine tkB (i := 18) ?_; refine wpAnyH_done (by kernel_rfl) ?_ _; (go_wp2_with fail); go_ret; exact ⟨ret_b HP.out.symm, by first | exact hx.2 | exact hx.2.drew⟩
end Go.Proofs.YtlbcaaodkggohaaGreatDoor
