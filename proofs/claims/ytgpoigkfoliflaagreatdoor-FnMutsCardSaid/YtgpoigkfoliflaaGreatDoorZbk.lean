import Derived.Test.YtgpoigkfoliflaaGreatDoorZbj
import Derived.Test.YtgpoigkfoliflaaGreatDoorZbf
import Derived.Test.YtgpoigkfoliflaaGreatDoorZTk
namespace Go.Proofs.YtgpoigkfoliflaaGreatDoor
open Go.RowKit
set_option linter.unusedSimpArgs false
noncomputable def madeP (c : MutV) (d : List At) : Int × List At := if c.fn = 6 then (joinC d c.val, joinR d c.val) else if c.fn = 7 then (twoC d c.val, lessL d c.val) else eachP c.fn (val0 c) d
theorem made6 {c : MutV} {d : List At} (h : c.fn = 6) : madeP c d = (joinC d c.val, joinR d c.val) := by unfold madeP; rw [if_pos h]
theorem made7 {c : MutV} {d : List At} (h : c.fn = 7) : madeP c d = (twoC d c.val, lessL d c.val) := by unfold madeP; rw [if_neg (by omega), if_pos h]
theorem made5 {c : MutV} {d : List At} (h : c.fn ≤ 5) : madeP c d = eachP c.fn (val0 c) d := by unfold madeP; rw [if_neg (by omega), if_neg (by omega)]
theorem made_mut {x : Cl} {d : List At} {c : MutV} (h : CanM x d c) : ((madeP c d).1 = 0 ∧ mutL c d = some (madeP c d).2) ∨ ((madeP c d).1 ≠ 0 ∧ mutP x d c = ((madeP c d).1, [])) := by
  by_cases h6 : c.fn = 6
  · rw [made6 h6]
    rcases join_code h with ⟨h1, h2⟩ | ⟨h1, h2, h3⟩
    · exact .inl ⟨h1, by rw [mutL_join h6, h2]⟩
    · refine .inr ⟨by rw [h1]; omega, ?_⟩
      rw [mutP_no (mutL_join h6) (by rw [h3]; omega), h1, h3]
  · by_cases h7 : c.fn = 7
    · have h0 := h.dk.two h.vk h.d8 h.v8
      rw [made7 h7]
      refine .inl ⟨h0, ?_⟩
      rw [mutL_minus h7]
      unfold lessL
      rw [if_pos h0]
    · have h5 : c.fn ≤ 5 := by have := h.fn; omega
      rw [made5 h5]
      cases hn : numO c.fn (val0 c) d
      · rw [each_no hn]
        exact .inr ⟨by omega, mutP_none (mutL_none h5 hn)⟩
      · rw [each_yes hn]
        exact .inl ⟨rfl, mutL_num h5 hn⟩
set_option maxRecDepth 100000 in
set_option maxHeartbeats 6400000 in
theorem madeI (x : Cl) (d : List At) (c : MutV) (da : Option Addr) (dc : Nat) (va : Option Addr) (vc : Nat) (S : Nat) (w : World) (h : CanM x d c) (hw : S ≤ w.heap.size) (hD : Ats w (· < S) da d) (hV : Ats w (· < S) va c.val) :
    Calls Tryz.prog 46 #[.slice da d.length dc, .agg #[.string ⟨c.col.toArray⟩, .int .i64 c.fn, .slice va c.val.length vc]] w (AAns2 w (madeP c d).2 (madeP c d).1) := by
  have HC := Lib.hid h
  have HD : Hid (∀ W, Below w.heap.size w W → Ats W (· < S) da d) := fun W h => hD.below (h.mono hw)
  have HV : Hid (∀ W, Below w.heap.size w W → Ats W (· < S) va c.val) := fun W h => hV.below (h.mono hw)
  have HW := Lib.hid hw
  have hb := boxD 49 w #[.string ⟨c.col.toArray⟩, .int .i64 c.fn, .slice va c.val.length vc]
  have y0 := cell_at (o := 0) hb.1 rfl
  have y1 := cell_at (o := 1) hb.1 rfl
  have y2 := cell_at (o := 2) hb.1 rfl
  have HB := Lib.hid hb
  have hd8 := h.d8
  have hv8 := h.v8
  clear h hw hD hV hb
  by_cases h6 : c.fn = 6
  case pos =>
    have HP := Lib.hid (made6 (d := d) h6)
    have CJ : Hid (∀ W, Below w.heap.size w W → Calls Tryz.prog 66 #[.slice da d.length dc, .slice va c.val.length vc] W (AAns2 W (joinR d c.val) (joinC d c.val))) := fun W h => datumJoinO d c.val da va dc vc S W (by omega) (by omega) HC.out.dk.text HC.out.vk.text (Nat.le_trans HW.out h.size) (HD.out W h) (HV.out W h)
    have e6 : (c.fn == 6) = true := by simpa using h6
    clear h6
    go_enter Tryz.func46, Tryz.ntmps46
    go_wp2_with fail
    refine (CJ.out _ HB.out.2).mono ?_
    rintro e w1 ⟨oa, ocp, rfl, ho, hB⟩
    have H1 : Hid (AAns2 w (joinR d c.val) (joinC d c.val) (.returned (.tuple #[.slice oa (joinR d c.val).length ocp, .int .i64 (joinC d c.val)])) w1) := AAns2.base (W := w.alloc (.cells #[.string ⟨c.col.toArray⟩, .int .i64 c.fn, .slice va c.val.length vc] 49)) ⟨oa, ocp, rfl, ho, hB⟩ HB.out.2
    clear ho hB
    go_wp2_with fail
    go_ret2
    rw [HP.out]
    exact H1.out
  by_cases h7 : c.fn = 7
  case pos =>
    have HP := Lib.hid (made7 (d := d) h7)
    have CJ : Hid (∀ W, Below w.heap.size w W → Calls Tryz.prog 67 #[.slice da d.length dc, .slice va c.val.length vc] W (AAns2 W (lessL d c.val) (twoC d c.val))) := fun W h => datumLessI d c.val da va dc vc S W (by omega) (by omega) HC.out.dk.text HC.out.vk.text (Nat.le_trans HW.out h.size) (HD.out W h) (HV.out W h)
    have e6 : (c.fn == 6) = false := by simpa using h6
    have e7 : (c.fn == 7) = true := by simpa using h7
    clear h6 h7
    go_enter Tryz.func46, Tryz.ntmps46
    go_wp2_with fail
    refine (CJ.out _ HB.out.2).mono ?_
    rintro e w1 ⟨oa, ocp, rfl, ho, hB⟩
    have H1 : Hid (AAns2 w (lessL d c.val) (twoC d c.val) (.returned (.tuple #[.slice oa (lessL d c.val).length ocp, .int .i64 (twoC d c.val)])) w1) := AAns2.base (W := w.alloc (.cells #[.string ⟨c.col.toArray⟩, .int .i64 c.fn, .slice va c.val.length vc] 49)) ⟨oa, ocp, rfl, ho, hB⟩ HB.out.2
    clear ho hB
    go_wp2_with fail
    go_ret2
    rw [HP.out]
    exact H1.out
  have e6 : (c.fn == 6) = false := by simpa using h6
  have e7 : (c.fn == 7) = false := by simpa using h7
  have h5 : c.fn ≤ 5 := by have := HC.out.fn; omega
  have H5 := Lib.hid h5
  have HP := Lib.hid (made5 (d := d) h5)
  obtain ⟨hxk, hv1⟩ := HC.out.num h5
  have HDK : Hid (Dk 1 d) := by have := HC.out.dk; rw [hxk] at this; exact this
  have HVK : Hid (Dk 1 c.val) := by have := HC.out.vk; rw [hxk] at this; exact this
  obtain ⟨vb, vo, rfl, -, -⟩ := (HV.out _ (Below.refl _ _)).item 0 (by omega)
  have VC : Hid (∀ W, Below w.heap.size w W → W.cell? ⟨vb, vo + 1, none⟩ = some (.int .i64 (val0 c))) := fun W h => by
    have h1 := ((HV.out W h).three 0 (by omega)).2.1
    rw [Nat.zero_mul, Nat.add_zero] at h1
    rw [h1]; unfold val0; rw [at_getD (by omega)]
  have HVN : Hid (Num (val0 c)) := by
    unfold val0; rw [at_getD (by omega)]; exact HVK.out.n (List.getElem_mem _)
  have hv0 : 0 < c.val.length := by omega
  clear h6 h7 h5 hxk hv1
  have WE : Hid (∀ W, Below w.heap.size w W → Calls Tryz.prog 69 #[.int .i64 c.fn, .int .i64 (val0 c)] W fun e w' => ∃ v, e = .returned v ∧ Below W.heap.size W w' ∧ ∀ W1, Below w'.heap.size w' W1 → Calls Tryz.prog 68 #[.slice da d.length dc, v] W1 (AAns2 W1 (eachP c.fn (val0 c) d).2 (eachP c.fn (val0 c) d).1)) := fun W h => workE c.fn (val0 c) d da dc S W ⟨HC.out.fn.1, H5.out⟩ HVN.out hd8 HDK.out (Nat.le_trans HW.out h.size) (HD.out W h)
  have CX : Hid (∀ W, BoxD 49 w W #[.string ⟨c.col.toArray⟩, .int .i64 c.fn, .slice (some ⟨vb, vo, none⟩) c.val.length vc] → W.cell? ⟨w.heap.size, 1, none⟩ = some (.int .i64 c.fn) ∧ W.cell? ⟨w.heap.size, 2, none⟩ = some (.slice (some ⟨vb, vo, none⟩) c.val.length vc) ∧ W.cell? ⟨vb, vo + 1, none⟩ = some (.int .i64 (val0 c))) := fun W h => ⟨cell_at (o := 1) h.1 rfl, cell_at (o := 2) h.1 rfl, VC.out W h.2⟩
  go_enter Tryz.func46, Tryz.ntmps46
  go_wp2_with fail
  have hx := HB.out
  refine wp_region_held_drew (S := (fun W => W.cell? ⟨w.heap.size, 1, none⟩ = some (.int .i64 c.fn) ∧ W.cell? ⟨w.heap.size, 2, none⟩ = some (.slice (some ⟨vb, vo, none⟩) c.val.length vc) ∧ W.cell? ⟨vb, vo + 1, none⟩ = some (.int .i64 (val0 c)))) (by kernel_rfl) ?_ (fun hHeld => ?_)
  · (first | exact CX.out _ hx | exact CX.out _ hx.drew)
  refine wpAnyH_take (i := 0) (v := ?_) rfl (by kernel_rfl) (by kernel_rfl) (by kernel_rfl) (fun _ _ _ h => h) (Or.inl ⟨by kernel_rfl, ?_⟩) (by assumption) ?_
  rotate_left
  · (intro wS hSw; (try dsimp only at hSw); go_simp <;> with_reducible rfl)
  try simp only [Act.put, tkS]
  refine wpAnyH_take (i := 1) (v := ?_) rfl (by kernel_rfl) (by kernel_rfl) (by kernel_rfl) (fun _ _ _ h => h) (Or.inl ⟨by kernel_rfl, ?_⟩) (by assumption) ?_
  rotate_left
  · (intro wS hSw; (try dsimp only at hSw); go_simp <;> with_reducible rfl)
  try simp only [Act.put, tkS]
  refine wpAnyH_take (i := 2) (v := ?_) rfl (by kernel_rfl) (by kernel_rfl) (by kernel_rfl) (fun _ _ _ h => h) (Or.inl ⟨by kernel_rfl, ?_⟩) (by assumption) ?_
  rotate_left
  · (intro wS hSw; (try dsimp only at hSw); go_simp <;> with_reducible rfl)
  try simp only [Act.put, tkS]
  refine wpAnyH_take (i := 3) (v := ?_) rfl (by kernel_rfl) (by kernel_rfl) (by kernel_rfl) (fun _ _ _ h => h) (Or.inl ⟨by kernel_rfl, ?_⟩) (by assumption) ?_
  rotate_left
  · (intro wS hSw; (try dsimp only at hSw); go_simp <;> with_reducible rfl)
  try simp only [Act.put, tkS]
  refine wpAnyH_take (i := 4) (v := ?_) rfl (by kernel_rfl) (by kernel_rfl) (by kernel_rfl) (fun _ _ _ h => h) (Or.inl ⟨by kernel_rfl, ?_⟩) (by assumption) ?_
  rotate_left
  · (intro wS hSw; (try dsimp only at hSw); go_simp <;> with_reducible rfl)
  try simp only [Act.put, tkS]
  refine wpAnyH_take (i := 5) (v := ?_) rfl (by kernel_rfl) (by kernel_rfl) (by kernel_rfl) (fun _ _ _ h => h) (Or.inl ⟨by kernel_rfl, ?_⟩) (by assumption) ?_
  rotate_left
  · (intro wS hSw; (try dsimp only at hSw); go_simp <;> with_reducible rfl)
  try simp only [Act.put, tkS]
  refine wpAnyH_take (i := 6) (v := ?_) rfl (by kernel_rfl) (by kernel_rfl) (by kernel_rfl) (fun _ _ _ h => h) (Or.inl ⟨by kernel_rfl, ?_⟩) (by assumption) ?_
  rotate_left
  · (intro wS hSw; (try dsimp only at hSw); go_simp <;> with_reducible rfl)
  try simp only [Act.put, tkS]
  refine wpAnyH_take (i := 7) (v := ?_) rfl (by kernel_rfl) (by kernel_rfl) (by kernel_rfl) (fun _ _ _ h => h) (Or.inl ⟨by kernel_rfl, ?_⟩) (by assumption) ?_
  rotate_left
  · (intro wS hSw; (try dsimp only at hSw); go_simp <;> with_reducible rfl)
  try simp only [Act.put, tkS]
  refine wpAnyH_ready (rs := [8]) (by kernel_rfl) (by simp) (AllReadyH.cons rfl (fun K hK => ?_) AllReadyH.nil)
  go_simp
  (go_at_call 69; refine (WE.out _ (by first | exact hx.2 | exact hx.drew.2)).mono ?_; rintro e w1 ⟨v, rfl, hB, hE⟩; have HE := Lib.hid hE; have hx1 := hx.later (show Below _ _ w1 from (by first | exact hB | exact (Below.refl _ _).drew.trans hB)); clear hx hB hE; have hx := hx1; clear hx1)
  refine hK.out _ _ ?_ (fun hHeld => ?_)
  · (first | exact CX.out _ hx | exact CX.out _ hx.drew)
  clear hK K
  try simp only [Act.put, tkS]
  refine wpAnyH_ready (rs := [9]) (by kernel_rfl) (by simp) (AllReadyH.cons rfl (fun K hK => ?_) AllReadyH.nil)
  go_simp
  (go_at_call 68; refine (HE.out _ (by first | exact Below.refl _ _ | exact (Below.refl _ _).drew)).mono ?_; rintro e w2 ⟨oa, ocp, rfl, ho, hB⟩; have H1 : Hid (AAns2 w1 (eachP c.fn (val0 c) d).2 (eachP c.fn (val0 c) d).1 (.returned (.tuple #[.slice oa (eachP c.fn (val0 c) d).2.length ocp, .int .i64 (eachP c.fn (val0 c) d).1])) w2) := ⟨oa, ocp, rfl, ho, by first | exact hB | exact (Below.refl _ _).drew.trans hB⟩; have HB1 := Lib.hid hx.2; have hx1 := hx.later (show Below _ _ w2 from (by first | exact hB | exact (Below.refl _ _).drew.trans hB)); clear hx hB ho HE; have hx := hx1; clear hx1)
  refine hK.out _ _ ?_ (fun hHeld => ?_)
  · (first | exact CX.out _ hx | exact CX.out _ hx.drew)
  clear hK K
  try simp only [Act.put, tkS]
  refine wpAnyH_take (i := 10) (v := ?_) rfl (by kernel_rfl) (by kernel_rfl) (by kernel_rfl) (fun _ _ _ h => h) (Or.inl ⟨by kernel_rfl, ?_⟩) (by assumption) ?_
  rotate_left
  · (intro wS hSw; (try dsimp only at hSw); go_simp <;> with_reducible rfl)
  try simp only [Act.put, tkS]
  refine wpAnyH_take (i := 11) (v := ?_) rfl (by kernel_rfl) (by kernel_rfl) (by kernel_rfl) (fun _ _ _ h => h) (Or.inl ⟨by kernel_rfl, ?_⟩) (by assumption) ?_
  rotate_left
  · (intro wS hSw; (try dsimp only at hSw); go_simp <;> with_reducible rfl)
  try simp only [Act.put, tkS]
  refine wpAnyH_take (i := 12) (v := ?_) rfl (by kernel_rfl) (by kernel_rfl) (by kernel_rfl) (fun _ _ _ h => h) (Or.inl ⟨by kernel_rfl, ?_⟩) (by assumption) ?_
  rotate_left
  · (intro wS hSw; (try dsimp only at hSw); go_simp <;> with_reducible rfl)
  try simp only [Act.put, tkS]
  refine wpAnyH_take (i := 13) (v := ?_) rfl (by kernel_rfl) (by kernel_rfl) (by kernel_rfl) (fun _ _ _ h => h) (Or.inl ⟨by kernel_rfl, ?_⟩) (by assumption) ?_
  rotate_left
  · (intro wS hSw; (try dsimp only at hSw); go_simp <;> with_reducible rfl)
  try simp only [Act.put, tkS]
  refine wpAnyH_done (by kernel_rfl) ?_ _
  go_wp2_with fail
  go_ret2
  rw [HP.out]
  obtain ⟨a1, c1, e1, o1, b1⟩ := AAns2.base H1.out HB1.out
  exact ⟨a1, c1, e1, by first | exact o1 | exact (o1.later (Below.refl _ _).drew).same (fun _ _ => rfl) (fun _ hb => hb), by first | exact b1 | exact b1.drew⟩
set_option maxRecDepth 100000 in
set_option maxHeartbeats 6400000 in
theorem mutatedI (x : Cl) (d : List At) (c : MutV) (da : Option Addr) (dc : Nat) (va : Option Addr) (vc : Nat) (S : Nat) (w : World) (h : CanM x d c) (hw : S ≤ w.heap.size) (hD : Ats w (· < S) da d) (hV : Ats w (· < S) va c.val) :
    Calls Tryz.prog 26 #[.agg #[.string ⟨x.nm.toArray⟩, .int .i64 x.k, .int .i64 x.mn, .int .i64 x.mx, .int .i64 x.lo, .int .i64 x.hi, .string ⟨x.rf.toArray⟩, .bool x.st], .slice da d.length dc, .agg #[.string ⟨c.col.toArray⟩, .int .i64 c.fn, .slice va c.val.length vc]] w (AAns2 w (mutP x d c).2 (mutP x d c).1) := by
  have HH := Lib.hid (made_mut h)
  have MD : Hid (∀ W, Below w.heap.size w W → Calls Tryz.prog 46 #[.slice da d.length dc, .agg #[.string ⟨c.col.toArray⟩, .int .i64 c.fn, .slice va c.val.length vc]] W (AAns2 W (madeP c d).2 (madeP c d).1)) := fun W h2 => madeI x d c da dc va vc S W h (Nat.le_trans hw h2.size) (hD.below (h2.mono hw)) (hV.below (h2.mono hw))
  have hb := boxE 39 49 w #[.string ⟨x.nm.toArray⟩, .int .i64 x.k, .int .i64 x.mn, .int .i64 x.mx, .int .i64 x.lo, .int .i64 x.hi, .string ⟨x.rf.toArray⟩, .bool x.st] #[.string ⟨c.col.toArray⟩, .int .i64 c.fn, .slice va c.val.length vc]
  have x0 := cell_at (o := 0) hb.a rfl
  have x1 := cell_at (o := 1) hb.a rfl
  have x2 := cell_at (o := 2) hb.a rfl
  have x3 := cell_at (o := 3) hb.a rfl
  have x4 := cell_at (o := 4) hb.a rfl
  have x5 := cell_at (o := 5) hb.a rfl
  have x6 := cell_at (o := 6) hb.a rfl
  have x7 := cell_at (o := 7) hb.a rfl
  have y0 := cell_at (o := 0) hb.b rfl
  have y1 := cell_at (o := 1) hb.b rfl
  have y2 := cell_at (o := 2) hb.b rfl
  have HB := Lib.hid hb
  have HLO : Hid (∀ o, mutL c d = some o → o.length ≤ 1048576) := fun o ho => by
    have h1 := h.d8
    have h2 := h.v8
    unfold mutL at ho
    split at ho
    · obtain rfl := Option.some.inj ho; have := join_len d c.val; omega
    · split at ho
      · obtain rfl := Option.some.inj ho; have := List.length_filter_le (fun x => !hasB c.val x) d; unfold minusA; omega
      · split at ho
        · obtain rfl := Option.some.inj ho; have h3 := numA_len c.fn (val0 c) d d.length (Nat.le_refl _); rw [List.take_of_length_le (Nat.le_refl _)] at h3; omega
        · cases ho
  clear h hw hD hV hb
  go_enter Tryz.func26, Tryz.ntmps26
  go_wp2_with fail
  refine (MD.out _ HB.out.bel).mono ?_
  rintro e w1 ⟨oa, ocp, rfl, ho, hB⟩
  have HB1 := Lib.hid (HB.out.later hB)
  have HO := Lib.hid (show OO w w1 oa (madeP c d).2 from ⟨ho.same (fun _ _ => rfl) (fun _ hb => ⟨Nat.le_trans HB.out.bel.size hb.1, hb.2⟩), HB1.out.bel⟩)
  clear ho hB
  clear x0 x1 x2 x3 x4 x5 x6 x7 y0 y1 y2
  have x0 := cell_at (o := 0) HB1.out.a rfl
  have x1 := cell_at (o := 1) HB1.out.a rfl
  have x2 := cell_at (o := 2) HB1.out.a rfl
  have x3 := cell_at (o := 3) HB1.out.a rfl
  have x4 := cell_at (o := 4) HB1.out.a rfl
  have x5 := cell_at (o := 5) HB1.out.a rfl
  have x6 := cell_at (o := 6) HB1.out.a rfl
  have x7 := cell_at (o := 7) HB1.out.a rfl
  have HH2 := HH.out
  generalize madeP c d = mp at *
  obtain ⟨mc, mo⟩ := mp
  dsimp only at HH2 HO ⊢
  clear HH MD
  rcases HH2 with ⟨h0, hl⟩ | ⟨h0, hl⟩
  · subst h0
    have FC := Lib.hid (fitsI x mo oa ocp w1.heap.size w1 (by have := HLO.out _ hl; unfold maxLen; omega) (Nat.le_refl _) HO.out.ats)
    by_cases hf : fitC x mo = 0
    case neg =>
      have HP := Lib.hid (mutP_no hl hf)
      have hne : (fitC x mo != 0) = true := by simpa using hf
      clear hf hl HLO
      go_wp2_with fail
      refine FC.out.mono ?_
      rintro e w2 ⟨rfl, hB⟩
      have H2 := Lib.hid (HO.out.later hB)
      clear hB FC
      clear x0 x1 x2 x3 x4 x5 x6 x7
      go_wp2_with fail
      go_ret2
      rw [HP.out]
      exact AAns2.none rfl H2.out.2
    have HP := Lib.hid (mutP_fit hl hf)
    rw [hf] at FC
    clear hf hl HLO
    go_wp2_with fail
    refine FC.out.mono ?_
    rintro e w2 ⟨rfl, hB⟩
    have H2 := Lib.hid (HO.out.later hB)
    clear hB FC
    clear x0 x1 x2 x3 x4 x5 x6 x7
    go_wp2_with fail
    go_ret2
    rw [HP.out]
    exact H2.out.ans2 (Below.refl _ _) ocp 0
  · have HP := Lib.hid hl
    have hne : (mc != 0) = true := by simpa using h0
    have hne2 : (mc == 0) = false := by simpa using h0
    clear h0 hl HLO
    go_wp2_with fail
    go_ret2
    rw [HP.out]
    exact AAns2.none rfl HO.out.2
end Go.Proofs.YtgpoigkfoliflaaGreatDoor
namespace Go.Proofs.YtgpoigkfoliflaaGreatDoor
open Go.RowKit
set_option linter.unusedSimpArgs false
noncomputable def rowM (t : Tb) : List (List At) → List MutV → Int × List (List At)
  | cs, [] => (0, cs)
  | cs, c :: l => if (mutP (t.cols.getD (placeC t.cols c.col).toNat clZ) (cs.getD (placeC t.cols c.col).toNat []) c).1 = 0 then rowM t (cs.set (placeC t.cols c.col).toNat (mutP (t.cols.getD (placeC t.cols c.col).toNat clZ) (cs.getD (placeC t.cols c.col).toNat []) c).2) l else ((mutP (t.cols.getD (placeC t.cols c.col).toNat clZ) (cs.getD (placeC t.cols c.col).toNat []) c).1, [])
theorem rowM_step {t : Tb} {cs : List (List At)} {list : List MutV} {m k : Nat} (hm : m < list.length) (hk : k < t.cols.length) (hl : cs.length = t.cols.length) (hp : placeC t.cols list[m].col = (k : Int)) (h0 : (mutP t.cols[k] (cs[k]'(by omega)) list[m]).1 = 0) : rowM t cs (list.drop m) = rowM t (cs.set k (mutP t.cols[k] (cs[k]'(by omega)) list[m]).2) (list.drop (m + 1)) := by
  rw [List.drop_eq_getElem_cons hm]
  conv => lhs; unfold rowM
  rw [hp, Int.toNat_natCast]
  have e1 : t.cols.getD k clZ = t.cols[k] := by rw [List.getD_eq_getElem?_getD, List.getElem?_eq_getElem hk]; rfl
  have e2 : cs.getD k [] = cs[k]'(by omega) := by rw [List.getD_eq_getElem?_getD, List.getElem?_eq_getElem (by omega)]; rfl
  rw [e1, e2, if_pos h0]
theorem rowM_stop {t : Tb} {cs : List (List At)} {list : List MutV} {m k : Nat} (hm : m < list.length) (hk : k < t.cols.length) (hl : cs.length = t.cols.length) (hp : placeC t.cols list[m].col = (k : Int)) (h0 : ¬ (mutP t.cols[k] (cs[k]'(by omega)) list[m]).1 = 0) : rowM t cs (list.drop m) = ((mutP t.cols[k] (cs[k]'(by omega)) list[m]).1, []) := by
  rw [List.drop_eq_getElem_cons hm]
  unfold rowM
  rw [hp, Int.toNat_natCast]
  have e1 : t.cols.getD k clZ = t.cols[k] := by rw [List.getD_eq_getElem?_getD, List.getElem?_eq_getElem hk]; rfl
  have e2 : cs.getD k [] = cs[k]'(by omega) := by rw [List.getD_eq_getElem?_getD, List.getElem?_eq_getElem (by omega)]; rfl
  rw [e1, e2, if_neg h0]
theorem mutC_place {t : Tb} {c : MutV} (h : mutC t c = 0) : ∃ k, ∃ hk : k < t.cols.length, placeC t.cols c.col = (k : Int) ∧ mutK t.cols[k].k c = 0 := by
  rcases place_cases t.cols c.col with hp | ⟨k, hk, hp⟩
  · rw [mut_none hp] at h; omega
  · exact ⟨k, hk, hp, (mut_at hk hp).symm.trans h⟩
theorem CanM.row {t : Tb} {cs : List (List At)} {c : MutV} {k : Nat} (hI : RowI t cs) (hk : k < t.cols.length) (hm : mutB c = true) (hc : mutK t.cols[k].k c = 0) : CanM t.cols[k] (cs[k]'(by have := hI.1; omega)) c := by
  obtain ⟨hl, hI⟩ := hI
  obtain ⟨h1, h2, h3⟩ := hI k hk
  unfold mutB inB at hm
  simp only [Bool.and_eq_true, decide_eq_true_eq] at hm
  have hkn : kindNo t.cols[k].k c.val = false := by
    cases e : kindNo t.cols[k].k c.val
    · rfl
    · rw [mutK_kind e] at hc; omega
  have hv := Dk.of (k := t.cols[k].k) hm.2.1 (fun h0 => by
    rw [kindNo_at h0] at hkn
    rw [at_getD h0]
    simpa using hkn)
  refine ⟨h1, h3, h2, hv.2, hv.1, hm.1, fun h5 => ?_⟩
  by_cases e1 : t.cols[k].k = 1
  · by_cases e2 : c.val.length = 1
    · exact ⟨e1, e2⟩
    · rw [mutK_no hkn h5 (.inr e2)] at hc; omega
  · rw [mutK_no hkn h5 (.inl e1)] at hc; omega
theorem RowI.set {t : Tb} {cs : List (List At)} {k : Nat} {o : List At} (hI : RowI t cs) (hk : k < t.cols.length) (hd : Dk t.cols[k].k o) (h8 : o.length ≤ 8) : RowI t (cs.set k o) := by
  obtain ⟨hl, hI⟩ := hI
  refine ⟨by rw [List.length_set]; exact hl, fun i hi => ?_⟩
  obtain ⟨h1, h2, h3⟩ := hI i hi
  by_cases e : i = k
  · subst e
    rw [set_at (by omega)]
    exact ⟨h1, hd, h8⟩
  · rw [set_other (by omega) e]
    exact ⟨h1, h2, h3⟩
end Go.Proofs.YtgpoigkfoliflaaGreatDoor
