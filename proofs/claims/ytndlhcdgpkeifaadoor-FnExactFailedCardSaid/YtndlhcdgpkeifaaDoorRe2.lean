import Derived.Test.YtndlhcdgpkeifaaDoorRe1
namespace Go.Proofs.YtndlhcdgpkeifaaDoor
open Go.RowKit
set_option linter.unusedSimpArgs false
set_option maxRecDepth 100000 in
set_option maxHeartbeats 12800000 in
theorem resS (x : ResV) (ca : Option Addr) (cc : Nat) (ra : Option Addr) (rc : Nat) (B : Nat → Prop) (w : World) (h3 : (dStringS x.cols).le maxLen) (h4 : (dRowS x.rows).le maxLen) (r3 : Rd w B (dStringS x.cols) (.slice ca x.cols.length cc)) (r4 : Rd w B (dRowS x.rows) (.slice ra x.rows.length rc)) :
    Calls Tryd.prog 10 #[.agg #[.int .i64 x.code, .int .i64 x.cnt, .int .i64 x.id, .slice ca x.cols.length cc, .slice ra x.rows.length rc]] w fun e w' => e = .returned (.bool (resB x)) ∧ Below w.heap.size w w' := by
  have I1 : Hid (∀ W, Calls Tryd.prog 18 #[.int .i64 x.code, .int .i64 0, .int .i64 19] W fun e w' => e = .returned (.bool (inB 0 x.code 19)) ∧ w' = W) := fun W => rgI _ _ _ W
  have I2 : Hid (∀ W, Calls Tryd.prog 18 #[.int .i64 x.cnt, .int .i64 0, .int .i64 1000] W fun e w' => e = .returned (.bool (inB 0 x.cnt 1000)) ∧ w' = W) := fun W => rgI _ _ _ W
  have I3 : Hid (∀ W, Calls Tryd.prog 18 #[.int .i64 x.id, .int .i64 0, .int .i64 1000000] W fun e w' => e = .returned (.bool (inB 0 x.id 1000000)) ∧ w' = W) := fun W => rgI _ _ _ W
  have HC : Hid (∀ W, Below w.heap.size w W → Rd W B (Ls 1 cString x.cols) (.slice ca x.cols.length cc)) := fun W h => Rd.later r3 h
  have HRW : Hid (∀ W, Below w.heap.size w W → Rd W B (Ls 2 dRow x.rows) (.slice ra x.rows.length rc)) := fun W h => Rd.later r4 h
  have H3 := Lib.hid h3
  have H4 := Lib.hid h4
  have hcl : x.cols.length ≤ maxLen := (Ls_le.1 h3).2.1
  have hrl : x.rows.length ≤ maxLen := (Ls_le.1 h4).2.1
  unfold maxLen at hcl hrl
  have hb := boxD 38 w #[.int .i64 x.code, .int .i64 x.cnt, .int .i64 x.id, .slice ca x.cols.length cc, .slice ra x.rows.length rc]
  have HB := Lib.hid hb
  have y0 := cell_at (o := 0) hb.1 rfl
  have y1 := cell_at (o := 1) hb.1 rfl
  have y2 := cell_at (o := 2) hb.1 rfl
  have y3 := cell_at (o := 3) hb.1 rfl
  have y4 := cell_at (o := 4) hb.1 rfl
  clear hb h3 h4 r3 r4
  cases hc0 : inB 0 x.code 19
  case false =>
    have HR : Hid (resB x = false) := by show resB x = _; unfold resB; simp [hc0]
    rw [hc0] at I1
    clear hc0
    go_enter Tryd.func10, Tryd.ntmps10
    go_wp2_with fail
    refine (I1.out _).mono ?_
    rintro e wi1 ⟨rfl, he1⟩
    rw [he1]
    clear he1 wi1
    go_wp2_with fail
    go_ret
    exact ⟨ret_b HR.out.symm, HB.out.2⟩
  rw [hc0] at I1
  cases hc1 : inB 0 x.cnt 1000
  case false =>
    have HR : Hid (resB x = false) := by show resB x = _; unfold resB; simp [hc1]
    rw [hc1] at I2
    clear hc0 hc1
    go_enter Tryd.func10, Tryd.ntmps10
    go_wp2_with fail
    refine (I1.out _).mono ?_
    rintro e wi1 ⟨rfl, he1⟩
    rw [he1]
    clear he1 wi1
    go_wp2_with fail
    refine (I2.out _).mono ?_
    rintro e wi2 ⟨rfl, he2⟩
    rw [he2]
    clear he2 wi2
    go_wp2_with fail
    go_ret
    exact ⟨ret_b HR.out.symm, HB.out.2⟩
  rw [hc1] at I2
  cases hc2 : inB 0 x.id 1000000
  case false =>
    have HR : Hid (resB x = false) := by show resB x = _; unfold resB; simp [hc2]
    rw [hc2] at I3
    clear hc0 hc1 hc2
    go_enter Tryd.func10, Tryd.ntmps10
    go_wp2_with fail
    refine (I1.out _).mono ?_
    rintro e wi1 ⟨rfl, he1⟩
    rw [he1]
    clear he1 wi1
    go_wp2_with fail
    refine (I2.out _).mono ?_
    rintro e wi2 ⟨rfl, he2⟩
    rw [he2]
    clear he2 wi2
    go_wp2_with fail
    refine (I3.out _).mono ?_
    rintro e wi3 ⟨rfl, he3⟩
    rw [he3]
    clear he3 wi3
    go_wp2_with fail
    go_ret
    exact ⟨ret_b HR.out.symm, HB.out.2⟩
  rw [hc2] at I3
  by_cases hr : 12 < x.rows.length
  case pos =>
    have d4 : decide (12 < (x.rows.length : Int)) = true := decide_eq_true (by omega)
    have hr2 : decide (x.rows.length ≤ 12) = false := decide_eq_false (by omega)
    have HR : Hid (resB x = false) := by show resB x = false; unfold resB; rw [hr2]; simp
    clear hc0 hc1 hc2 hr hr2
    go_enter Tryd.func10, Tryd.ntmps10
    go_wp2_with fail
    refine (I1.out _).mono ?_
    rintro e wi1 ⟨rfl, he1⟩
    rw [he1]
    clear he1 wi1
    go_wp2_with fail
    refine (I2.out _).mono ?_
    rintro e wi2 ⟨rfl, he2⟩
    rw [he2]
    clear he2 wi2
    go_wp2_with fail
    refine (I3.out _).mono ?_
    rintro e wi3 ⟨rfl, he3⟩
    rw [he3]
    clear he3 wi3
    go_wp2_with fail
    go_ret
    exact ⟨ret_b HR.out.symm, HB.out.2⟩
  have d4 : decide (12 < (x.rows.length : Int)) = false := decide_eq_false (by omega)
  by_cases hk : 7 < x.cols.length
  case pos =>
    have d5 : decide (7 < (x.cols.length : Int)) = true := decide_eq_true (by omega)
    have hk2 : decide (x.cols.length ≤ 7) = false := decide_eq_false (by omega)
    have HR : Hid (resB x = false) := by show resB x = false; unfold resB; rw [hk2]; simp
    clear hc0 hc1 hc2 hr hk hk2
    go_enter Tryd.func10, Tryd.ntmps10
    go_wp2_with fail
    refine (I1.out _).mono ?_
    rintro e wi1 ⟨rfl, he1⟩
    rw [he1]
    clear he1 wi1
    go_wp2_with fail
    refine (I2.out _).mono ?_
    rintro e wi2 ⟨rfl, he2⟩
    rw [he2]
    clear he2 wi2
    go_wp2_with fail
    refine (I3.out _).mono ?_
    rintro e wi3 ⟨rfl, he3⟩
    rw [he3]
    clear he3 wi3
    go_wp2_with fail
    go_ret
    exact ⟨ret_b HR.out.symm, HB.out.2⟩
  have d5 : decide (7 < (x.cols.length : Int)) = false := decide_eq_false (by omega)
  have HE : Hid (resB x = (x.cols.all nameB && (x.rows.all (hasN x.cols.length) && (x.code == 0 || ((x.cnt == 0) && ((x.id == 0) && (decide (x.rows.length = 0) && decide (x.cols.length = 0)))))))) := by
    show resB x = _; unfold resB; rw [hc0, hc1, hc2, decide_eq_true (show x.rows.length ≤ 12 by omega), decide_eq_true (show x.cols.length ≤ 7 by omega)]; rfl
  clear hc0 hc1 hc2 hr hk
  go_enter Tryd.func10, Tryd.ntmps10
  go_wp2_with fail
  refine (I1.out _).mono ?_
  rintro e wi1 ⟨rfl, he1⟩
  rw [he1]
  clear he1 wi1
  go_wp2_with fail
  refine (I2.out _).mono ?_
  rintro e wi2 ⟨rfl, he2⟩
  rw [he2]
  clear he2 wi2
  go_wp2_with fail
  refine (I3.out _).mono ?_
  rintro e wi3 ⟨rfl, he3⟩
  rw [he3]
  clear he3 wi3
  go_wp2_with fail
  clear y0 y1 y2 y3 y4
  go_loopw [3] (fun i wr => ∃ k : Nat, k ≤ x.cols.length ∧ i = .int .i64 k ∧ Hid ((∀ m (h : m < x.cols.length), m < k → nameB x.cols[m] = true) ∧ BoxD 38 w wr #[.int .i64 x.code, .int .i64 x.cnt, .int .i64 x.id, .slice ca x.cols.length cc, .slice ra x.rows.length rc])) (fun i _ => x.cols.length - (intOf i).toNat)
  case atStart => exact ⟨0, Nat.zero_le _, rfl, fun m _ h => absurd h (by omega), HB.out⟩
  case round =>
    obtain ⟨k, hk, rfl, HW⟩ := hrel
    have hb := HW.out.2
    have y0 := cell_at (o := 0) hb.1 rfl
    have y1 := cell_at (o := 1) hb.1 rfl
    have y2 := cell_at (o := 2) hb.1 rfl
    have y3 := cell_at (o := 3) hb.1 rfl
    have y4 := cell_at (o := 4) hb.1 rfl
    clear hb
    by_cases hlt : k < x.cols.length
    case pos =>
      have hki : (k : Int) < (x.cols.length : Int) := by omega
      obtain ⟨b, off, e, -, hc⟩ := (HC.out _ HW.out.2.2).things k hlt
      subst e
      obtain ⟨u0, c0, r0⟩ := hc 0 (by omega)
      obtain rfl : u0 = .string ⟨x.cols[k].toArray⟩ := r0
      rw [Nat.mul_one, Nat.add_zero] at c0
      clear hc
      have CO := Lib.hid (nameS x.cols[k] wr (le_text H3.out hlt))
      have HNO : Hid (nameB x.cols[k] = false → resB x = false) := fun h => by show resB x = false; rw [HE.out, List.all_eq_false.2 ⟨_, List.getElem_mem hlt, by simp [h]⟩]; rfl
      have HNX : Hid (nameB x.cols[k] = true → ∀ m (h : m < x.cols.length), m < k + 1 → nameB x.cols[m] = true) := fun he m h hm => by
        by_cases e : m = k
        · subst e; exact he
        · exact HW.out.1 m h (by omega)
      generalize x.cols[k] = t at *
      go_wp2_with fail
      refine CO.out.mono ?_
      rintro e w1 ⟨rfl, rfl⟩
      cases he : nameB t
      case false =>
        have HR := Lib.hid (HNO.out he)
        clear HNO HNX he CO
        go_wp2_with fail
        go_ret
        exact ⟨ret_b HR.out.symm, HW.out.2.2⟩
      have HN := Lib.hid (HNX.out he)
      clear HNO HNX he CO
      go_wp2_with fail
      go_roundw
      case rel => exact ⟨k + 1, by omega, by go_num, HN.out, HW.out.2⟩
      case measure => simp [intOf]; omega
    have hki : decide ((k : Int) < (x.cols.length : Int)) = false := by simp; omega
    have HE2 : Hid (resB x = (x.rows.all (hasN x.cols.length) && (x.code == 0 || ((x.cnt == 0) && ((x.id == 0) && (decide (x.rows.length = 0) && decide (x.cols.length = 0))))))) := by
      show resB x = _; rw [HE.out, List.all_eq_true.2 (fun t ht => by obtain ⟨j, hj, rfl⟩ := List.mem_iff_getElem.1 ht; exact HW.out.1 j hj (by omega))]; rfl
    have HBC := Lib.hid HW.out.2
    go_wp2_with fail
    clear y0 y1 y2 y3 y4
    generalize wr = wa at *
    go_loopw [4] (fun i wr => ∃ n : Nat, n ≤ x.rows.length ∧ i = .int .i64 n ∧ Hid ((∀ m (h : m < x.rows.length), m < n → hasN x.cols.length x.rows[m] = true) ∧ BoxD 38 w wr #[.int .i64 x.code, .int .i64 x.cnt, .int .i64 x.id, .slice ca x.cols.length cc, .slice ra x.rows.length rc])) (fun i _ => x.rows.length - (intOf i).toNat)
    case atStart => exact ⟨0, Nat.zero_le _, rfl, fun m _ h => absurd h (by omega), HBC.out⟩
    case round =>
      obtain ⟨n, hn, rfl, HV⟩ := hrel
      have hb := HV.out.2
      have y0 := cell_at (o := 0) hb.1 rfl
      have y1 := cell_at (o := 1) hb.1 rfl
      have y2 := cell_at (o := 2) hb.1 rfl
      have y3 := cell_at (o := 3) hb.1 rfl
      have y4 := cell_at (o := 4) hb.1 rfl
      clear hb
      by_cases hnl : n < x.rows.length
      case neg =>
        have hni : decide ((n : Int) < (x.rows.length : Int)) = false := by simp; omega
        have HE3 : Hid (resB x = (x.code == 0 || ((x.cnt == 0) && ((x.id == 0) && (decide (x.rows.length = 0) && decide (x.cols.length = 0)))))) := by
          show resB x = _; rw [HE2.out, List.all_eq_true.2 (fun t ht => by obtain ⟨j, hj, rfl⟩ := List.mem_iff_getElem.1 ht; exact HV.out.1 j hj (by omega))]; rfl
        have HBF := Lib.hid HV.out.2.2
        clear HE HE2
        by_cases z0 : x.code = 0
        case pos =>
          have e0 : (x.code == 0) = true := by simpa using z0
          have HR : Hid (resB x = true) := by show resB x = _; rw [HE3.out]; simp [z0]
          clear HE3 z0
          go_wp2_with fail
          go_ret
          exact ⟨ret_b HR.out.symm, HBF.out⟩
        have e0 : (x.code == 0) = false := by simpa using z0
        by_cases z1 : x.cnt = 0
        case neg =>
          have e1 : (x.cnt == 0) = false := by simpa using z1
          have HR : Hid (resB x = false) := by show resB x = _; rw [HE3.out]; simp [z0, z1]
          clear HE3 z0 z1
          go_wp2_with fail
          go_ret
          exact ⟨ret_b HR.out.symm, HBF.out⟩
        have e1 : (x.cnt == 0) = true := by simpa using z1
        by_cases z2 : x.id = 0
        case neg =>
          have e2 : (x.id == 0) = false := by simpa using z2
          have HR : Hid (resB x = false) := by show resB x = _; rw [HE3.out]; simp [z0, z2]
          clear HE3 z0 z1 z2
          go_wp2_with fail
          go_ret
          exact ⟨ret_b HR.out.symm, HBF.out⟩
        have e2 : (x.id == 0) = true := by simpa using z2
        by_cases z3 : x.rows.length = 0
        case neg =>
          have e3 : ((x.rows.length : Int) == 0) = false := by rw [beq_eq_false_iff_ne]; omega
          have g3 : (x.rows.length == 0) = false := by rw [beq_eq_false_iff_ne]; omega
          have k3 : x.rows ≠ [] := fun e => z3 (by rw [e]; rfl)
          have HR : Hid (resB x = false) := by show resB x = _; rw [HE3.out, decide_eq_false z3]; simp [z0]
          clear HE3 z0 z1 z2 z3
          go_wp2_with fail
          go_ret
          exact ⟨ret_b HR.out.symm, HBF.out⟩
        have e3 : ((x.rows.length : Int) == 0) = true := by simp [z3]
        have g3 : (x.rows.length == 0) = true := by simp [z3]
        by_cases z4 : x.cols.length = 0
        case neg =>
          have e4 : ((x.cols.length : Int) == 0) = false := by rw [beq_eq_false_iff_ne]; omega
          have g4 : (x.cols.length == 0) = false := by rw [beq_eq_false_iff_ne]; omega
          have k4 : x.cols ≠ [] := fun e => z4 (by rw [e]; rfl)
          have HR : Hid (resB x = false) := by show resB x = _; rw [HE3.out, decide_eq_false z4]; simp [z0]
          clear HE3 z0 z1 z2 z3 z4
          go_wp2_with fail
          go_ret
          exact ⟨ret_b HR.out.symm, HBF.out⟩
        have e4 : ((x.cols.length : Int) == 0) = true := by simp [z4]
        have g4 : (x.cols.length == 0) = true := by simp [z4]
        have HR : Hid (resB x = true) := by show resB x = true; rw [HE3.out, decide_eq_true z3, decide_eq_true z4, e1, e2]; simp
        clear HE3 z0 z1 z2 z3 z4
        go_wp2_with fail
        go_ret
        exact ⟨ret_b HR.out.symm, HBF.out⟩
      have hni : (n : Int) < (x.rows.length : Int) := by omega
      obtain ⟨b, off, e, -, hc⟩ := (HRW.out _ HV.out.2.2).things n hnl
      subst e
      obtain ⟨u1, c1, r1⟩ := hc 1 (by omega)
      replace r1 : Rd wr B (dAtomSS x.rows[n].cells) u1 := r1
      obtain ⟨sa, sq, rfl⟩ := r1.lsSlice
      clear hc
      have HLE := Lib.hid (le_rowR H4.out hnl)
      have HSL : Hid (x.rows[n].cells.length ≤ maxLen) := (Ls_le.1 HLE.out).2.1
      have HNO : Hid (hasN x.cols.length x.rows[n] = false → resB x = false) := fun h => by show resB x = false; rw [HE2.out, List.all_eq_false.2 ⟨_, List.getElem_mem hnl, by simp [h]⟩]; rfl
      have HNX : Hid (hasN x.cols.length x.rows[n] = true → ∀ m (h : m < x.rows.length), m < n + 1 → hasN x.cols.length x.rows[m] = true) := fun he m h hm => by
        by_cases e : m = n
        · subst e; exact he
        · exact HV.out.1 m h (by omega)
      have CX : Hid (∀ W, Below wr.heap.size wr W → W.cell? ⟨w.heap.size, 3, none⟩ = some (.slice ca x.cols.length cc) ∧ W.cell? ⟨w.heap.size, 4, none⟩ = some (.slice (some ⟨b, off, none⟩) x.rows.length rc) ∧ W.cell? ⟨b, off + n * 2 + 1, none⟩ = some (.slice sa x.rows[n].cells.length sq)) := fun W h => ⟨cell_at (o := 3) (HV.out.2.later h).1 rfl, cell_at (o := 4) (HV.out.2.later h).1 rfl, (h.cell (p := ⟨b, off + n * 2 + 1, none⟩) (World.block_lt_of_cell? _ _ c1)).trans c1⟩
      have HRD : Hid (∀ W, Below wr.heap.size wr W → Rd W B (Ls 1 cAtomS x.rows[n].cells) (.slice sa x.rows[n].cells.length sq)) := fun W h => Rd.later r1 h
      clear r1 c1
      clear y0 y1 y2 y3 y4
      generalize x.rows[n] = y at *
      have hsl := HSL.out
      unfold maxLen at hsl
      by_cases hle : y.cells.length = x.cols.length
      case neg =>
        have HF := Lib.hid (HNO.out (by unfold hasN; rw [show (y.cells.length == x.cols.length) = false from beq_eq_false_iff_ne.2 hle]; rfl))
        have e1 : ((y.cells.length : Int) != (x.cols.length : Int)) = true := by rw [bne_iff_ne]; omega
        have HBF := Lib.hid HV.out.2.2
        clear hle HNO HNX
        obtain ⟨q3, q4, q5⟩ := CX.out _ (Below.refl _ _)
        go_wp2_with fail
        refine wp_region_held_drew (S := (fun W => W.cell? ⟨w.heap.size, 3, none⟩ = some (.slice ca x.cols.length cc) ∧ W.cell? ⟨w.heap.size, 4, none⟩ = some (.slice (some ⟨b, off, none⟩) x.rows.length rc) ∧ W.cell? ⟨b, off + n * 2 + 1, none⟩ = some (.slice sa y.cells.length sq))) (by kernel_rfl) ?_ (fun hHeld => ?_)
        · (first | exact CX.out _ (Below.refl _ _) | exact CX.out _ (Below.refl _ _).drew)
        refine wpAnyH_take (i := 0) (v := ?_) rfl (by kernel_rfl) (by kernel_rfl) (by kernel_rfl) (fun _ _ _ h => h) (Or.inl ⟨by kernel_rfl, ?_⟩) (by assumption) ?_
        rotate_left
        · (intro wS hSw; (try dsimp only at hSw); go_simp <;> with_reducible rfl)
        try simp only [Act.put, List.getElem_toArray, List.getElem_cons_succ, List.getElem_cons_zero, List.setIfInBounds_toArray, List.set_cons_zero, List.set_cons_succ]
        refine wpAnyH_take (i := 1) (v := ?_) rfl (by kernel_rfl) (by kernel_rfl) (by kernel_rfl) (fun _ _ _ h => h) (Or.inl ⟨by kernel_rfl, ?_⟩) (by assumption) ?_
        rotate_left
        · (intro wS hSw; (try dsimp only at hSw); go_simp <;> with_reducible rfl)
        try simp only [Act.put, List.getElem_toArray, List.getElem_cons_succ, List.getElem_cons_zero, List.setIfInBounds_toArray, List.set_cons_zero, List.set_cons_succ]
        refine wpAnyH_take (i := 2) (v := ?_) rfl (by kernel_rfl) (by kernel_rfl) (by kernel_rfl) (fun _ _ _ h => h) (Or.inl ⟨by kernel_rfl, ?_⟩) (by assumption) ?_
        rotate_left
        · (intro wS hSw; (try dsimp only at hSw); go_simp <;> with_reducible rfl)
        try simp only [Act.put, List.getElem_toArray, List.getElem_cons_succ, List.getElem_cons_zero, List.setIfInBounds_toArray, List.set_cons_zero, List.set_cons_succ]
        refine wpAnyH_take (i := 3) (v := ?_) rfl (by kernel_rfl) (by kernel_rfl) (by kernel_rfl) (fun _ _ _ h => h) (Or.inl ⟨by kernel_rfl, ?_⟩) (by assumption) ?_
        rotate_left
        · (intro wS hSw; (try dsimp only at hSw); go_simp <;> with_reducible rfl)
        try simp only [Act.put, List.getElem_toArray, List.getElem_cons_succ, List.getElem_cons_zero, List.setIfInBounds_toArray, List.set_cons_zero, List.set_cons_succ]
        refine wpAnyH_take (i := 4) (v := ?_) rfl (by kernel_rfl) (by kernel_rfl) (by kernel_rfl) (fun _ _ _ h => h) (Or.inl ⟨by kernel_rfl, ?_⟩) (by assumption) ?_
        rotate_left
        · (intro wS hSw; (try dsimp only at hSw); go_simp <;> with_reducible rfl)
        try simp only [Act.put, List.getElem_toArray, List.getElem_cons_succ, List.getElem_cons_zero, List.setIfInBounds_toArray, List.set_cons_zero, List.set_cons_succ]
        refine wpAnyH_take (i := 5) (v := ?_) rfl (by kernel_rfl) (by kernel_rfl) (by kernel_rfl) (fun _ _ _ h => h) (Or.inl ⟨by kernel_rfl, ?_⟩) (by assumption) ?_
        rotate_left
        · (intro wS hSw; (try dsimp only at hSw); go_simp <;> with_reducible rfl)
        try simp only [Act.put, List.getElem_toArray, List.getElem_cons_succ, List.getElem_cons_zero, List.setIfInBounds_toArray, List.set_cons_zero, List.set_cons_succ]
        refine wpAnyH_take (i := 6) (v := ?_) rfl (by kernel_rfl) (by kernel_rfl) (by kernel_rfl) (fun _ _ _ h => h) (Or.inl ⟨by kernel_rfl, ?_⟩) (by assumption) ?_
        rotate_left
        · (intro wS hSw; (try dsimp only at hSw); go_simp <;> with_reducible rfl)
        try simp only [Act.put, List.getElem_toArray, List.getElem_cons_succ, List.getElem_cons_zero, List.setIfInBounds_toArray, List.set_cons_zero, List.set_cons_succ]
        refine wpAnyH_take (i := 7) (v := ?_) rfl (by kernel_rfl) (by kernel_rfl) (by kernel_rfl) (fun _ _ _ h => h) (Or.inl ⟨by kernel_rfl, ?_⟩) (by assumption) ?_
        rotate_left
        · (intro wS hSw; (try dsimp only at hSw); go_simp <;> with_reducible rfl)
        try simp only [Act.put, List.getElem_toArray, List.getElem_cons_succ, List.getElem_cons_zero, List.setIfInBounds_toArray, List.set_cons_zero, List.set_cons_succ]
        refine wpAnyH_take (i := 8) (v := ?_) rfl (by kernel_rfl) (by kernel_rfl) (by kernel_rfl) (fun _ _ _ h => h) (Or.inl ⟨by kernel_rfl, ?_⟩) (by assumption) ?_
        rotate_left
        · (intro wS hSw; (try dsimp only at hSw); go_simp <;> with_reducible rfl)
        try simp only [Act.put, List.getElem_toArray, List.getElem_cons_succ, List.getElem_cons_zero, List.setIfInBounds_toArray, List.set_cons_zero, List.set_cons_succ]
        refine wpAnyH_take (i := 9) (v := ?_) rfl (by kernel_rfl) (by kernel_rfl) (by kernel_rfl) (fun _ _ _ h => h) (Or.inl ⟨by kernel_rfl, ?_⟩) (by assumption) ?_
        rotate_left
        · (intro wS hSw; (try dsimp only at hSw); go_simp <;> with_reducible rfl)
        try simp only [Act.put, List.getElem_toArray, List.getElem_cons_succ, List.getElem_cons_zero, List.setIfInBounds_toArray, List.set_cons_zero, List.set_cons_succ]
        refine wpAnyH_take (i := 10) (v := ?_) rfl (by kernel_rfl) (by kernel_rfl) (by kernel_rfl) (fun _ _ _ h => h) (Or.inl ⟨by kernel_rfl, ?_⟩) (by assumption) ?_
        rotate_left
        · (intro wS hSw; (try dsimp only at hSw); go_simp <;> with_reducible rfl)
        try simp only [Act.put, List.getElem_toArray, List.getElem_cons_succ, List.getElem_cons_zero, List.setIfInBounds_toArray, List.set_cons_zero, List.set_cons_succ]
        refine wpAnyH_done (by kernel_rfl) ?_ _
        go_wp2_with fail
        go_ret
        exact ⟨ret_b HF.out.symm, HBF.out.drew⟩
      have HE4 : Hid (hasN x.cols.length y = y.cells.all datumB) := by show hasN _ y = _; unfold hasN; rw [hle]; simp
      have e1 : ((y.cells.length : Int) != (x.cols.length : Int)) = false := by rw [bne_eq_false_iff_eq]; omega
      clear hle
      obtain ⟨q3, q4, q5⟩ := CX.out _ (Below.refl _ _)
      go_wp2_with fail
      refine wp_region_held_drew (S := (fun W => W.cell? ⟨w.heap.size, 3, none⟩ = some (.slice ca x.cols.length cc) ∧ W.cell? ⟨w.heap.size, 4, none⟩ = some (.slice (some ⟨b, off, none⟩) x.rows.length rc) ∧ W.cell? ⟨b, off + n * 2 + 1, none⟩ = some (.slice sa y.cells.length sq))) (by kernel_rfl) ?_ (fun hHeld => ?_)
      · (first | exact CX.out _ (Below.refl _ _) | exact CX.out _ (Below.refl _ _).drew)
      refine wpAnyH_take (i := 0) (v := ?_) rfl (by kernel_rfl) (by kernel_rfl) (by kernel_rfl) (fun _ _ _ h => h) (Or.inl ⟨by kernel_rfl, ?_⟩) (by assumption) ?_
      rotate_left
      · (intro wS hSw; (try dsimp only at hSw); go_simp <;> with_reducible rfl)
      try simp only [Act.put, List.getElem_toArray, List.getElem_cons_succ, List.getElem_cons_zero, List.setIfInBounds_toArray, List.set_cons_zero, List.set_cons_succ]
      refine wpAnyH_take (i := 1) (v := ?_) rfl (by kernel_rfl) (by kernel_rfl) (by kernel_rfl) (fun _ _ _ h => h) (Or.inl ⟨by kernel_rfl, ?_⟩) (by assumption) ?_
      rotate_left
      · (intro wS hSw; (try dsimp only at hSw); go_simp <;> with_reducible rfl)
      try simp only [Act.put, List.getElem_toArray, List.getElem_cons_succ, List.getElem_cons_zero, List.setIfInBounds_toArray, List.set_cons_zero, List.set_cons_succ]
      refine wpAnyH_take (i := 2) (v := ?_) rfl (by kernel_rfl) (by kernel_rfl) (by kernel_rfl) (fun _ _ _ h => h) (Or.inl ⟨by kernel_rfl, ?_⟩) (by assumption) ?_
      rotate_left
      · (intro wS hSw; (try dsimp only at hSw); go_simp <;> with_reducible rfl)
      try simp only [Act.put, List.getElem_toArray, List.getElem_cons_succ, List.getElem_cons_zero, List.setIfInBounds_toArray, List.set_cons_zero, List.set_cons_succ]
      refine wpAnyH_take (i := 3) (v := ?_) rfl (by kernel_rfl) (by kernel_rfl) (by kernel_rfl) (fun _ _ _ h => h) (Or.inl ⟨by kernel_rfl, ?_⟩) (by assumption) ?_
      rotate_left
      · (intro wS hSw; (try dsimp only at hSw); go_simp <;> with_reducible rfl)
      try simp only [Act.put, List.getElem_toArray, List.getElem_cons_succ, List.getElem_cons_zero, List.setIfInBounds_toArray, List.set_cons_zero, List.set_cons_succ]
      refine wpAnyH_take (i := 4) (v := ?_) rfl (by kernel_rfl) (by kernel_rfl) (by kernel_rfl) (fun _ _ _ h => h) (Or.inl ⟨by kernel_rfl, ?_⟩) (by assumption) ?_
      rotate_left
      · (intro wS hSw; (try dsimp only at hSw); go_simp <;> with_reducible rfl)
      try simp only [Act.put, List.getElem_toArray, List.getElem_cons_succ, List.getElem_cons_zero, List.setIfInBounds_toArray, List.set_cons_zero, List.set_cons_succ]
      refine wpAnyH_take (i := 5) (v := ?_) rfl (by kernel_rfl) (by kernel_rfl) (by kernel_rfl) (fun _ _ _ h => h) (Or.inl ⟨by kernel_rfl, ?_⟩) (by assumption) ?_
      rotate_left
      · (intro wS hSw; (try dsimp only at hSw); go_simp <;> with_reducible rfl)
      try simp only [Act.put, List.getElem_toArray, List.getElem_cons_succ, List.getElem_cons_zero, List.setIfInBounds_toArray, List.set_cons_zero, List.set_cons_succ]
      refine wpAnyH_take (i := 6) (v := ?_) rfl (by kernel_rfl) (by kernel_rfl) (by kernel_rfl) (fun _ _ _ h => h) (Or.inl ⟨by kernel_rfl, ?_⟩) (by assumption) ?_
      rotate_left
      · (intro wS hSw; (try dsimp only at hSw); go_simp <;> with_reducible rfl)
      try simp only [Act.put, List.getElem_toArray, List.getElem_cons_succ, List.getElem_cons_zero, List.setIfInBounds_toArray, List.set_cons_zero, List.set_cons_succ]
      refine wpAnyH_take (i := 7) (v := ?_) rfl (by kernel_rfl) (by kernel_rfl) (by kernel_rfl) (fun _ _ _ h => h) (Or.inl ⟨by kernel_rfl, ?_⟩) (by assumption) ?_
      rotate_left
      · (intro wS hSw; (try dsimp only at hSw); go_simp <;> with_reducible rfl)
      try simp only [Act.put, List.getElem_toArray, List.getElem_cons_succ, List.getElem_cons_zero, List.setIfInBounds_toArray, List.set_cons_zero, List.set_cons_succ]
      refine wpAnyH_take (i := 8) (v := ?_) rfl (by kernel_rfl) (by kernel_rfl) (by kernel_rfl) (fun _ _ _ h => h) (Or.inl ⟨by kernel_rfl, ?_⟩) (by assumption) ?_
      rotate_left
      · (intro wS hSw; (try dsimp only at hSw); go_simp <;> with_reducible rfl)
      try simp only [Act.put, List.getElem_toArray, List.getElem_cons_succ, List.getElem_cons_zero, List.setIfInBounds_toArray, List.set_cons_zero, List.set_cons_succ]
      refine wpAnyH_take (i := 9) (v := ?_) rfl (by kernel_rfl) (by kernel_rfl) (by kernel_rfl) (fun _ _ _ h => h) (Or.inl ⟨by kernel_rfl, ?_⟩) (by assumption) ?_
      rotate_left
      · (intro wS hSw; (try dsimp only at hSw); go_simp <;> with_reducible rfl)
      try simp only [Act.put, List.getElem_toArray, List.getElem_cons_succ, List.getElem_cons_zero, List.setIfInBounds_toArray, List.set_cons_zero, List.set_cons_succ]
      refine wpAnyH_take (i := 10) (v := ?_) rfl (by kernel_rfl) (by kernel_rfl) (by kernel_rfl) (fun _ _ _ h => h) (Or.inl ⟨by kernel_rfl, ?_⟩) (by assumption) ?_
      rotate_left
      · (intro wS hSw; (try dsimp only at hSw); go_simp <;> with_reducible rfl)
      try simp only [Act.put, List.getElem_toArray, List.getElem_cons_succ, List.getElem_cons_zero, List.setIfInBounds_toArray, List.set_cons_zero, List.set_cons_succ]
      refine wpAnyH_done (by kernel_rfl) ?_ _
      clear q3 q4 q5
      go_wp2_with fail
      have HBV := Lib.hid HV.out.2
      generalize wr = wo at *
      go_loopw [5] (fun i wr => ∃ j : Nat, j ≤ y.cells.length ∧ i = .int .i64 j ∧ Hid ((∀ m (h : m < y.cells.length), m < j → datumB y.cells[m] = true) ∧ Below wo.heap.size wo wr)) (fun i _ => y.cells.length - (intOf i).toNat)
      case atStart => exact ⟨0, Nat.zero_le _, rfl, fun m _ h => absurd h (by omega), (Below.refl _ _).drew⟩
      case round =>
        obtain ⟨j, hj, rfl, HU⟩ := hrel
        obtain ⟨q3, q4, q5⟩ := CX.out _ HU.out.2
        by_cases hjl : j < y.cells.length
        case neg =>
          have hji : decide ((j : Int) < (y.cells.length : Int)) = false := by simp; omega
          have HN := Lib.hid (HNX.out (by rw [HE4.out]; exact List.all_eq_true.2 (fun t ht => by obtain ⟨m, hm, rfl⟩ := List.mem_iff_getElem.1 ht; exact HU.out.1 m hm (by omega))))
          have HBN := Lib.hid (HBV.out.later HU.out.2)
          clear HNO HNX HE4
          go_wp2_with fail
          go_roundw
          case rel => exact ⟨n + 1, by omega, by go_num, HN.out, HBN.out⟩
          case measure => simp [intOf]; omega
        have hji : (j : Int) < (y.cells.length : Int) := by omega
        have hji2 : decide ((j : Int) < (y.cells.length : Int)) = true := decide_eq_true hji
        obtain ⟨b2, off2, e, -, hc⟩ := (HRD.out _ HU.out.2).things j hjl
        subst e
        obtain ⟨u0, c0, r0⟩ := hc 0 (by omega)
        replace r0 : Rd wr B (dAtomS y.cells[j]) u0 := r0
        obtain ⟨ta, tq, rfl⟩ := r0.lsSlice
        rw [Nat.mul_one, Nat.add_zero] at c0
        have KL := Lib.hid (le_atoms (le_cellR HLE.out hjl))
        have CO := Lib.hid (datumOKs y.cells[j] ta tq wr.heap.size wr KL.out.1 KL.out.2 (Nat.le_refl _) r0.lt.ats)
        have HN1 : Hid (datumB y.cells[j] = false → resB x = false) := fun h => HNO.out (by rw [HE4.out]; exact List.all_eq_false.2 ⟨_, List.getElem_mem hjl, by simp [h]⟩)
        have HN2 : Hid (datumB y.cells[j] = true → ∀ m (h : m < y.cells.length), m < j + 1 → datumB y.cells[m] = true) := fun he m h hm => by
          by_cases e : m = j
          · subst e; exact he
          · exact HU.out.1 m h (by omega)
        clear hc r0
        generalize y.cells[j] = t at *
        go_wp2_with fail
        refine CO.out.mono ?_
        rintro e w5 ⟨rfl, hB⟩
        have HU5 := Lib.hid (HU.out.2.trans (hB.mono HU.out.2.size))
        clear hB c0 q3 q4 q5
        cases he : datumB t
        case false =>
          have HF := Lib.hid (HN1.out he)
          have HBF := Lib.hid (HBV.out.later HU5.out).2
          clear HN1 HN2 HNO HNX he CO
          go_wp2_with fail
          go_ret
          exact ⟨ret_b HF.out.symm, HBF.out⟩
        have HN3 := Lib.hid (HN2.out he)
        clear HN1 HN2 he CO
        go_wp2_with fail
        go_roundw
        case rel => exact ⟨j + 1, by omega, by go_num, HN3.out, HU5.out⟩
        case measure => simp [intOf]; omega
end Go.Proofs.YtndlhcdgpkeifaaDoor
