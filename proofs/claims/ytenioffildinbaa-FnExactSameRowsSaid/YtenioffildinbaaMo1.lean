import Derived.Test.YtenioffildinbaaDSmS
import Derived.Deep.RegionHeld3
namespace Go.Proofs.Ytenioffildinbaa
open Go.RowKit
set_option linter.unusedSimpArgs false
/-- lists of rows, alike in all -/
noncomputable def smB (la lb : List RowV) : Bool := if 4096 < la.length ∨ 4096 < lb.length then false else eqB la lb
theorem sm_long {la lb : List RowV} (h : 4096 < la.length ∨ 4096 < lb.length) : smB la lb = false := by unfold smB; rw [if_pos h]
theorem sm_eq {la lb : List RowV} (h : ¬ 4096 < la.length) (h' : ¬ 4096 < lb.length) : smB la lb = eqB la lb := by unfold smB; rw [if_neg (by omega)]
set_option maxRecDepth 100000 in
set_option maxHeartbeats 6400000 in
theorem smrS (la lb : List RowV) (a : Option Addr) (c : Nat) (a' : Option Addr) (c' : Nat) (A B : Nat → Prop) (w : World) (ho : (dRowS la).le maxLen) (ho' : (dRowS lb).le maxLen) (hA : Rd w A (dRowS la) (.slice a la.length c)) (hB : Rd w B (dRowS lb) (.slice a' lb.length c')) :
    Calls Try.prog 14 #[.slice a la.length c, .slice a' lb.length c'] w fun e w' => e = .returned (.bool (smB la lb)) ∧ Below w.heap.size w w' := by
  generalize hR : smB la lb = R
  have HR := Lib.hid hR
  clear hR
  by_cases h1 : 4096 < la.length
  · have HV := Lib.hid (HR.out.symm.trans (sm_long (.inl h1)))
    have d1 : decide ((la.length : Int) > 4096) = true := by simp; omega
    have d2 : decide ((4096 : Int) < (la.length : Int)) = true := by simp; omega
    clear h1
    go_enter Try.func14, Try.ntmps14
    go_wp2_with fail
    go_ret
    exact ⟨ret_b HV.out.symm, Below.refl _ _⟩
  have d1 : decide ((la.length : Int) > 4096) = false := by simp; omega
  have d2 : decide ((4096 : Int) < (la.length : Int)) = false := by simp; omega
  by_cases h2 : 4096 < lb.length
  · have HV := Lib.hid (HR.out.symm.trans (sm_long (.inr h2)))
    have d3 : decide ((lb.length : Int) > 4096) = true := by simp; omega
    have d4 : decide ((4096 : Int) < (lb.length : Int)) = true := by simp; omega
    clear h1 h2
    go_enter Try.func14, Try.ntmps14
    go_wp2_with fail
    go_ret
    exact ⟨ret_b HV.out.symm, Below.refl _ _⟩
  have d3 : decide ((lb.length : Int) > 4096) = false := by simp; omega
  have d4 : decide ((4096 : Int) < (lb.length : Int)) = false := by simp; omega
  have HE := Lib.hid (HR.out.symm.trans (sm_eq h1 h2))
  by_cases h3 : la.length = lb.length
  case neg =>
    have HV : Hid (R = false) := by show R = _; rw [HE.out]; exact eqB_no (fun e => h3 (by rw [e]))
    have n1 : ((la.length : Int) != (lb.length : Int)) = true := by simp; omega
    have n2 : (la.length != lb.length) = true := by simpa using h3
    have n3 : (la.length == lb.length) = false := by simpa using h3
    clear h3
    go_enter Try.func14, Try.ntmps14
    go_wp2_with fail
    go_ret
    exact ⟨ret_b HV.out.symm, Below.refl _ _⟩
  have H3 := Lib.hid h3
  have n1 : ((la.length : Int) != (lb.length : Int)) = false := by simp; omega
  have n2 : (la.length != lb.length) = false := by simpa using h3
  have n3 : (la.length == lb.length) = true := by simpa using h3
  have hl : la.length ≤ 4096 := by omega
  have RA : Hid (∀ W, Below w.heap.size w W → Rd W A (Ls 2 dRow la) (.slice a la.length c)) := fun W h => Rd.later hA h
  have RB : Hid (∀ W, Below w.heap.size w W → Rd W B (Ls 2 dRow lb) (.slice a' lb.length c')) := fun W h => Rd.later hB h
  have HO := Lib.hid (And.intro ho ho')
  clear hA hB ho ho' h1 h2 h3
  go_enter Try.func14, Try.ntmps14
  go_wp2_with fail
  clear n1 n2 n3 d1 d2 d3 d4
  go_loopw [5] (fun t wr => ∃ k : Nat, k ≤ la.length ∧ t = .int .i64 k ∧ Hid (Below w.heap.size w wr ∧ ∀ m (h : m < la.length) (h' : m < lb.length), m < k → la[m] = lb[m])) (fun t _ => la.length - (intOf t).toNat)
  case atStart => exact ⟨0, Nat.zero_le _, rfl, Below.refl _ _, fun m _ _ h => absurd h (by omega)⟩
  case round =>
    obtain ⟨k, hk, rfl, HW⟩ := hrel
    by_cases hlt : k < la.length
    case neg =>
      have hkd : decide ((k : Int) < (la.length : Int)) = false := by simp; omega
      have HV : Hid (R = true) := by show R = _; rw [HE.out]; exact eqB_all H3.out (fun m h h' _ => HW.out.2 m h h' (by omega))
      go_wp2_with fail
      go_ret
      exact ⟨ret_b HV.out.symm, HW.out.1⟩
    have hki : (k : Int) < (la.length : Int) := by omega
    have hlt' : k < lb.length := by have := H3.out; omega
    have hki' : (k : Int) < (lb.length : Int) := by omega
    have R1 := RA.out _ HW.out.1
    have R2 := RB.out _ HW.out.1
    obtain ⟨b1, o1, rfl, -, -⟩ := R1.things k hlt
    obtain ⟨b2, o2, rfl, -, -⟩ := R2.things k hlt'
    obtain ⟨u0, c0, r0⟩ := R1.spotT hlt (j := 0) (by omega)
    obtain rfl : u0 = .int .i64 la[k].id := r0
    obtain ⟨u1, c1, r1⟩ := R1.spotT hlt (j := 1) (by omega)
    replace r1 : Rd wr A (dAtomSS la[k].cells) u1 := r1
    obtain ⟨ya, yq, rfl⟩ := r1.lsSlice
    obtain ⟨v0, e0, s0⟩ := R2.spotT hlt' (j := 0) (by omega)
    obtain rfl : v0 = .int .i64 lb[k].id := s0
    obtain ⟨v1, e1, s1⟩ := R2.spotT hlt' (j := 1) (by omega)
    replace s1 : Rd wr B (dAtomSS lb[k].cells) v1 := s1
    obtain ⟨za, zq, rfl⟩ := s1.lsSlice
    replace c0 : wr.cell? ⟨b1, o1 + k * 2, none⟩ = _ := c0
    replace e0 : wr.cell? ⟨b2, o2 + k * 2, none⟩ = _ := e0
    have CE : Hid (∀ W, Below wr.heap.size wr W → W.cell? ⟨b1, o1 + k * 2, none⟩ = some (.int .i64 la[k].id) ∧ W.cell? ⟨b1, o1 + k * 2 + 1, none⟩ = some (.slice ya la[k].cells.length yq) ∧ W.cell? ⟨b2, o2 + k * 2, none⟩ = some (.int .i64 lb[k].id) ∧ W.cell? ⟨b2, o2 + k * 2 + 1, none⟩ = some (.slice za lb[k].cells.length zq)) := fun W h => ⟨(h.cell (p := ⟨b1, o1 + k * 2, none⟩) (World.block_lt_of_cell? _ _ c0)).trans c0, (h.cell (p := ⟨b1, o1 + k * 2 + 1, none⟩) (World.block_lt_of_cell? _ _ c1)).trans c1, (h.cell (p := ⟨b2, o2 + k * 2, none⟩) (World.block_lt_of_cell? _ _ e0)).trans e0, (h.cell (p := ⟨b2, o2 + k * 2 + 1, none⟩) (World.block_lt_of_cell? _ _ e1)).trans e1⟩
    have SR : Hid (∀ W, Below wr.heap.size wr W → Calls Try.prog 34 #[.agg #[.int .i64 la[k].id, .slice ya la[k].cells.length yq], .agg #[.int .i64 lb[k].id, .slice za lb[k].cells.length zq]] W fun e w' => e = .returned (.bool (eqB la[k] lb[k])) ∧ Below wr.heap.size wr w') := fun W h => (sameRowS la[k] lb[k] ya yq za zq A B W ((Ls_le.1 HO.out.1).2.2 k hlt 1 (by omega)) ((Ls_le.1 HO.out.2).2.2 k hlt' 1 (by omega)) (r1.later h) (s1.later h)).mono (fun e w' ⟨he, hB⟩ => ⟨he, h.trans (hB.mono h.size)⟩)
    have HB1 := Lib.hid HW.out.1
    have hx := Below.refl wr.heap.size wr
    cases hq : eqB la[k] lb[k]
    case false =>
      have HV : Hid (R = false) := by show R = _; rw [HE.out]; exact eqB_at hlt hlt' (fun e => by rw [eqB_yes e] at hq; cases hq)
      rw [hq] at SR
      clear hq HW R1 R2 r1 s1 c0 c1 e0 e1
      generalize la[k] = y at *
      generalize lb[k] = z at *
      go_wp2_with fail
      refine wp_region_held_drew (S := (fun W => W.cell? ⟨b1, o1 + k * 2, none⟩ = some (.int .i64 y.id) ∧ W.cell? ⟨b1, o1 + k * 2 + 1, none⟩ = some (.slice ya y.cells.length yq) ∧ W.cell? ⟨b2, o2 + k * 2, none⟩ = some (.int .i64 z.id) ∧ W.cell? ⟨b2, o2 + k * 2 + 1, none⟩ = some (.slice za z.cells.length zq))) (by kernel_rfl) ?_ (fun hHeld => ?_)
      · (first | exact CE.out _ hx | exact CE.out _ hx.drew)
      refine wpAnyH_take (i := 0) (v := ?_) rfl (by kernel_rfl) (by kernel_rfl) (by kernel_rfl) (fun _ _ _ h => h) (Or.inl ⟨by kernel_rfl, ?_⟩) (by assumption) ?_
      rotate_left
      · (intro wS hSw; (try dsimp only at hSw); go_simp <;> with_reducible rfl)
      try simp only [Act.put, List.getElem_toArray, List.getElem_cons_succ, List.getElem_cons_zero, List.setIfInBounds_toArray, List.set_cons_zero, List.set_cons_succ]
      refine wpAnyH_take (i := 1) (v := ?_) rfl (by kernel_rfl) (by kernel_rfl) (by kernel_rfl) (fun _ _ _ h => h) (Or.inl ⟨by kernel_rfl, ?_⟩) (by assumption) ?_
      rotate_left
      · (intro wS hSw; (try dsimp only at hSw); go_simp <;> with_reducible rfl)
      try simp only [Act.put, List.getElem_toArray, List.getElem_cons_succ, List.getElem_cons_zero, List.setIfInBounds_toArray, List.set_cons_zero, List.set_cons_succ]
      refine wpAnyH_take (i := 2) (v := ?_) rfl (by kernel_rfl) (by kernel_rfl) (by kernel_rfl) (fun _ _ _ h => h) (Or.inl ⟨by kernel_rfl, ?_⟩) (by assumption) ?_
      rotate_left
      · (intro wS hSw; (try dsimp only at hSw); go_simp <;> with_reducible rfl)
      try simp only [Act.put, List.getElem_toArray, List.getElem_cons_succ, List.getElem_cons_zero, List.setIfInBounds_toArray, List.set_cons_zero, List.set_cons_succ]
      refine wpAnyH_take (i := 3) (v := ?_) rfl (by kernel_rfl) (by kernel_rfl) (by kernel_rfl) (fun _ _ _ h => h) (Or.inl ⟨by kernel_rfl, ?_⟩) (by assumption) ?_
      rotate_left
      · (intro wS hSw; (try dsimp only at hSw); go_simp <;> with_reducible rfl)
      try simp only [Act.put, List.getElem_toArray, List.getElem_cons_succ, List.getElem_cons_zero, List.setIfInBounds_toArray, List.set_cons_zero, List.set_cons_succ]
      refine wpAnyH_take (i := 4) (v := ?_) rfl (by kernel_rfl) (by kernel_rfl) (by kernel_rfl) (fun _ _ _ h => h) (Or.inl ⟨by kernel_rfl, ?_⟩) (by assumption) ?_
      rotate_left
      · (intro wS hSw; (try dsimp only at hSw); go_simp <;> with_reducible rfl)
      try simp only [Act.put, List.getElem_toArray, List.getElem_cons_succ, List.getElem_cons_zero, List.setIfInBounds_toArray, List.set_cons_zero, List.set_cons_succ]
      refine wpAnyH_take (i := 5) (v := ?_) rfl (by kernel_rfl) (by kernel_rfl) (by kernel_rfl) (fun _ _ _ h => h) (Or.inl ⟨by kernel_rfl, ?_⟩) (by assumption) ?_
      rotate_left
      · (intro wS hSw; (try dsimp only at hSw); go_simp <;> with_reducible rfl)
      try simp only [Act.put, List.getElem_toArray, List.getElem_cons_succ, List.getElem_cons_zero, List.setIfInBounds_toArray, List.set_cons_zero, List.set_cons_succ]
      refine wpAnyH_take (i := 6) (v := ?_) rfl (by kernel_rfl) (by kernel_rfl) (by kernel_rfl) (fun _ _ _ h => h) (Or.inl ⟨by kernel_rfl, ?_⟩) (by assumption) ?_
      rotate_left
      · (intro wS hSw; (try dsimp only at hSw); go_simp <;> with_reducible rfl)
      try simp only [Act.put, List.getElem_toArray, List.getElem_cons_succ, List.getElem_cons_zero, List.setIfInBounds_toArray, List.set_cons_zero, List.set_cons_succ]
      refine wpAnyH_take (i := 7) (v := ?_) rfl (by kernel_rfl) (by kernel_rfl) (by kernel_rfl) (fun _ _ _ h => h) (Or.inl ⟨by kernel_rfl, ?_⟩) (by assumption) ?_
      rotate_left
      · (intro wS hSw; (try dsimp only at hSw); go_simp <;> with_reducible rfl)
      try simp only [Act.put, List.getElem_toArray, List.getElem_cons_succ, List.getElem_cons_zero, List.setIfInBounds_toArray, List.set_cons_zero, List.set_cons_succ]
      refine wpAnyH_ready (rs := [8]) (by kernel_rfl) (by simp) (AllReadyH.cons rfl (fun K hK => ?_) AllReadyH.nil)
      go_simp
      (go_at_call 34; refine (SR.out _ (by first | exact hx | exact hx.drew)).mono ?_; rintro e w1 ⟨rfl, hx⟩)
      refine hK.out _ _ ?_ (fun hHeld => ?_)
      · (first | exact CE.out _ hx | exact CE.out _ hx.drew)
      clear hK K
      try simp only [Act.put, List.getElem_toArray, List.getElem_cons_succ, List.getElem_cons_zero, List.setIfInBounds_toArray, List.set_cons_zero, List.set_cons_succ]
      refine wpAnyH_take (i := 9) (v := ?_) rfl (by kernel_rfl) (by kernel_rfl) (by kernel_rfl) (fun _ _ _ h => h) (Or.inl ⟨by kernel_rfl, ?_⟩) (by assumption) ?_
      rotate_left
      · (intro wS hSw; (try dsimp only at hSw); go_simp <;> with_reducible rfl)
      try simp only [Act.put, List.getElem_toArray, List.getElem_cons_succ, List.getElem_cons_zero, List.setIfInBounds_toArray, List.set_cons_zero, List.set_cons_succ]
      refine wpAnyH_done (by kernel_rfl) ?_ _
      go_wp2_with fail
      go_ret
      exact ⟨ret_b HV.out.symm, HB1.out.trans (Below.mono (by first | exact hx | exact hx.drew) HB1.out.size)⟩
    have HG : Hid (∀ m (h : m < la.length) (h' : m < lb.length), m < k + 1 → la[m] = lb[m]) := fun m h h' hm => by
      by_cases e : m = k
      · subst e; exact eqB_iff.1 hq
      · exact HW.out.2 m h h' (by omega)
    rw [hq] at SR
    clear hq HW R1 R2 r1 s1 c0 c1 e0 e1
    generalize la[k] = y at *
    generalize lb[k] = z at *
    go_wp2_with fail
    refine wp_region_held_drew (S := (fun W => W.cell? ⟨b1, o1 + k * 2, none⟩ = some (.int .i64 y.id) ∧ W.cell? ⟨b1, o1 + k * 2 + 1, none⟩ = some (.slice ya y.cells.length yq) ∧ W.cell? ⟨b2, o2 + k * 2, none⟩ = some (.int .i64 z.id) ∧ W.cell? ⟨b2, o2 + k * 2 + 1, none⟩ = some (.slice za z.cells.length zq))) (by kernel_rfl) ?_ (fun hHeld => ?_)
    · (first | exact CE.out _ hx | exact CE.out _ hx.drew)
    refine wpAnyH_take (i := 0) (v := ?_) rfl (by kernel_rfl) (by kernel_rfl) (by kernel_rfl) (fun _ _ _ h => h) (Or.inl ⟨by kernel_rfl, ?_⟩) (by assumption) ?_
    rotate_left
    · (intro wS hSw; (try dsimp only at hSw); go_simp <;> with_reducible rfl)
    try simp only [Act.put, List.getElem_toArray, List.getElem_cons_succ, List.getElem_cons_zero, List.setIfInBounds_toArray, List.set_cons_zero, List.set_cons_succ]
    refine wpAnyH_take (i := 1) (v := ?_) rfl (by kernel_rfl) (by kernel_rfl) (by kernel_rfl) (fun _ _ _ h => h) (Or.inl ⟨by kernel_rfl, ?_⟩) (by assumption) ?_
    rotate_left
    · (intro wS hSw; (try dsimp only at hSw); go_simp <;> with_reducible rfl)
    try simp only [Act.put, List.getElem_toArray, List.getElem_cons_succ, List.getElem_cons_zero, List.setIfInBounds_toArray, List.set_cons_zero, List.set_cons_succ]
    refine wpAnyH_take (i := 2) (v := ?_) rfl (by kernel_rfl) (by kernel_rfl) (by kernel_rfl) (fun _ _ _ h => h) (Or.inl ⟨by kernel_rfl, ?_⟩) (by assumption) ?_
    rotate_left
    · (intro wS hSw; (try dsimp only at hSw); go_simp <;> with_reducible rfl)
    try simp only [Act.put, List.getElem_toArray, List.getElem_cons_succ, List.getElem_cons_zero, List.setIfInBounds_toArray, List.set_cons_zero, List.set_cons_succ]
    refine wpAnyH_take (i := 3) (v := ?_) rfl (by kernel_rfl) (by kernel_rfl) (by kernel_rfl) (fun _ _ _ h => h) (Or.inl ⟨by kernel_rfl, ?_⟩) (by assumption) ?_
    rotate_left
    · (intro wS hSw; (try dsimp only at hSw); go_simp <;> with_reducible rfl)
    try simp only [Act.put, List.getElem_toArray, List.getElem_cons_succ, List.getElem_cons_zero, List.setIfInBounds_toArray, List.set_cons_zero, List.set_cons_succ]
    refine wpAnyH_take (i := 4) (v := ?_) rfl (by kernel_rfl) (by kernel_rfl) (by kernel_rfl) (fun _ _ _ h => h) (Or.inl ⟨by kernel_rfl, ?_⟩) (by assumption) ?_
    rotate_left
    · (intro wS hSw; (try dsimp only at hSw); go_simp <;> with_reducible rfl)
    try simp only [Act.put, List.getElem_toArray, List.getElem_cons_succ, List.getElem_cons_zero, List.setIfInBounds_toArray, List.set_cons_zero, List.set_cons_succ]
    refine wpAnyH_take (i := 5) (v := ?_) rfl (by kernel_rfl) (by kernel_rfl) (by kernel_rfl) (fun _ _ _ h => h) (Or.inl ⟨by kernel_rfl, ?_⟩) (by assumption) ?_
    rotate_left
    · (intro wS hSw; (try dsimp only at hSw); go_simp <;> with_reducible rfl)
    try simp only [Act.put, List.getElem_toArray, List.getElem_cons_succ, List.getElem_cons_zero, List.setIfInBounds_toArray, List.set_cons_zero, List.set_cons_succ]
    refine wpAnyH_take (i := 6) (v := ?_) rfl (by kernel_rfl) (by kernel_rfl) (by kernel_rfl) (fun _ _ _ h => h) (Or.inl ⟨by kernel_rfl, ?_⟩) (by assumption) ?_
    rotate_left
    · (intro wS hSw; (try dsimp only at hSw); go_simp <;> with_reducible rfl)
    try simp only [Act.put, List.getElem_toArray, List.getElem_cons_succ, List.getElem_cons_zero, List.setIfInBounds_toArray, List.set_cons_zero, List.set_cons_succ]
    refine wpAnyH_take (i := 7) (v := ?_) rfl (by kernel_rfl) (by kernel_rfl) (by kernel_rfl) (fun _ _ _ h => h) (Or.inl ⟨by kernel_rfl, ?_⟩) (by assumption) ?_
    rotate_left
    · (intro wS hSw; (try dsimp only at hSw); go_simp <;> with_reducible rfl)
    try simp only [Act.put, List.getElem_toArray, List.getElem_cons_succ, List.getElem_cons_zero, List.setIfInBounds_toArray, List.set_cons_zero, List.set_cons_succ]
    refine wpAnyH_ready (rs := [8]) (by kernel_rfl) (by simp) (AllReadyH.cons rfl (fun K hK => ?_) AllReadyH.nil)
    go_simp
    (go_at_call 34; refine (SR.out _ (by first | exact hx | exact hx.drew)).mono ?_; rintro e w1 ⟨rfl, hx⟩)
    refine hK.out _ _ ?_ (fun hHeld => ?_)
    · (first | exact CE.out _ hx | exact CE.out _ hx.drew)
    clear hK K
    try simp only [Act.put, List.getElem_toArray, List.getElem_cons_succ, List.getElem_cons_zero, List.setIfInBounds_toArray, List.set_cons_zero, List.set_cons_succ]
    refine wpAnyH_take (i := 9) (v := ?_) rfl (by kernel_rfl) (by kernel_rfl) (by kernel_rfl) (fun _ _ _ h => h) (Or.inl ⟨by kernel_rfl, ?_⟩) (by assumption) ?_
    rotate_left
    · (intro wS hSw; (try dsimp only at hSw); go_simp <;> with_reducible rfl)
    try simp only [Act.put, List.getElem_toArray, List.getElem_cons_succ, List.getElem_cons_zero, List.setIfInBounds_toArray, List.set_cons_zero, List.set_cons_succ]
    refine wpAnyH_done (by kernel_rfl) ?_ _
    go_wp2_with fail
    go_roundw
    case rel => exact ⟨k + 1, by omega, by go_num, HB1.out.trans (Below.mono (by first | exact hx | exact hx.drew) HB1.out.size), HG.out⟩
    case measure => simp [intOf]; omega
end Go.Proofs.Ytenioffildinbaa
