import Derived.Test.YteeofajgnplhfaaGreatZbg
import Derived.Test.YteeofajgnplhfaaGreatZTk
namespace Go.Proofs.YteeofajgnplhfaaGreat
open Go.RowKit
set_option linter.unusedSimpArgs false
set_option maxRecDepth 100000 in
set_option maxHeartbeats 6400000 in
theorem onceS (x : StV) (xa : Option Addr) (xc : Nat) (B : Nat → Prop) (w : World) (ho : (dRowSS x.tables).le maxLen) (hR : Rd w B (dRowSS x.tables) (.slice xa x.tables.length xc)) :
    Calls Tryz.prog 16 #[.agg #[.slice xa x.tables.length xc, .int .i64 x.next]] w fun e w' => e = .returned (.bool (onceB x.tables)) ∧ Below w.heap.size w w' := by
  have HR : Hid (∀ W, Below w.heap.size w W → Rd W B (dRowSS x.tables) (.slice xa x.tables.length xc)) := fun W h => Rd.later hR h
  have HO := Lib.hid ho
  have hxl : x.tables.length ≤ maxLen := (Ls_le.1 ho).2.1
  unfold maxLen at hxl
  have HB := Lib.hid (boxD 37 w #[.slice xa x.tables.length xc, .int .i64 x.next])
  clear ho hR
  go_enter Tryz.func16, Tryz.ntmps16
  go_wp2_with fail
  go_loopw [3] (fun t wr => ∃ i : Nat, i ≤ x.tables.length ∧ t = .int .i64 i ∧ Hid ((∀ m, m < x.tables.length → m < i → onceI x.tables m) ∧ BoxD 37 w wr #[.slice xa x.tables.length xc, .int .i64 x.next])) (fun t _ => x.tables.length - (intOf t).toNat)
  case atStart => exact ⟨0, Nat.zero_le _, rfl, fun m _ h => absurd h (by omega), HB.out⟩
  case round =>
    obtain ⟨i, hi, rfl, HW⟩ := hrel
    generalize wr = wo at *
    have y0 := cell_at (o := 0) HW.out.2.1 rfl
    by_cases hlt : i < x.tables.length
    case neg =>
      have hki : decide ((i : Int) < (x.tables.length : Int)) = false := by simp; omega
      have HE := Lib.hid (once_yes (fun m hm => HW.out.1 m hm (by omega)))
      go_wp2_with fail
      go_ret
      exact ⟨ret_b HE.out.symm, HW.out.2.2⟩
    have hki : (i : Int) < (x.tables.length : Int) := by omega
    obtain ⟨xb, xo, ra, rq, rfl, hti⟩ := tabsAt (HR.out _ HW.out.2.2) hlt
    have HTI := Lib.hid hti
    have hrl : x.tables[i].length ≤ maxLen := (Ls_le.1 ((Ls_le.1 HO.out).2.2 i hlt 0 (by omega) : (dRowS x.tables[i]).le maxLen)).2.1
    unfold maxLen at hrl
    clear hti
    have BK : Hid (∀ W, Below wo.heap.size wo W → BoxD 37 w W #[.slice (some ⟨xb, xo, none⟩) x.tables.length xc, .int .i64 x.next]) := fun W h => HW.out.2.later h
    go_wp2_with fail
    clear y0
    go_loopw [4] (fun t wr => ∃ k : Nat, k ≤ x.tables[i].length ∧ t = .int .i64 k ∧ Hid ((∀ n (hn : n < x.tables[i].length), n < k → ∀ j (hj : j < i), rplI (x.tables[j]'(by omega)) x.tables[i][n].id = -1) ∧ Below wo.heap.size wo wr)) (fun t _ => x.tables[i].length - (intOf t).toNat)
    case atStart => exact ⟨0, Nat.zero_le _, rfl, fun n _ h => absurd h (by omega), Below.refl _ _⟩
    case round =>
      obtain ⟨k, hk, rfl, HV⟩ := hrel
      generalize wr = wm at *
      have y0 := cell_at (o := 0) (BK.out _ HV.out.2).1 rfl
      have c0 := (HTI.out _ HV.out.2).1
      by_cases hkl : k < x.tables[i].length
      case neg =>
        have hkd : decide ((k : Int) < (x.tables[i].length : Int)) = false := by simp; omega
        have HN : Hid (∀ m, m < x.tables.length → m < i + 1 → onceI x.tables m) := fun m hm hmi => by
          by_cases e : m = i
          · subst e; exact fun _ n hn j hj => HV.out.1 n hn (by omega) j hj
          · exact HW.out.1 m hm (by omega)
        have HB2 := Lib.hid (BK.out _ HV.out.2)
        go_wp2_with fail
        go_roundw
        case rel => exact ⟨i + 1, by omega, by go_num, HN.out, HB2.out⟩
        case measure => simp [intOf]; omega
      have hkk : (k : Int) < (x.tables[i].length : Int) := by omega
      obtain ⟨rb, ro, ca, cq, rfl, hrk⟩ := rowsAt (HTI.out _ HV.out.2).2 hkl
      have HRK := Lib.hid hrk
      clear hrk
      go_wp2_with fail
      clear y0 c0
      go_loopw [5] (fun t wr => ∃ j : Nat, j ≤ i ∧ t = .int .i64 j ∧ Hid ((∀ n (hn : n < i), n < j → rplI (x.tables[n]'(by omega)) x.tables[i][k].id = -1) ∧ Below wm.heap.size wm wr)) (fun t _ => i - (intOf t).toNat)
      case atStart => exact ⟨0, Nat.zero_le _, rfl, fun n _ h => absurd h (by omega), Below.refl _ _⟩
      case round =>
        obtain ⟨j, hj, rfl, HU⟩ := hrel
        have HBO : Hid (Below wo.heap.size wo wr) := HV.out.2.trans (HU.out.2.mono HV.out.2.size)
        by_cases hjl : j < i
        case neg =>
          have hjd : decide ((j : Int) < (i : Int)) = false := by simp; omega
          have HN : Hid (∀ n (hn : n < x.tables[i].length), n < k + 1 → ∀ j (hj : j < i), rplI (x.tables[j]'(by omega)) x.tables[i][n].id = -1) := fun n hn hnk j hj => by
            by_cases e : n = k
            · subst e; exact HU.out.1 j hj (by omega)
            · exact HV.out.1 n hn (by omega) j hj
          go_wp2_with fail
          go_roundw
          case rel => exact ⟨k + 1, by omega, by go_num, HN.out, HBO.out⟩
          case measure => simp [intOf]; omega
        have hjj : (j : Int) < (i : Int) := by omega
        have hjx : (j : Int) < (x.tables.length : Int) := by omega
        have hjt : j < x.tables.length := by omega
        obtain ⟨xb2, xo2, ja, jq, e2, htj⟩ := tabsAt (HR.out _ (BK.out _ HBO.out).2) hjt
        simp only [Option.some.injEq, Addr.mk.injEq, and_true] at e2
        obtain ⟨rfl, rfl⟩ := e2
        have PL : Hid (∀ W, Below wr.heap.size wr W → Calls Tryz.prog 35 #[.slice ja x.tables[j].length jq, .int .i64 x.tables[i][k].id] W fun e w' => e = .returned (.int .i64 (rplI x.tables[j] x.tables[i][k].id)) ∧ Below W.heap.size W w') := fun W h => rplS x.tables[j] ja jq x.tables[i][k].id B W (Ls_le.1 ((Ls_le.1 HO.out).2.2 j hjt 0 (by omega) : (dRowS x.tables[j]).le maxLen)).2.1 (htj W h).2
        have CX : Hid (∀ W, Below wr.heap.size wr W → W.cell? ⟨w.heap.size, 0, none⟩ = some (.slice (some ⟨xb, xo, none⟩) x.tables.length xc) ∧ W.cell? ⟨xb, xo + j, none⟩ = some (.slice ja x.tables[j].length jq) ∧ W.cell? ⟨xb, xo + i, none⟩ = some (.slice (some ⟨rb, ro, none⟩) x.tables[i].length rq) ∧ W.cell? ⟨rb, ro + k * 2, none⟩ = some (.int .i64 x.tables[i][k].id)) := fun W h => ⟨cell_at (o := 0) (BK.out _ (HBO.out.trans (h.mono HBO.out.size))).1 rfl, (htj W h).1, (HTI.out _ (HBO.out.trans (h.mono HBO.out.size))).1, (HRK.out _ (HU.out.2.trans (h.mono HU.out.2.size))).1⟩
        have HNO : Hid (¬ rplI x.tables[j] x.tables[i][k].id = -1 → onceB x.tables = false) := fun h => once_no hlt (fun hn => h (hn hlt k hkl j hjl))
        have HNX : Hid (rplI x.tables[j] x.tables[i][k].id = -1 → ∀ n (hn : n < i), n < j + 1 → rplI (x.tables[n]'(by omega)) x.tables[i][k].id = -1) := fun he n hn hnj => by
          by_cases e : n = j
          · subst e; exact he
          · exact HU.out.1 n hn (by omega)
        have HRC := Lib.hid (rpl_cases x.tables[j] x.tables[i][k].id)
        clear htj
        go_wp2_with fail
        refine wp_region_held_drew (S := (fun W => W.cell? ⟨w.heap.size, 0, none⟩ = some (.slice (some ⟨xb, xo, none⟩) x.tables.length xc) ∧ W.cell? ⟨xb, xo + j, none⟩ = some (.slice ja x.tables[j].length jq) ∧ W.cell? ⟨xb, xo + i, none⟩ = some (.slice (some ⟨rb, ro, none⟩) x.tables[i].length rq) ∧ W.cell? ⟨rb, ro + k * 2, none⟩ = some (.int .i64 x.tables[i][k].id))) (by kernel_rfl) ?_ (fun hHeld => ?_)
        · (first | exact CX.out _ (Below.refl _ _) | exact CX.out _ (Below.refl _ _).drew | exact CX.out _ BW.out)
        refine wpAnyH_take (i := 0) (v := ?_) rfl (by kernel_rfl) (by kernel_rfl) (by kernel_rfl) (fun _ _ _ h => h) (Or.inl ⟨by kernel_rfl, ?_⟩) (by assumption) ?_
        rotate_left
        · (intro wS hSw; (try dsimp only at hSw); go_simp <;> with_reducible rfl)
        try simp only [Act.put, tkS]
        refine wpAnyH_take (i := 1) (v := ?_) rfl (by kernel_rfl) (by kernel_rfl) (by kernel_rfl) (fun _ _ _ h => h) (Or.inl ⟨by kernel_rfl, ?_⟩) (by assumption) ?_
        rotate_left
        · (intro wS hSw; (try dsimp only at hSw); go_simp <;> with_reducible rfl)
        try simp only [Act.put, tkS]
        refine wpAnyH_take (i := 2) (v := ?_) rfl (by kernel_rfl) (by kernel_rfl) (by kernel_rfl) (fun _ _ _ h => h) (Or.inl ⟨by kernel_rfl, ?_⟩) (by assumption) ?_
        rotate_left
        · (intro wS hSw; (try dsimp only at hSw); go_simp <;> with_reducible rfl)
        try simp only [Act.put, tkS]
        refine wpAnyH_take (i := 3) (v := ?_) rfl (by kernel_rfl) (by kernel_rfl) (by kernel_rfl) (fun _ _ _ h => h) (Or.inl ⟨by kernel_rfl, ?_⟩) (by assumption) ?_
        rotate_left
        · (intro wS hSw; (try dsimp only at hSw); go_simp <;> with_reducible rfl)
        try simp only [Act.put, tkS]
        refine wpAnyH_take (i := 4) (v := ?_) rfl (by kernel_rfl) (by kernel_rfl) (by kernel_rfl) (fun _ _ _ h => h) (Or.inl ⟨by kernel_rfl, ?_⟩) (by assumption) ?_
        rotate_left
        · (intro wS hSw; (try dsimp only at hSw); go_simp <;> with_reducible rfl)
        try simp only [Act.put, tkS]
        refine wpAnyH_take (i := 5) (v := ?_) rfl (by kernel_rfl) (by kernel_rfl) (by kernel_rfl) (fun _ _ _ h => h) (Or.inl ⟨by kernel_rfl, ?_⟩) (by assumption) ?_
        rotate_left
        · (intro wS hSw; (try dsimp only at hSw); go_simp <;> with_reducible rfl)
        try simp only [Act.put, tkS]
        refine wpAnyH_take (i := 6) (v := ?_) rfl (by kernel_rfl) (by kernel_rfl) (by kernel_rfl) (fun _ _ _ h => h) (Or.inl ⟨by kernel_rfl, ?_⟩) (by assumption) ?_
        rotate_left
        · (intro wS hSw; (try dsimp only at hSw); go_simp <;> with_reducible rfl)
        try simp only [Act.put, tkS]
        refine wpAnyH_take (i := 7) (v := ?_) rfl (by kernel_rfl) (by kernel_rfl) (by kernel_rfl) (fun _ _ _ h => h) (Or.inl ⟨by kernel_rfl, ?_⟩) (by assumption) ?_
        rotate_left
        · (intro wS hSw; (try dsimp only at hSw); go_simp <;> with_reducible rfl)
        try simp only [Act.put, tkS]
        refine wpAnyH_take (i := 8) (v := ?_) rfl (by kernel_rfl) (by kernel_rfl) (by kernel_rfl) (fun _ _ _ h => h) (Or.inl ⟨by kernel_rfl, ?_⟩) (by assumption) ?_
        rotate_left
        · (intro wS hSw; (try dsimp only at hSw); go_simp <;> with_reducible rfl)
        try simp only [Act.put, tkS]
        refine wpAnyH_take (i := 9) (v := ?_) rfl (by kernel_rfl) (by kernel_rfl) (by kernel_rfl) (fun _ _ _ h => h) (Or.inl ⟨by kernel_rfl, ?_⟩) (by assumption) ?_
        rotate_left
        · (intro wS hSw; (try dsimp only at hSw); go_simp <;> with_reducible rfl)
        try simp only [Act.put, tkS]
        refine wpAnyH_take (i := 10) (v := ?_) rfl (by kernel_rfl) (by kernel_rfl) (by kernel_rfl) (fun _ _ _ h => h) (Or.inl ⟨by kernel_rfl, ?_⟩) (by assumption) ?_
        rotate_left
        · (intro wS hSw; (try dsimp only at hSw); go_simp <;> with_reducible rfl)
        try simp only [Act.put, tkS]
        refine wpAnyH_take (i := 11) (v := ?_) rfl (by kernel_rfl) (by kernel_rfl) (by kernel_rfl) (fun _ _ _ h => h) (Or.inl ⟨by kernel_rfl, ?_⟩) (by assumption) ?_
        rotate_left
        · (intro wS hSw; (try dsimp only at hSw); go_simp <;> with_reducible rfl)
        try simp only [Act.put, tkS]
        refine wpAnyH_take (i := 12) (v := ?_) rfl (by kernel_rfl) (by kernel_rfl) (by kernel_rfl) (fun _ _ _ h => h) (Or.inl ⟨by kernel_rfl, ?_⟩) (by assumption) ?_
        rotate_left
        · (intro wS hSw; (try dsimp only at hSw); go_simp <;> with_reducible rfl)
        try simp only [Act.put, tkS]
        refine wpAnyH_take (i := 13) (v := ?_) rfl (by kernel_rfl) (by kernel_rfl) (by kernel_rfl) (fun _ _ _ h => h) (Or.inl ⟨by kernel_rfl, ?_⟩) (by assumption) ?_
        rotate_left
        · (intro wS hSw; (try dsimp only at hSw); go_simp <;> with_reducible rfl)
        try simp only [Act.put, tkS]
        refine wpAnyH_ready (rs := [14]) (by kernel_rfl) (by simp) (AllReadyH.cons rfl (fun K hK => ?_) AllReadyH.nil)
        go_simp
        (go_at_call 35; refine (PL.out _ (Below.refl _ _).drew).mono ?_; rintro e w1 ⟨rfl, hB⟩; have BW : Hid (Below wr.heap.size wr w1) := (Below.refl _ _).drew.trans hB; clear hB)
        refine hK.out _ _ ?_ (fun hHeld => ?_)
        · (first | exact CX.out _ (Below.refl _ _) | exact CX.out _ (Below.refl _ _).drew | exact CX.out _ BW.out)
        clear hK K
        try simp only [Act.put, tkS]
        refine wpAnyH_take (i := 15) (v := ?_) rfl (by kernel_rfl) (by kernel_rfl) (by kernel_rfl) (fun _ _ _ h => h) (Or.inl ⟨by kernel_rfl, ?_⟩) (by assumption) ?_
        rotate_left
        · (intro wS hSw; (try dsimp only at hSw); go_simp <;> with_reducible rfl)
        try simp only [Act.put, tkS]
        refine wpAnyH_done (by kernel_rfl) ?_ _
        have HB3 := Lib.hid (HBO.out.trans (BW.out.mono HBO.out.size))
        have HB4 := Lib.hid (HU.out.2.trans (BW.out.mono HU.out.2.size))
        rcases HRC.out with ⟨hr, -⟩ | ⟨q0, -, hr, -, -⟩
        · have HN := Lib.hid (HNX.out hr)
          rw [hr]
          have hd : decide ((0 : Int) ≤ -1) = false := rfl
          clear hr HNO HNX HRC PL CX
          go_wp2_with fail
          go_roundw
          case rel => exact ⟨j + 1, by omega, by go_num, HN.out, HB4.out⟩
          case measure => simp [intOf]; omega
        · have HN := Lib.hid (HNO.out (by rw [hr]; omega))
          rw [hr]
          clear hr HNO HNX HRC PL CX
          go_wp2_with fail
          go_ret
          exact ⟨ret_b HN.out.symm, (BK.out _ HB3.out).2⟩
end Go.Proofs.YteeofajgnplhfaaGreat
