import Derived.Test.YtgpoigkfoliflaaGreatDoorZad
import Derived.Test.YtgpoigkfoliflaaGreatDoorZTk
namespace Go.Proofs.YtgpoigkfoliflaaGreatDoor
open Go.RowKit
set_option linter.unusedSimpArgs false
set_option maxRecDepth 100000 in
set_option maxHeartbeats 12800000 in
theorem ownRowG (x : RowV) (a : Option Addr) (c : Nat) (B : Nat → Prop) (w : World) (ho : (dAtomSS x.cells).le 1048576) (hS : Rd w B (dAtomSS x.cells) (.slice a x.cells.length c)) :
    Calls Tryz.prog 49 #[.agg #[.int .i64 x.id, .slice a x.cells.length c]] w fun e w' => ∃ ra rc, e = .returned (.agg #[.int .i64 x.id, .slice ra x.cells.length rc]) ∧ SG w' (w.heap.size + 1 + 1) (fun c => w.heap.size + 1 + 1 ≤ c) 35 1 (lsF cAtomS x.cells) x.cells.length (.slice ra x.cells.length rc) ∧ Below w.heap.size w w' := by
  obtain ⟨iA, hiA⟩ := infoAs
  have HIA := Lib.hid hiA
  have hl : x.cells.length ≤ 1048576 := (Ls_le.1 ho).2.1
  have HX : Hid (∀ i (h : i < x.cells.length) j, j < 1 → (cAtomS x.cells[i] j).le 1048576) := (Ls_le.1 ho).2.2
  have HS : Hid (∀ W, Below w.heap.size w W → Rd W B (Ls 1 cAtomS x.cells) (.slice a x.cells.length c)) := fun W h => Rd.later hS h
  have hb1 := boxD 34 w #[.int .i64 x.id, .slice a x.cells.length c]
  have H0 := Lib.hid (OSt.first w x a c)
  have HL := Lib.hid hl
  clear hiA hS ho hb1
  go_enter Tryz.func49, Tryz.ntmps49
  go_wp2_with fail
  go_loopw [4] (fun t wr => ∃ k : Nat, k ≤ x.cells.length ∧ t = .int .i64 k ∧ Hid (∃ va vc, OSt w wr x a c k (.slice va k vc))) (fun t _ => x.cells.length - (intOf t).toNat)
  case atStart => exact ⟨0, Nat.zero_le _, rfl, _, _, H0.out⟩
  case round =>
    obtain ⟨k, hk, rfl, HW⟩ := hrel
    obtain ⟨va, vc, hN⟩ := HW.out
    have HN := Lib.hid hN
    clear HW
    have b1 := cell_at (o := 1) hN.bx rfl
    have t0 := cell_at (o := 0) hN.ot rfl
    have t1 := cell_at (o := 1) hN.ot rfl
    by_cases hlt : k < x.cells.length
    case neg =>
      have hkd : decide ((k : Int) < (x.cells.length : Int)) = false := by simp; omega
      have hkm : k = x.cells.length := by omega
      have HKM := Lib.hid hkm
      have r0 := cell_at (o := 0) hN.rv rfl
      have r1 := cell_at (o := 1) hN.rv rfl
      have g0 := frozen_at 0 hN.rv
      have g1 := frozen_at 1 hN.rv
      clear hN hkm
      go_wp2_with fail
      refine bodyPost_ret (v := .agg #[.int .i64 x.id, .slice va k vc]) (by simp [results, Tryz.results49, go_sem, *]) rfl ?_
      have hkm := HKM.out
      subst hkm
      refine ⟨va, vc, rfl, ?_, (HN.out.bel.setCell (by simp <;> omega) _).setCell (by simp <;> omega) _⟩
      refine (HN.out.gr.same (p := w.heap.size + 1) (by simp [World.setCell]) (fun c hc => ?_) (fun e => by have := (HN.out.lo _ e).1; omega) (fun c hc => by have := hc.1; omega)).wide (Nat.le_refl _) (fun c hc => hc.1)
      rw [Below.heap_setCell _ ⟨w.heap.size + 1, 1, none⟩ _ _ hc, Below.heap_setCell _ ⟨w.heap.size + 1, 0, none⟩ _ _ hc]
    have hki : (k : Int) < (x.cells.length : Int) := by omega
    obtain ⟨b, off, rfl, -, hc⟩ := (HS.out _ hN.bel).things k hlt
    obtain ⟨u0, c0, r0⟩ := hc 0 (by omega)
    replace r0 : Rd wr B (dAtomS x.cells[k]) u0 := r0
    obtain ⟨sa, sq, rfl⟩ := r0.lsSlice
    rw [Nat.mul_one] at c0
    replace c0 : wr.cell? ⟨b, off + k, none⟩ = _ := c0
    have HFA : lsF cAtomS x.cells k = cAtomS x.cells[k] := lsF_at hlt
    have hsl : x.cells[k].length ≤ 1048576 := (Ls_le.1 (HX.out k hlt 0 (by omega))).2.1
    -- the worlds of the region
    obtain ⟨W1, hW1⟩ : ∃ W1, W1 = (wr.alloc (.cells #[] 55)).drew := ⟨_, rfl⟩
    have bW0 : Below wr.heap.size wr wr.drew := (Below.refl _ _).drew
    have bW1 : Below wr.heap.size wr W1 := by rw [hW1]; exact ((Below.refl _ _).alloc (Nat.le_refl _) _).drew
    obtain ⟨a8, c8, W2, hr8, hrd8, hB8⟩ := app_emptyA x.cells[k] wr.heap.size sa sq B W1 35 hsl (r0.later bW1)
    have bW2 : Below wr.heap.size wr W2 := bW1.trans (hB8.mono bW1.size)
    obtain ⟨W3, hW3⟩ : ∃ W3, W3 = W2.alloc (.cells #[.slice a8 x.cells[k].length c8] 35) := ⟨_, rfl⟩
    have bW3 : Below wr.heap.size wr W3 := by rw [hW3]; exact bW2.alloc bW2.size _
    have hn9 : W3.heap[W2.heap.size]? = some (.cells #[.slice a8 x.cells[k].length c8] 35) := by rw [hW3]; exact heap_newD _ _
    have hpl := (Array.getElem?_eq_some_iff.1 hN.ot).1
    have hW1s : W1.heap.size = wr.heap.size + 1 := by rw [hW1]; simp
    obtain ⟨a', c', W4, hr10, hsg, hgr, hgl⟩ := (hN.gr.later bW3).push (P := Tryz.prog) 32 32 iA (.slice none 0 0) 24 Tryz.underlying32 HIA.out.1 HIA.out.2.1 HIA.out.2.2.1 HIA.out.2.2.2 rfl (by omega) ⟨W2.heap.size, 0, none⟩ 1 [.slice a8 x.cells[k].length c8] rfl (fun j u hj => by
        have : j = 0 := by
          have := (List.getElem?_eq_some_iff.1 hj).1
          simpa using this
        subst this
        simp only [List.getElem?_cons_zero, Option.some.injEq] at hj
        subst hj
        rw [Addr.add_mid]
        exact cell_at (o := 0) hn9 rfl) (fun u hu => by simp only [List.mem_singleton] at hu; subst hu; rfl) (by unfold maxLen; omega) (by omega) (by have := bW3.size; omega) (fun j hj => by
        obtain rfl : j = 0 := by omega
        refine ⟨_, rfl, ?_⟩
        rw [HFA]
        have hk3 : Below W2.heap.size W2 W3 := by rw [hW3]; exact below_allocD _ _
        refine (hrd8.later hk3).mono (fun q hq => ?_)
        have h1 := hq.1; have h2 := hq.2; have h3 := hk3.size; have h4 := hN.lo
        refine ⟨⟨fun e => ?_, by omega⟩, by omega, by omega⟩
        have := (h4 q e).2
        omega)
    have hlt4 : ∀ g, Value.ownBlock (.slice a' (k + 1) c') = some g → g < W4.heap.size := fun g hg => by
      obtain ⟨g', hg', hh⟩ := hgl
      rw [hg] at hg'
      simp only [Option.some.injEq] at hg'
      subst hg'
      obtain ⟨xs, hor, -⟩ := hsg
      rcases hor.2 with ⟨e, -⟩ | ⟨g2, cap, cur, e, -, hh2, -⟩
      · rw [e] at hg; cases hg
      · rw [e] at hg
        simp only [Value.ownBlock, Option.some.injEq] at hg
        subst hg
        exact (Array.getElem?_eq_some_iff.1 hh2).1
    obtain ⟨hst, o4⟩ := hN.step bW3 hsg hgr hgl hlt4
    have t4 := cell_at (o := 1) o4 rfl
    have z4 := frozen_at 1 o4
    have bel4 : Below w.heap.size w W4 := by
      have h := hN.bel.trans (bW3.mono hN.bel.size)
      exact h.trans ⟨hgr.os, hgr.tape, hgr.output, hgr.size, fun q hq => hgr.block q (Nat.lt_of_lt_of_le hq h.size) (fun e => by have := (hN.lo q e.symm).1; omega)⟩
    have bel5 : Below w.heap.size w (W4.setCell ⟨w.heap.size + 1 + 1 + 1, 1, none⟩ (.slice a' (k + 1) c')) := bel4.setCell (by show w.heap.size ≤ w.heap.size + 1 + 1 + 1; omega) _
    -- what stays
    have bx4 : W4.heap[w.heap.size]? = some (.cells #[.int .i64 x.id, .slice (some ⟨b, off, none⟩) x.cells.length c] 34) := by
      have h0 := heap_keptD hN.bx bW3
      rw [hgr.block _ (Array.getElem?_eq_some_iff.1 h0).1 (fun e => by have := (hN.lo _ e.symm).1; omega)]; exact h0
    have bx5 : (W4.setCell ⟨w.heap.size + 1 + 1 + 1, 1, none⟩ (.slice a' (k + 1) c')).heap[w.heap.size]? = some (.cells #[.int .i64 x.id, .slice (some ⟨b, off, none⟩) x.cells.length c] 34) := by
      rw [Below.heap_setCell _ ⟨w.heap.size + 1 + 1 + 1, 1, none⟩ _ _ (by show w.heap.size ≠ w.heap.size + 1 + 1 + 1; omega)]; exact bx4
    have CE : Hid (∀ W, (Below w.heap.size w W ∧ W.heap[w.heap.size]? = some (.cells #[.int .i64 x.id, .slice (some ⟨b, off, none⟩) x.cells.length c] 34)) → W.cell? ⟨w.heap.size, 1, none⟩ = some (.slice (some ⟨b, off, none⟩) x.cells.length c) ∧ W.cell? ⟨b, off + k, none⟩ = some (.slice sa x.cells[k].length sq)) := fun W h => ⟨cell_at (o := 1) h.2 rfl, by
      obtain ⟨u, e, r⟩ := (HS.out W h.1).spotT hlt (j := 0) (by omega)
      rw [Nat.mul_one, Nat.add_zero] at e
      obtain ⟨u2, e2, -⟩ := (HS.out w (Below.refl _ _)).spotT hlt (j := 0) (by omega)
      rw [Nat.mul_one, Nat.add_zero] at e2
      have hlb : b < w.heap.size := World.block_lt_of_cell? w ⟨b, off + k, none⟩ e2
      have h1 := h.1.cell (p := ⟨b, off + k, none⟩) hlb
      have h2 := hN.bel.cell (p := ⟨b, off + k, none⟩) hlb
      rw [h1, ← h2, c0]⟩
    have BW0 : Hid (Below w.heap.size w wr.drew ∧ wr.drew.heap[w.heap.size]? = _) := ⟨hN.bel.drew, hN.bx⟩
    have BW1 : Hid (Below w.heap.size w W1 ∧ W1.heap[w.heap.size]? = _) := ⟨hN.bel.trans (bW1.mono hN.bel.size), heap_keptD hN.bx bW1⟩
    have BW2 : Hid (Below w.heap.size w W2 ∧ W2.heap[w.heap.size]? = _) := ⟨hN.bel.trans (bW2.mono hN.bel.size), heap_keptD hN.bx bW2⟩
    have BW3 : Hid (Below w.heap.size w W3 ∧ W3.heap[w.heap.size]? = _) := ⟨hN.bel.trans (bW3.mono hN.bel.size), heap_keptD hN.bx bW3⟩
    have BW4 : Hid (Below w.heap.size w W4 ∧ W4.heap[w.heap.size]? = _) := ⟨bel4, bx4⟩
    have BW5 : Hid (Below w.heap.size w (W4.setCell ⟨w.heap.size + 1 + 1 + 1, 1, none⟩ (.slice a' (k + 1) c')) ∧ (W4.setCell ⟨w.heap.size + 1 + 1 + 1, 1, none⟩ (.slice a' (k + 1) c')).heap[w.heap.size]? = _) := ⟨bel5, bx5⟩
    have p0 : wr.drew.cell? ⟨w.heap.size + 1 + 1 + 1, 1, none⟩ = some (.slice va k vc) := t1
    have p1 := cell_at (o := 1) (heap_keptD hN.ot bW1) rfl
    have p2 := cell_at (o := 1) (heap_keptD hN.ot bW2) rfl
    have p3 := cell_at (o := 1) (heap_keptD hN.ot bW3) rfl
    have HST := Lib.hid hst
    have RUN8 := Lib.hid hr8
    have RUN10 := Lib.hid hr10
    have HW1 := Lib.hid hW1
    have HW3 := Lib.hid hW3
    rw [hW3] at p3 RUN10 BW3
    rw [hW1] at p1 RUN8 BW1
    clear hst hr8 hr10 hN hsg hgr hgl hlt4 o4 bel4 bel5 bx4 bx5 bW0 bW1 bW2 bW3 hB8 hrd8 hn9 hpl hW1s hc r0 HFA hsl
    clear hW1 hW3
    generalize x.cells[k] = s at *
    go_wp2_with fail
    refine wp_region_held_drew (S := (fun W => W.cell? ⟨w.heap.size, 1, none⟩ = some (.slice (some ⟨b, off, none⟩) x.cells.length c) ∧ W.cell? ⟨b, off + k, none⟩ = some (.slice sa s.length sq))) (by kernel_rfl) ?_ (fun hHeld => ?_)
    · (exact CE.out _ (by first | exact BW0.out | exact BW1.out | exact BW2.out | exact BW3.out | exact BW4.out | exact BW5.out))
    refine wpAnyH_take (i := 0) (v := ?_) rfl (by kernel_rfl) (by kernel_rfl) (by kernel_rfl) (fun _ _ _ h => h) (Or.inl ⟨by kernel_rfl, ?_⟩) (by assumption) ?_
    rotate_left
    · (intro wS hSw; (try dsimp only at hSw); go_simp <;> with_reducible rfl)
    try simp only [Act.put, tkS]
    refine wpAnyH_take (i := 3) (v := ?_) rfl (by kernel_rfl) (by kernel_rfl) (by kernel_rfl) (fun _ _ _ h => h) (Or.inl ⟨by kernel_rfl, ?_⟩) (by assumption) ?_
    rotate_left
    · (intro wS hSw; (try dsimp only at hSw); go_simp <;> with_reducible rfl)
    try simp only [Act.put, tkS]
    refine wpAnyH_take (i := 4) (v := ?_) rfl (by kernel_rfl) (by kernel_rfl) (by kernel_rfl) (fun _ _ _ h => h) (Or.inl ⟨by kernel_rfl, ?_⟩) (by assumption) ?_
    rotate_left
    · (intro wS hSw; (try dsimp only at hSw); go_simp <;> with_reducible rfl)
    try simp only [Act.put, tkS]
    refine wpAnyH_take (i := 5) (v := ?_) rfl (by kernel_rfl) (by kernel_rfl) (by kernel_rfl) (fun _ _ _ h => h) (Or.inl ⟨by kernel_rfl, ?_⟩) (by assumption) ?_
    rotate_left
    · (intro wS hSw; (try dsimp only at hSw); go_simp <;> with_reducible rfl)
    try simp only [Act.put, tkS]
    refine wpAnyH_take (i := 6) (v := ?_) rfl (by kernel_rfl) (by kernel_rfl) (by kernel_rfl) (fun _ _ _ h => h) (Or.inl ⟨by kernel_rfl, ?_⟩) (by assumption) ?_
    rotate_left
    · (intro wS hSw; (try dsimp only at hSw); go_simp <;> with_reducible rfl)
    try simp only [Act.put, tkS]
    refine wpAnyH_take (i := 7) (v := ?_) rfl (by kernel_rfl) (by kernel_rfl) (by kernel_rfl) (fun _ _ _ h => h) (Or.inl ⟨by kernel_rfl, ?_⟩) (by assumption) ?_
    rotate_left
    · (intro wS hSw; (try dsimp only at hSw); go_simp <;> with_reducible rfl)
    try simp only [Act.put, tkS]
    refine wpAnyH_ready (rs := [1, 2]) (by kernel_rfl) (by simp) (AllReadyH.cons rfl (fun K hK => ?_) (AllReadyH.cons rfl (fun K hK => ?_) AllReadyH.nil))
    ·
      go_simp
      refine hK.out _ _ ?_ (fun hHeld => ?_)
      · (exact CE.out _ (by first | exact BW0.out | exact BW1.out | exact BW2.out | exact BW3.out | exact BW4.out | exact BW5.out))
      clear hK K
      try simp only [Act.put, tkS]
      refine wpAnyH_ready (rs := [2]) (by kernel_rfl) (by simp) (AllReadyH.cons rfl (fun K hK => ?_) AllReadyH.nil)
      go_simp
      refine hK.out _ _ ?_ (fun hHeld => ?_)
      · (exact CE.out _ (by first | exact BW0.out | exact BW1.out | exact BW2.out | exact BW3.out | exact BW4.out | exact BW5.out))
      clear hK K
      try simp only [Act.put, tkS]
      refine wpAnyH_ready (rs := [8]) (by kernel_rfl) (by simp) (AllReadyH.cons rfl (fun K hK => ?_) AllReadyH.nil)
      refine step_append_is rfl (.tmp 18) (.tmp 23) 35 rfl _ _ (by rfl) (by rfl) _ _ RUN8.out ?_
      refine hK.out _ _ ?_ (fun hHeld => ?_)
      · (exact CE.out _ (by first | exact BW0.out | exact BW1.out | exact BW2.out | exact BW3.out | exact BW4.out | exact BW5.out))
      clear hK K
      try simp only [Act.put, tkS]
      refine wpAnyH_ready (rs := [9]) (by kernel_rfl) (by simp) (AllReadyH.cons rfl (fun K hK => ?_) AllReadyH.nil)
      go_simp
      refine hK.out _ _ ?_ (fun hHeld => ?_)
      · (exact CE.out _ (by first | exact BW0.out | exact BW1.out | exact BW2.out | exact BW3.out | exact BW4.out | exact BW5.out))
      clear hK K
      try simp only [Act.put, tkS]
      refine wpAnyH_ready (rs := [10]) (by kernel_rfl) (by simp) (AllReadyH.cons rfl (fun K hK => ?_) AllReadyH.nil)
      refine step_append_is rfl (.tmp 17) (.tmp 25) 32 rfl _ _ (by rfl) (by rfl) _ _ RUN10.out ?_
      refine hK.out _ _ ?_ (fun hHeld => ?_)
      · (exact CE.out _ (by first | exact BW0.out | exact BW1.out | exact BW2.out | exact BW3.out | exact BW4.out | exact BW5.out))
      clear hK K
      try simp only [Act.put, tkS]
      refine wpAnyH_take (i := 11) (v := ?_) rfl (by kernel_rfl) (by kernel_rfl) (by kernel_rfl) (fun _ _ _ h => h) (Or.inl ⟨by kernel_rfl, ?_⟩) (by assumption) ?_
      rotate_left
      · (intro wS hSw; (try dsimp only at hSw); go_simp <;> with_reducible rfl)
      try simp only [Act.put, tkS]
      refine wpAnyH_ready (rs := [12]) (by kernel_rfl) (by simp) (AllReadyH.cons rfl (fun K hK => ?_) AllReadyH.nil)
      go_simp
      refine hK.out _ _ ?_ (fun hHeld => ?_)
      · (exact CE.out _ (by first | exact BW0.out | exact BW1.out | exact BW2.out | exact BW3.out | exact BW4.out | exact BW5.out))
      clear hK K
      try simp only [Act.put, tkS]
      refine wpAnyH_done (by kernel_rfl) ?_ _
      go_wp2_with fail
      go_roundw
      case rel => exact ⟨k + 1, by omega, by go_num, a', c', HST.out⟩
      case measure => simp [intOf]; omega
    ·
      go_simp
      refine hK.out _ _ ?_ (fun hHeld => ?_)
      · (exact CE.out _ (by first | exact BW0.out | exact BW1.out | exact BW2.out | exact BW3.out | exact BW4.out | exact BW5.out))
      clear hK K
      try simp only [Act.put, tkS]
      refine wpAnyH_ready (rs := [1, 8]) (by kernel_rfl) (by simp) (AllReadyH.cons rfl (fun K hK => ?_) (AllReadyH.cons rfl (fun K hK => ?_) AllReadyH.nil))
      ·
        go_simp
        refine hK.out _ _ ?_ (fun hHeld => ?_)
        · (exact CE.out _ (by first | exact BW0.out | exact BW1.out | exact BW2.out | exact BW3.out | exact BW4.out | exact BW5.out))
        clear hK K
        try simp only [Act.put, tkS]
        refine wpAnyH_ready (rs := [8]) (by kernel_rfl) (by simp) (AllReadyH.cons rfl (fun K hK => ?_) AllReadyH.nil)
        refine step_append_is rfl (.tmp 18) (.tmp 23) 35 rfl _ _ (by rfl) (by rfl) _ _ RUN8.out ?_
        refine hK.out _ _ ?_ (fun hHeld => ?_)
        · (exact CE.out _ (by first | exact BW0.out | exact BW1.out | exact BW2.out | exact BW3.out | exact BW4.out | exact BW5.out))
        clear hK K
        try simp only [Act.put, tkS]
        refine wpAnyH_ready (rs := [9]) (by kernel_rfl) (by simp) (AllReadyH.cons rfl (fun K hK => ?_) AllReadyH.nil)
        go_simp
        refine hK.out _ _ ?_ (fun hHeld => ?_)
        · (exact CE.out _ (by first | exact BW0.out | exact BW1.out | exact BW2.out | exact BW3.out | exact BW4.out | exact BW5.out))
        clear hK K
        try simp only [Act.put, tkS]
        refine wpAnyH_ready (rs := [10]) (by kernel_rfl) (by simp) (AllReadyH.cons rfl (fun K hK => ?_) AllReadyH.nil)
        refine step_append_is rfl (.tmp 17) (.tmp 25) 32 rfl _ _ (by rfl) (by rfl) _ _ RUN10.out ?_
        refine hK.out _ _ ?_ (fun hHeld => ?_)
        · (exact CE.out _ (by first | exact BW0.out | exact BW1.out | exact BW2.out | exact BW3.out | exact BW4.out | exact BW5.out))
        clear hK K
        try simp only [Act.put, tkS]
        refine wpAnyH_take (i := 11) (v := ?_) rfl (by kernel_rfl) (by kernel_rfl) (by kernel_rfl) (fun _ _ _ h => h) (Or.inl ⟨by kernel_rfl, ?_⟩) (by assumption) ?_
        rotate_left
        · (intro wS hSw; (try dsimp only at hSw); go_simp <;> with_reducible rfl)
        try simp only [Act.put, tkS]
        refine wpAnyH_ready (rs := [12]) (by kernel_rfl) (by simp) (AllReadyH.cons rfl (fun K hK => ?_) AllReadyH.nil)
        go_simp
        refine hK.out _ _ ?_ (fun hHeld => ?_)
        · (exact CE.out _ (by first | exact BW0.out | exact BW1.out | exact BW2.out | exact BW3.out | exact BW4.out | exact BW5.out))
        clear hK K
        try simp only [Act.put, tkS]
        refine wpAnyH_done (by kernel_rfl) ?_ _
        go_wp2_with fail
        go_roundw
        case rel => exact ⟨k + 1, by omega, by go_num, a', c', HST.out⟩
        case measure => simp [intOf]; omega
      ·
        refine step_append_is rfl (.tmp 18) (.tmp 23) 35 rfl _ _ (by rfl) (by rfl) _ _ RUN8.out ?_
        refine hK.out _ _ ?_ (fun hHeld => ?_)
        · (exact CE.out _ (by first | exact BW0.out | exact BW1.out | exact BW2.out | exact BW3.out | exact BW4.out | exact BW5.out))
        clear hK K
        try simp only [Act.put, tkS]
        refine wpAnyH_ready (rs := [1, 9]) (by kernel_rfl) (by simp) (AllReadyH.cons rfl (fun K hK => ?_) (AllReadyH.cons rfl (fun K hK => ?_) AllReadyH.nil))
        ·
          go_simp
          refine hK.out _ _ ?_ (fun hHeld => ?_)
          · (exact CE.out _ (by first | exact BW0.out | exact BW1.out | exact BW2.out | exact BW3.out | exact BW4.out | exact BW5.out))
          clear hK K
          try simp only [Act.put, tkS]
          refine wpAnyH_ready (rs := [9]) (by kernel_rfl) (by simp) (AllReadyH.cons rfl (fun K hK => ?_) AllReadyH.nil)
          go_simp
          refine hK.out _ _ ?_ (fun hHeld => ?_)
          · (exact CE.out _ (by first | exact BW0.out | exact BW1.out | exact BW2.out | exact BW3.out | exact BW4.out | exact BW5.out))
          clear hK K
          try simp only [Act.put, tkS]
          refine wpAnyH_ready (rs := [10]) (by kernel_rfl) (by simp) (AllReadyH.cons rfl (fun K hK => ?_) AllReadyH.nil)
          refine step_append_is rfl (.tmp 17) (.tmp 25) 32 rfl _ _ (by rfl) (by rfl) _ _ RUN10.out ?_
          refine hK.out _ _ ?_ (fun hHeld => ?_)
          · (exact CE.out _ (by first | exact BW0.out | exact BW1.out | exact BW2.out | exact BW3.out | exact BW4.out | exact BW5.out))
          clear hK K
          try simp only [Act.put, tkS]
          refine wpAnyH_take (i := 11) (v := ?_) rfl (by kernel_rfl) (by kernel_rfl) (by kernel_rfl) (fun _ _ _ h => h) (Or.inl ⟨by kernel_rfl, ?_⟩) (by assumption) ?_
          rotate_left
          · (intro wS hSw; (try dsimp only at hSw); go_simp <;> with_reducible rfl)
          try simp only [Act.put, tkS]
          refine wpAnyH_ready (rs := [12]) (by kernel_rfl) (by simp) (AllReadyH.cons rfl (fun K hK => ?_) AllReadyH.nil)
          go_simp
          refine hK.out _ _ ?_ (fun hHeld => ?_)
          · (exact CE.out _ (by first | exact BW0.out | exact BW1.out | exact BW2.out | exact BW3.out | exact BW4.out | exact BW5.out))
          clear hK K
          try simp only [Act.put, tkS]
          refine wpAnyH_done (by kernel_rfl) ?_ _
          go_wp2_with fail
          go_roundw
          case rel => exact ⟨k + 1, by omega, by go_num, a', c', HST.out⟩
          case measure => simp [intOf]; omega
        ·
          go_simp
          refine hK.out _ _ ?_ (fun hHeld => ?_)
          · (exact CE.out _ (by first | exact BW0.out | exact BW1.out | exact BW2.out | exact BW3.out | exact BW4.out | exact BW5.out))
          clear hK K
          try simp only [Act.put, tkS]
          refine wpAnyH_ready (rs := [1]) (by kernel_rfl) (by simp) (AllReadyH.cons rfl (fun K hK => ?_) AllReadyH.nil)
          go_simp
          refine hK.out _ _ ?_ (fun hHeld => ?_)
          · (exact CE.out _ (by first | exact BW0.out | exact BW1.out | exact BW2.out | exact BW3.out | exact BW4.out | exact BW5.out))
          clear hK K
          try simp only [Act.put, tkS]
          refine wpAnyH_ready (rs := [10]) (by kernel_rfl) (by simp) (AllReadyH.cons rfl (fun K hK => ?_) AllReadyH.nil)
          refine step_append_is rfl (.tmp 17) (.tmp 25) 32 rfl _ _ (by rfl) (by rfl) _ _ RUN10.out ?_
          refine hK.out _ _ ?_ (fun hHeld => ?_)
          · (exact CE.out _ (by first | exact BW0.out | exact BW1.out | exact BW2.out | exact BW3.out | exact BW4.out | exact BW5.out))
          clear hK K
          try simp only [Act.put, tkS]
          refine wpAnyH_take (i := 11) (v := ?_) rfl (by kernel_rfl) (by kernel_rfl) (by kernel_rfl) (fun _ _ _ h => h) (Or.inl ⟨by kernel_rfl, ?_⟩) (by assumption) ?_
          rotate_left
          · (intro wS hSw; (try dsimp only at hSw); go_simp <;> with_reducible rfl)
          try simp only [Act.put, tkS]
          refine wpAnyH_ready (rs := [12]) (by kernel_rfl) (by simp) (AllReadyH.cons rfl (fun K hK => ?_) AllReadyH.nil)
          go_simp
          refine hK.out _ _ ?_ (fun hHeld => ?_)
          · (exact CE.out _ (by first | exact BW0.out | exact BW1.out | exact BW2.out | exact BW3.out | exact BW4.out | exact BW5.out))
          clear hK K
          try simp only [Act.put, tkS]
          refine wpAnyH_done (by kernel_rfl) ?_ _
          go_wp2_with fail
          go_roundw
          case rel => exact ⟨k + 1, by omega, by go_num, a', c', HST.out⟩
          case measure => simp [intOf]; omega
end Go.Proofs.YtgpoigkfoliflaaGreatDoor
