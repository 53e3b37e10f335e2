import Derived.Test.YtgpoigkfoliflaaGreatDoorZbv
import Derived.Test.YtgpoigkfoliflaaGreatDoorZat
import Derived.Test.YtgpoigkfoliflaaGreatDoorZab
import Derived.Deep.LoopGhost
import Derived.Test.YtgpoigkfoliflaaGreatDoorZTk
namespace Go.Proofs.YtgpoigkfoliflaaGreatDoor
open Go.RowKit
set_option linter.unusedSimpArgs false
set_option maxRecDepth 100000 in
set_option maxHeartbeats 6400000 in
theorem sameRowT (x : RowV) (a a' : Option Addr) (c c' : Nat) (A B : Nat → Prop) (w : World) (hl : (dAtomSS x.cells).le 1048576) (hA : Rd w A (dAtomSS x.cells) (.slice a x.cells.length c)) (hB : Rd w B (dAtomSS x.cells) (.slice a' x.cells.length c')) :
    Calls Tryz.prog 10 #[.agg #[.int .i64 x.id, .slice a x.cells.length c], .agg #[.int .i64 x.id, .slice a' x.cells.length c']] w fun e w' => e = .returned (.bool true) ∧ Below w.heap.size w w' := by
  have hb := box2D 34 w #[.int .i64 x.id, .slice a x.cells.length c] #[.int .i64 x.id, .slice a' x.cells.length c']
  have H0 := Lib.hid hb
  have HA : Hid (∀ W, Below w.heap.size w W → Rd W A (Ls 1 cAtomS x.cells) (.slice a x.cells.length c)) := fun W h => Rd.later hA h
  have HB : Hid (∀ W, Below w.heap.size w W → Rd W B (Ls 1 cAtomS x.cells) (.slice a' x.cells.length c')) := fun W h => Rd.later hB h
  have HLL : Hid (x.cells.length ≤ 1048576 ∧ ∀ i (h : i < x.cells.length), x.cells[i].length ≤ 1048576) := ⟨(Ls_le.1 hl).2.1, fun i h => (Ls_le.1 ((Ls_le.1 hl).2.2 i h 0 (by omega))).2.1⟩
  have nn : (x.id != x.id) = false := by simp
  have n2 : ((x.cells.length : Int) != (x.cells.length : Int)) = false := by simp
  have x0 := cell_at (o := 0) hb.a rfl
  have x1 := cell_at (o := 1) hb.a rfl
  have y0 := cell_at (o := 0) hb.b rfl
  have y1 := cell_at (o := 1) hb.b rfl
  clear hb hA hB hl
  go_enter Tryz.func10, Tryz.ntmps10
  go_wp2_with fail
  clear x0 x1 y0 y1
  obtain ⟨n, hn⟩ : ∃ n, n = x.cells.length := ⟨_, rfl⟩
  have HN := Lib.hid hn
  rw [← hn] at H0 ⊢
  clear hn n2 nn
  go_loopg [5] n (fun g i wr => ∃ k : Nat, k + g = n ∧ i = .int .i64 (k : Int) ∧ Hid (Box2D 34 w wr #[.int .i64 x.id, .slice a n c] #[.int .i64 x.id, .slice a' n c']))
  case atStart => exact ⟨0, by omega, rfl, H0⟩
  case round =>
    obtain ⟨k, hkg, rfl, HR⟩ := hrel
    have HKG := Lib.hid hkg
    have x1 := cell_at (o := 1) HR.out.a rfl
    by_cases hlt : k < n
    case neg =>
      have hkd : decide ((k : Int) < (n : Int)) = false := by simp; omega
      clear hkg
      go_wp2_with fail
      go_ret
      exact ⟨rfl, HR.out.bel⟩
    have hki : (k : Int) < (n : Int) := by omega
    have f1 : IntKind.i64.wrap ((k : Int) + 1) = ((k + 1 : Nat) : Int) := by have := HLL.out.1; have := HN.out; rw [IntKind.wrap_i64]; omega
    have hkx : k < x.cells.length := by rw [← HN.out]; exact hlt
    obtain ⟨b, off, rfl, -, -⟩ := (HA.out _ HR.out.bel).things k hkx
    obtain ⟨b', off', rfl, -, -⟩ := (HB.out _ HR.out.bel).things k hkx
    obtain ⟨u, hu, hru⟩ := (HA.out _ HR.out.bel).spotT hkx (j := 0) (by omega)
    obtain ⟨u', hu', hru'⟩ := (HB.out _ HR.out.bel).spotT hkx (j := 0) (by omega)
    replace hru : Rd wr A (dAtomS x.cells[k]) u := hru
    replace hru' : Rd wr B (dAtomS x.cells[k]) u' := hru'
    obtain ⟨da, dc, rfl⟩ := hru.lsSlice
    obtain ⟨da', dc', rfl⟩ := hru'.lsSlice
    rw [Nat.mul_one, Nat.add_zero] at hu hu'
    have SD : Hid (∀ W, Below wr.heap.size wr W → Calls Tryz.prog 31 #[.slice da x.cells[k].length dc, .slice da' x.cells[k].length dc'] W fun e w' => e = .returned (.bool true) ∧ Below W.heap.size W w') := fun W hW => sameDatumS x.cells[k] da da' dc dc' A B W (HLL.out.2 k hkx) (hru.later hW).ats (hru'.later hW).ats
    have CE : Hid (∀ W, Below wr.heap.size wr W → W.cell? ⟨w.heap.size, 1, none⟩ = some (.slice (some ⟨b, off, none⟩) n c) ∧ W.cell? ⟨w.heap.size + 1, 1, none⟩ = some (.slice (some ⟨b', off', none⟩) n c') ∧ W.cell? ⟨b, off + k, none⟩ = some (.slice da x.cells[k].length dc) ∧ W.cell? ⟨b', off' + k, none⟩ = some (.slice da' x.cells[k].length dc')) := fun W hW =>
      ⟨cell_at (o := 1) (heap_keptD HR.out.a hW) rfl, cell_at (o := 1) (heap_keptD HR.out.b hW) rfl, (hW.cell (p := ⟨b, off + k, none⟩) (World.block_lt_of_cell? _ _ hu)).trans hu, (hW.cell (p := ⟨b', off' + k, none⟩) (World.block_lt_of_cell? _ _ hu')).trans hu'⟩
    have B0 : Hid (Below wr.heap.size wr wr.drew) := (Below.refl _ _).drew
    clear hu hu' hru hru' hkg
    generalize x.cells[k] = y at *
    go_wp2_with fail
    refine wp_region_held_drew (S := (fun W => W.cell? ⟨w.heap.size, 1, none⟩ = some (.slice (some ⟨b, off, none⟩) n c) ∧ W.cell? ⟨w.heap.size + 1, 1, none⟩ = some (.slice (some ⟨b', off', none⟩) n c') ∧ W.cell? ⟨b, off + k, none⟩ = some (.slice da y.length dc) ∧ W.cell? ⟨b', off' + k, none⟩ = some (.slice da' y.length dc'))) (by kernel_rfl) ?_ (fun hHeld => ?_)
    · (exact CE.out _ (by first | exact B1.out | exact B0.out))
    refine wpAnyH_take (i := 0) (v := ?_) rfl (by kernel_rfl) (by kernel_rfl) (by kernel_rfl) (fun _ _ _ h => h) (Or.inl ⟨by kernel_rfl, ?_⟩) (by assumption) ?_
    rotate_left
    · (intro wS hSw; (try dsimp only at hSw); go_simp <;> with_reducible rfl)
    try simp only [Act.put, tkS]
    refine wpAnyH_take (i := 1) (v := ?_) rfl (by kernel_rfl) (by kernel_rfl) (by kernel_rfl) (fun _ _ _ h => h) (Or.inl ⟨by kernel_rfl, ?_⟩) (by assumption) ?_
    rotate_left
    · (intro wS hSw; (try dsimp only at hSw); go_simp <;> with_reducible rfl)
    try simp only [Act.put, tkS]
    refine wpAnyH_take (i := 2) (v := ?_) rfl (by kernel_rfl) (by kernel_rfl) (by kernel_rfl) (fun _ _ _ h => h) (Or.inl ⟨by kernel_rfl, ?_⟩) (by assumption) ?_
    rotate_left
    · (intro wS hSw; (try dsimp only at hSw); go_simp <;> with_reducible rfl)
    try simp only [Act.put, tkS]
    refine wpAnyH_take (i := 3) (v := ?_) rfl (by kernel_rfl) (by kernel_rfl) (by kernel_rfl) (fun _ _ _ h => h) (Or.inl ⟨by kernel_rfl, ?_⟩) (by assumption) ?_
    rotate_left
    · (intro wS hSw; (try dsimp only at hSw); go_simp <;> with_reducible rfl)
    try simp only [Act.put, tkS]
    refine wpAnyH_take (i := 4) (v := ?_) rfl (by kernel_rfl) (by kernel_rfl) (by kernel_rfl) (fun _ _ _ h => h) (Or.inl ⟨by kernel_rfl, ?_⟩) (by assumption) ?_
    rotate_left
    · (intro wS hSw; (try dsimp only at hSw); go_simp <;> with_reducible rfl)
    try simp only [Act.put, tkS]
    refine wpAnyH_take (i := 5) (v := ?_) rfl (by kernel_rfl) (by kernel_rfl) (by kernel_rfl) (fun _ _ _ h => h) (Or.inl ⟨by kernel_rfl, ?_⟩) (by assumption) ?_
    rotate_left
    · (intro wS hSw; (try dsimp only at hSw); go_simp <;> with_reducible rfl)
    try simp only [Act.put, tkS]
    refine wpAnyH_take (i := 6) (v := ?_) rfl (by kernel_rfl) (by kernel_rfl) (by kernel_rfl) (fun _ _ _ h => h) (Or.inl ⟨by kernel_rfl, ?_⟩) (by assumption) ?_
    rotate_left
    · (intro wS hSw; (try dsimp only at hSw); go_simp <;> with_reducible rfl)
    try simp only [Act.put, tkS]
    refine wpAnyH_take (i := 7) (v := ?_) rfl (by kernel_rfl) (by kernel_rfl) (by kernel_rfl) (fun _ _ _ h => h) (Or.inl ⟨by kernel_rfl, ?_⟩) (by assumption) ?_
    rotate_left
    · (intro wS hSw; (try dsimp only at hSw); go_simp <;> with_reducible rfl)
    try simp only [Act.put, tkS]
    refine wpAnyH_take (i := 8) (v := ?_) rfl (by kernel_rfl) (by kernel_rfl) (by kernel_rfl) (fun _ _ _ h => h) (Or.inl ⟨by kernel_rfl, ?_⟩) (by assumption) ?_
    rotate_left
    · (intro wS hSw; (try dsimp only at hSw); go_simp <;> with_reducible rfl)
    try simp only [Act.put, tkS]
    refine wpAnyH_take (i := 9) (v := ?_) rfl (by kernel_rfl) (by kernel_rfl) (by kernel_rfl) (fun _ _ _ h => h) (Or.inl ⟨by kernel_rfl, ?_⟩) (by assumption) ?_
    rotate_left
    · (intro wS hSw; (try dsimp only at hSw); go_simp <;> with_reducible rfl)
    try simp only [Act.put, tkS]
    refine wpAnyH_ready (rs := [10]) (by kernel_rfl) (by simp) (AllReadyH.cons rfl (fun K hK => ?_) AllReadyH.nil)
    go_simp
    (go_at_call 31; refine (SD.out _ B0.out).mono ?_; rintro e w1 ⟨rfl, hB1⟩; have B1 : Hid (Below wr.heap.size wr w1) := B0.out.trans (hB1.mono B0.out.size); clear hB1)
    refine hK.out _ _ ?_ (fun hHeld => ?_)
    · (exact CE.out _ (by first | exact B1.out | exact B0.out))
    clear hK K
    try simp only [Act.put, tkS]
    refine wpAnyH_take (i := 11) (v := ?_) rfl (by kernel_rfl) (by kernel_rfl) (by kernel_rfl) (fun _ _ _ h => h) (Or.inl ⟨by kernel_rfl, ?_⟩) (by assumption) ?_
    rotate_left
    · (intro wS hSw; (try dsimp only at hSw); go_simp <;> with_reducible rfl)
    try simp only [Act.put, tkS]
    refine wpAnyH_done (by kernel_rfl) ?_ _
    have HR2 := Lib.hid (HR.out.later B1.out)
    clear x1
    go_wp2_with fail
    go_roundg (n - (k + 1))
    case measure => have := HKG.out; omega
    case rel => exact ⟨k + 1, by have := HKG.out; omega, by go_num, HR2⟩
end Go.Proofs.YtgpoigkfoliflaaGreatDoor
