import Derived.Test.YtnegmpdllbbnhaaZaz
import Derived.Test.YtnegmpdllbbnhaaZas
import Derived.Deep.RegionHeld3
import Derived.Test.YtnegmpdllbbnhaaZTk
namespace Go.Proofs.Ytnegmpdllbbnhaa
open Go.RowKit
set_option linter.unusedSimpArgs false
def BinR (l : List RowV) (id : Int) (w : World) (e : Ending) (w' : World) : Prop := ∃ (p : Nat) (f : Bool), e = .returned (.tuple #[.int .i64 p, .bool f]) ∧ p ≤ l.length ∧ (∀ m (h : m < l.length), m < p → l[m].id < id) ∧ (∀ m (h : m < l.length), p ≤ m → id ≤ l[m].id) ∧ (f = true → ∃ h : p < l.length, l[p].id = id) ∧ (f = false → ∀ m (h : m < l.length), l[m].id ≠ id) ∧ Below w.heap.size w w'
set_option maxRecDepth 100000 in
set_option maxHeartbeats 6400000 in
theorem binR (l : List RowV) (a : Option Addr) (c : Nat) (id : Int) (B : Nat → Prop) (w : World) (hl : l.length ≤ 1048576) (ha : AscR l) (hS : Rd w B (dRowS l) (.slice a l.length c)) :
    Calls Try.prog 42 #[.slice a l.length c, .agg #[.int .i64 id, .slice none 0 0], .func (.func 28) #[] #[]] w (BinR l id w) := by
  have RA : Hid (∀ W, Below w.heap.size w W → Rd W B (Ls 2 dRow l) (.slice a l.length c)) := fun W h => Rd.later hS h
  have HA : Hid (∀ i j (hi : i < l.length) (hj : j < l.length), i < j → l[i].id < l[j].id) := List.pairwise_iff_getElem.1 ha
  have hb := boxD 51 w #[.int .i64 id, .slice none 0 0]
  have HB := Lib.hid hb
  have x0 := cell_at (o := 0) hb.1 rfl
  have x1 := cell_at (o := 1) hb.1 rfl
  clear hS ha hb
  go_enter Try.func42, Try.ntmps42
  go_wp2_with fail
  clear x0 x1
  go_loopw [9, 10] (fun x y wr => ∃ i j : Nat, i ≤ j ∧ j ≤ l.length ∧ x = .int .i64 i ∧ y = .int .i64 j ∧ Hid (BoxD 51 w wr #[.int .i64 id, .slice none 0 0] ∧ (∀ m (h : m < l.length), m < i → l[m].id < id) ∧ (∀ m (h : m < l.length), j ≤ m → id ≤ l[m].id))) (fun x y _ => ((intOf y) - (intOf x)).toNat)
  case atStart => exact ⟨0, l.length, Nat.zero_le _, Nat.le_refl _, rfl, rfl, HB.out, fun m _ h => absurd h (by omega), fun m h h' => absurd h (by omega)⟩
  case round =>
    obtain ⟨i, j, hij, hj, rfl, rfl, HW⟩ := hrel
    by_cases hlt : i < j
    · have hsum : (0 : Int) ≤ (i : Int) + (j : Int) := by omega
      have hlt' : (i : Int) < (j : Int) := by omega
      obtain ⟨h, hh⟩ : ∃ h : Nat, ((i : Int) + (j : Int)) / 2 = (h : Int) := ⟨(i + j) / 2, by omega⟩
      have hh1 : i ≤ h := by omega
      have hh2 : h < j := by omega
      have h1 : h < l.length := by omega
      have hhl : (h : Int) < (l.length : Int) := by omega
      obtain ⟨rb, roff, rfl, -, -⟩ := (RA.out _ HW.out.1.2).things h h1
      have R0 := RA.out _ HW.out.1.2
      obtain ⟨u0, d0, r0⟩ := R0.spotT h1 (j := 0) (by omega)
      obtain rfl : u0 = .int .i64 l[h].id := r0
      obtain ⟨u1, d1, r1⟩ := R0.spotT h1 (j := 1) (by omega)
      replace r1 : Rd wr B (dAtomSS l[h].cells) u1 := r1
      obtain ⟨za, zq, rfl⟩ := r1.lsSlice
      replace d0 : wr.cell? ⟨rb, roff + h * 2, none⟩ = _ := d0
      have x0 := cell_at (o := 0) HW.out.1.1 rfl
      have x1 := cell_at (o := 1) HW.out.1.1 rfl
      have CE : Hid (∀ W, Below wr.heap.size wr W → W.cell? ⟨rb, roff + h * 2, none⟩ = some (.int .i64 l[h].id) ∧ W.cell? ⟨rb, roff + h * 2 + 1, none⟩ = some (.slice za l[h].cells.length zq) ∧ W.cell? ⟨w.heap.size, 0, none⟩ = some (.int .i64 id) ∧ W.cell? ⟨w.heap.size, 1, none⟩ = some (.slice none 0 0)) := fun W hw => ⟨(hw.cell (p := ⟨rb, roff + h * 2, none⟩) (World.block_lt_of_cell? _ _ d0)).trans d0, (hw.cell (p := ⟨rb, roff + h * 2 + 1, none⟩) (World.block_lt_of_cell? _ _ d1)).trans d1, (hw.cell (p := ⟨w.heap.size, 0, none⟩) (World.block_lt_of_cell? _ _ x0)).trans x0, (hw.cell (p := ⟨w.heap.size, 1, none⟩) (World.block_lt_of_cell? _ _ x1)).trans x1⟩
      have CC : Hid (∀ W, Below wr.heap.size wr W → Calls Try.prog 28 #[.agg #[.int .i64 l[h].id, .slice za l[h].cells.length zq], .agg #[.int .i64 id, .slice none 0 0]] W fun e w' => e = .returned (.int .i64 (cmpR l[h] ⟨id, []⟩)) ∧ Below wr.heap.size wr w') := fun W hw => (cmpRowsI l[h] ⟨id, []⟩ za zq none 0 W).mono (fun e w' ⟨he, hB⟩ => ⟨he, hw.trans (hB.mono hw.size)⟩)
      have hx := Below.refl wr.heap.size wr
      have HB1 := Lib.hid HW.out.1
      clear r1 R0 d0 d1 x0 x1
      by_cases hr : l[h].id < id
      · have HL2 : Hid (∀ m (hm : m < l.length), m < h + 1 → l[m].id < id) := fun m hm h2 => by
          by_cases e : m = h
          · subst e; exact hr
          · have := HA.out m h hm h1 (by omega); omega
        have HG := Lib.hid HW.out.2.2
        have hq : cmpR l[h] ⟨id, []⟩ = -1 := by unfold cmpR; rw [if_pos hr]
        rw [hq] at CC
        clear hr hq HW
        generalize l[h] = z at *
        go_wp2_with fail
        refine wp_region_held_drew (S := (fun W => W.cell? ⟨rb, roff + h * 2, none⟩ = some (.int .i64 z.id) ∧ W.cell? ⟨rb, roff + h * 2 + 1, none⟩ = some (.slice za z.cells.length zq) ∧ W.cell? ⟨w.heap.size, 0, none⟩ = some (.int .i64 id) ∧ W.cell? ⟨w.heap.size, 1, none⟩ = some (.slice none 0 0))) (by kernel_rfl) ?_ (fun hHeld => ?_)
        · (first | exact CE.out _ hx | exact CE.out _ hx.drew)
        refine wpAnyH_take (i := 0) (v := ?_) rfl (by kernel_rfl) (by kernel_rfl) (by kernel_rfl) (fun _ _ _ h => h) (Or.inl ⟨by kernel_rfl, ?_⟩) (by assumption) ?_
        rotate_left
        · (intro wS hSw; (try dsimp only at hSw); go_simp <;> with_reducible rfl)
        try simp only [Act.put, tkS]
        refine wpAnyH_take (i := 1) (v := ?_) rfl (by kernel_rfl) (by kernel_rfl) (by kernel_rfl) (fun _ _ _ h => h) (Or.inl ⟨by kernel_rfl, ?_⟩) (by assumption) ?_
        rotate_left
        · (intro wS hSw; (try dsimp only at hSw); go_simp <;> with_reducible rfl)
        try simp only [Act.put, tkS]
        refine wpAnyH_take (i := 2) (v := ?_) rfl (by kernel_rfl) (by kernel_rfl) (by kernel_rfl) (fun _ _ _ h => h) (Or.inl ⟨by kernel_rfl, ?_⟩) (by assumption) ?_
        rotate_left
        · (intro wS hSw; (try dsimp only at hSw); go_simp <;> with_reducible rfl)
        try simp only [Act.put, tkS]
        refine wpAnyH_take (i := 3) (v := ?_) rfl (by kernel_rfl) (by kernel_rfl) (by kernel_rfl) (fun _ _ _ h => h) (Or.inl ⟨by kernel_rfl, ?_⟩) (by assumption) ?_
        rotate_left
        · (intro wS hSw; (try dsimp only at hSw); go_simp <;> with_reducible rfl)
        try simp only [Act.put, tkS]
        refine wpAnyH_take (i := 4) (v := ?_) rfl (by kernel_rfl) (by kernel_rfl) (by kernel_rfl) (fun _ _ _ h => h) (Or.inl ⟨by kernel_rfl, ?_⟩) (by assumption) ?_
        rotate_left
        · (intro wS hSw; (try dsimp only at hSw); go_simp <;> with_reducible rfl)
        try simp only [Act.put, tkS]
        refine wpAnyH_take (i := 5) (v := ?_) rfl (by kernel_rfl) (by kernel_rfl) (by kernel_rfl) (fun _ _ _ h => h) (Or.inl ⟨by kernel_rfl, ?_⟩) (by assumption) ?_
        rotate_left
        · (intro wS hSw; (try dsimp only at hSw); go_simp <;> with_reducible rfl)
        try simp only [Act.put, tkS]
        refine wpAnyH_ready (rs := [6]) (by kernel_rfl) (by simp) (AllReadyH.cons rfl (fun K hK => ?_) AllReadyH.nil)
        go_simp
        (go_at_call 28; refine (CC.out _ (by first | exact hx | exact hx.drew)).mono ?_; rintro e w1 ⟨rfl, hx⟩)
        refine hK.out _ _ ?_ (fun hHeld => ?_)
        · (first | exact CE.out _ hx | exact CE.out _ hx.drew)
        clear hK K
        try simp only [Act.put, tkS]
        refine wpAnyH_take (i := 7) (v := ?_) rfl (by kernel_rfl) (by kernel_rfl) (by kernel_rfl) (fun _ _ _ h => h) (Or.inl ⟨by kernel_rfl, ?_⟩) (by assumption) ?_
        rotate_left
        · (intro wS hSw; (try dsimp only at hSw); go_simp <;> with_reducible rfl)
        try simp only [Act.put, tkS]
        refine wpAnyH_done (by kernel_rfl) ?_ _
        go_wp2_with fail
        go_roundw
        case rel => exact ⟨h + 1, j, by omega, hj, by go_num, rfl, HB1.out.later (by first | exact hx | exact hx.drew), HL2.out, HG.out⟩
        case measure => simp [intOf]; omega
      · have HG2 : Hid (∀ m (hm : m < l.length), h ≤ m → id ≤ l[m].id) := fun m hm h2 => by
          by_cases e : m = h
          · subst e; omega
          · have := HA.out h m h1 hm (by omega); omega
        have HL := Lib.hid HW.out.2.1
        have hge : decide (cmpR l[h] ⟨id, []⟩ < 0) = false := decide_eq_false (by unfold cmpR; rw [if_neg hr]; split <;> omega)
        clear hr HW
        generalize cmpR l[h] ⟨id, []⟩ = qq at *
        generalize l[h] = z at *
        go_wp2_with fail
        refine wp_region_held_drew (S := (fun W => W.cell? ⟨rb, roff + h * 2, none⟩ = some (.int .i64 z.id) ∧ W.cell? ⟨rb, roff + h * 2 + 1, none⟩ = some (.slice za z.cells.length zq) ∧ W.cell? ⟨w.heap.size, 0, none⟩ = some (.int .i64 id) ∧ W.cell? ⟨w.heap.size, 1, none⟩ = some (.slice none 0 0))) (by kernel_rfl) ?_ (fun hHeld => ?_)
        · (first | exact CE.out _ hx | exact CE.out _ hx.drew)
        refine wpAnyH_take (i := 0) (v := ?_) rfl (by kernel_rfl) (by kernel_rfl) (by kernel_rfl) (fun _ _ _ h => h) (Or.inl ⟨by kernel_rfl, ?_⟩) (by assumption) ?_
        rotate_left
        · (intro wS hSw; (try dsimp only at hSw); go_simp <;> with_reducible rfl)
        try simp only [Act.put, tkS]
        refine wpAnyH_take (i := 1) (v := ?_) rfl (by kernel_rfl) (by kernel_rfl) (by kernel_rfl) (fun _ _ _ h => h) (Or.inl ⟨by kernel_rfl, ?_⟩) (by assumption) ?_
        rotate_left
        · (intro wS hSw; (try dsimp only at hSw); go_simp <;> with_reducible rfl)
        try simp only [Act.put, tkS]
        refine wpAnyH_take (i := 2) (v := ?_) rfl (by kernel_rfl) (by kernel_rfl) (by kernel_rfl) (fun _ _ _ h => h) (Or.inl ⟨by kernel_rfl, ?_⟩) (by assumption) ?_
        rotate_left
        · (intro wS hSw; (try dsimp only at hSw); go_simp <;> with_reducible rfl)
        try simp only [Act.put, tkS]
        refine wpAnyH_take (i := 3) (v := ?_) rfl (by kernel_rfl) (by kernel_rfl) (by kernel_rfl) (fun _ _ _ h => h) (Or.inl ⟨by kernel_rfl, ?_⟩) (by assumption) ?_
        rotate_left
        · (intro wS hSw; (try dsimp only at hSw); go_simp <;> with_reducible rfl)
        try simp only [Act.put, tkS]
        refine wpAnyH_take (i := 4) (v := ?_) rfl (by kernel_rfl) (by kernel_rfl) (by kernel_rfl) (fun _ _ _ h => h) (Or.inl ⟨by kernel_rfl, ?_⟩) (by assumption) ?_
        rotate_left
        · (intro wS hSw; (try dsimp only at hSw); go_simp <;> with_reducible rfl)
        try simp only [Act.put, tkS]
        refine wpAnyH_take (i := 5) (v := ?_) rfl (by kernel_rfl) (by kernel_rfl) (by kernel_rfl) (fun _ _ _ h => h) (Or.inl ⟨by kernel_rfl, ?_⟩) (by assumption) ?_
        rotate_left
        · (intro wS hSw; (try dsimp only at hSw); go_simp <;> with_reducible rfl)
        try simp only [Act.put, tkS]
        refine wpAnyH_ready (rs := [6]) (by kernel_rfl) (by simp) (AllReadyH.cons rfl (fun K hK => ?_) AllReadyH.nil)
        go_simp
        (go_at_call 28; refine (CC.out _ (by first | exact hx | exact hx.drew)).mono ?_; rintro e w1 ⟨rfl, hx⟩)
        refine hK.out _ _ ?_ (fun hHeld => ?_)
        · (first | exact CE.out _ hx | exact CE.out _ hx.drew)
        clear hK K
        try simp only [Act.put, tkS]
        refine wpAnyH_take (i := 7) (v := ?_) rfl (by kernel_rfl) (by kernel_rfl) (by kernel_rfl) (fun _ _ _ h => h) (Or.inl ⟨by kernel_rfl, ?_⟩) (by assumption) ?_
        rotate_left
        · (intro wS hSw; (try dsimp only at hSw); go_simp <;> with_reducible rfl)
        try simp only [Act.put, tkS]
        refine wpAnyH_done (by kernel_rfl) ?_ _
        go_wp2_with fail
        go_roundw
        case rel => exact ⟨i, h, hh1, by omega, rfl, by go_num, HB1.out.later (by first | exact hx | exact hx.drew), HL.out, HG2.out⟩
        case measure => simp [intOf]; omega
    · have hij' : i = j := by omega
      subst hij'
      by_cases h1 : i < l.length
      · have hii : (i : Int) < (l.length : Int) := by omega
        have hd1 : decide ((i : Int) < (l.length : Int)) = true := decide_eq_true hii
        obtain ⟨rb, roff, rfl, -, -⟩ := (RA.out _ HW.out.1.2).things i h1
        have R0 := RA.out _ HW.out.1.2
        obtain ⟨u0, d0, r0⟩ := R0.spotT h1 (j := 0) (by omega)
        obtain rfl : u0 = .int .i64 l[i].id := r0
        obtain ⟨u1, d1, r1⟩ := R0.spotT h1 (j := 1) (by omega)
        replace r1 : Rd wr B (dAtomSS l[i].cells) u1 := r1
        obtain ⟨za, zq, rfl⟩ := r1.lsSlice
        replace d0 : wr.cell? ⟨rb, roff + i * 2, none⟩ = _ := d0
        have x0 := cell_at (o := 0) HW.out.1.1 rfl
        have x1 := cell_at (o := 1) HW.out.1.1 rfl
        have CE : Hid (∀ W, Below wr.heap.size wr W → W.cell? ⟨rb, roff + i * 2, none⟩ = some (.int .i64 l[i].id) ∧ W.cell? ⟨rb, roff + i * 2 + 1, none⟩ = some (.slice za l[i].cells.length zq) ∧ W.cell? ⟨w.heap.size, 0, none⟩ = some (.int .i64 id) ∧ W.cell? ⟨w.heap.size, 1, none⟩ = some (.slice none 0 0)) := fun W hw => ⟨(hw.cell (p := ⟨rb, roff + i * 2, none⟩) (World.block_lt_of_cell? _ _ d0)).trans d0, (hw.cell (p := ⟨rb, roff + i * 2 + 1, none⟩) (World.block_lt_of_cell? _ _ d1)).trans d1, (hw.cell (p := ⟨w.heap.size, 0, none⟩) (World.block_lt_of_cell? _ _ x0)).trans x0, (hw.cell (p := ⟨w.heap.size, 1, none⟩) (World.block_lt_of_cell? _ _ x1)).trans x1⟩
        have CC : Hid (∀ W, Below wr.heap.size wr W → Calls Try.prog 28 #[.agg #[.int .i64 l[i].id, .slice za l[i].cells.length zq], .agg #[.int .i64 id, .slice none 0 0]] W fun e w' => e = .returned (.int .i64 (cmpR l[i] ⟨id, []⟩)) ∧ Below wr.heap.size wr w') := fun W hw => (cmpRowsI l[i] ⟨id, []⟩ za zq none 0 W).mono (fun e w' ⟨he, hB⟩ => ⟨he, hw.trans (hB.mono hw.size)⟩)
        have hx := Below.refl wr.heap.size wr
        have HB1 := Lib.hid HW.out.1
        clear r1 R0 d0 d1 x0 x1
        by_cases hr : l[i].id = id
        · have FIN : Hid (∀ w', Below w.heap.size w w' → BinR l id w (.returned (.tuple #[.int .i64 i, .bool true])) w') := fun w' hB => ⟨i, true, rfl, hj, HW.out.2.1, HW.out.2.2, fun _ => ⟨h1, hr⟩, fun h => absurd h (by simp), hB⟩
          have hq : cmpR l[i] ⟨id, []⟩ = 0 := by unfold cmpR; rw [if_neg (by show ¬ l[i].id < id; omega), if_neg (by show ¬ id < l[i].id; omega)]
          rw [hq] at CC
          clear hr hq HW
          generalize l[i] = z at *
          go_wp2_with fail
          refine wp_region_held_drew (S := (fun W => W.cell? ⟨rb, roff + i * 2, none⟩ = some (.int .i64 z.id) ∧ W.cell? ⟨rb, roff + i * 2 + 1, none⟩ = some (.slice za z.cells.length zq) ∧ W.cell? ⟨w.heap.size, 0, none⟩ = some (.int .i64 id) ∧ W.cell? ⟨w.heap.size, 1, none⟩ = some (.slice none 0 0))) (by kernel_rfl) ?_ (fun hHeld => ?_)
          · (first | exact CE.out _ hx | exact CE.out _ hx.drew)
          refine wpAnyH_take (i := 0) (v := ?_) rfl (by kernel_rfl) (by kernel_rfl) (by kernel_rfl) (fun _ _ _ h => h) (Or.inl ⟨by kernel_rfl, ?_⟩) (by assumption) ?_
          rotate_left
          · (intro wS hSw; (try dsimp only at hSw); go_simp <;> with_reducible rfl)
          try simp only [Act.put, tkS]
          refine wpAnyH_take (i := 1) (v := ?_) rfl (by kernel_rfl) (by kernel_rfl) (by kernel_rfl) (fun _ _ _ h => h) (Or.inl ⟨by kernel_rfl, ?_⟩) (by assumption) ?_
          rotate_left
          · (intro wS hSw; (try dsimp only at hSw); go_simp <;> with_reducible rfl)
          try simp only [Act.put, tkS]
          refine wpAnyH_take (i := 2) (v := ?_) rfl (by kernel_rfl) (by kernel_rfl) (by kernel_rfl) (fun _ _ _ h => h) (Or.inl ⟨by kernel_rfl, ?_⟩) (by assumption) ?_
          rotate_left
          · (intro wS hSw; (try dsimp only at hSw); go_simp <;> with_reducible rfl)
          try simp only [Act.put, tkS]
          refine wpAnyH_take (i := 3) (v := ?_) rfl (by kernel_rfl) (by kernel_rfl) (by kernel_rfl) (fun _ _ _ h => h) (Or.inl ⟨by kernel_rfl, ?_⟩) (by assumption) ?_
          rotate_left
          · (intro wS hSw; (try dsimp only at hSw); go_simp <;> with_reducible rfl)
          try simp only [Act.put, tkS]
          refine wpAnyH_take (i := 4) (v := ?_) rfl (by kernel_rfl) (by kernel_rfl) (by kernel_rfl) (fun _ _ _ h => h) (Or.inl ⟨by kernel_rfl, ?_⟩) (by assumption) ?_
          rotate_left
          · (intro wS hSw; (try dsimp only at hSw); go_simp <;> with_reducible rfl)
          try simp only [Act.put, tkS]
          refine wpAnyH_take (i := 5) (v := ?_) rfl (by kernel_rfl) (by kernel_rfl) (by kernel_rfl) (fun _ _ _ h => h) (Or.inl ⟨by kernel_rfl, ?_⟩) (by assumption) ?_
          rotate_left
          · (intro wS hSw; (try dsimp only at hSw); go_simp <;> with_reducible rfl)
          try simp only [Act.put, tkS]
          refine wpAnyH_take (i := 6) (v := ?_) rfl (by kernel_rfl) (by kernel_rfl) (by kernel_rfl) (fun _ _ _ h => h) (Or.inl ⟨by kernel_rfl, ?_⟩) (by assumption) ?_
          rotate_left
          · (intro wS hSw; (try dsimp only at hSw); go_simp <;> with_reducible rfl)
          try simp only [Act.put, tkS]
          refine wpAnyH_take (i := 7) (v := ?_) rfl (by kernel_rfl) (by kernel_rfl) (by kernel_rfl) (fun _ _ _ h => h) (Or.inl ⟨by kernel_rfl, ?_⟩) (by assumption) ?_
          rotate_left
          · (intro wS hSw; (try dsimp only at hSw); go_simp <;> with_reducible rfl)
          try simp only [Act.put, tkS]
          refine wpAnyH_take (i := 8) (v := ?_) rfl (by kernel_rfl) (by kernel_rfl) (by kernel_rfl) (fun _ _ _ h => h) (Or.inl ⟨by kernel_rfl, ?_⟩) (by assumption) ?_
          rotate_left
          · (intro wS hSw; (try dsimp only at hSw); go_simp <;> with_reducible rfl)
          try simp only [Act.put, tkS]
          refine wpAnyH_take (i := 9) (v := ?_) rfl (by kernel_rfl) (by kernel_rfl) (by kernel_rfl) (fun _ _ _ h => h) (Or.inl ⟨by kernel_rfl, ?_⟩) (by assumption) ?_
          rotate_left
          · (intro wS hSw; (try dsimp only at hSw); go_simp <;> with_reducible rfl)
          try simp only [Act.put, tkS]
          refine wpAnyH_take (i := 10) (v := ?_) rfl (by kernel_rfl) (by kernel_rfl) (by kernel_rfl) (fun _ _ _ h => h) (Or.inl ⟨by kernel_rfl, ?_⟩) (by assumption) ?_
          rotate_left
          · (intro wS hSw; (try dsimp only at hSw); go_simp <;> with_reducible rfl)
          try simp only [Act.put, tkS]
          refine wpAnyH_ready (rs := [11]) (by kernel_rfl) (by simp) (AllReadyH.cons rfl (fun K hK => ?_) AllReadyH.nil)
          go_simp
          (go_at_call 28; refine (CC.out _ (by first | exact hx | exact hx.drew)).mono ?_; rintro e w1 ⟨rfl, hx⟩)
          refine hK.out _ _ ?_ (fun hHeld => ?_)
          · (first | exact CE.out _ hx | exact CE.out _ hx.drew)
          clear hK K
          try simp only [Act.put, tkS]
          refine wpAnyH_take (i := 12) (v := ?_) rfl (by kernel_rfl) (by kernel_rfl) (by kernel_rfl) (fun _ _ _ h => h) (Or.inl ⟨by kernel_rfl, ?_⟩) (by assumption) ?_
          rotate_left
          · (intro wS hSw; (try dsimp only at hSw); go_simp <;> with_reducible rfl)
          try simp only [Act.put, tkS]
          refine wpAnyH_take (i := 13) (v := ?_) rfl (by kernel_rfl) (by kernel_rfl) (by kernel_rfl) (fun _ _ _ h => h) (Or.inl ⟨by kernel_rfl, ?_⟩) (by assumption) ?_
          rotate_left
          · (intro wS hSw; (try dsimp only at hSw); go_simp <;> with_reducible rfl)
          try simp only [Act.put, tkS]
          refine wpAnyH_take (i := 14) (v := ?_) rfl (by kernel_rfl) (by kernel_rfl) (by kernel_rfl) (fun _ _ _ h => h) (Or.inl ⟨by kernel_rfl, ?_⟩) (by assumption) ?_
          rotate_left
          · (intro wS hSw; (try dsimp only at hSw); go_simp <;> with_reducible rfl)
          try simp only [Act.put, tkS]
          refine wpAnyH_take (i := 15) (v := ?_) rfl (by kernel_rfl) (by kernel_rfl) (by kernel_rfl) (fun _ _ _ h => h) (Or.inl ⟨by kernel_rfl, ?_⟩) (by assumption) ?_
          rotate_left
          · (intro wS hSw; (try dsimp only at hSw); go_simp <;> with_reducible rfl)
          try simp only [Act.put, tkS]
          refine wpAnyH_done (by kernel_rfl) ?_ _
          go_wp2_with fail
          go_ret2
          exact FIN.out _ (HB1.out.2.trans (Below.mono (by first | exact hx | exact hx.drew) HB1.out.2.size))
        · have FIN : Hid (∀ w', Below w.heap.size w w' → BinR l id w (.returned (.tuple #[.int .i64 i, .bool false])) w') := fun w' hB => ⟨i, false, rfl, hj, HW.out.2.1, HW.out.2.2, fun h => absurd h (by simp), fun _ m hm e => by
            rcases (by omega : m < i ∨ m = i ∨ i < m) with h2 | h2 | h2
            · have := HW.out.2.1 m hm h2; omega
            · subst h2; exact hr e
            · have h3 := HA.out i m h1 hm h2; have h4 := HW.out.2.2 i h1 (Nat.le_refl _); omega, hB⟩
          have hq : (cmpR l[i] ⟨id, []⟩ == 0) = false := by
            have h4 := HW.out.2.2 i h1 (Nat.le_refl _)
            have : cmpR l[i] ⟨id, []⟩ = 1 := by unfold cmpR; rw [if_neg (by show ¬ l[i].id < id; omega), if_pos (by show id < l[i].id; omega)]
            rw [this]; rfl
          clear hr HW
          generalize cmpR l[i] ⟨id, []⟩ = qq at *
          generalize l[i] = z at *
          go_wp2_with fail
          refine wp_region_held_drew (S := (fun W => W.cell? ⟨rb, roff + i * 2, none⟩ = some (.int .i64 z.id) ∧ W.cell? ⟨rb, roff + i * 2 + 1, none⟩ = some (.slice za z.cells.length zq) ∧ W.cell? ⟨w.heap.size, 0, none⟩ = some (.int .i64 id) ∧ W.cell? ⟨w.heap.size, 1, none⟩ = some (.slice none 0 0))) (by kernel_rfl) ?_ (fun hHeld => ?_)
          · (first | exact CE.out _ hx | exact CE.out _ hx.drew)
          refine wpAnyH_take (i := 0) (v := ?_) rfl (by kernel_rfl) (by kernel_rfl) (by kernel_rfl) (fun _ _ _ h => h) (Or.inl ⟨by kernel_rfl, ?_⟩) (by assumption) ?_
          rotate_left
          · (intro wS hSw; (try dsimp only at hSw); go_simp <;> with_reducible rfl)
          try simp only [Act.put, tkS]
          refine wpAnyH_take (i := 1) (v := ?_) rfl (by kernel_rfl) (by kernel_rfl) (by kernel_rfl) (fun _ _ _ h => h) (Or.inl ⟨by kernel_rfl, ?_⟩) (by assumption) ?_
          rotate_left
          · (intro wS hSw; (try dsimp only at hSw); go_simp <;> with_reducible rfl)
          try simp only [Act.put, tkS]
          refine wpAnyH_take (i := 2) (v := ?_) rfl (by kernel_rfl) (by kernel_rfl) (by kernel_rfl) (fun _ _ _ h => h) (Or.inl ⟨by kernel_rfl, ?_⟩) (by assumption) ?_
          rotate_left
          · (intro wS hSw; (try dsimp only at hSw); go_simp <;> with_reducible rfl)
          try simp only [Act.put, tkS]
          refine wpAnyH_take (i := 3) (v := ?_) rfl (by kernel_rfl) (by kernel_rfl) (by kernel_rfl) (fun _ _ _ h => h) (Or.inl ⟨by kernel_rfl, ?_⟩) (by assumption) ?_
          rotate_left
          · (intro wS hSw; (try dsimp only at hSw); go_simp <;> with_reducible rfl)
          try simp only [Act.put, tkS]
          refine wpAnyH_take (i := 4) (v := ?_) rfl (by kernel_rfl) (by kernel_rfl) (by kernel_rfl) (fun _ _ _ h => h) (Or.inl ⟨by kernel_rfl, ?_⟩) (by assumption) ?_
          rotate_left
          · (intro wS hSw; (try dsimp only at hSw); go_simp <;> with_reducible rfl)
          try simp only [Act.put, tkS]
          refine wpAnyH_take (i := 5) (v := ?_) rfl (by kernel_rfl) (by kernel_rfl) (by kernel_rfl) (fun _ _ _ h => h) (Or.inl ⟨by kernel_rfl, ?_⟩) (by assumption) ?_
          rotate_left
          · (intro wS hSw; (try dsimp only at hSw); go_simp <;> with_reducible rfl)
          try simp only [Act.put, tkS]
          refine wpAnyH_take (i := 6) (v := ?_) rfl (by kernel_rfl) (by kernel_rfl) (by kernel_rfl) (fun _ _ _ h => h) (Or.inl ⟨by kernel_rfl, ?_⟩) (by assumption) ?_
          rotate_left
          · (intro wS hSw; (try dsimp only at hSw); go_simp <;> with_reducible rfl)
          try simp only [Act.put, tkS]
          refine wpAnyH_take (i := 7) (v := ?_) rfl (by kernel_rfl) (by kernel_rfl) (by kernel_rfl) (fun _ _ _ h => h) (Or.inl ⟨by kernel_rfl, ?_⟩) (by assumption) ?_
          rotate_left
          · (intro wS hSw; (try dsimp only at hSw); go_simp <;> with_reducible rfl)
          try simp only [Act.put, tkS]
          refine wpAnyH_take (i := 8) (v := ?_) rfl (by kernel_rfl) (by kernel_rfl) (by kernel_rfl) (fun _ _ _ h => h) (Or.inl ⟨by kernel_rfl, ?_⟩) (by assumption) ?_
          rotate_left
          · (intro wS hSw; (try dsimp only at hSw); go_simp <;> with_reducible rfl)
          try simp only [Act.put, tkS]
          refine wpAnyH_take (i := 9) (v := ?_) rfl (by kernel_rfl) (by kernel_rfl) (by kernel_rfl) (fun _ _ _ h => h) (Or.inl ⟨by kernel_rfl, ?_⟩) (by assumption) ?_
          rotate_left
          · (intro wS hSw; (try dsimp only at hSw); go_simp <;> with_reducible rfl)
          try simp only [Act.put, tkS]
          refine wpAnyH_take (i := 10) (v := ?_) rfl (by kernel_rfl) (by kernel_rfl) (by kernel_rfl) (fun _ _ _ h => h) (Or.inl ⟨by kernel_rfl, ?_⟩) (by assumption) ?_
          rotate_left
          · (intro wS hSw; (try dsimp only at hSw); go_simp <;> with_reducible rfl)
          try simp only [Act.put, tkS]
          refine wpAnyH_ready (rs := [11]) (by kernel_rfl) (by simp) (AllReadyH.cons rfl (fun K hK => ?_) AllReadyH.nil)
          go_simp
          (go_at_call 28; refine (CC.out _ (by first | exact hx | exact hx.drew)).mono ?_; rintro e w1 ⟨rfl, hx⟩)
          refine hK.out _ _ ?_ (fun hHeld => ?_)
          · (first | exact CE.out _ hx | exact CE.out _ hx.drew)
          clear hK K
          try simp only [Act.put, tkS]
          refine wpAnyH_take (i := 12) (v := ?_) rfl (by kernel_rfl) (by kernel_rfl) (by kernel_rfl) (fun _ _ _ h => h) (Or.inl ⟨by kernel_rfl, ?_⟩) (by assumption) ?_
          rotate_left
          · (intro wS hSw; (try dsimp only at hSw); go_simp <;> with_reducible rfl)
          try simp only [Act.put, tkS]
          refine wpAnyH_take (i := 13) (v := ?_) rfl (by kernel_rfl) (by kernel_rfl) (by kernel_rfl) (fun _ _ _ h => h) (Or.inl ⟨by kernel_rfl, ?_⟩) (by assumption) ?_
          rotate_left
          · (intro wS hSw; (try dsimp only at hSw); go_simp <;> with_reducible rfl)
          try simp only [Act.put, tkS]
          refine wpAnyH_take (i := 14) (v := ?_) rfl (by kernel_rfl) (by kernel_rfl) (by kernel_rfl) (fun _ _ _ h => h) (Or.inl ⟨by kernel_rfl, ?_⟩) (by assumption) ?_
          rotate_left
          · (intro wS hSw; (try dsimp only at hSw); go_simp <;> with_reducible rfl)
          try simp only [Act.put, tkS]
          refine wpAnyH_take (i := 15) (v := ?_) rfl (by kernel_rfl) (by kernel_rfl) (by kernel_rfl) (fun _ _ _ h => h) (Or.inl ⟨by kernel_rfl, ?_⟩) (by assumption) ?_
          rotate_left
          · (intro wS hSw; (try dsimp only at hSw); go_simp <;> with_reducible rfl)
          try simp only [Act.put, tkS]
          refine wpAnyH_done (by kernel_rfl) ?_ _
          go_wp2_with fail
          go_ret2
          exact FIN.out _ (HB1.out.2.trans (Below.mono (by first | exact hx | exact hx.drew) HB1.out.2.size))
      · have FIN : Hid (∀ w', Below w.heap.size w w' → BinR l id w (.returned (.tuple #[.int .i64 i, .bool false])) w') := fun w' hB => ⟨i, false, rfl, hj, HW.out.2.1, HW.out.2.2, fun h => absurd h (by simp), fun _ m hm e => by
          have := HW.out.2.1 m hm (by omega); omega, hB⟩
        have hd1 : decide ((i : Int) < (l.length : Int)) = false := decide_eq_false (by omega)
        have hx0 := HW.out.1.2
        have CB : Hid (∀ W, Below wr.heap.size wr W → W.cell? ⟨w.heap.size, 0, none⟩ = some (.int .i64 id)) := fun W h => by
          have x0 := cell_at (o := 0) HW.out.1.1 rfl
          exact (h.cell (p := ⟨w.heap.size, 0, none⟩) (World.block_lt_of_cell? _ _ x0)).trans x0
        have hx := Below.refl wr.heap.size wr
        have HB1 := Lib.hid HW.out.1
        clear HW hx0
        go_wp2_with fail
        refine wp_region_held_drew (S := (fun W => W.cell? ⟨w.heap.size, 0, none⟩ = some (.int .i64 id))) (by kernel_rfl) ?_ (fun hHeld => ?_)
        · (first | exact CB.out _ hx | exact CB.out _ hx.drew)
        refine wpAnyH_take (i := 0) (v := ?_) rfl (by kernel_rfl) (by kernel_rfl) (by kernel_rfl) (fun _ _ _ h => h) (Or.inl ⟨by kernel_rfl, ?_⟩) (by assumption) ?_
        rotate_left
        · (intro wS hSw; (try dsimp only at hSw); go_simp <;> with_reducible rfl)
        try simp only [Act.put, tkS]
        refine wpAnyH_take (i := 1) (v := ?_) rfl (by kernel_rfl) (by kernel_rfl) (by kernel_rfl) (fun _ _ _ h => h) (Or.inl ⟨by kernel_rfl, ?_⟩) (by assumption) ?_
        rotate_left
        · (intro wS hSw; (try dsimp only at hSw); go_simp <;> with_reducible rfl)
        try simp only [Act.put, tkS]
        refine wpAnyH_take (i := 2) (v := ?_) rfl (by kernel_rfl) (by kernel_rfl) (by kernel_rfl) (fun _ _ _ h => h) (Or.inl ⟨by kernel_rfl, ?_⟩) (by assumption) ?_
        rotate_left
        · (intro wS hSw; (try dsimp only at hSw); go_simp <;> with_reducible rfl)
        try simp only [Act.put, tkS]
        refine wpAnyH_take (i := 3) (v := ?_) rfl (by kernel_rfl) (by kernel_rfl) (by kernel_rfl) (fun _ _ _ h => h) (Or.inl ⟨by kernel_rfl, ?_⟩) (by assumption) ?_
        rotate_left
        · (intro wS hSw; (try dsimp only at hSw); go_simp <;> with_reducible rfl)
        try simp only [Act.put, tkS]
        refine wpAnyH_take (i := 4) (v := ?_) rfl (by kernel_rfl) (by kernel_rfl) (by kernel_rfl) (fun _ _ _ h => h) (Or.inl ⟨by kernel_rfl, ?_⟩) (by assumption) ?_
        rotate_left
        · (intro wS hSw; (try dsimp only at hSw); go_simp <;> with_reducible rfl)
        try simp only [Act.put, tkS]
        refine wpAnyH_take (i := 5) (v := undef) rfl (by kernel_rfl) (by kernel_rfl) (by kernel_rfl) (fun _ _ _ h => h) (Or.inr ⟨by kernel_rfl, rfl⟩) (by assumption) ?_
        try simp only [Act.put, tkS]
        refine wpAnyH_take (i := 6) (v := undef) rfl (by kernel_rfl) (by kernel_rfl) (by kernel_rfl) (fun _ _ _ h => h) (Or.inr ⟨by kernel_rfl, rfl⟩) (by assumption) ?_
        try simp only [Act.put, tkS]
        refine wpAnyH_take (i := 7) (v := undef) rfl (by kernel_rfl) (by kernel_rfl) (by kernel_rfl) (fun _ _ _ h => h) (Or.inr ⟨by kernel_rfl, rfl⟩) (by assumption) ?_
        try simp only [Act.put, tkS]
        refine wpAnyH_take (i := 8) (v := undef) rfl (by kernel_rfl) (by kernel_rfl) (by kernel_rfl) (fun _ _ _ h => h) (Or.inr ⟨by kernel_rfl, rfl⟩) (by assumption) ?_
        try simp only [Act.put, tkS]
        refine wpAnyH_take (i := 9) (v := undef) rfl (by kernel_rfl) (by kernel_rfl) (by kernel_rfl) (fun _ _ _ h => h) (Or.inr ⟨by kernel_rfl, rfl⟩) (by assumption) ?_
        try simp only [Act.put, tkS]
        refine wpAnyH_take (i := 10) (v := undef) rfl (by kernel_rfl) (by kernel_rfl) (by kernel_rfl) (fun _ _ _ h => h) (Or.inr ⟨by kernel_rfl, rfl⟩) (by assumption) ?_
        try simp only [Act.put, tkS]
        refine wpAnyH_take (i := 11) (v := undef) rfl (by kernel_rfl) (by kernel_rfl) (by kernel_rfl) (fun _ _ _ h => h) (Or.inr ⟨by kernel_rfl, rfl⟩) (by assumption) ?_
        try simp only [Act.put, tkS]
        refine wpAnyH_take (i := 12) (v := undef) rfl (by kernel_rfl) (by kernel_rfl) (by kernel_rfl) (fun _ _ _ h => h) (Or.inr ⟨by kernel_rfl, rfl⟩) (by assumption) ?_
        try simp only [Act.put, tkS]
        refine wpAnyH_take (i := 13) (v := ?_) rfl (by kernel_rfl) (by kernel_rfl) (by kernel_rfl) (fun _ _ _ h => h) (Or.inl ⟨by kernel_rfl, ?_⟩) (by assumption) ?_
        rotate_left
        · (intro wS hSw; (try dsimp only at hSw); go_simp <;> with_reducible rfl)
        try simp only [Act.put, tkS]
        refine wpAnyH_take (i := 14) (v := ?_) rfl (by kernel_rfl) (by kernel_rfl) (by kernel_rfl) (fun _ _ _ h => h) (Or.inl ⟨by kernel_rfl, ?_⟩) (by assumption) ?_
        rotate_left
        · (intro wS hSw; (try dsimp only at hSw); go_simp <;> with_reducible rfl)
        try simp only [Act.put, tkS]
        refine wpAnyH_take (i := 15) (v := ?_) rfl (by kernel_rfl) (by kernel_rfl) (by kernel_rfl) (fun _ _ _ h => h) (Or.inl ⟨by kernel_rfl, ?_⟩) (by assumption) ?_
        rotate_left
        · (intro wS hSw; (try dsimp only at hSw); go_simp <;> with_reducible rfl)
        try simp only [Act.put, tkS]
        refine wpAnyH_done (by kernel_rfl) ?_ _
        go_wp2_with fail
        go_ret2
        exact FIN.out _ (HB1.out.2.trans (Below.mono (by first | exact hx | exact hx.drew) HB1.out.2.size))
end Go.Proofs.Ytnegmpdllbbnhaa
