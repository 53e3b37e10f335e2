import Derived.Test.YthpenliecgpedaaZav
import Derived.Deep.RegionHeld3
import Derived.Test.YthpenliecgpedaaZTk
namespace Go.Proofs.Ythpenliecgpedaa
open Go.RowKit
set_option linter.unusedSimpArgs false
theorem blT : ∀ x y z : List UInt8, Op.bytesLess x y = true → Op.bytesLess y z = true → Op.bytesLess x z = true
  | _, [], _, h, _ => by cases ‹List UInt8› <;> simp [Op.bytesLess] at h
  | _, _ :: _, [], _, h => by simp [Op.bytesLess] at h
  | [], _ :: _, _ :: _, _, _ => by simp [Op.bytesLess]
  | a :: r, b :: s, c :: t, h, k => by
    simp only [Op.bytesLess, Bool.or_eq_true, Bool.and_eq_true, decide_eq_true_eq, beq_iff_eq] at h k ⊢
    rcases h with h | ⟨h1, h2⟩
    · rcases k with k | ⟨k1, k2⟩
      · exact .inl (UInt8.lt_trans h k)
      · exact .inl (k1 ▸ h)
    · rcases k with k | ⟨k1, k2⟩
      · exact .inl (h1 ▸ k)
      · exact .inr ⟨h1.trans k1, blT r s t h2 k2⟩
theorem upL_lt {l : List LkV} (h : UpL l) : ∀ i j (hi : i < l.length) (hj : j < l.length), i < j → Op.bytesLess l[i].nm l[j].nm = true := by
  intro i j
  induction j with
  | zero => intro _ _ h; omega
  | succ j ih =>
    intro hi hj hij
    by_cases e : i = j
    · subst e; exact h i hj
    · exact blT _ _ _ (ih hi (by omega) (by omega)) (h j hj)
theorem cmpL_zero {x y : List UInt8} : cmpL x y = 0 ↔ x = y := by
  unfold cmpL
  by_cases h : x = y
  · rw [if_pos h]; simp [h]
  · rw [if_neg h]; cases Op.bytesLess x y <;> simp [h]
theorem bl_not {x y z : List UInt8} (h : Op.bytesLess x z = false) (h2 : Op.bytesLess x y = true) : Op.bytesLess y z = false := by
  cases e : Op.bytesLess y z
  · rfl
  · rw [blT x y z h2 e] at h; cases h
def BinL (l : List LkV) (id : List UInt8) (w : World) (e : Ending) (w' : World) : Prop := ∃ (p : Nat) (f : Bool), e = .returned (.tuple #[.int .i64 p, .bool f]) ∧ p ≤ l.length ∧ (∀ m (h : m < l.length), m < p → Op.bytesLess l[m].nm id = true) ∧ (∀ m (h : m < l.length), p ≤ m → Op.bytesLess l[m].nm id = false) ∧ (f = true → ∃ h : p < l.length, l[p].nm = id) ∧ (f = false → ∀ m (h : m < l.length), l[m].nm ≠ id) ∧ Below w.heap.size w w'
set_option maxRecDepth 100000 in
set_option maxHeartbeats 6400000 in
theorem binL (l : List LkV) (a : Option Addr) (c : Nat) (id : List UInt8) (B : Nat → Prop) (w : World) (hl : l.length ≤ 1048576) (ha : UpL l) (hS : Rd w B (dLockS l) (.slice a l.length c)) :
    Calls Try.prog 72 #[.slice a l.length c, .agg #[.string ⟨id.toArray⟩, .slice none 0 0], .func (.func 37) #[] #[]] w (BinL l id w) := by
  have RA : Hid (∀ W, Below w.heap.size w W → Rd W B (Ls 2 dLock l) (.slice a l.length c)) := fun W h => Rd.later hS h
  have HA : Hid (∀ i j (hi : i < l.length) (hj : j < l.length), i < j → Op.bytesLess l[i].nm l[j].nm = true) := upL_lt ha
  have hb := boxD 54 w #[.string ⟨id.toArray⟩, .slice none 0 0]
  have HB := Lib.hid hb
  have x0 := cell_at (o := 0) hb.1 rfl
  have x1 := cell_at (o := 1) hb.1 rfl
  clear hS ha hb
  go_enter Try.func72, Try.ntmps72
  go_wp2_with fail
  clear x0 x1
  go_loopw [9, 10] (fun x y wr => ∃ i j : Nat, i ≤ j ∧ j ≤ l.length ∧ x = .int .i64 i ∧ y = .int .i64 j ∧ Hid (BoxD 54 w wr #[.string ⟨id.toArray⟩, .slice none 0 0] ∧ (∀ m (h : m < l.length), m < i → Op.bytesLess l[m].nm id = true) ∧ (∀ m (h : m < l.length), j ≤ m → Op.bytesLess l[m].nm id = false))) (fun x y _ => ((intOf y) - (intOf x)).toNat)
  case atStart => exact ⟨0, l.length, Nat.zero_le _, Nat.le_refl _, rfl, rfl, HB.out, fun m _ h => absurd h (by omega), fun m h h' => absurd h (by omega)⟩
  case round =>
    obtain ⟨i, j, hij, hj, rfl, rfl, HW⟩ := hrel
    by_cases hlt : i < j
    · have hsum : (0 : Int) ≤ (i : Int) + (j : Int) := by omega
      have hlt' : (i : Int) < (j : Int) := by omega
      obtain ⟨h, hh⟩ : ∃ h : Nat, ((i : Int) + (j : Int)) / 2 = (h : Int) := ⟨(i + j) / 2, by omega⟩
      have hh1 : i ≤ h := by omega
      have hh2 : h < j := by omega
      have h1 : h < l.length := by omega
      have hhl : (h : Int) < (l.length : Int) := by omega
      obtain ⟨rb, roff, rfl, -, -⟩ := (RA.out _ HW.out.1.2).things h h1
      have R0 := RA.out _ HW.out.1.2
      obtain ⟨u0, d0, r0⟩ := R0.spotT h1 (j := 0) (by omega)
      obtain rfl : u0 = .string ⟨l[h].nm.toArray⟩ := r0
      obtain ⟨u1, d1, r1⟩ := R0.spotT h1 (j := 1) (by omega)
      replace r1 : Rd wr B (dIntS l[h].qu) u1 := r1
      obtain ⟨za, zq, rfl⟩ := r1.lsSlice
      replace d0 : wr.cell? ⟨rb, roff + h * 2, none⟩ = _ := d0
      have x0 := cell_at (o := 0) HW.out.1.1 rfl
      have x1 := cell_at (o := 1) HW.out.1.1 rfl
      have CE : Hid (∀ W, Below wr.heap.size wr W → W.cell? ⟨rb, roff + h * 2, none⟩ = some (.string ⟨l[h].nm.toArray⟩) ∧ W.cell? ⟨rb, roff + h * 2 + 1, none⟩ = some (.slice za l[h].qu.length zq) ∧ W.cell? ⟨w.heap.size, 0, none⟩ = some (.string ⟨id.toArray⟩) ∧ W.cell? ⟨w.heap.size, 1, none⟩ = some (.slice none 0 0)) := fun W hw => ⟨(hw.cell (p := ⟨rb, roff + h * 2, none⟩) (World.block_lt_of_cell? _ _ d0)).trans d0, (hw.cell (p := ⟨rb, roff + h * 2 + 1, none⟩) (World.block_lt_of_cell? _ _ d1)).trans d1, (hw.cell (p := ⟨w.heap.size, 0, none⟩) (World.block_lt_of_cell? _ _ x0)).trans x0, (hw.cell (p := ⟨w.heap.size, 1, none⟩) (World.block_lt_of_cell? _ _ x1)).trans x1⟩
      have CC : Hid (∀ W, Below wr.heap.size wr W → Calls Try.prog 37 #[.agg #[.string ⟨l[h].nm.toArray⟩, .slice za l[h].qu.length zq], .agg #[.string ⟨id.toArray⟩, .slice none 0 0]] W fun e w' => e = .returned (.int .i64 (cmpL l[h].nm id)) ∧ Below wr.heap.size wr w') := fun W hw => (cmpLocksI l[h].nm id za none l[h].qu.length zq 0 0 W).mono (fun e w' ⟨he, hB⟩ => ⟨he, hw.trans (hB.mono hw.size)⟩)
      have hx := Below.refl wr.heap.size wr
      have HB1 := Lib.hid HW.out.1
      clear r1 R0 d0 d1 x0 x1
      by_cases hr : Op.bytesLess l[h].nm id = true
      · have HL2 : Hid (∀ m (hm : m < l.length), m < h + 1 → Op.bytesLess l[m].nm id = true) := fun m hm h2 => by
          by_cases e : m = h
          · subst e; exact hr
          · have h5 := HA.out m h hm h1 (by omega); exact blT _ _ _ h5 hr
        have HG := Lib.hid HW.out.2.2
        have hq := cmpL_lt.2 hr
        have hge : decide (cmpL l[h].nm id < 0) = true := decide_eq_true hq
        clear hr hq HW
        generalize cmpL l[h].nm id = qq at *
        generalize l[h] = z at *
        go_wp2_with fail
        refine wp_region_held_drew (S := (fun W => W.cell? ⟨rb, roff + h * 2, none⟩ = some (.string ⟨z.nm.toArray⟩) ∧ W.cell? ⟨rb, roff + h * 2 + 1, none⟩ = some (.slice za z.qu.length zq) ∧ W.cell? ⟨w.heap.size, 0, none⟩ = some (.string ⟨id.toArray⟩) ∧ W.cell? ⟨w.heap.size, 1, none⟩ = some (.slice none 0 0))) (by kernel_rfl) ?_ (fun hHeld => ?_)
        · (first | exact CE.out _ hx | exact CE.out _ hx.drew)
        refine tkB (i := 0) ?_
        refine tkB (i := 1) ?_
        refine tkB (i := 2) ?_
        refine tkB (i := 3) ?_
        refine tkB (i := 4) ?_
        refine tkB (i := 5) ?_
        refine tkR (i := 6) (fun K hK => ?_)
        go_simp
        (go_at_call 37; refine (CC.out _ (by first | exact hx | exact hx.drew)).mono ?_; rintro e w1 ⟨rfl, hx⟩)
        refine hK.out _ _ ?_ (fun hHeld => ?_)
        · (first | exact CE.out _ hx | exact CE.out _ hx.drew)
        clear hK K
        try simp only [Act.put, tkS]
        refine tkB (i := 7) ?_
        refine wpAnyH_done (by kernel_rfl) ?_ _
        go_wp2_with fail
        go_roundw
        case rel => exact ⟨h + 1, j, by omega, hj, by go_num, rfl, HB1.out.later (by first | exact hx | exact hx.drew), HL2.out, HG.out⟩
        case measure => simp [intOf]; omega
      · have HG2 : Hid (∀ m (hm : m < l.length), h ≤ m → Op.bytesLess l[m].nm id = false) := fun m hm h2 => by
          by_cases e : m = h
          · subst e; simpa using hr
          · have h5 := HA.out h m h1 hm (by omega)
            exact bl_not (by simpa using hr) h5
        have HL := Lib.hid HW.out.2.1
        have hge : decide (cmpL l[h].nm id < 0) = false := decide_eq_false (fun h9 => hr (cmpL_lt.1 h9))
        clear hr HW
        generalize cmpL l[h].nm id = qq at *
        generalize l[h] = z at *
        go_wp2_with fail
        refine wp_region_held_drew (S := (fun W => W.cell? ⟨rb, roff + h * 2, none⟩ = some (.string ⟨z.nm.toArray⟩) ∧ W.cell? ⟨rb, roff + h * 2 + 1, none⟩ = some (.slice za z.qu.length zq) ∧ W.cell? ⟨w.heap.size, 0, none⟩ = some (.string ⟨id.toArray⟩) ∧ W.cell? ⟨w.heap.size, 1, none⟩ = some (.slice none 0 0))) (by kernel_rfl) ?_ (fun hHeld => ?_)
        · (first | exact CE.out _ hx | exact CE.out _ hx.drew)
        refine tkB (i := 0) ?_
        refine tkB (i := 1) ?_
        refine tkB (i := 2) ?_
        refine tkB (i := 3) ?_
        refine tkB (i := 4) ?_
        refine tkB (i := 5) ?_
        refine tkR (i := 6) (fun K hK => ?_)
        go_simp
        (go_at_call 37; refine (CC.out _ (by first | exact hx | exact hx.drew)).mono ?_; rintro e w1 ⟨rfl, hx⟩)
        refine hK.out _ _ ?_ (fun hHeld => ?_)
        · (first | exact CE.out _ hx | exact CE.out _ hx.drew)
        clear hK K
        try simp only [Act.put, tkS]
        refine tkB (i := 7) ?_
        refine wpAnyH_done (by kernel_rfl) ?_ _
        go_wp2_with fail
        go_roundw
        case rel => exact ⟨i, h, hh1, by omega, rfl, by go_num, HB1.out.later (by first | exact hx | exact hx.drew), HL.out, HG2.out⟩
        case measure => simp [intOf]; omega
    · have hij' : i = j := by omega
      subst hij'
      by_cases h1 : i < l.length
      · have hii : (i : Int) < (l.length : Int) := by omega
        have hd1 : decide ((i : Int) < (l.length : Int)) = true := decide_eq_true hii
        obtain ⟨rb, roff, rfl, -, -⟩ := (RA.out _ HW.out.1.2).things i h1
        have R0 := RA.out _ HW.out.1.2
        obtain ⟨u0, d0, r0⟩ := R0.spotT h1 (j := 0) (by omega)
        obtain rfl : u0 = .string ⟨l[i].nm.toArray⟩ := r0
        obtain ⟨u1, d1, r1⟩ := R0.spotT h1 (j := 1) (by omega)
        replace r1 : Rd wr B (dIntS l[i].qu) u1 := r1
        obtain ⟨za, zq, rfl⟩ := r1.lsSlice
        replace d0 : wr.cell? ⟨rb, roff + i * 2, none⟩ = _ := d0
        have x0 := cell_at (o := 0) HW.out.1.1 rfl
        have x1 := cell_at (o := 1) HW.out.1.1 rfl
        have CE : Hid (∀ W, Below wr.heap.size wr W → W.cell? ⟨rb, roff + i * 2, none⟩ = some (.string ⟨l[i].nm.toArray⟩) ∧ W.cell? ⟨rb, roff + i * 2 + 1, none⟩ = some (.slice za l[i].qu.length zq) ∧ W.cell? ⟨w.heap.size, 0, none⟩ = some (.string ⟨id.toArray⟩) ∧ W.cell? ⟨w.heap.size, 1, none⟩ = some (.slice none 0 0)) := fun W hw => ⟨(hw.cell (p := ⟨rb, roff + i * 2, none⟩) (World.block_lt_of_cell? _ _ d0)).trans d0, (hw.cell (p := ⟨rb, roff + i * 2 + 1, none⟩) (World.block_lt_of_cell? _ _ d1)).trans d1, (hw.cell (p := ⟨w.heap.size, 0, none⟩) (World.block_lt_of_cell? _ _ x0)).trans x0, (hw.cell (p := ⟨w.heap.size, 1, none⟩) (World.block_lt_of_cell? _ _ x1)).trans x1⟩
        have CC : Hid (∀ W, Below wr.heap.size wr W → Calls Try.prog 37 #[.agg #[.string ⟨l[i].nm.toArray⟩, .slice za l[i].qu.length zq], .agg #[.string ⟨id.toArray⟩, .slice none 0 0]] W fun e w' => e = .returned (.int .i64 (cmpL l[i].nm id)) ∧ Below wr.heap.size wr w') := fun W hw => (cmpLocksI l[i].nm id za none l[i].qu.length zq 0 0 W).mono (fun e w' ⟨he, hB⟩ => ⟨he, hw.trans (hB.mono hw.size)⟩)
        have hx := Below.refl wr.heap.size wr
        have HB1 := Lib.hid HW.out.1
        clear r1 R0 d0 d1 x0 x1
        by_cases hr : l[i].nm = id
        · have FIN : Hid (∀ w', Below w.heap.size w w' → BinL l id w (.returned (.tuple #[.int .i64 i, .bool true])) w') := fun w' hB => ⟨i, true, rfl, hj, HW.out.2.1, HW.out.2.2, fun _ => ⟨h1, hr⟩, fun h => absurd h (by simp), hB⟩
          have hq : cmpL l[i].nm id = 0 := cmpL_zero.2 hr
          rw [hq] at CC
          clear hr hq HW
          generalize l[i] = z at *
          go_wp2_with fail
          refine wp_region_held_drew (S := (fun W => W.cell? ⟨rb, roff + i * 2, none⟩ = some (.string ⟨z.nm.toArray⟩) ∧ W.cell? ⟨rb, roff + i * 2 + 1, none⟩ = some (.slice za z.qu.length zq) ∧ W.cell? ⟨w.heap.size, 0, none⟩ = some (.string ⟨id.toArray⟩) ∧ W.cell? ⟨w.heap.size, 1, none⟩ = some (.slice none 0 0))) (by kernel_rfl) ?_ (fun hHeld => ?_)
          · (first | exact CE.out _ hx | exact CE.out _ hx.drew)
          refine tkB (i := 0) ?_
          refine tkB (i := 1) ?_
          refine tkB (i := 2) ?_
          refine tkB (i := 3) ?_
          refine tkB (i := 4) ?_
          refine tkB (i := 5) ?_
          refine tkB (i := 6) ?_
          refine tkB (i := 7) ?_
          refine tkB (i := 8) ?_
          refine tkB (i := 9) ?_
          refine tkB (i := 10) ?_
          refine tkR (i := 11) (fun K hK => ?_)
          go_simp
          (go_at_call 37; refine (CC.out _ (by first | exact hx | exact hx.drew)).mono ?_; rintro e w1 ⟨rfl, hx⟩)
          refine hK.out _ _ ?_ (fun hHeld => ?_)
          · (first | exact CE.out _ hx | exact CE.out _ hx.drew)
          clear hK K
          try simp only [Act.put, tkS]
          refine tkB (i := 12) ?_
          refine tkB (i := 13) ?_
          refine tkB (i := 14) ?_
          refine tkB (i := 15) ?_
          refine wpAnyH_done (by kernel_rfl) ?_ _
          go_wp2_with fail
          go_ret2
          exact FIN.out _ (HB1.out.2.trans (Below.mono (by first | exact hx | exact hx.drew) HB1.out.2.size))
        · have FIN : Hid (∀ w', Below w.heap.size w w' → BinL l id w (.returned (.tuple #[.int .i64 i, .bool false])) w') := fun w' hB => ⟨i, false, rfl, hj, HW.out.2.1, HW.out.2.2, fun h => absurd h (by simp), fun _ m hm e => by
            rcases (by omega : m < i ∨ m = i ∨ i < m) with h2 | h2 | h2
            · have h3 := HW.out.2.1 m hm h2; rw [e, bl_self] at h3; cases h3
            · subst h2; exact hr e
            · have h3 := HA.out i m h1 hm h2; have h4 := HW.out.2.2 i h1 (Nat.le_refl _); rw [e, h4] at h3; exact absurd h3 (by simp), hB⟩
          have hq : (cmpL l[i].nm id == 0) = false := by
            rw [beq_eq_false_iff_ne]; exact fun h9 => hr (cmpL_zero.1 h9)
          clear hr HW
          generalize cmpL l[i].nm id = qq at *
          generalize l[i] = z at *
          go_wp2_with fail
          refine wp_region_held_drew (S := (fun W => W.cell? ⟨rb, roff + i * 2, none⟩ = some (.string ⟨z.nm.toArray⟩) ∧ W.cell? ⟨rb, roff + i * 2 + 1, none⟩ = some (.slice za z.qu.length zq) ∧ W.cell? ⟨w.heap.size, 0, none⟩ = some (.string ⟨id.toArray⟩) ∧ W.cell? ⟨w.heap.size, 1, none⟩ = some (.slice none 0 0))) (by kernel_rfl) ?_ (fun hHeld => ?_)
          · (first | exact CE.out _ hx | exact CE.out _ hx.drew)
          refine tkB (i := 0) ?_
          refine tkB (i := 1) ?_
          refine tkB (i := 2) ?_
          refine tkB (i := 3) ?_
          refine tkB (i := 4) ?_
          refine tkB (i := 5) ?_
          refine tkB (i := 6) ?_
          refine tkB (i := 7) ?_
          refine tkB (i := 8) ?_
          refine tkB (i := 9) ?_
          refine tkB (i := 10) ?_
          refine tkR (i := 11) (fun K hK => ?_)
          go_simp
          (go_at_call 37; refine (CC.out _ (by first | exact hx | exact hx.drew)).mono ?_; rintro e w1 ⟨rfl, hx⟩)
          refine hK.out _ _ ?_ (fun hHeld => ?_)
          · (first | exact CE.out _ hx | exact CE.out _ hx.drew)
          clear hK K
          try simp only [Act.put, tkS]
          refine tkB (i := 12) ?_
          refine tkB (i := 13) ?_
          refine tkB (i := 14) ?_
          refine tkB (i := 15) ?_
          refine wpAnyH_done (by kernel_rfl) ?_ _
          go_wp2_with fail
          go_ret2
          exact FIN.out _ (HB1.out.2.trans (Below.mono (by first | exact hx | exact hx.drew) HB1.out.2.size))
      · have FIN : Hid (∀ w', Below w.heap.size w w' → BinL l id w (.returned (.tuple #[.int .i64 i, .bool false])) w') := fun w' hB => ⟨i, false, rfl, hj, HW.out.2.1, HW.out.2.2, fun h => absurd h (by simp), fun _ m hm e => by
          have h3 := HW.out.2.1 m hm (by omega); rw [e, bl_self] at h3; exact absurd h3 (by simp), hB⟩
        have hd1 : decide ((i : Int) < (l.length : Int)) = false := decide_eq_false (by omega)
        have hx0 := HW.out.1.2
        have CB : Hid (∀ W, Below wr.heap.size wr W → W.cell? ⟨w.heap.size, 0, none⟩ = some (.string ⟨id.toArray⟩)) := fun W h => by
          have x0 := cell_at (o := 0) HW.out.1.1 rfl
          exact (h.cell (p := ⟨w.heap.size, 0, none⟩) (World.block_lt_of_cell? _ _ x0)).trans x0
        have hx := Below.refl wr.heap.size wr
        have HB1 := Lib.hid HW.out.1
        clear HW hx0
        go_wp2_with fail
        refine wp_region_held_drew (S := (fun W => W.cell? ⟨w.heap.size, 0, none⟩ = some (.string ⟨id.toArray⟩))) (by kernel_rfl) ?_ (fun hHeld => ?_)
        · (first | exact CB.out _ hx | exact CB.out _ hx.drew)
        refine tkB (i := 0) ?_
        refine tkB (i := 1) ?_
        refine tkB (i := 2) ?_
        refine tkB (i := 3) ?_
        refine tkB (i := 4) ?_
        refine tkV (i := 5) ?_
        refine tkV (i := 6) ?_
        refine tkV (i := 7) ?_
        refine tkV (i := 8) ?_
        refine tkV (i := 9) ?_
        refine tkV (i := 10) ?_
        refine tkV (i := 11) ?_
        refine tkV (i := 12) ?_
        refine tkB (i := 13) ?_
        refine tkB (i := 14) ?_
        refine tkB (i := 15) ?_
        refine wpAnyH_done (by kernel_rfl) ?_ _
        go_wp2_with fail
        go_ret2
        exact FIN.out _ (HB1.out.2.trans (Below.mono (by first | exact hx | exact hx.drew) HB1.out.2.size))
end Go.Proofs.Ythpenliecgpedaa
