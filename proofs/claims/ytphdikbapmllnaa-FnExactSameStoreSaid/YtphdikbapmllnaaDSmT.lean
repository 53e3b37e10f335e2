import Derived.Test.YtphdikbapmllnaaDSmS
import Derived.Deep.RegionHeld3
namespace Go.Proofs.Ytphdikbapmllnaa
open Go.RowKit
set_option linter.unusedSimpArgs false
theorem eqStore_parts {x y : StV} (h : x.next = y.next) : eqB x y = eqB x.tables y.tables := by
  by_cases e : x.tables = y.tables
  · rw [eqB_yes e, eqB_yes (by cases x; cases y; simp_all)]
  · rw [eqB_no e, eqB_no (fun h => e (by rw [h]))]
set_option maxRecDepth 100000 in
set_option maxHeartbeats 6400000 in
theorem sameStoreS (x y : StV) (a : Option Addr) (c : Nat) (a' : Option Addr) (c' : Nat) (A B : Nat → Prop) (w : World) (ho : (dRowSS x.tables).le maxLen) (ho' : (dRowSS y.tables).le maxLen) (hA : Rd w A (dRowSS x.tables) (.slice a x.tables.length c)) (hB : Rd w B (dRowSS y.tables) (.slice a' y.tables.length c')) :
    Calls Try.prog 23 #[.agg #[.slice a x.tables.length c, .int .i64 x.next], .agg #[.slice a' y.tables.length c', .int .i64 y.next]] w fun e w' => e = .returned (.bool (eqB x y)) ∧ Below w.heap.size w w' := by
  have hb := box2D 33 w #[.slice a x.tables.length c, .int .i64 x.next] #[.slice a' y.tables.length c', .int .i64 y.next]
  have hl : x.tables.length ≤ maxLen := (Ls_le.1 ho).2.1
  unfold maxLen at hl
  have HX : Hid (∀ i (h : i < x.tables.length) j, j < 1 → (cRowS x.tables[i] j).le maxLen) := (Ls_le.1 ho).2.2
  have HX' : Hid (∀ i (h : i < y.tables.length) j, j < 1 → (cRowS y.tables[i] j).le maxLen) := (Ls_le.1 ho').2.2
  have HA : Hid (∀ W, Below w.heap.size w W → Rd W A (Ls 1 cRowS x.tables) (.slice a x.tables.length c)) := fun W h => Rd.later hA h
  have HB : Hid (∀ W, Below w.heap.size w W → Rd W B (Ls 1 cRowS y.tables) (.slice a' y.tables.length c')) := fun W h => Rd.later hB h
  clear ho ho' hA hB
  have x0 := cell_at (o := 0) hb.a rfl
  have x1 := cell_at (o := 1) hb.a rfl
  have y0 := cell_at (o := 0) hb.b rfl
  have y1 := cell_at (o := 1) hb.b rfl
  by_cases hi : x.next = y.next
  case neg =>
    have HR : Hid (eqB x y = false) := eqB_no (fun e => hi (by rw [e]))
    have hie : (x.next != y.next) = true := by simpa using hi
    clear hi
    go_enter Try.func23, Try.ntmps23
    go_wp2_with fail
    go_ret
    exact ⟨ret_b HR.out.symm, hb.bel⟩
  have hie : (x.next != y.next) = false := by simpa using hi
  have HP : Hid (eqB x y = eqB x.tables y.tables) := eqStore_parts hi
  clear hi
  by_cases hn : x.tables.length = y.tables.length
  case neg =>
    have HR : Hid (eqB x y = false) := HP.out.trans (eqB_no (fun e => hn (by rw [e])))
    have hd : ((x.tables.length : Int) != (y.tables.length : Int)) = true := by simp; omega
    go_enter Try.func23, Try.ntmps23
    go_wp2_with fail
    go_ret
    exact ⟨ret_b HR.out.symm, hb.bel⟩
  have hd : ((x.tables.length : Int) != (y.tables.length : Int)) = false := by simp; omega
  have HN := Lib.hid hn
  have H0 := Lib.hid hb
  clear hn
  go_enter Try.func23, Try.ntmps23
  go_wp2_with fail
  clear x0 x1 y0 y1 hb hie hd
  go_loopw [5] (fun t wr => ∃ i : Nat, i ≤ x.tables.length ∧ t = .int .i64 i ∧ Hid ((∀ m (h : m < x.tables.length) (h' : m < y.tables.length), m < i → x.tables[m] = y.tables[m]) ∧ Box2D 33 w wr #[.slice a x.tables.length c, .int .i64 x.next] #[.slice a' y.tables.length c', .int .i64 y.next])) (fun t _ => x.tables.length - (intOf t).toNat)
  case atStart => exact ⟨0, Nat.zero_le _, rfl, fun m _ _ h => absurd h (by omega), H0.out⟩
  case round =>
    obtain ⟨i, hi, rfl, HW⟩ := hrel
    have x0 := cell_at (o := 0) HW.out.2.a rfl
    have y0 := cell_at (o := 0) HW.out.2.b rfl
    by_cases hlt : i < x.tables.length
    case neg =>
      have hki : decide ((i : Int) < (x.tables.length : Int)) = false := by simp; omega
      have HR : Hid (eqB x y = true) := HP.out.trans (eqB_all HN.out (fun m h h' _ => HW.out.1 m h h' (by omega)))
      go_wp2_with fail
      go_ret
      exact ⟨ret_b HR.out.symm, HW.out.2.bel⟩
    have hlt' : i < y.tables.length := by have := HN.out; omega
    have hki : (i : Int) < (x.tables.length : Int) := by omega
    have hkj : (i : Int) < (y.tables.length : Int) := by omega
    obtain ⟨b, off, rfl, -, hc⟩ := (HA.out _ HW.out.2.bel).things i hlt
    obtain ⟨mb, moff, rfl, -, hd⟩ := (HB.out _ HW.out.2.bel).things i hlt'
    obtain ⟨u0, c0, r0⟩ := hc 0 (by omega)
    replace r0 : Rd wr A (dRowS x.tables[i]) u0 := r0
    obtain ⟨ra, rq, rfl⟩ := r0.lsSlice
    rw [Nat.mul_one] at c0
    replace c0 : wr.cell? ⟨b, off + i, none⟩ = _ := c0
    obtain ⟨v0, d0, s0⟩ := hd 0 (by omega)
    replace s0 : Rd wr B (dRowS y.tables[i]) v0 := s0
    obtain ⟨sa, sq, rfl⟩ := s0.lsSlice
    rw [Nat.mul_one] at d0
    replace d0 : wr.cell? ⟨mb, moff + i, none⟩ = _ := d0
    clear hc hd
    have HC : Hid (∀ W, Below wr.heap.size wr W → W.cell? ⟨b, off + i, none⟩ = some (.slice ra x.tables[i].length rq) ∧ W.cell? ⟨mb, moff + i, none⟩ = some (.slice sa y.tables[i].length sq)) := fun W h => ⟨(h.cell (p := ⟨b, off + i, none⟩) (World.block_lt_of_cell? _ _ c0)).trans c0, (h.cell (p := ⟨mb, moff + i, none⟩) (World.block_lt_of_cell? _ _ d0)).trans d0⟩
    have RA : Hid (∀ W, Below wr.heap.size wr W → Rd W A (Ls 2 dRow x.tables[i]) (.slice ra x.tables[i].length rq)) := fun W h => Rd.later r0 h
    have RB : Hid (∀ W, Below wr.heap.size wr W → Rd W B (Ls 2 dRow y.tables[i]) (.slice sa y.tables[i].length sq)) := fun W h => Rd.later s0 h
    have KA : Hid ((dRowS x.tables[i]).le maxLen) := HX.out i hlt 0 (by omega)
    have KB : Hid ((dRowS y.tables[i]).le maxLen) := HX'.out i hlt' 0 (by omega)
    have HV := Lib.hid HW.out.2
    have hll : x.tables[i].length ≤ maxLen := (Ls_le.1 KA.out).2.1
    unfold maxLen at hll
    clear r0 s0
    by_cases hn : x.tables[i].length = y.tables[i].length
    case neg =>
      have HR : Hid (eqB x y = false) := HP.out.trans (eqB_at hlt hlt' (fun e => hn (by rw [e])))
      have hd : ((x.tables[i].length : Int) != (y.tables[i].length : Int)) = true := by simp; omega
      generalize x.tables[i] = la at *
      generalize y.tables[i] = lb at *
      go_wp2_with fail
      go_quiet (fail)
      go_wp2_with fail
      go_ret
      exact ⟨ret_b HR.out.symm, (HV.out.later (below_drewN (Below.refl _ _) _)).bel⟩
    have hd : ((x.tables[i].length : Int) != (y.tables[i].length : Int)) = false := by simp; omega
    have HNL := Lib.hid hn
    have HG : Hid (x.tables[i] = y.tables[i] → ∀ m (h : m < x.tables.length) (h' : m < y.tables.length), m < i + 1 → x.tables[m] = y.tables[m]) := fun he m h h' hm => by
      by_cases e : m = i
      · subst e; exact he
      · exact HW.out.1 m h h' (by omega)
    have HNO : Hid (¬ x.tables[i] = y.tables[i] → eqB x y = false) := fun he => HP.out.trans (eqB_at hlt hlt' he)
    clear hn HW
    generalize x.tables[i] = la at *
    generalize y.tables[i] = lb at *
    go_wp2_with fail
    go_quiet (fail)
    go_wp2_with fail
    have H1 : Hid (∀ n, Below wr.heap.size wr (wr.drewN n) ∧ Box2D 33 w (wr.drewN n) #[.slice (some ⟨b, off, none⟩) x.tables.length c, .int .i64 x.next] #[.slice (some ⟨mb, moff, none⟩) y.tables.length c', .int .i64 y.next]) := fun n => ⟨below_drewN (Below.refl _ _) _, HV.out.later (below_drewN (Below.refl _ _) _)⟩
    clear x0 y0 c0 d0 hd
    go_loopw [6] (fun t wq => ∃ k : Nat, k ≤ la.length ∧ t = .int .i64 k ∧ Hid ((∀ m (h : m < la.length) (h' : m < lb.length), m < k → la[m] = lb[m]) ∧ Below wr.heap.size wr wq ∧ Box2D 33 w wq #[.slice (some ⟨b, off, none⟩) x.tables.length c, .int .i64 x.next] #[.slice (some ⟨mb, moff, none⟩) y.tables.length c', .int .i64 y.next])) (fun t _ => la.length - (intOf t).toNat)
    case atStart => exact ⟨0, Nat.zero_le _, rfl, fun m _ _ h => absurd h (by omega), H1.out _⟩
    case round =>
      obtain ⟨k, hk, rfl, HQ⟩ := hrel
      have hx := HQ.out.2
      have x0 := cell_at (o := 0) hx.2.a rfl
      have y0 := cell_at (o := 0) hx.2.b rfl
      have c0 := (HC.out _ hx.1).1
      have d0 := (HC.out _ hx.1).2
      by_cases hkl : k < la.length
      case neg =>
        have hkd : decide ((k : Int) < (la.length : Int)) = false := by simp; omega
        have HE : Hid (∀ m (h : m < x.tables.length) (h' : m < y.tables.length), m < i + 1 → x.tables[m] = y.tables[m]) := HG.out (List.ext_getElem HNL.out (fun m h1 h2 => HQ.out.1 m h1 h2 (by omega)))
        go_wp2_with fail
        go_roundw
        case rel => exact ⟨i + 1, by omega, by go_num, HE.out, hx.2⟩
        case measure => simp [intOf]; omega
      have hkl' : k < lb.length := by have := HNL.out; omega
      have hk1 : (k : Int) < (la.length : Int) := by omega
      have hk2 : (k : Int) < (lb.length : Int) := by omega
      obtain ⟨rb, roff, rfl, -, hc⟩ := (RA.out _ hx.1).things k hkl
      obtain ⟨sb, soff, rfl, -, hd⟩ := (RB.out _ hx.1).things k hkl'
      obtain ⟨u0, e0, r0⟩ := hc 0 (by omega)
      obtain rfl : u0 = .int .i64 la[k].id := r0
      obtain ⟨u1, e1, r1⟩ := hc 1 (by omega)
      replace r1 : Rd wr A (dAtomSS la[k].cells) u1 := r1
      obtain ⟨ea, eq, rfl⟩ := r1.lsSlice
      replace e0 : wr.cell? ⟨rb, roff + k * 2, none⟩ = _ := e0
      obtain ⟨v0, f0, s0⟩ := hd 0 (by omega)
      obtain rfl : v0 = .int .i64 lb[k].id := s0
      obtain ⟨v1, f1, s1⟩ := hd 1 (by omega)
      replace s1 : Rd wr B (dAtomSS lb[k].cells) v1 := s1
      obtain ⟨fa, fq, rfl⟩ := s1.lsSlice
      replace f0 : wr.cell? ⟨sb, soff + k * 2, none⟩ = _ := f0
      clear hc hd
      have LT : Hid (∀ W, Below wr.heap.size wr W → Box2D 33 w W #[.slice (some ⟨b, off, none⟩) x.tables.length c, .int .i64 x.next] #[.slice (some ⟨mb, moff, none⟩) y.tables.length c', .int .i64 y.next]) := fun W h => HQ.out.2.2.later h
      have CE : Hid (∀ W, Below wr.heap.size wr W → W.cell? ⟨w.heap.size, 0, none⟩ = some (.slice (some ⟨b, off, none⟩) x.tables.length c) ∧ W.cell? ⟨w.heap.size + 1, 0, none⟩ = some (.slice (some ⟨mb, moff, none⟩) y.tables.length c') ∧ W.cell? ⟨b, off + i, none⟩ = some (.slice (some ⟨rb, roff, none⟩) la.length rq) ∧ W.cell? ⟨mb, moff + i, none⟩ = some (.slice (some ⟨sb, soff, none⟩) lb.length sq) ∧ W.cell? ⟨rb, roff + k * 2, none⟩ = some (.int .i64 la[k].id) ∧ W.cell? ⟨rb, roff + k * 2 + 1, none⟩ = some (.slice ea la[k].cells.length eq) ∧ W.cell? ⟨sb, soff + k * 2, none⟩ = some (.int .i64 lb[k].id) ∧ W.cell? ⟨sb, soff + k * 2 + 1, none⟩ = some (.slice fa lb[k].cells.length fq)) := fun W h => ⟨cell_at (o := 0) (LT.out W h).a rfl, cell_at (o := 0) (LT.out W h).b rfl, (h.cell (p := ⟨b, off + i, none⟩) (World.block_lt_of_cell? _ _ c0)).trans c0, (h.cell (p := ⟨mb, moff + i, none⟩) (World.block_lt_of_cell? _ _ d0)).trans d0, (h.cell (p := ⟨rb, roff + k * 2, none⟩) (World.block_lt_of_cell? _ _ e0)).trans e0, (h.cell (p := ⟨rb, roff + k * 2 + 1, none⟩) (World.block_lt_of_cell? _ _ e1)).trans e1, (h.cell (p := ⟨sb, soff + k * 2, none⟩) (World.block_lt_of_cell? _ _ f0)).trans f0, (h.cell (p := ⟨sb, soff + k * 2 + 1, none⟩) (World.block_lt_of_cell? _ _ f1)).trans f1⟩
      have CC : Hid (∀ W, Below wr.heap.size wr W → Calls Try.prog 49 #[.agg #[.int .i64 la[k].id, .slice ea la[k].cells.length eq], .agg #[.int .i64 lb[k].id, .slice fa lb[k].cells.length fq]] W fun e w' => e = .returned (.bool (eqB la[k] lb[k])) ∧ Below wr.heap.size wr w') := fun W h => (sameRowS la[k] lb[k] ea eq fa fq A B W ((Ls_le.1 KA.out).2.2 k hkl 1 (by omega)) ((Ls_le.1 KB.out).2.2 k hkl' 1 (by omega)) (r1.later h) (s1.later h)).mono (fun e w' ⟨he, hB⟩ => ⟨he, h.trans (hB.mono h.size)⟩)
      have HB1 := Lib.hid hx.1
      clear r1 s1 hx
      have hx := Below.refl wr.heap.size wr
      by_cases he : la[k] = lb[k]
      case pos =>
        have HK : Hid (∀ m (h : m < la.length) (h' : m < lb.length), m < k + 1 → la[m] = lb[m]) := fun m h h' hm => by
          by_cases e : m = k
          · subst e; exact he
          · exact HQ.out.1 m h h' (by omega)
        rw [eqB_yes he] at CC
        clear he HQ
        generalize la[k] = p at *
        generalize lb[k] = q at *
        go_wp2_with fail
        refine wp_region_held_drew (S := (fun W => W.cell? ⟨w.heap.size, 0, none⟩ = some (.slice (some ⟨b, off, none⟩) x.tables.length c) ∧ W.cell? ⟨w.heap.size + 1, 0, none⟩ = some (.slice (some ⟨mb, moff, none⟩) y.tables.length c') ∧ W.cell? ⟨b, off + i, none⟩ = some (.slice (some ⟨rb, roff, none⟩) la.length rq) ∧ W.cell? ⟨mb, moff + i, none⟩ = some (.slice (some ⟨sb, soff, none⟩) lb.length sq) ∧ W.cell? ⟨rb, roff + k * 2, none⟩ = some (.int .i64 p.id) ∧ W.cell? ⟨rb, roff + k * 2 + 1, none⟩ = some (.slice ea p.cells.length eq) ∧ W.cell? ⟨sb, soff + k * 2, none⟩ = some (.int .i64 q.id) ∧ W.cell? ⟨sb, soff + k * 2 + 1, none⟩ = some (.slice fa q.cells.length fq))) (by kernel_rfl) ?_ (fun hHeld => ?_)
        · (first | exact CE.out _ hx | exact CE.out _ hx.drew)
        refine wpAnyH_take (i := 0) (v := ?_) rfl (by kernel_rfl) (by kernel_rfl) (by kernel_rfl) (fun _ _ _ h => h) (Or.inl ⟨by kernel_rfl, ?_⟩) (by assumption) ?_
        rotate_left
        · (intro wS hSw; (try dsimp only at hSw); go_simp <;> with_reducible rfl)
        try simp only [Act.put, List.getElem_toArray, List.getElem_cons_succ, List.getElem_cons_zero, List.setIfInBounds_toArray, List.set_cons_zero, List.set_cons_succ]
        refine wpAnyH_take (i := 1) (v := ?_) rfl (by kernel_rfl) (by kernel_rfl) (by kernel_rfl) (fun _ _ _ h => h) (Or.inl ⟨by kernel_rfl, ?_⟩) (by assumption) ?_
        rotate_left
        · (intro wS hSw; (try dsimp only at hSw); go_simp <;> with_reducible rfl)
        try simp only [Act.put, List.getElem_toArray, List.getElem_cons_succ, List.getElem_cons_zero, List.setIfInBounds_toArray, List.set_cons_zero, List.set_cons_succ]
        refine wpAnyH_take (i := 2) (v := ?_) rfl (by kernel_rfl) (by kernel_rfl) (by kernel_rfl) (fun _ _ _ h => h) (Or.inl ⟨by kernel_rfl, ?_⟩) (by assumption) ?_
        rotate_left
        · (intro wS hSw; (try dsimp only at hSw); go_simp <;> with_reducible rfl)
        try simp only [Act.put, List.getElem_toArray, List.getElem_cons_succ, List.getElem_cons_zero, List.setIfInBounds_toArray, List.set_cons_zero, List.set_cons_succ]
        refine wpAnyH_take (i := 3) (v := ?_) rfl (by kernel_rfl) (by kernel_rfl) (by kernel_rfl) (fun _ _ _ h => h) (Or.inl ⟨by kernel_rfl, ?_⟩) (by assumption) ?_
        rotate_left
        · (intro wS hSw; (try dsimp only at hSw); go_simp <;> with_reducible rfl)
        try simp only [Act.put, List.getElem_toArray, List.getElem_cons_succ, List.getElem_cons_zero, List.setIfInBounds_toArray, List.set_cons_zero, List.set_cons_succ]
        refine wpAnyH_take (i := 4) (v := ?_) rfl (by kernel_rfl) (by kernel_rfl) (by kernel_rfl) (fun _ _ _ h => h) (Or.inl ⟨by kernel_rfl, ?_⟩) (by assumption) ?_
        rotate_left
        · (intro wS hSw; (try dsimp only at hSw); go_simp <;> with_reducible rfl)
        try simp only [Act.put, List.getElem_toArray, List.getElem_cons_succ, List.getElem_cons_zero, List.setIfInBounds_toArray, List.set_cons_zero, List.set_cons_succ]
        refine wpAnyH_take (i := 5) (v := ?_) rfl (by kernel_rfl) (by kernel_rfl) (by kernel_rfl) (fun _ _ _ h => h) (Or.inl ⟨by kernel_rfl, ?_⟩) (by assumption) ?_
        rotate_left
        · (intro wS hSw; (try dsimp only at hSw); go_simp <;> with_reducible rfl)
        try simp only [Act.put, List.getElem_toArray, List.getElem_cons_succ, List.getElem_cons_zero, List.setIfInBounds_toArray, List.set_cons_zero, List.set_cons_succ]
        refine wpAnyH_take (i := 6) (v := ?_) rfl (by kernel_rfl) (by kernel_rfl) (by kernel_rfl) (fun _ _ _ h => h) (Or.inl ⟨by kernel_rfl, ?_⟩) (by assumption) ?_
        rotate_left
        · (intro wS hSw; (try dsimp only at hSw); go_simp <;> with_reducible rfl)
        try simp only [Act.put, List.getElem_toArray, List.getElem_cons_succ, List.getElem_cons_zero, List.setIfInBounds_toArray, List.set_cons_zero, List.set_cons_succ]
        refine wpAnyH_take (i := 7) (v := ?_) rfl (by kernel_rfl) (by kernel_rfl) (by kernel_rfl) (fun _ _ _ h => h) (Or.inl ⟨by kernel_rfl, ?_⟩) (by assumption) ?_
        rotate_left
        · (intro wS hSw; (try dsimp only at hSw); go_simp <;> with_reducible rfl)
        try simp only [Act.put, List.getElem_toArray, List.getElem_cons_succ, List.getElem_cons_zero, List.setIfInBounds_toArray, List.set_cons_zero, List.set_cons_succ]
        refine wpAnyH_take (i := 8) (v := ?_) rfl (by kernel_rfl) (by kernel_rfl) (by kernel_rfl) (fun _ _ _ h => h) (Or.inl ⟨by kernel_rfl, ?_⟩) (by assumption) ?_
        rotate_left
        · (intro wS hSw; (try dsimp only at hSw); go_simp <;> with_reducible rfl)
        try simp only [Act.put, List.getElem_toArray, List.getElem_cons_succ, List.getElem_cons_zero, List.setIfInBounds_toArray, List.set_cons_zero, List.set_cons_succ]
        refine wpAnyH_take (i := 9) (v := ?_) rfl (by kernel_rfl) (by kernel_rfl) (by kernel_rfl) (fun _ _ _ h => h) (Or.inl ⟨by kernel_rfl, ?_⟩) (by assumption) ?_
        rotate_left
        · (intro wS hSw; (try dsimp only at hSw); go_simp <;> with_reducible rfl)
        try simp only [Act.put, List.getElem_toArray, List.getElem_cons_succ, List.getElem_cons_zero, List.setIfInBounds_toArray, List.set_cons_zero, List.set_cons_succ]
        refine wpAnyH_take (i := 10) (v := ?_) rfl (by kernel_rfl) (by kernel_rfl) (by kernel_rfl) (fun _ _ _ h => h) (Or.inl ⟨by kernel_rfl, ?_⟩) (by assumption) ?_
        rotate_left
        · (intro wS hSw; (try dsimp only at hSw); go_simp <;> with_reducible rfl)
        try simp only [Act.put, List.getElem_toArray, List.getElem_cons_succ, List.getElem_cons_zero, List.setIfInBounds_toArray, List.set_cons_zero, List.set_cons_succ]
        refine wpAnyH_take (i := 11) (v := ?_) rfl (by kernel_rfl) (by kernel_rfl) (by kernel_rfl) (fun _ _ _ h => h) (Or.inl ⟨by kernel_rfl, ?_⟩) (by assumption) ?_
        rotate_left
        · (intro wS hSw; (try dsimp only at hSw); go_simp <;> with_reducible rfl)
        try simp only [Act.put, List.getElem_toArray, List.getElem_cons_succ, List.getElem_cons_zero, List.setIfInBounds_toArray, List.set_cons_zero, List.set_cons_succ]
        refine wpAnyH_take (i := 12) (v := ?_) rfl (by kernel_rfl) (by kernel_rfl) (by kernel_rfl) (fun _ _ _ h => h) (Or.inl ⟨by kernel_rfl, ?_⟩) (by assumption) ?_
        rotate_left
        · (intro wS hSw; (try dsimp only at hSw); go_simp <;> with_reducible rfl)
        try simp only [Act.put, List.getElem_toArray, List.getElem_cons_succ, List.getElem_cons_zero, List.setIfInBounds_toArray, List.set_cons_zero, List.set_cons_succ]
        refine wpAnyH_take (i := 13) (v := ?_) rfl (by kernel_rfl) (by kernel_rfl) (by kernel_rfl) (fun _ _ _ h => h) (Or.inl ⟨by kernel_rfl, ?_⟩) (by assumption) ?_
        rotate_left
        · (intro wS hSw; (try dsimp only at hSw); go_simp <;> with_reducible rfl)
        try simp only [Act.put, List.getElem_toArray, List.getElem_cons_succ, List.getElem_cons_zero, List.setIfInBounds_toArray, List.set_cons_zero, List.set_cons_succ]
        refine wpAnyH_take (i := 14) (v := ?_) rfl (by kernel_rfl) (by kernel_rfl) (by kernel_rfl) (fun _ _ _ h => h) (Or.inl ⟨by kernel_rfl, ?_⟩) (by assumption) ?_
        rotate_left
        · (intro wS hSw; (try dsimp only at hSw); go_simp <;> with_reducible rfl)
        try simp only [Act.put, List.getElem_toArray, List.getElem_cons_succ, List.getElem_cons_zero, List.setIfInBounds_toArray, List.set_cons_zero, List.set_cons_succ]
        refine wpAnyH_take (i := 15) (v := ?_) rfl (by kernel_rfl) (by kernel_rfl) (by kernel_rfl) (fun _ _ _ h => h) (Or.inl ⟨by kernel_rfl, ?_⟩) (by assumption) ?_
        rotate_left
        · (intro wS hSw; (try dsimp only at hSw); go_simp <;> with_reducible rfl)
        try simp only [Act.put, List.getElem_toArray, List.getElem_cons_succ, List.getElem_cons_zero, List.setIfInBounds_toArray, List.set_cons_zero, List.set_cons_succ]
        refine wpAnyH_ready (rs := [16]) (by kernel_rfl) (by simp) (AllReadyH.cons rfl (fun K hK => ?_) AllReadyH.nil)
        go_simp
        (go_at_call 49; refine (CC.out _ (by first | exact hx | exact hx.drew)).mono ?_; rintro e w1 ⟨rfl, hx⟩)
        refine hK.out _ _ ?_ (fun hHeld => ?_)
        · (first | exact CE.out _ hx | exact CE.out _ hx.drew)
        clear hK K
        try simp only [Act.put, List.getElem_toArray, List.getElem_cons_succ, List.getElem_cons_zero, List.setIfInBounds_toArray, List.set_cons_zero, List.set_cons_succ]
        refine wpAnyH_take (i := 17) (v := ?_) rfl (by kernel_rfl) (by kernel_rfl) (by kernel_rfl) (fun _ _ _ h => h) (Or.inl ⟨by kernel_rfl, ?_⟩) (by assumption) ?_
        rotate_left
        · (intro wS hSw; (try dsimp only at hSw); go_simp <;> with_reducible rfl)
        try simp only [Act.put, List.getElem_toArray, List.getElem_cons_succ, List.getElem_cons_zero, List.setIfInBounds_toArray, List.set_cons_zero, List.set_cons_succ]
        refine wpAnyH_done (by kernel_rfl) ?_ _
        go_wp2_with fail
        go_roundw
        case rel => exact ⟨k + 1, by omega, by go_num, HK.out, HB1.out.trans (Below.mono (by first | exact hx | exact hx.drew) HB1.out.size), LT.out _ (by first | exact hx | exact hx.drew)⟩
        case measure => simp [intOf]; omega
      have HR : Hid (eqB x y = false) := HNO.out (fun e => he (by subst e; rfl))
      rw [eqB_no he] at CC
      clear he HQ
      generalize la[k] = p at *
      generalize lb[k] = q at *
      go_wp2_with fail
      refine wp_region_held_drew (S := (fun W => W.cell? ⟨w.heap.size, 0, none⟩ = some (.slice (some ⟨b, off, none⟩) x.tables.length c) ∧ W.cell? ⟨w.heap.size + 1, 0, none⟩ = some (.slice (some ⟨mb, moff, none⟩) y.tables.length c') ∧ W.cell? ⟨b, off + i, none⟩ = some (.slice (some ⟨rb, roff, none⟩) la.length rq) ∧ W.cell? ⟨mb, moff + i, none⟩ = some (.slice (some ⟨sb, soff, none⟩) lb.length sq) ∧ W.cell? ⟨rb, roff + k * 2, none⟩ = some (.int .i64 p.id) ∧ W.cell? ⟨rb, roff + k * 2 + 1, none⟩ = some (.slice ea p.cells.length eq) ∧ W.cell? ⟨sb, soff + k * 2, none⟩ = some (.int .i64 q.id) ∧ W.cell? ⟨sb, soff + k * 2 + 1, none⟩ = some (.slice fa q.cells.length fq))) (by kernel_rfl) ?_ (fun hHeld => ?_)
      · (first | exact CE.out _ hx | exact CE.out _ hx.drew)
      refine wpAnyH_take (i := 0) (v := ?_) rfl (by kernel_rfl) (by kernel_rfl) (by kernel_rfl) (fun _ _ _ h => h) (Or.inl ⟨by kernel_rfl, ?_⟩) (by assumption) ?_
      rotate_left
      · (intro wS hSw; (try dsimp only at hSw); go_simp <;> with_reducible rfl)
      try simp only [Act.put, List.getElem_toArray, List.getElem_cons_succ, List.getElem_cons_zero, List.setIfInBounds_toArray, List.set_cons_zero, List.set_cons_succ]
      refine wpAnyH_take (i := 1) (v := ?_) rfl (by kernel_rfl) (by kernel_rfl) (by kernel_rfl) (fun _ _ _ h => h) (Or.inl ⟨by kernel_rfl, ?_⟩) (by assumption) ?_
      rotate_left
      · (intro wS hSw; (try dsimp only at hSw); go_simp <;> with_reducible rfl)
      try simp only [Act.put, List.getElem_toArray, List.getElem_cons_succ, List.getElem_cons_zero, List.setIfInBounds_toArray, List.set_cons_zero, List.set_cons_succ]
      refine wpAnyH_take (i := 2) (v := ?_) rfl (by kernel_rfl) (by kernel_rfl) (by kernel_rfl) (fun _ _ _ h => h) (Or.inl ⟨by kernel_rfl, ?_⟩) (by assumption) ?_
      rotate_left
      · (intro wS hSw; (try dsimp only at hSw); go_simp <;> with_reducible rfl)
      try simp only [Act.put, List.getElem_toArray, List.getElem_cons_succ, List.getElem_cons_zero, List.setIfInBounds_toArray, List.set_cons_zero, List.set_cons_succ]
      refine wpAnyH_take (i := 3) (v := ?_) rfl (by kernel_rfl) (by kernel_rfl) (by kernel_rfl) (fun _ _ _ h => h) (Or.inl ⟨by kernel_rfl, ?_⟩) (by assumption) ?_
      rotate_left
      · (intro wS hSw; (try dsimp only at hSw); go_simp <;> with_reducible rfl)
      try simp only [Act.put, List.getElem_toArray, List.getElem_cons_succ, List.getElem_cons_zero, List.setIfInBounds_toArray, List.set_cons_zero, List.set_cons_succ]
      refine wpAnyH_take (i := 4) (v := ?_) rfl (by kernel_rfl) (by kernel_rfl) (by kernel_rfl) (fun _ _ _ h => h) (Or.inl ⟨by kernel_rfl, ?_⟩) (by assumption) ?_
      rotate_left
      · (intro wS hSw; (try dsimp only at hSw); go_simp <;> with_reducible rfl)
      try simp only [Act.put, List.getElem_toArray, List.getElem_cons_succ, List.getElem_cons_zero, List.setIfInBounds_toArray, List.set_cons_zero, List.set_cons_succ]
      refine wpAnyH_take (i := 5) (v := ?_) rfl (by kernel_rfl) (by kernel_rfl) (by kernel_rfl) (fun _ _ _ h => h) (Or.inl ⟨by kernel_rfl, ?_⟩) (by assumption) ?_
      rotate_left
      · (intro wS hSw; (try dsimp only at hSw); go_simp <;> with_reducible rfl)
      try simp only [Act.put, List.getElem_toArray, List.getElem_cons_succ, List.getElem_cons_zero, List.setIfInBounds_toArray, List.set_cons_zero, List.set_cons_succ]
      refine wpAnyH_take (i := 6) (v := ?_) rfl (by kernel_rfl) (by kernel_rfl) (by kernel_rfl) (fun _ _ _ h => h) (Or.inl ⟨by kernel_rfl, ?_⟩) (by assumption) ?_
      rotate_left
      · (intro wS hSw; (try dsimp only at hSw); go_simp <;> with_reducible rfl)
      try simp only [Act.put, List.getElem_toArray, List.getElem_cons_succ, List.getElem_cons_zero, List.setIfInBounds_toArray, List.set_cons_zero, List.set_cons_succ]
      refine wpAnyH_take (i := 7) (v := ?_) rfl (by kernel_rfl) (by kernel_rfl) (by kernel_rfl) (fun _ _ _ h => h) (Or.inl ⟨by kernel_rfl, ?_⟩) (by assumption) ?_
      rotate_left
      · (intro wS hSw; (try dsimp only at hSw); go_simp <;> with_reducible rfl)
      try simp only [Act.put, List.getElem_toArray, List.getElem_cons_succ, List.getElem_cons_zero, List.setIfInBounds_toArray, List.set_cons_zero, List.set_cons_succ]
      refine wpAnyH_take (i := 8) (v := ?_) rfl (by kernel_rfl) (by kernel_rfl) (by kernel_rfl) (fun _ _ _ h => h) (Or.inl ⟨by kernel_rfl, ?_⟩) (by assumption) ?_
      rotate_left
      · (intro wS hSw; (try dsimp only at hSw); go_simp <;> with_reducible rfl)
      try simp only [Act.put, List.getElem_toArray, List.getElem_cons_succ, List.getElem_cons_zero, List.setIfInBounds_toArray, List.set_cons_zero, List.set_cons_succ]
      refine wpAnyH_take (i := 9) (v := ?_) rfl (by kernel_rfl) (by kernel_rfl) (by kernel_rfl) (fun _ _ _ h => h) (Or.inl ⟨by kernel_rfl, ?_⟩) (by assumption) ?_
      rotate_left
      · (intro wS hSw; (try dsimp only at hSw); go_simp <;> with_reducible rfl)
      try simp only [Act.put, List.getElem_toArray, List.getElem_cons_succ, List.getElem_cons_zero, List.setIfInBounds_toArray, List.set_cons_zero, List.set_cons_succ]
      refine wpAnyH_take (i := 10) (v := ?_) rfl (by kernel_rfl) (by kernel_rfl) (by kernel_rfl) (fun _ _ _ h => h) (Or.inl ⟨by kernel_rfl, ?_⟩) (by assumption) ?_
      rotate_left
      · (intro wS hSw; (try dsimp only at hSw); go_simp <;> with_reducible rfl)
      try simp only [Act.put, List.getElem_toArray, List.getElem_cons_succ, List.getElem_cons_zero, List.setIfInBounds_toArray, List.set_cons_zero, List.set_cons_succ]
      refine wpAnyH_take (i := 11) (v := ?_) rfl (by kernel_rfl) (by kernel_rfl) (by kernel_rfl) (fun _ _ _ h => h) (Or.inl ⟨by kernel_rfl, ?_⟩) (by assumption) ?_
      rotate_left
      · (intro wS hSw; (try dsimp only at hSw); go_simp <;> with_reducible rfl)
      try simp only [Act.put, List.getElem_toArray, List.getElem_cons_succ, List.getElem_cons_zero, List.setIfInBounds_toArray, List.set_cons_zero, List.set_cons_succ]
      refine wpAnyH_take (i := 12) (v := ?_) rfl (by kernel_rfl) (by kernel_rfl) (by kernel_rfl) (fun _ _ _ h => h) (Or.inl ⟨by kernel_rfl, ?_⟩) (by assumption) ?_
      rotate_left
      · (intro wS hSw; (try dsimp only at hSw); go_simp <;> with_reducible rfl)
      try simp only [Act.put, List.getElem_toArray, List.getElem_cons_succ, List.getElem_cons_zero, List.setIfInBounds_toArray, List.set_cons_zero, List.set_cons_succ]
      refine wpAnyH_take (i := 13) (v := ?_) rfl (by kernel_rfl) (by kernel_rfl) (by kernel_rfl) (fun _ _ _ h => h) (Or.inl ⟨by kernel_rfl, ?_⟩) (by assumption) ?_
      rotate_left
      · (intro wS hSw; (try dsimp only at hSw); go_simp <;> with_reducible rfl)
      try simp only [Act.put, List.getElem_toArray, List.getElem_cons_succ, List.getElem_cons_zero, List.setIfInBounds_toArray, List.set_cons_zero, List.set_cons_succ]
      refine wpAnyH_take (i := 14) (v := ?_) rfl (by kernel_rfl) (by kernel_rfl) (by kernel_rfl) (fun _ _ _ h => h) (Or.inl ⟨by kernel_rfl, ?_⟩) (by assumption) ?_
      rotate_left
      · (intro wS hSw; (try dsimp only at hSw); go_simp <;> with_reducible rfl)
      try simp only [Act.put, List.getElem_toArray, List.getElem_cons_succ, List.getElem_cons_zero, List.setIfInBounds_toArray, List.set_cons_zero, List.set_cons_succ]
      refine wpAnyH_take (i := 15) (v := ?_) rfl (by kernel_rfl) (by kernel_rfl) (by kernel_rfl) (fun _ _ _ h => h) (Or.inl ⟨by kernel_rfl, ?_⟩) (by assumption) ?_
      rotate_left
      · (intro wS hSw; (try dsimp only at hSw); go_simp <;> with_reducible rfl)
      try simp only [Act.put, List.getElem_toArray, List.getElem_cons_succ, List.getElem_cons_zero, List.setIfInBounds_toArray, List.set_cons_zero, List.set_cons_succ]
      refine wpAnyH_ready (rs := [16]) (by kernel_rfl) (by simp) (AllReadyH.cons rfl (fun K hK => ?_) AllReadyH.nil)
      go_simp
      (go_at_call 49; refine (CC.out _ (by first | exact hx | exact hx.drew)).mono ?_; rintro e w1 ⟨rfl, hx⟩)
      refine hK.out _ _ ?_ (fun hHeld => ?_)
      · (first | exact CE.out _ hx | exact CE.out _ hx.drew)
      clear hK K
      try simp only [Act.put, List.getElem_toArray, List.getElem_cons_succ, List.getElem_cons_zero, List.setIfInBounds_toArray, List.set_cons_zero, List.set_cons_succ]
      refine wpAnyH_take (i := 17) (v := ?_) rfl (by kernel_rfl) (by kernel_rfl) (by kernel_rfl) (fun _ _ _ h => h) (Or.inl ⟨by kernel_rfl, ?_⟩) (by assumption) ?_
      rotate_left
      · (intro wS hSw; (try dsimp only at hSw); go_simp <;> with_reducible rfl)
      try simp only [Act.put, List.getElem_toArray, List.getElem_cons_succ, List.getElem_cons_zero, List.setIfInBounds_toArray, List.set_cons_zero, List.set_cons_succ]
      refine wpAnyH_done (by kernel_rfl) ?_ _
      go_wp2_with fail
      go_ret
      exact ⟨ret_b HR.out.symm, (LT.out _ (by first | exact hx | exact hx.drew)).bel⟩
end Go.Proofs.Ytphdikbapmllnaa
