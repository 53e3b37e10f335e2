import Derived.Test.YtdhlndpobpdfmaaZay
namespace Go.Proofs.Ytdhlndpobpdfmaa
open Go.RowKit
set_option linter.unusedSimpArgs false
theorem eqRow_parts {x y : RowV} (h : x.id = y.id) : eqB x y = eqB x.cells y.cells := by
  by_cases e : x.cells = y.cells
  · rw [eqB_yes e, eqB_yes (by cases x; cases y; simp_all)]
  · rw [eqB_no e, eqB_no (fun h => e (by rw [h]))]
set_option maxRecDepth 100000 in
set_option maxHeartbeats 3200000 in
theorem sameRowS (x y : RowV) (a : Option Addr) (c : Nat) (a' : Option Addr) (c' : Nat) (A B : Nat → Prop) (w : World) (ho : (dAtomSS x.cells).le maxLen) (ho' : (dAtomSS y.cells).le maxLen) (hA : Rd w A (dAtomSS x.cells) (.slice a x.cells.length c)) (hB : Rd w B (dAtomSS y.cells) (.slice a' y.cells.length c')) :
    Calls Try.prog 39 #[.agg #[.int .i64 x.id, .slice a x.cells.length c], .agg #[.int .i64 y.id, .slice a' y.cells.length c']] w fun e w' => e = .returned (.bool (eqB x y)) ∧ Below w.heap.size w w' := by
  have hb := box2D 53 w #[.int .i64 x.id, .slice a x.cells.length c] #[.int .i64 y.id, .slice a' y.cells.length c']
  have hl : x.cells.length ≤ maxLen := (Ls_le.1 ho).2.1
  unfold maxLen at hl
  have HX : Hid (∀ i (h : i < x.cells.length) j, j < 1 → (cAtomS x.cells[i] j).le maxLen) := (Ls_le.1 ho).2.2
  have HX' : Hid (∀ i (h : i < y.cells.length) j, j < 1 → (cAtomS y.cells[i] j).le maxLen) := (Ls_le.1 ho').2.2
  have HA : Hid (∀ W, Below w.heap.size w W → Rd W A (Ls 1 cAtomS x.cells) (.slice a x.cells.length c)) := fun W h => Rd.later hA h
  have HB : Hid (∀ W, Below w.heap.size w W → Rd W B (Ls 1 cAtomS y.cells) (.slice a' y.cells.length c')) := fun W h => Rd.later hB h
  clear ho ho' hA hB
  have x0 := cell_at (o := 0) hb.a rfl
  have x1 := cell_at (o := 1) hb.a rfl
  have y0 := cell_at (o := 0) hb.b rfl
  have y1 := cell_at (o := 1) hb.b rfl
  by_cases hi : x.id = y.id
  case neg =>
    have HR : Hid (eqB x y = false) := eqB_no (fun e => hi (by rw [e]))
    have hie : (x.id != y.id) = true := by simpa using hi
    clear hi
    go_enter Try.func39, Try.ntmps39
    go_wp2_with fail
    go_ret
    exact ⟨ret_b HR.out.symm, hb.bel⟩
  have hie : (x.id != y.id) = false := by simpa using hi
  have HP : Hid (eqB x y = eqB x.cells y.cells) := eqRow_parts hi
  clear hi
  by_cases hn : x.cells.length = y.cells.length
  case neg =>
    have HR : Hid (eqB x y = false) := HP.out.trans (eqB_no (fun e => hn (by rw [e])))
    have hd : ((x.cells.length : Int) != (y.cells.length : Int)) = true := by simp; omega
    go_enter Try.func39, Try.ntmps39
    go_wp2_with fail
    go_ret
    exact ⟨ret_b HR.out.symm, hb.bel⟩
  have hd : ((x.cells.length : Int) != (y.cells.length : Int)) = false := by simp; omega
  have HN := Lib.hid hn
  have H0 := Lib.hid hb
  clear hn
  go_enter Try.func39, Try.ntmps39
  go_wp2_with fail
  clear x0 x1 y0 y1 hb hie hd
  go_loopw [5] (fun i wr => ∃ k : Nat, k ≤ x.cells.length ∧ i = .int .i64 k ∧ Hid ((∀ m (h : m < x.cells.length) (h' : m < y.cells.length), m < k → x.cells[m] = y.cells[m]) ∧ Box2D 53 w wr #[.int .i64 x.id, .slice a x.cells.length c] #[.int .i64 y.id, .slice a' y.cells.length c'])) (fun i _ => x.cells.length - (intOf i).toNat)
  case atStart => exact ⟨0, Nat.zero_le _, rfl, fun m _ _ h => absurd h (by omega), H0.out⟩
  case round =>
    obtain ⟨k, hk, rfl, HW⟩ := hrel
    have x1 := cell_at (o := 1) HW.out.2.a rfl
    have y1 := cell_at (o := 1) HW.out.2.b rfl
    by_cases hlt : k < x.cells.length
    case neg =>
      have hki : decide ((k : Int) < (x.cells.length : Int)) = false := by simp; omega
      have HR : Hid (eqB x y = true) := HP.out.trans (eqB_all HN.out (fun m h h' _ => HW.out.1 m h h' (by omega)))
      go_wp2_with fail
      go_ret
      exact ⟨ret_b HR.out.symm, HW.out.2.bel⟩
    have hlt' : k < y.cells.length := by have := HN.out; omega
    have hki : (k : Int) < (x.cells.length : Int) := by omega
    have hkj : (k : Int) < (y.cells.length : Int) := by omega
    obtain ⟨b, off, rfl, -, hc⟩ := (HA.out _ HW.out.2.bel).things k hlt
    obtain ⟨mb, moff, rfl, -, hd⟩ := (HB.out _ HW.out.2.bel).things k hlt'
    obtain ⟨u0, c0, r0⟩ := hc 0 (by omega)
    replace r0 : Rd wr A (dAtomS x.cells[k]) u0 := r0
    obtain ⟨ea, eq, rfl⟩ := r0.lsSlice
    rw [Nat.mul_one] at c0
    replace c0 : wr.cell? ⟨b, off + k, none⟩ = _ := c0
    obtain ⟨v0, d0, s0⟩ := hd 0 (by omega)
    replace s0 : Rd wr B (dAtomS y.cells[k]) v0 := s0
    obtain ⟨fa, fq, rfl⟩ := s0.lsSlice
    rw [Nat.mul_one] at d0
    replace d0 : wr.cell? ⟨mb, moff + k, none⟩ = _ := d0
    clear hc hd
    have CC : Hid (∀ W, Below wr.heap.size wr W → Calls Try.prog 59 #[.slice ea x.cells[k].length eq, .slice fa y.cells[k].length fq] W fun e w' => e = .returned (.bool (eqB x.cells[k] y.cells[k])) ∧ Below wr.heap.size wr w') := fun W h => (same03S x.cells[k] y.cells[k] ea eq fa fq A B W (HX.out k hlt 0 (by omega)) (HX'.out k hlt' 0 (by omega)) (r0.later h) (s0.later h)).mono (fun e w' ⟨he, hB⟩ => ⟨he, h.trans (hB.mono h.size)⟩)
    clear r0 s0
    by_cases he : x.cells[k] = y.cells[k]
    case pos =>
      have HG : Hid (∀ m (h : m < x.cells.length) (h' : m < y.cells.length), m < k + 1 → x.cells[m] = y.cells[m]) := fun m h h' hm => by
        by_cases e : m = k
        · subst e; exact he
        · exact HW.out.1 m h h' (by omega)
      rw [eqB_yes he] at CC
      clear he
      generalize x.cells[k] = p at *
      generalize y.cells[k] = q at *
      go_wp2_with fail
      go_region_with (go_at_call 59; refine (CC.out _ (by first | exact Below.refl _ _ | exact (Below.refl _ _).drew)).mono ?_; rintro e w1 ⟨rfl, hB1⟩)
      all_goals
        go_wp2_with fail
        go_roundw
        case rel => exact ⟨k + 1, by omega, by go_num, HG.out, HW.out.2.later hB1⟩
        case measure => simp [intOf]; omega
    have HR : Hid (eqB x y = false) := HP.out.trans (eqB_at hlt hlt' he)
    rw [eqB_no he] at CC
    clear he
    generalize x.cells[k] = p at *
    generalize y.cells[k] = q at *
    go_wp2_with fail
    go_region_with (go_at_call 59; refine (CC.out _ (by first | exact Below.refl _ _ | exact (Below.refl _ _).drew)).mono ?_; rintro e w1 ⟨rfl, hB1⟩)
    all_goals
      go_wp2_with fail
      go_ret
      exact ⟨ret_b HR.out.symm, (HW.out.2.later hB1).bel⟩
end Go.Proofs.Ytdhlndpobpdfmaa
