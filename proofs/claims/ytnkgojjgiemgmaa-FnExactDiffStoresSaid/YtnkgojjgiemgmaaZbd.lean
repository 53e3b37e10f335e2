import Derived.Test.YtnkgojjgiemgmaaZak
namespace Go.Proofs.Ytnkgojjgiemgmaa
open Go.RowKit
set_option linter.unusedSimpArgs false
theorem eqIRow (id : Int) (cells : List (List At)) (a : Option Addr) (c : Nat) (a' : Option Addr) (c' : Nat) (A B : Nat → Prop) (w : World) (h0 : iOK id) (h1 : (dAtomSS cells).le maxLen) (r : Rd w A (dAtomSS cells) (.slice a cells.length c)) (r' : Rd w B (dAtomSS cells) (.slice a' cells.length c')) :
    Calls Try.prog 40 #[.agg #[.int .i64 id, .slice a cells.length c], .agg #[.int .i64 id, .slice a' cells.length c']] w fun e w' => e = .returned (.bool true) ∧ Below w.heap.size w w' :=
  eqDRow ⟨id, cells⟩ a c a' c' A B w (fun j hj => by rcases (by omega : j = 0 ∨ j = 1) with rfl | rfl <;> first | exact h0 | exact h1) r r'
structure ChV where
  tab : Int
  cid : Int
  oid : Int
  ocs : List (List At)
  nid : Int
  ncs : List (List At)
def dChange (x : ChV) : Nat → D
  | 0 => .i x.tab
  | 1 => .i x.cid
  | 2 => .i x.oid
  | 3 => dAtomSS x.ocs
  | 4 => .i x.nid
  | _ => dAtomSS x.ncs
theorem szT_Change (x : ChV) : szT 6 (dChange x) = (dAtomSS x.ocs).sz + (dAtomSS x.ncs).sz := by simp [szT, sumN, dChange, D.sz]
set_option maxRecDepth 100000 in
set_option maxHeartbeats 1600000 in
theorem eqDChange (x : ChV) (a3 : Option Addr) (c3 : Nat) (a5 : Option Addr) (c5 : Nat) (a3' : Option Addr) (c3' : Nat) (a5' : Option Addr) (c5' : Nat) (A B : Nat → Prop) (w : World) (ho : ∀ j, j < 6 → (dChange x j).le maxLen) (r3 : Rd w A (dAtomSS x.ocs) (.slice a3 x.ocs.length c3)) (r5 : Rd w A (dAtomSS x.ncs) (.slice a5 x.ncs.length c5)) (r3' : Rd w B (dAtomSS x.ocs) (.slice a3' x.ocs.length c3')) (r5' : Rd w B (dAtomSS x.ncs) (.slice a5' x.ncs.length c5')) :
    Calls Try.prog 23 #[.agg #[.int .i64 x.tab, .int .i64 x.cid, .int .i64 x.oid, .slice a3 x.ocs.length c3, .int .i64 x.nid, .slice a5 x.ncs.length c5], .agg #[.int .i64 x.tab, .int .i64 x.cid, .int .i64 x.oid, .slice a3' x.ocs.length c3', .int .i64 x.nid, .slice a5' x.ncs.length c5']] w fun e w' => e = .returned (.bool true) ∧ Below w.heap.size w w' := by
  have hb : Box2D 56 w ((w.alloc (.cells #[.int .i64 x.tab, .int .i64 x.cid, .int .i64 x.oid, .slice a3 x.ocs.length c3, .int .i64 x.nid, .slice a5 x.ncs.length c5] 56)).alloc (.cells #[.int .i64 x.tab, .int .i64 x.cid, .int .i64 x.oid, .slice a3' x.ocs.length c3', .int .i64 x.nid, .slice a5' x.ncs.length c5'] 56)) #[.int .i64 x.tab, .int .i64 x.cid, .int .i64 x.oid, .slice a3 x.ocs.length c3, .int .i64 x.nid, .slice a5 x.ncs.length c5] #[.int .i64 x.tab, .int .i64 x.cid, .int .i64 x.oid, .slice a3' x.ocs.length c3', .int .i64 x.nid, .slice a5' x.ncs.length c5'] := box2D _ _ _ _
  have E3 : Hid (∀ W, Below w.heap.size w W → Calls Try.prog 40 #[.agg #[.int .i64 x.oid, .slice a3 x.ocs.length c3], .agg #[.int .i64 x.oid, .slice a3' x.ocs.length c3']] W fun e w' => e = .returned (.bool true) ∧ Below W.heap.size W w') := fun W h => eqIRow x.oid x.ocs a3 c3 a3' c3' A B W (ho 2 (by omega)) (ho 3 (by omega)) (r3.later h) (r3'.later h)
  have E5 : Hid (∀ W, Below w.heap.size w W → Calls Try.prog 40 #[.agg #[.int .i64 x.nid, .slice a5 x.ncs.length c5], .agg #[.int .i64 x.nid, .slice a5' x.ncs.length c5']] W fun e w' => e = .returned (.bool true) ∧ Below W.heap.size W w') := fun W h => eqIRow x.nid x.ncs a5 c5 a5' c5' A B W (ho 4 (by omega)) (ho 5 (by omega)) (r5.later h) (r5'.later h)
  have HB := Lib.hid hb
  clear ho hb r3 r3' r5 r5'
  go_enter Try.func23, Try.ntmps23
  have x0 := cell_at (o := 0) HB.out.a rfl
  have y0 := cell_at (o := 0) HB.out.b rfl
  have x1 := cell_at (o := 1) HB.out.a rfl
  have y1 := cell_at (o := 1) HB.out.b rfl
  have x2 := cell_at (o := 2) HB.out.a rfl
  have y2 := cell_at (o := 2) HB.out.b rfl
  have x3 := cell_at (o := 3) HB.out.a rfl
  have y3 := cell_at (o := 3) HB.out.b rfl
  have x4 := cell_at (o := 4) HB.out.a rfl
  have y4 := cell_at (o := 4) HB.out.b rfl
  have x5 := cell_at (o := 5) HB.out.a rfl
  have y5 := cell_at (o := 5) HB.out.b rfl
  go_wp2_with fail
  refine (E3.out _ HB.out.bel).mono ?_
  rintro e w4 ⟨rfl, hB3⟩
  have H3 := Lib.hid (HB.out.later hB3)
  clear hB3 HB x0 y0 x1 y1 x2 y2 x3 y3 x4 y4 x5 y5
  have x0 := cell_at (o := 0) H3.out.a rfl
  have y0 := cell_at (o := 0) H3.out.b rfl
  have x1 := cell_at (o := 1) H3.out.a rfl
  have y1 := cell_at (o := 1) H3.out.b rfl
  have x2 := cell_at (o := 2) H3.out.a rfl
  have y2 := cell_at (o := 2) H3.out.b rfl
  have x3 := cell_at (o := 3) H3.out.a rfl
  have y3 := cell_at (o := 3) H3.out.b rfl
  have x4 := cell_at (o := 4) H3.out.a rfl
  have y4 := cell_at (o := 4) H3.out.b rfl
  have x5 := cell_at (o := 5) H3.out.a rfl
  have y5 := cell_at (o := 5) H3.out.b rfl
  go_wp2_with fail
  refine (E5.out _ H3.out.bel).mono ?_
  rintro e w6 ⟨rfl, hB5⟩
  have H5 := Lib.hid (H3.out.later hB5)
  clear hB5 H3 x0 y0 x1 y1 x2 y2 x3 y3 x4 y4 x5 y5
  have x0 := cell_at (o := 0) H5.out.a rfl
  have y0 := cell_at (o := 0) H5.out.b rfl
  have x1 := cell_at (o := 1) H5.out.a rfl
  have y1 := cell_at (o := 1) H5.out.b rfl
  have x2 := cell_at (o := 2) H5.out.a rfl
  have y2 := cell_at (o := 2) H5.out.b rfl
  have x3 := cell_at (o := 3) H5.out.a rfl
  have y3 := cell_at (o := 3) H5.out.b rfl
  have x4 := cell_at (o := 4) H5.out.a rfl
  have y4 := cell_at (o := 4) H5.out.b rfl
  have x5 := cell_at (o := 5) H5.out.a rfl
  have y5 := cell_at (o := 5) H5.out.b rfl
  go_wp2_with fail
  go_ret
  exact ⟨rfl, H5.out.bel⟩
def dChangeS (l : List ChV) : D := Ls 6 dChange l
set_option maxRecDepth 100000 in
set_option maxHeartbeats 3200000 in
theorem eqDChangeS (l : List ChV) (a : Option Addr) (c : Nat) (a' : Option Addr) (c' : Nat) (A B : Nat → Prop) (w : World) (ho : (dChangeS l).le maxLen) (hA : Rd w A (dChangeS l) (.slice a l.length c)) (hB : Rd w B (dChangeS l) (.slice a' l.length c')) :
    Calls Try.prog 8 #[.slice a l.length c, .slice a' l.length c'] w fun e w' => e = .returned (.bool true) ∧ Below w.heap.size w w' := by
  have hl : l.length ≤ maxLen := (Ls_le.1 ho).2.1
  unfold maxLen at hl
  have HX : Hid (∀ i (h : i < l.length) j, j < 6 → (dChange l[i] j).le maxLen) := (Ls_le.1 ho).2.2
  have HA : Hid (∀ W, Below w.heap.size w W → Rd W A (Ls 6 dChange l) (.slice a l.length c)) := fun W h => Rd.later hA h
  have HB : Hid (∀ W, Below w.heap.size w W → Rd W B (Ls 6 dChange l) (.slice a' l.length c')) := fun W h => Rd.later hB h
  clear hA hB ho
  go_enter Try.func8, Try.ntmps8
  go_wp2_with fail
  go_loopw [5] (fun i wr => ∃ k : Nat, k ≤ l.length ∧ i = .int .i64 k ∧ Hid (Below w.heap.size w wr)) (fun i _ => l.length - (intOf i).toNat)
  case atStart => exact ⟨0, Nat.zero_le _, rfl, Below.refl _ _⟩
  case round =>
    obtain ⟨k, hk, rfl, HW⟩ := hrel
    by_cases hlt : k < l.length
    case neg =>
      have hki : decide ((k : Int) < (l.length : Int)) = false := by simp; omega
      go_wp2_with fail
      go_ret
      exact ⟨rfl, HW.out⟩
    obtain ⟨b, off, rfl, -, hc⟩ := (HA.out _ HW.out).things k hlt
    obtain ⟨mb, moff, rfl, -, hd⟩ := (HB.out _ HW.out).things k hlt
    have HXK := Lib.hid (HX.out k hlt)
    obtain ⟨u0, c0, r0⟩ := hc 0 (by omega)
    obtain rfl : u0 = .int .i64 l[k].tab := r0
    replace c0 : wr.cell? ⟨b, off + k * 6, none⟩ = _ := c0
    obtain ⟨u1, c1, r1⟩ := hc 1 (by omega)
    obtain rfl : u1 = .int .i64 l[k].cid := r1
    obtain ⟨u2, c2, r2⟩ := hc 2 (by omega)
    obtain rfl : u2 = .int .i64 l[k].oid := r2
    obtain ⟨u3, c3, r3⟩ := hc 3 (by omega)
    replace r3 : Rd wr _ (dAtomSS l[k].ocs) u3 := r3
    obtain ⟨a3, q3, rfl⟩ := r3.lsSlice
    obtain ⟨u4, c4, r4⟩ := hc 4 (by omega)
    obtain rfl : u4 = .int .i64 l[k].nid := r4
    obtain ⟨u5, c5, r5⟩ := hc 5 (by omega)
    replace r5 : Rd wr _ (dAtomSS l[k].ncs) u5 := r5
    obtain ⟨a5, q5, rfl⟩ := r5.lsSlice
    obtain ⟨mu0, mc0, mr0⟩ := hd 0 (by omega)
    obtain rfl : mu0 = .int .i64 l[k].tab := mr0
    replace mc0 : wr.cell? ⟨mb, moff + k * 6, none⟩ = _ := mc0
    obtain ⟨mu1, mc1, mr1⟩ := hd 1 (by omega)
    obtain rfl : mu1 = .int .i64 l[k].cid := mr1
    obtain ⟨mu2, mc2, mr2⟩ := hd 2 (by omega)
    obtain rfl : mu2 = .int .i64 l[k].oid := mr2
    obtain ⟨mu3, mc3, mr3⟩ := hd 3 (by omega)
    replace mr3 : Rd wr _ (dAtomSS l[k].ocs) mu3 := mr3
    obtain ⟨ma3, mq3, rfl⟩ := mr3.lsSlice
    obtain ⟨mu4, mc4, mr4⟩ := hd 4 (by omega)
    obtain rfl : mu4 = .int .i64 l[k].nid := mr4
    obtain ⟨mu5, mc5, mr5⟩ := hd 5 (by omega)
    replace mr5 : Rd wr _ (dAtomSS l[k].ncs) mu5 := mr5
    obtain ⟨ma5, mq5, rfl⟩ := mr5.lsSlice
    clear hc hd
    generalize l[k] = x at *
    have hki : (k : Int) < (l.length : Int) := by omega
    have EQ : Hid (∀ W, Below wr.heap.size wr W → Calls Try.prog 23 #[.agg #[.int .i64 x.tab, .int .i64 x.cid, .int .i64 x.oid, .slice a3 x.ocs.length q3, .int .i64 x.nid, .slice a5 x.ncs.length q5], .agg #[.int .i64 x.tab, .int .i64 x.cid, .int .i64 x.oid, .slice ma3 x.ocs.length mq3, .int .i64 x.nid, .slice ma5 x.ncs.length mq5]] W fun e w' => e = .returned (.bool true) ∧ Below W.heap.size W w') := fun W h => eqDChange x a3 q3 a5 q5 ma3 mq3 ma5 mq5 A B W HXK.out (r3.later h) (r5.later h) (mr3.later h) (mr5.later h)
    clear HXK r3 mr3 r5 mr5
    go_wp2_with fail
    go_region_with (go_at_call 23; refine (EQ.out _ (by first | exact Below.refl _ _ | exact (Below.refl _ _).drew)).mono ?_; rintro e w1 ⟨rfl, hB1⟩)
    all_goals
      go_wp2_with fail
      go_roundw
      case rel => exact ⟨k + 1, by omega, by go_num, HW.out.trans ((Below.refl _ _).drew.trans (hB1.mono (by first | exact HW.out.size | (have := HW.out.size; simpa using this))))⟩
      case measure => simp [intOf]; omega
end Go.Proofs.Ytnkgojjgiemgmaa
