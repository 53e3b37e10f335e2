import Derived.Test.YtnkgojjgiemgmaaZbh
import Derived.Test.YtnkgojjgiemgmaaZbc
import Derived.Test.YtnkgojjgiemgmaaZai
namespace Go.Proofs.Ytnkgojjgiemgmaa
open Go.RowKit
set_option linter.unusedSimpArgs false
def rowsN (l : List (List RowV)) (k : Nat) : Nat := sumN k (fun t => (l.getD t []).length)
theorem idsOf_len (la lb : List RowV) : (idsOf la lb).length ≤ la.length + lb.length := by
  have h1 := foldI_len la []
  have h2 := foldI_len lb (foldI la [])
  simp at h1
  unfold idsOf; omega
theorem flat_len {α β : Type} {f : α → List β} (hf : ∀ a, (f a).length ≤ 1) : ∀ l : List α, (l.flatMap f).length ≤ l.length
  | [] => Nat.le_refl _
  | a :: l => by
    have h1 := flat_len hf l
    have h2 := hf a
    rw [List.flatMap_cons, List.length_append, List.length_cons]; omega
theorem preT_len (ta tb : List (List RowV)) : ∀ k, (preT ta tb k).length ≤ rowsN ta k + rowsN tb k
  | 0 => Nat.zero_le _
  | k + 1 => by
    have h1 := preT_len ta tb k
    have h2 : (diffT k (ta.getD k []) (tb.getD k [])).length ≤ (ta.getD k []).length + (tb.getD k []).length := Nat.le_trans (flat_len (chg_len _ _ _) _) (idsOf_len _ _)
    have e : preT ta tb (k + 1) = preT ta tb k ++ diffT k (ta.getD k []) (tb.getD k []) := by
      unfold preT; rw [List.range_succ, List.flatMap_append]; simp
    have e1 : rowsN ta (k + 1) = rowsN ta k + (ta.getD k []).length := sumN_succ _ _
    have e2 : rowsN tb (k + 1) = rowsN tb k + (tb.getD k []).length := sumN_succ _ _
    rw [e, List.length_append, e1, e2]; omega
theorem rowsN_sz (l : List (List RowV)) {k : Nat} (hk : k ≤ l.length) : rowsN l k ≤ (dRowSS l).sz := by
  have h : rowsN l k ≤ szL 1 cRowS l k := by
    unfold rowsN szL
    refine sumN_bound (fun i hi => ?_)
    rw [lsF_at (by omega), List.getD_eq_getElem?_getD, List.getElem?_eq_getElem (by omega)]
    show (l[i]'(by omega)).length ≤ 0 + (dRowS (l[i]'(by omega))).sz
    rw [show (dRowS (l[i]'(by omega))).sz = (l[i]'(by omega)).length + szL 2 dRow (l[i]'(by omega)) (l[i]'(by omega)).length from Ls_sz]
    omega
  have h2 := szL_mono (n := 1) (d := cRowS) (l := l) hk
  have h3 : (dRowSS l).sz = l.length + szL 1 cRowS l l.length := Ls_sz
  omega
noncomputable def dfC (x y : StV) : Int := if (plainB x && plainB y && (x.tables.length == y.tables.length)) = true then 0 else 1
noncomputable def dfR (x y : StV) : List ChV := if dfC x y = 0 then preT x.tables y.tables x.tables.length else []
theorem df_no {x y : StV} (h : (plainB x && plainB y && (x.tables.length == y.tables.length)) = false) : dfR x y = [] ∧ dfC x y = 1 := by
  have e : dfC x y = 1 := by unfold dfC; rw [h]; rfl
  exact ⟨by unfold dfR; rw [e]; rfl, e⟩
theorem df_yes {x y : StV} (h : (plainB x && plainB y && (x.tables.length == y.tables.length)) = true) : dfR x y = preT x.tables y.tables x.tables.length ∧ dfC x y = 0 := by
  have e : dfC x y = 0 := by unfold dfC; rw [if_pos h]
  exact ⟨by unfold dfR; rw [if_pos e], e⟩
set_option maxRecDepth 100000 in
set_option maxHeartbeats 6400000 in
theorem dfS (x y : StV) (xa : Option Addr) (xc : Nat) (A : Nat → Prop) (ya : Option Addr) (yc : Nat) (B : Nat → Prop) (w : World) (hx : (dRowSS x.tables).le 1048576) (hy : (dRowSS y.tables).le 1048576) (zx : (dRowSS x.tables).sz ≤ 1048576) (zy : (dRowSS y.tables).sz ≤ 1048576) (rx : Rd w A (dRowSS x.tables) (.slice xa x.tables.length xc)) (ry : Rd w B (dRowSS y.tables) (.slice ya y.tables.length yc)) :
    Calls Try.prog 5 #[.agg #[.slice xa x.tables.length xc, .int .i64 x.next], .agg #[.slice ya y.tables.length yc, .int .i64 y.next]] w fun e w' => ∃ a c, e = .returned (.tuple #[.slice a (dfR x y).length c, .int .i64 (dfC x y)]) ∧ Rd w' (fun d => w.heap.size ≤ d ∧ d < w'.heap.size) (dChangeS (dfR x y)) (.slice a (dfR x y).length c) ∧ Below w.heap.size w w' := by
  have hxm : (dRowSS x.tables).le maxLen := D.le.mono (by unfold maxLen; omega) _ hx
  have hym : (dRowSS y.tables).le maxLen := D.le.mono (by unfold maxLen; omega) _ hy
  have hxl : x.tables.length ≤ 1048576 := (Ls_le.1 hx).2.1
  have hyl : y.tables.length ≤ 1048576 := (Ls_le.1 hy).2.1
  have K0 : Hid (∀ W, Box2D 31 w W #[.slice xa x.tables.length xc, .int .i64 x.next] #[.slice ya y.tables.length yc, .int .i64 y.next] → Calls Try.prog 14 #[.agg #[.slice xa x.tables.length xc, .int .i64 x.next]] W fun e w' => e = .returned (.bool (plainB x)) ∧ Box2D 31 w w' #[.slice xa x.tables.length xc, .int .i64 x.next] #[.slice ya y.tables.length yc, .int .i64 y.next]) := fun W h => (plainS x xa xc A W hxm (rx.later h.bel)).mono (fun e w' ⟨he, hB⟩ => ⟨he, h.later hB⟩)
  have K1 : Hid (∀ W, Box2D 31 w W #[.slice xa x.tables.length xc, .int .i64 x.next] #[.slice ya y.tables.length yc, .int .i64 y.next] → Calls Try.prog 14 #[.agg #[.slice ya y.tables.length yc, .int .i64 y.next]] W fun e w' => e = .returned (.bool (plainB y)) ∧ Box2D 31 w w' #[.slice xa x.tables.length xc, .int .i64 x.next] #[.slice ya y.tables.length yc, .int .i64 y.next]) := fun W h => (plainS y ya yc B W hym (ry.later h.bel)).mono (fun e w' ⟨he, hB⟩ => ⟨he, h.later hB⟩)
  have KD : Hid (x.tables.length = y.tables.length → ∀ W, Below w.heap.size w W → Calls Try.prog 15 #[.agg #[.slice xa x.tables.length xc, .int .i64 x.next], .agg #[.slice ya y.tables.length yc, .int .i64 y.next]] W fun e w' => ∃ a c, e = .returned (.slice a (preT x.tables y.tables x.tables.length).length c) ∧ Rd w' (fun d => W.heap.size ≤ d ∧ d < w'.heap.size) (dChangeS (preT x.tables y.tables x.tables.length)) (.slice a (preT x.tables y.tables x.tables.length).length c) ∧ Below W.heap.size W w') := fun hl W h => diffS x y xa xc A ya yc B W hx hy hl (fun k hk => by have h1 := preT_len x.tables y.tables k; have h2 := rowsN_sz x.tables hk; have h3 := rowsN_sz y.tables (k := k) (by omega); omega) (rx.later h) (ry.later h)
  have HB0 := Lib.hid (box2D 31 w #[.slice xa x.tables.length xc, .int .i64 x.next] #[.slice ya y.tables.length yc, .int .i64 y.next])
  clear hx hy hxm hym zx zy rx ry
  have x0 := cell_at (o := 0) HB0.out.a rfl
  have y0 := cell_at (o := 0) HB0.out.b rfl
  have x1 := cell_at (o := 1) HB0.out.a rfl
  have y1 := cell_at (o := 1) HB0.out.b rfl
  cases h0 : plainB x
  case false =>
    have HP := Lib.hid (df_no (x := x) (y := y) (by rw [h0]; rfl))
    rw [h0] at K0
    clear h0
    go_enter Try.func5, Try.ntmps5
    go_wp2_with fail
    refine (K0.out _ HB0.out).mono ?_
    rintro e w1 ⟨rfl, hb⟩
    have HB1 := Lib.hid hb
    clear hb x0 x1 y0 y1
    have x0 := cell_at (o := 0) HB1.out.a rfl
    have y0 := cell_at (o := 0) HB1.out.b rfl
    have x1 := cell_at (o := 1) HB1.out.a rfl
    have y1 := cell_at (o := 1) HB1.out.b rfl
    go_wp2_with fail
    go_ret2
    exact ⟨_, _, by rw [HP.out.1, HP.out.2]; rfl, by rw [HP.out.1]; exact Rd.lsNil _ _, HB1.out.bel.alloc HB1.out.bel.size _⟩
  cases h1 : plainB y
  case false =>
    have HP := Lib.hid (df_no (x := x) (y := y) (by rw [h0, h1]; rfl))
    rw [h0] at K0
    rw [h1] at K1
    clear h0 h1
    go_enter Try.func5, Try.ntmps5
    go_wp2_with fail
    refine (K0.out _ HB0.out).mono ?_
    rintro e w1 ⟨rfl, hb⟩
    have HB1 := Lib.hid hb
    clear hb x0 x1 y0 y1
    have x0 := cell_at (o := 0) HB1.out.a rfl
    have y0 := cell_at (o := 0) HB1.out.b rfl
    have x1 := cell_at (o := 1) HB1.out.a rfl
    have y1 := cell_at (o := 1) HB1.out.b rfl
    go_wp2_with fail
    refine (K1.out _ HB1.out).mono ?_
    rintro e w2 ⟨rfl, hb⟩
    have HB2 := Lib.hid hb
    clear hb x0 x1 y0 y1
    have x0 := cell_at (o := 0) HB2.out.a rfl
    have y0 := cell_at (o := 0) HB2.out.b rfl
    have x1 := cell_at (o := 1) HB2.out.a rfl
    have y1 := cell_at (o := 1) HB2.out.b rfl
    go_wp2_with fail
    go_ret2
    exact ⟨_, _, by rw [HP.out.1, HP.out.2]; rfl, by rw [HP.out.1]; exact Rd.lsNil _ _, HB2.out.bel.alloc HB2.out.bel.size _⟩
  by_cases hl : x.tables.length = y.tables.length
  case neg =>
    have HP := Lib.hid (df_no (x := x) (y := y) (by rw [h0, h1]; simpa using hl))
    have hne : ((x.tables.length : Int) != (y.tables.length : Int)) = true := by rw [bne_iff_ne]; omega
    rw [h0] at K0
    rw [h1] at K1
    clear h0 h1 hl
    go_enter Try.func5, Try.ntmps5
    go_wp2_with fail
    refine (K0.out _ HB0.out).mono ?_
    rintro e w1 ⟨rfl, hb⟩
    have HB1 := Lib.hid hb
    clear hb x0 x1 y0 y1
    have x0 := cell_at (o := 0) HB1.out.a rfl
    have y0 := cell_at (o := 0) HB1.out.b rfl
    have x1 := cell_at (o := 1) HB1.out.a rfl
    have y1 := cell_at (o := 1) HB1.out.b rfl
    go_wp2_with fail
    refine (K1.out _ HB1.out).mono ?_
    rintro e w2 ⟨rfl, hb⟩
    have HB2 := Lib.hid hb
    clear hb x0 x1 y0 y1
    have x0 := cell_at (o := 0) HB2.out.a rfl
    have y0 := cell_at (o := 0) HB2.out.b rfl
    have x1 := cell_at (o := 1) HB2.out.a rfl
    have y1 := cell_at (o := 1) HB2.out.b rfl
    go_wp2_with fail
    go_ret2
    exact ⟨_, _, by rw [HP.out.1, HP.out.2]; rfl, by rw [HP.out.1]; exact Rd.lsNil _ _, HB2.out.bel.alloc HB2.out.bel.size _⟩
  have HP := Lib.hid (df_yes (x := x) (y := y) (by rw [h0, h1]; simpa using hl))
  have KE := Lib.hid (KD.out hl)
  have hne : ((x.tables.length : Int) != (y.tables.length : Int)) = false := by rw [hl]; exact bne_self_eq_false _
  rw [h0] at K0
  rw [h1] at K1
  clear h0 h1 hl KD
  go_enter Try.func5, Try.ntmps5
  go_wp2_with fail
  refine (K0.out _ HB0.out).mono ?_
  rintro e w1 ⟨rfl, hb⟩
  have HB1 := Lib.hid hb
  clear hb x0 x1 y0 y1
  have x0 := cell_at (o := 0) HB1.out.a rfl
  have y0 := cell_at (o := 0) HB1.out.b rfl
  have x1 := cell_at (o := 1) HB1.out.a rfl
  have y1 := cell_at (o := 1) HB1.out.b rfl
  go_wp2_with fail
  refine (K1.out _ HB1.out).mono ?_
  rintro e w2 ⟨rfl, hb⟩
  have HB2 := Lib.hid hb
  clear hb x0 x1 y0 y1
  have x0 := cell_at (o := 0) HB2.out.a rfl
  have y0 := cell_at (o := 0) HB2.out.b rfl
  have x1 := cell_at (o := 1) HB2.out.a rfl
  have y1 := cell_at (o := 1) HB2.out.b rfl
  go_wp2_with fail
  refine (KE.out _ HB2.out.bel).mono ?_
  rintro e w3 ⟨ra, rc, rfl, hrd, hB⟩
  have HR3 := Lib.hid (hrd.mono (B' := fun d => w.heap.size ≤ d ∧ d < w3.heap.size) (fun d hd => ⟨by have h1 := hd.1; have h2 := HB2.out.bel.size; omega, hd.2⟩))
  have HB3 := Lib.hid (HB2.out.bel.trans (hB.mono HB2.out.bel.size))
  clear hrd hB x0 x1 y0 y1
  generalize preT x.tables y.tables x.tables.length = R at *
  go_wp2_with fail
  go_ret2
  exact ⟨ra, rc, by rw [HP.out.1, HP.out.2]; rfl, by rw [HP.out.1]; exact HR3.out, HB3.out⟩
end Go.Proofs.Ytnkgojjgiemgmaa
