import Derived.Test.YtnkgojjgiemgmaaZbk
import Derived.Test.YtnkgojjgiemgmaaZan
import Derived.Test.YtnkgojjgiemgmaaZbf
import Derived.Deep.RegionHeld3
import Derived.Test.YtnkgojjgiemgmaaZTk
namespace Go.Proofs.Ytnkgojjgiemgmaa
open Go.RowKit Go.Maps
set_option linter.unusedSimpArgs false
theorem rd_two {W : World} {la lb : List RowV} {ra sa : Option Addr} {rq sq : Nat} {A B : Nat → Prop} {b : Nat} (h : W.heap[b]? = some (.cells #[.slice ra la.length rq, .slice sa lb.length sq] 45)) (ha : Rd W A (dRowS la) (.slice ra la.length rq)) (hb : Rd W B (dRowS lb) (.slice sa lb.length sq)) : Rd W (fun _ => True) (dRowSS [la, lb]) (.slice (some ⟨b, 0, none⟩) [la, lb].length 2) := by
  refine ⟨_, _, rfl, .inr ⟨b, 0, rfl, trivial, by omega, fun i j hi hj => ?_⟩⟩
  obtain rfl : j = 0 := by omega
  have hi2 : i < 2 := hi
  rw [lsF_at hi]
  rcases (by omega : i = 0 ∨ i = 1) with rfl | rfl
  · exact ⟨_, cell_at (o := 0) h rfl, ha.any⟩
  · exact ⟨_, cell_at (o := 1) h rfl, hb.any⟩
theorem le_two {la lb : List RowV} (ha : (dRowS la).le 1048576) (hb : (dRowS lb).le 1048576) : (dRowSS [la, lb]).le 1048576 := Ls_le.2 ⟨by omega, by simp, fun i hi j hj => by
  obtain rfl : j = 0 := by omega
  have hi2 : i < 2 := hi
  rcases (by omega : i = 0 ∨ i = 1) with rfl | rfl
  · exact ha
  · exact hb⟩
structure DSt (w W : World) (xc yc : Array Value) (es : List Ch3) (v : Value) : Prop where
  bx : Box2D 31 w W xc yc
  cg : CG (w.heap.size + 1 + 1) W es v
theorem DSt.later {w W W' : World} {xc yc : Array Value} {es : List Ch3} {v : Value} (h : DSt w W xc yc es v) (hB : Below W.heap.size W W') : DSt w W' xc yc es v := ⟨h.bx.later hB, h.cg.later hB⟩
structure DIn (w WM W : World) (U0 : Nat) (xc yc : Array Value) (es : List Ch3) (v : Value) : Prop where
  st : DSt w W xc yc es v
  kp : ∀ b, U0 ≤ b → b < WM.heap.size → W.heap[b]? = WM.heap[b]?
  sz : WM.heap.size ≤ W.heap.size
  nv : ∀ g, v.ownBlock = some g → g < U0 ∨ WM.heap.size ≤ g
theorem DIn.later {w WM W W' : World} {U0 : Nat} {xc yc : Array Value} {es : List Ch3} {v : Value} (h : DIn w WM W U0 xc yc es v) (hB : Below W.heap.size W W') : DIn w WM W' U0 xc yc es v :=
  ⟨h.st.later hB, fun b h0 h1 => by rw [hB.block b (by have := h.sz; omega)]; exact h.kp b h0 h1, Nat.le_trans h.sz hB.size, h.nv⟩
theorem DIn.push {w WM W V W' : World} {U0 : Nat} {xc yc : Array Value} {es : List Ch3} {v v' : Value} {e : Ch3} (h : DIn w WM W U0 xc yc es v) (hV : W.heap.size ≤ V.heap.size) (hc : CG (w.heap.size + 1 + 1) W' (es ++ [e]) v') (hk : ∀ b, b < W.heap.size → v.ownBlock ≠ some b → W'.heap[b]? = W.heap[b]?) (hB : Below (w.heap.size + 1 + 1) W W') (hs : V.heap.size < W'.heap.size) (hg : ∀ g, v'.ownBlock = some g → v.ownBlock = some g ∨ V.heap.size ≤ g) : DIn w WM W' U0 xc yc (es ++ [e]) v' := by
  have h1 := h.sz
  refine ⟨⟨⟨by rw [hB.block _ (by omega)]; exact h.st.bx.a, by rw [hB.block _ (by omega)]; exact h.st.bx.b, h.st.bx.bel.trans (hB.mono (by omega))⟩, hc⟩, fun b h0 h2 => ?_, by omega, fun g hg' => ?_⟩
  · rw [hk b (by omega) (fun e => by rcases h.nv b e with h3 | h3 <;> omega)]; exact h.kp b h0 h2
  · rcases hg g hg' with h3 | h3
    · exact h.nv g h3
    · exact .inr (by omega)
theorem ids_ok {la lb : List RowV} (ha : (dRowS la).le 1048576) (hb : (dRowS lb).le 1048576) {id : Int} (h : id ∈ idsOf la lb) : iOK id := by
  rcases ((ids_spec la lb).2 id).1 h with ⟨r, hr, rfl⟩ | ⟨r, hr, rfl⟩
  · obtain ⟨k, hk, rfl⟩ := List.mem_iff_getElem.1 hr
    exact (Ls_le.1 ha).2.2 k hk 0 (by omega)
  · obtain ⟨k, hk, rfl⟩ := List.mem_iff_getElem.1 hr
    exact (Ls_le.1 hb).2.2 k hk 0 (by omega)
def DfI (w : World) (R : List ChV) (cd : Int) (e : Ending) (w' : World) : Prop := ∃ (ra : Option Addr) (rc : Nat), e = .returned (.tuple #[.slice ra R.length rc, .int .i64 cd]) ∧ Own w' (dChangeS R) (fun c => w.heap.size ≤ c ∧ c < w'.heap.size) (.slice ra R.length rc) ∧ Below w.heap.size w w'
theorem DSt.ans {w W : World} {xc yc : Array Value} {es : List Ch3} {a : Option Addr} {c : Nat} {R : List ChV} (h : DSt w W xc yc es (.slice a es.length c)) (hR : R = es.map Ch3.c) : DfI w R 0 (.returned (.tuple #[.slice a es.length c, .int .i64 0])) W := by
  have hl : R.length = es.length := by rw [hR, List.length_map]
  refine ⟨a, c, by rw [hl], ?_, h.bx.bel⟩
  rw [hl, hR]
  exact h.cg.own.mono (fun c hc => ⟨by have := hc.1; omega, hc.2⟩)
set_option maxRecDepth 100000 in
set_option maxHeartbeats 12800000 in
theorem dfI (x y : StV) (xa : Option Addr) (xc : Nat) (A : Nat → Prop) (ya : Option Addr) (yc : Nat) (B : Nat → Prop) (w : World) (hx : (dRowSS x.tables).le 1048576) (hy : (dRowSS y.tables).le 1048576) (zx : (dRowSS x.tables).sz ≤ 1048576) (zy : (dRowSS y.tables).sz ≤ 1048576) (rx : Rd w A (dRowSS x.tables) (.slice xa x.tables.length xc)) (ry : Rd w B (dRowSS y.tables) (.slice ya y.tables.length yc)) :
    Calls Try.prog 7 #[.agg #[.slice xa x.tables.length xc, .int .i64 x.next], .agg #[.slice ya y.tables.length yc, .int .i64 y.next]] w (DfI w (dfR x y) (dfC x y)) := by
  have hxm : (dRowSS x.tables).le maxLen := D.le.mono (by unfold maxLen; omega) _ hx
  have hym : (dRowSS y.tables).le maxLen := D.le.mono (by unfold maxLen; omega) _ hy
  have PX : Hid (∀ W, (Box2D 31 w W #[.slice xa x.tables.length xc, .int .i64 x.next] #[.slice ya y.tables.length yc, .int .i64 y.next]) → Calls Try.prog 17 #[.agg #[.slice xa x.tables.length xc, .int .i64 x.next]] W fun e w' => e = .returned (.bool (plainB x)) ∧ (Box2D 31 w w' #[.slice xa x.tables.length xc, .int .i64 x.next] #[.slice ya y.tables.length yc, .int .i64 y.next])) := fun W h => (idsRiseI x xa xc A W hxm (rx.later h.bel)).mono (fun e w' ⟨he, hB⟩ => ⟨he, h.later hB⟩)
  have PY : Hid (∀ W, (Box2D 31 w W #[.slice xa x.tables.length xc, .int .i64 x.next] #[.slice ya y.tables.length yc, .int .i64 y.next]) → Calls Try.prog 17 #[.agg #[.slice ya y.tables.length yc, .int .i64 y.next]] W fun e w' => e = .returned (.bool (plainB y)) ∧ (Box2D 31 w w' #[.slice xa x.tables.length xc, .int .i64 x.next] #[.slice ya y.tables.length yc, .int .i64 y.next])) := fun W h => (idsRiseI y ya yc B W hym (ry.later h.bel)).mono (fun e w' ⟨he, hB⟩ => ⟨he, h.later hB⟩)
  have HO := Lib.hid (And.intro hx (And.intro hy (And.intro zx (And.intro zy (And.intro rx ry)))))
  have hxl : x.tables.length ≤ 1048576 := (Ls_le.1 hx).2.1
  have hyl : y.tables.length ≤ 1048576 := (Ls_le.1 hy).2.1
  have hb := box2D 31 w #[.slice xa x.tables.length xc, .int .i64 x.next] #[.slice ya y.tables.length yc, .int .i64 y.next]
  have HB := Lib.hid hb
  clear hx hy zx zy rx ry hxm hym
  have x0 := cell_at (o := 0) hb.a rfl
  have x1 := cell_at (o := 1) hb.a rfl
  have y0 := cell_at (o := 0) hb.b rfl
  have y1 := cell_at (o := 1) hb.b rfl
  clear hb
  cases hpx : plainB x
  case false =>
    have HZ : Hid (dfR x y = [] ∧ dfC x y = 1) := df_no (by rw [hpx]; rfl)
    rw [hpx] at PX
    clear hpx
    go_enter Try.func7, Try.ntmps7
    go_wp2_with fail
    refine (PX.out _ HB.out).mono ?_
    rintro e w1 ⟨rfl, hb⟩
    have HB1 := Lib.hid hb
    clear hb x0 x1 y0 y1
    go_wp2_with fail
    go_ret2
    rw [HZ.out.1, HZ.out.2]
    exact ⟨none, 0, rfl, ⟨none, 0, rfl, .inl rfl⟩, HB1.out.bel⟩
  rw [hpx] at PX
  cases hpy : plainB y
  case false =>
    have HZ : Hid (dfR x y = [] ∧ dfC x y = 1) := df_no (by rw [hpx, hpy]; rfl)
    rw [hpy] at PY
    clear hpx hpy
    go_enter Try.func7, Try.ntmps7
    go_wp2_with fail
    refine (PX.out _ HB.out).mono ?_
    rintro e w1 ⟨rfl, hb⟩
    have HB1 := Lib.hid hb
    clear x0 x1 y0 y1
    have x0 := cell_at (o := 0) hb.a rfl
    have x1 := cell_at (o := 1) hb.a rfl
    have y0 := cell_at (o := 0) hb.b rfl
    have y1 := cell_at (o := 1) hb.b rfl
    clear hb
    go_wp2_with fail
    refine (PY.out _ HB1.out).mono ?_
    rintro e w2 ⟨rfl, hb⟩
    have HB2 := Lib.hid hb
    clear hb x0 x1 y0 y1
    go_wp2_with fail
    go_ret2
    rw [HZ.out.1, HZ.out.2]
    exact ⟨none, 0, rfl, ⟨none, 0, rfl, .inl rfl⟩, HB2.out.bel⟩
  rw [hpy] at PY
  by_cases hlen : x.tables.length = y.tables.length
  case neg =>
    have HZ : Hid (dfR x y = [] ∧ dfC x y = 1) := df_no (by rw [hpx, hpy]; simpa using hlen)
    have hl1 : ((x.tables.length : Int) != (y.tables.length : Int)) = true := by simp; omega
    have hl2 : (x.tables.length != y.tables.length) = true := by simpa using hlen
    have hl3 : (x.tables.length == y.tables.length) = false := by simpa using hlen
    clear hpx hpy hlen
    go_enter Try.func7, Try.ntmps7
    go_wp2_with fail
    refine (PX.out _ HB.out).mono ?_
    rintro e w1 ⟨rfl, hb⟩
    have HB1 := Lib.hid hb
    clear x0 x1 y0 y1
    have x0 := cell_at (o := 0) hb.a rfl
    have x1 := cell_at (o := 1) hb.a rfl
    have y0 := cell_at (o := 0) hb.b rfl
    have y1 := cell_at (o := 1) hb.b rfl
    clear hb
    go_wp2_with fail
    refine (PY.out _ HB1.out).mono ?_
    rintro e w2 ⟨rfl, hb⟩
    have HB2 := Lib.hid hb
    clear x0 x1 y0 y1
    have x0 := cell_at (o := 0) hb.a rfl
    have y0 := cell_at (o := 0) hb.b rfl
    clear hb
    go_wp2_with fail
    go_ret2
    rw [HZ.out.1, HZ.out.2]
    exact ⟨none, 0, rfl, ⟨none, 0, rfl, .inl rfl⟩, HB2.out.bel⟩
  have HZ : Hid (dfR x y = preT x.tables y.tables x.tables.length ∧ dfC x y = 0) := df_yes (by rw [hpx, hpy, hlen]; simp)
  have HP : Hid (plainP x ∧ plainP y ∧ x.tables.length = y.tables.length) := ⟨plain_of hpx, plain_of hpy, hlen⟩
  have hl1 : ((x.tables.length : Int) != (y.tables.length : Int)) = false := by simp; omega
  have hl2 : (x.tables.length != y.tables.length) = false := by simpa using hlen
  have hl3 : (x.tables.length == y.tables.length) = true := by simpa using hlen
  rw [HZ.out.1, HZ.out.2]
  clear hpx hpy hlen HZ
  go_enter Try.func7, Try.ntmps7
  go_wp2_with fail
  refine (PX.out _ HB.out).mono ?_
  rintro e w1 ⟨rfl, hb⟩
  have HB1 := Lib.hid hb
  clear x0 x1 y0 y1
  have x0 := cell_at (o := 0) hb.a rfl
  have x1 := cell_at (o := 1) hb.a rfl
  have y0 := cell_at (o := 0) hb.b rfl
  have y1 := cell_at (o := 1) hb.b rfl
  clear hb
  go_wp2_with fail
  refine (PY.out _ HB1.out).mono ?_
  rintro e w2 ⟨rfl, hb⟩
  have HB2 := Lib.hid hb
  clear x0 x1 y0 y1
  have x0 := cell_at (o := 0) hb.a rfl
  have y0 := cell_at (o := 0) hb.b rfl
  clear hb PX PY
  go_wp2_with fail
  clear x0 y0 hl1 hl2 hl3 HB HB1
  go_loopw [6, 33] (fun v t wr => ∃ (i : Nat) (es : List Ch3) (va : Option Addr) (vc : Nat), i ≤ x.tables.length ∧ t = .int .i64 i ∧ v = .slice va es.length vc ∧ Hid (DSt w wr #[.slice xa x.tables.length xc, .int .i64 x.next] #[.slice ya y.tables.length yc, .int .i64 y.next] es (.slice va es.length vc) ∧ es.map Ch3.c = preT x.tables y.tables i)) (fun _ t _ => x.tables.length - (intOf t).toNat)
  case atStart => exact ⟨0, [], none, 0, Nat.zero_le _, rfl, rfl, ⟨HB2.out, CG.nil _ _⟩, rfl⟩
  case round =>
    obtain ⟨i, es, va, vc, hi, rfl, rfl, HW⟩ := hrel
    by_cases hlt : i < x.tables.length
    case neg =>
      obtain rfl : i = x.tables.length := by omega
      have hkd : decide ((x.tables.length : Int) < (x.tables.length : Int)) = false := by simp
      go_wp2_with fail
      go_ret2
      exact HW.out.1.ans HW.out.2.symm
    have hki : (i : Int) < (x.tables.length : Int) := by omega
    have hlty : i < y.tables.length := by have := HP.out.2.2; omega
    have hkiy : (i : Int) < (y.tables.length : Int) := by omega
    obtain ⟨xb, xo, rfl, -, hcx⟩ := Rd.things (d := cRowS) (n := 1) HO.out.2.2.2.2.1 i hlt
    obtain ⟨yb, yo, rfl, -, hcy⟩ := Rd.things (d := cRowS) (n := 1) HO.out.2.2.2.2.2 i hlty
    obtain ⟨u0, c0, r0⟩ := hcx 0 (by omega)
    obtain ⟨u1, c1, r1⟩ := hcy 0 (by omega)
    replace r0 : Rd w A (dRowS x.tables[i]) u0 := r0
    replace r1 : Rd w B (dRowS y.tables[i]) u1 := r1
    obtain ⟨ra, rq, rfl⟩ := r0.lsSlice
    obtain ⟨sa, sq, rfl⟩ := r1.lsSlice
    rw [Nat.mul_one, Nat.add_zero] at c0 c1
    have hlea : (dRowS x.tables[i]).le 1048576 := (Ls_le.1 HO.out.1).2.2 i hlt 0 (by omega)
    have hleb : (dRowS y.tables[i]).le 1048576 := (Ls_le.1 HO.out.2.1).2.2 i hlty 0 (by omega)
    have HPT : Hid (preT x.tables y.tables (i + 1) = preT x.tables y.tables i ++ diffT i x.tables[i] y.tables[i] ∧ (preT x.tables y.tables i).length + (diffT i x.tables[i] y.tables[i]).length ≤ 2097152) := by
      have e := preT_succ (ta := x.tables) (tb := y.tables) hlt hlty
      refine ⟨e, ?_⟩
      have h1 := preT_len x.tables y.tables (i + 1)
      rw [e, List.length_append] at h1
      have h2 := rowsN_sz x.tables (k := i + 1) (by omega)
      have h3 := rowsN_sz y.tables (k := i + 1) (by omega)
      have h4 := HO.out.2.2.1
      have h5 := HO.out.2.2.2.1
      omega
    have HRI : Hid (riseIds x.tables[i] ∧ riseIds y.tables[i]) := ⟨HP.out.1 i hlt, HP.out.2.1 i hlty⟩
    generalize x.tables[i] = la at *
    generalize y.tables[i] = lb at *
    obtain ⟨rba, roa, hra⟩ : ∃ rb roff, 0 < la.length → ra = some ⟨rb, roff, none⟩ := by
      by_cases h0 : 0 < la.length
      · obtain ⟨rb, roff, h, -, -⟩ := Rd.things (d := dRow) (n := 2) r0 0 h0
        exact ⟨rb, roff, fun _ => h⟩
      · exact ⟨0, 0, fun h => absurd h h0⟩
    obtain ⟨rbb, rob, hrb⟩ : ∃ rb roff, 0 < lb.length → sa = some ⟨rb, roff, none⟩ := by
      by_cases h0 : 0 < lb.length
      · obtain ⟨rb, roff, h, -, -⟩ := Rd.things (d := dRow) (n := 2) r1 0 h0
        exact ⟨rb, roff, fun _ => h⟩
      · exact ⟨0, 0, fun h => absurd h h0⟩
    have HLA : Hid ((dRowS la).le 1048576 ∧ (0 < la.length → ra = some ⟨rba, roa, none⟩) ∧ ∀ W, Below w.heap.size w W → Rd W A (dRowS la) (.slice ra la.length rq)) := ⟨hlea, hra, fun W h => r0.later h⟩
    have HLB : Hid ((dRowS lb).le 1048576 ∧ (0 < lb.length → sa = some ⟨rbb, rob, none⟩) ∧ ∀ W, Below w.heap.size w W → Rd W B (dRowS lb) (.slice sa lb.length sq)) := ⟨hleb, hrb, fun W h => r1.later h⟩
    have SHA : Hid (∀ W, Below w.heap.size w W → Calls Try.prog 18 #[.slice ra la.length rq] W (ShAns la rba roa W)) := fun W h => shelveI la ra rq rba roa A W HLA.out.2.1 (D.le.mono (by unfold maxLen; omega) _ HLA.out.1) (HLA.out.2.2 W h)
    have SHB : Hid (∀ W, Below w.heap.size w W → Calls Try.prog 18 #[.slice sa lb.length sq] W (ShAns lb rbb rob W)) := fun W h => shelveI lb sa sq rbb rob B W HLB.out.2.1 (D.le.mono (by unfold maxLen; omega) _ HLB.out.1) (HLB.out.2.2 W h)
    have CE : Hid (∀ W, (Box2D 31 w W #[.slice (some ⟨xb, xo, none⟩) x.tables.length xc, .int .i64 x.next] #[.slice (some ⟨yb, yo, none⟩) y.tables.length yc, .int .i64 y.next]) → W.cell? ⟨w.heap.size, 0, none⟩ = some (.slice (some ⟨xb, xo, none⟩) x.tables.length xc) ∧ W.cell? ⟨w.heap.size + 1, 0, none⟩ = some (.slice (some ⟨yb, yo, none⟩) y.tables.length yc) ∧ W.cell? ⟨xb, xo + i, none⟩ = some (.slice ra la.length rq) ∧ W.cell? ⟨yb, yo + i, none⟩ = some (.slice sa lb.length sq)) := fun W h => ⟨cell_at (o := 0) h.a rfl, cell_at (o := 0) h.b rfl, (h.bel.cell (p := ⟨xb, xo + i, none⟩) (World.block_lt_of_cell? _ _ c0)).trans c0, (h.bel.cell (p := ⟨yb, yo + i, none⟩) (World.block_lt_of_cell? _ _ c1)).trans c1⟩
    have hx : (Box2D 31 w wr #[.slice (some ⟨xb, xo, none⟩) x.tables.length xc, .int .i64 x.next] #[.slice (some ⟨yb, yo, none⟩) y.tables.length yc, .int .i64 y.next]) := HW.out.1.bx
    have HWC := Lib.hid HW.out
    clear r0 r1 hcx hcy c0 c1 hlea hleb hra hrb HW
    obtain ⟨z0, z1, z2, z3⟩ := CE.out _ hx
    go_wp2_with fail
    clear z0 z1 z2 z3
    refine wp_region_held_drew (S := (fun W => W.cell? ⟨w.heap.size, 0, none⟩ = some (.slice (some ⟨xb, xo, none⟩) x.tables.length xc) ∧ W.cell? ⟨w.heap.size + 1, 0, none⟩ = some (.slice (some ⟨yb, yo, none⟩) y.tables.length yc) ∧ W.cell? ⟨xb, xo + i, none⟩ = some (.slice ra la.length rq) ∧ W.cell? ⟨yb, yo + i, none⟩ = some (.slice sa lb.length sq))) (by kernel_rfl) ?_ (fun hHeld => ?_)
    · (first | exact CE.out _ hx | exact CE.out _ (hx.later (Below.refl _ _).drew))
    refine wpAnyH_take (i := 0) (v := ?_) rfl (by kernel_rfl) (by kernel_rfl) (by kernel_rfl) (fun _ _ _ h => h) (Or.inl ⟨by kernel_rfl, ?_⟩) (by assumption) ?_
    rotate_left
    · (intro wS hSw; (try dsimp only at hSw); go_simp <;> with_reducible rfl)
    try simp only [Act.put, tkS]
    refine wpAnyH_take (i := 1) (v := ?_) rfl (by kernel_rfl) (by kernel_rfl) (by kernel_rfl) (fun _ _ _ h => h) (Or.inl ⟨by kernel_rfl, ?_⟩) (by assumption) ?_
    rotate_left
    · (intro wS hSw; (try dsimp only at hSw); go_simp <;> with_reducible rfl)
    try simp only [Act.put, tkS]
    refine wpAnyH_take (i := 2) (v := ?_) rfl (by kernel_rfl) (by kernel_rfl) (by kernel_rfl) (fun _ _ _ h => h) (Or.inl ⟨by kernel_rfl, ?_⟩) (by assumption) ?_
    rotate_left
    · (intro wS hSw; (try dsimp only at hSw); go_simp <;> with_reducible rfl)
    try simp only [Act.put, tkS]
    refine wpAnyH_take (i := 3) (v := ?_) rfl (by kernel_rfl) (by kernel_rfl) (by kernel_rfl) (fun _ _ _ h => h) (Or.inl ⟨by kernel_rfl, ?_⟩) (by assumption) ?_
    rotate_left
    · (intro wS hSw; (try dsimp only at hSw); go_simp <;> with_reducible rfl)
    try simp only [Act.put, tkS]
    refine wpAnyH_take (i := 4) (v := ?_) rfl (by kernel_rfl) (by kernel_rfl) (by kernel_rfl) (fun _ _ _ h => h) (Or.inl ⟨by kernel_rfl, ?_⟩) (by assumption) ?_
    rotate_left
    · (intro wS hSw; (try dsimp only at hSw); go_simp <;> with_reducible rfl)
    try simp only [Act.put, tkS]
    refine wpAnyH_take (i := 6) (v := ?_) rfl (by kernel_rfl) (by kernel_rfl) (by kernel_rfl) (fun _ _ _ h => h) (Or.inl ⟨by kernel_rfl, ?_⟩) (by assumption) ?_
    rotate_left
    · (intro wS hSw; (try dsimp only at hSw); go_simp <;> with_reducible rfl)
    try simp only [Act.put, tkS]
    refine wpAnyH_take (i := 7) (v := ?_) rfl (by kernel_rfl) (by kernel_rfl) (by kernel_rfl) (fun _ _ _ h => h) (Or.inl ⟨by kernel_rfl, ?_⟩) (by assumption) ?_
    rotate_left
    · (intro wS hSw; (try dsimp only at hSw); go_simp <;> with_reducible rfl)
    try simp only [Act.put, tkS]
    refine wpAnyH_take (i := 8) (v := ?_) rfl (by kernel_rfl) (by kernel_rfl) (by kernel_rfl) (fun _ _ _ h => h) (Or.inl ⟨by kernel_rfl, ?_⟩) (by assumption) ?_
    rotate_left
    · (intro wS hSw; (try dsimp only at hSw); go_simp <;> with_reducible rfl)
    try simp only [Act.put, tkS]
    refine wpAnyH_take (i := 9) (v := ?_) rfl (by kernel_rfl) (by kernel_rfl) (by kernel_rfl) (fun _ _ _ h => h) (Or.inl ⟨by kernel_rfl, ?_⟩) (by assumption) ?_
    rotate_left
    · (intro wS hSw; (try dsimp only at hSw); go_simp <;> with_reducible rfl)
    try simp only [Act.put, tkS]
    refine wpAnyH_take (i := 10) (v := ?_) rfl (by kernel_rfl) (by kernel_rfl) (by kernel_rfl) (fun _ _ _ h => h) (Or.inl ⟨by kernel_rfl, ?_⟩) (by assumption) ?_
    rotate_left
    · (intro wS hSw; (try dsimp only at hSw); go_simp <;> with_reducible rfl)
    try simp only [Act.put, tkS]
    refine wpAnyH_ready (rs := [5]) (by kernel_rfl) (by simp) (AllReadyH.cons rfl (fun K hK => ?_) AllReadyH.nil)
    go_simp
    go_at_call 18
    refine (SHA.out _ (by first | exact hx.bel | exact (hx.later (Below.refl _ _).drew).bel)).mono ?_
    rintro e wa ⟨mla, Dla, rfl, howla, hsmla, hmlla, hB⟩
    have hB2 : Below wr.heap.size wr wa := by first | exact hB | exact (Below.refl _ _).drew.trans hB
    have SHla : Hid (ShS wa mla la rba roa ∧ wr.heap.size ≤ mla ∧ Below wr.heap.size wr wa) := ⟨⟨_, _, howla, hsmla⟩, by first | exact hmlla | (simpa using hmlla), hB2⟩
    replace hx := hx.later hB2
    clear howla hsmla hmlla hB hB2
    refine hK.out _ _ ?_ (fun hHeld => ?_)
    · (first | exact CE.out _ hx | exact CE.out _ (hx.later (Below.refl _ _).drew))
    clear hK K
    try simp only [Act.put, tkS]
    refine wpAnyH_ready (rs := [11]) (by kernel_rfl) (by simp) (AllReadyH.cons rfl (fun K hK => ?_) AllReadyH.nil)
    go_simp
    go_at_call 18
    refine (SHB.out _ (by first | exact hx.bel | exact (hx.later (Below.refl _ _).drew).bel)).mono ?_
    rintro e wb ⟨mlb, Dlb, rfl, howlb, hsmlb, hmllb, hB⟩
    have hB2 : Below wa.heap.size wa wb := by first | exact hB | exact (Below.refl _ _).drew.trans hB
    have SHlb : Hid (ShS wb mlb lb rbb rob ∧ wa.heap.size ≤ mlb ∧ Below wa.heap.size wa wb) := ⟨⟨_, _, howlb, hsmlb⟩, by first | exact hmllb | (simpa using hmllb), hB2⟩
    replace hx := hx.later hB2
    clear howlb hsmlb hmllb hB hB2
    refine hK.out _ _ ?_ (fun hHeld => ?_)
    · (first | exact CE.out _ hx | exact CE.out _ (hx.later (Below.refl _ _).drew))
    clear hK K
    try simp only [Act.put, tkS]
    refine wpAnyH_take (i := 12) (v := ?_) rfl (by kernel_rfl) (by kernel_rfl) (by kernel_rfl) (fun _ _ _ h => h) (Or.inl ⟨by kernel_rfl, ?_⟩) (by assumption) ?_
    rotate_left
    · (intro wS hSw; (try dsimp only at hSw); go_simp <;> with_reducible rfl)
    try simp only [Act.put, tkS]
    refine wpAnyH_take (i := 13) (v := ?_) rfl (by kernel_rfl) (by kernel_rfl) (by kernel_rfl) (fun _ _ _ h => h) (Or.inl ⟨by kernel_rfl, ?_⟩) (by assumption) ?_
    rotate_left
    · (intro wS hSw; (try dsimp only at hSw); go_simp <;> with_reducible rfl)
    try simp only [Act.put, tkS]
    refine wpAnyH_done (by kernel_rfl) ?_ _
    have hxb := Lib.hid hx
    have hxv : Hid ((Box2D 31 w (wb.drew.alloc (.cells #[.slice ra la.length rq, .slice sa lb.length sq] 45)) #[.slice (some ⟨xb, xo, none⟩) x.tables.length xc, .int .i64 x.next] #[.slice (some ⟨yb, yo, none⟩) y.tables.length yc, .int .i64 y.next])) := hx.later ((Below.refl _ _).drew.alloc (Nat.le_refl _) _)
    have IDS : Hid (Calls Try.prog 19 #[.slice (some ⟨wb.heap.size, 0, none⟩) 2 2] (wb.drew.alloc (.cells #[.slice ra la.length rq, .slice sa lb.length sq] 45)) (IdsAns [la, lb] (wb.drew.alloc (.cells #[.slice ra la.length rq, .slice sa lb.length sq] 45)))) :=
      idsOfI [la, lb] (some ⟨wb.heap.size, 0, none⟩) 2 (fun _ => True) _ (by simp) (le_two HLA.out.1 HLB.out.1) (rd_two (heap_newD wb.drew _) (HLA.out.2.2 _ hxv.out.bel) (HLB.out.2.2 _ hxv.out.bel))
    obtain ⟨z0, z1, z2, z3⟩ := CE.out _ hx
    go_wp2_with fail
    clear z0 z1 z2 z3
    refine wp_region_held_drew (S := (fun W => W.cell? ⟨w.heap.size, 0, none⟩ = some (.slice (some ⟨xb, xo, none⟩) x.tables.length xc) ∧ W.cell? ⟨w.heap.size + 1, 0, none⟩ = some (.slice (some ⟨yb, yo, none⟩) y.tables.length yc) ∧ W.cell? ⟨xb, xo + i, none⟩ = some (.slice ra la.length rq) ∧ W.cell? ⟨yb, yo + i, none⟩ = some (.slice sa lb.length sq))) (by kernel_rfl) ?_ (fun hHeld => ?_)
    · (first | exact CE.out _ hx | exact CE.out _ (hx.later (Below.refl _ _).drew) | exact CE.out _ hxv.out)
    refine wpAnyH_take (i := 0) (v := ?_) rfl (by kernel_rfl) (by kernel_rfl) (by kernel_rfl) (fun _ _ _ h => h) (Or.inl ⟨by kernel_rfl, ?_⟩) (by assumption) ?_
    rotate_left
    · (intro wS hSw; (try dsimp only at hSw); go_simp <;> with_reducible rfl)
    try simp only [Act.put, tkS]
    refine wpAnyH_take (i := 1) (v := ?_) rfl (by kernel_rfl) (by kernel_rfl) (by kernel_rfl) (fun _ _ _ h => h) (Or.inl ⟨by kernel_rfl, ?_⟩) (by assumption) ?_
    rotate_left
    · (intro wS hSw; (try dsimp only at hSw); go_simp <;> with_reducible rfl)
    try simp only [Act.put, tkS]
    refine wpAnyH_take (i := 2) (v := ?_) rfl (by kernel_rfl) (by kernel_rfl) (by kernel_rfl) (fun _ _ _ h => h) (Or.inl ⟨by kernel_rfl, ?_⟩) (by assumption) ?_
    rotate_left
    · (intro wS hSw; (try dsimp only at hSw); go_simp <;> with_reducible rfl)
    try simp only [Act.put, tkS]
    refine wpAnyH_take (i := 3) (v := ?_) rfl (by kernel_rfl) (by kernel_rfl) (by kernel_rfl) (fun _ _ _ h => h) (Or.inl ⟨by kernel_rfl, ?_⟩) (by assumption) ?_
    rotate_left
    · (intro wS hSw; (try dsimp only at hSw); go_simp <;> with_reducible rfl)
    try simp only [Act.put, tkS]
    refine wpAnyH_take (i := 4) (v := ?_) rfl (by kernel_rfl) (by kernel_rfl) (by kernel_rfl) (fun _ _ _ h => h) (Or.inl ⟨by kernel_rfl, ?_⟩) (by assumption) ?_
    rotate_left
    · (intro wS hSw; (try dsimp only at hSw); go_simp <;> with_reducible rfl)
    try simp only [Act.put, tkS]
    refine wpAnyH_take (i := 5) (v := ?_) rfl (by kernel_rfl) (by kernel_rfl) (by kernel_rfl) (fun _ _ _ h => h) (Or.inl ⟨by kernel_rfl, ?_⟩) (by assumption) ?_
    rotate_left
    · (intro wS hSw; (try dsimp only at hSw); go_simp <;> with_reducible rfl)
    try simp only [Act.put, tkS]
    refine wpAnyH_take (i := 6) (v := ?_) rfl (by kernel_rfl) (by kernel_rfl) (by kernel_rfl) (fun _ _ _ h => h) (Or.inl ⟨by kernel_rfl, ?_⟩) (by assumption) ?_
    rotate_left
    · (intro wS hSw; (try dsimp only at hSw); go_simp <;> with_reducible rfl)
    try simp only [Act.put, tkS]
    refine wpAnyH_take (i := 7) (v := ?_) rfl (by kernel_rfl) (by kernel_rfl) (by kernel_rfl) (fun _ _ _ h => h) (Or.inl ⟨by kernel_rfl, ?_⟩) (by assumption) ?_
    rotate_left
    · (intro wS hSw; (try dsimp only at hSw); go_simp <;> with_reducible rfl)
    try simp only [Act.put, tkS]
    refine wpAnyH_take (i := 8) (v := ?_) rfl (by kernel_rfl) (by kernel_rfl) (by kernel_rfl) (fun _ _ _ h => h) (Or.inl ⟨by kernel_rfl, ?_⟩) (by assumption) ?_
    rotate_left
    · (intro wS hSw; (try dsimp only at hSw); go_simp <;> with_reducible rfl)
    try simp only [Act.put, tkS]
    refine wpAnyH_take (i := 9) (v := ?_) rfl (by kernel_rfl) (by kernel_rfl) (by kernel_rfl) (fun _ _ _ h => h) (Or.inl ⟨by kernel_rfl, ?_⟩) (by assumption) ?_
    rotate_left
    · (intro wS hSw; (try dsimp only at hSw); go_simp <;> with_reducible rfl)
    try simp only [Act.put, tkS]
    refine wpAnyH_take (i := 14) (v := ?_) rfl (by kernel_rfl) (by kernel_rfl) (by kernel_rfl) (fun _ _ _ h => h) (Or.inl ⟨by kernel_rfl, ?_⟩) (by assumption) ?_
    rotate_left
    · (intro wS hSw; (try dsimp only at hSw); go_simp <;> with_reducible rfl)
    try simp only [Act.put, tkS]
    refine wpAnyH_ready (rs := [10]) (by kernel_rfl) (by simp) (AllReadyH.cons rfl (fun K hK => ?_) AllReadyH.nil)
    go_simp
    skip
    refine hK.out _ _ ?_ (fun hHeld => ?_)
    · (first | exact CE.out _ hx | exact CE.out _ (hx.later (Below.refl _ _).drew) | exact CE.out _ hxv.out)
    clear hK K
    try simp only [Act.put, tkS]
    refine wpAnyH_ready (rs := [11]) (by kernel_rfl) (by simp) (AllReadyH.cons rfl (fun K hK => ?_) AllReadyH.nil)
    go_simp
    go_at_call 19
    refine IDS.out.mono ?_
    rintro e wi ⟨mi, ni, rfl, hmi, hni, hmlo, hB⟩
    have hB2 : Below wb.heap.size wb wi := ((Below.refl _ _).drew.alloc (Nat.le_refl _) _).trans (hB.mono (by simp))
    have HMI : Hid (MapI wi mi ni (idIn [la, lb] 2 0) ∧ ni ≤ 1000 * 1048576 ∧ Below wb.heap.size wb wi) := ⟨hmi, hni, hB2⟩
    replace hx := hxb.out.later hB2
    clear hmi hni hmlo hB hB2
    refine hK.out _ _ ?_ (fun hHeld => ?_)
    · (first | exact CE.out _ hx | exact CE.out _ (hx.later (Below.refl _ _).drew) | exact CE.out _ hxv.out)
    clear hK K
    try simp only [Act.put, tkS]
    refine wpAnyH_ready (rs := [12]) (by kernel_rfl) (by simp) (AllReadyH.cons rfl (fun K hK => ?_) AllReadyH.nil)
    go_simp
    go_at_call 20
    refine (risingI mi ni _ wi HMI.out.1 HMI.out.2.1).mono ?_
    rintro e wm ⟨ids, ia, ic, rfl, hasc, hmem, hrd, hil, hB⟩
    have HID : Hid (ids = idsOf la lb ∧ Rd wm (fun d => wi.heap.size ≤ d ∧ d < wm.heap.size) (dIntS ids) (.slice ia ids.length ic) ∧ Below wi.heap.size wi wm) := ⟨ids_two hasc hmem, hrd, hB⟩
    replace hx := hx.later hB
    clear hasc hmem hrd hB
    refine hK.out _ _ ?_ (fun hHeld => ?_)
    · (first | exact CE.out _ hx | exact CE.out _ (hx.later (Below.refl _ _).drew) | exact CE.out _ hxv.out)
    clear hK K
    try simp only [Act.put, tkS]
    refine wpAnyH_take (i := 13) (v := ?_) rfl (by kernel_rfl) (by kernel_rfl) (by kernel_rfl) (fun _ _ _ h => h) (Or.inl ⟨by kernel_rfl, ?_⟩) (by assumption) ?_
    rotate_left
    · (intro wS hSw; (try dsimp only at hSw); go_simp <;> with_reducible rfl)
    try simp only [Act.put, tkS]
    refine wpAnyH_done (by kernel_rfl) ?_ _
    have s1 := SHla.out.2.2.size
    have s2 := SHlb.out.2.2.size
    have s3 := HMI.out.2.2.size
    have s4 := HID.out.2.2.size
    have bmi : Below wb.heap.size wb wm := HMI.out.2.2.trans (HID.out.2.2.mono s3)
    have bma : Below wa.heap.size wa wm := SHlb.out.2.2.trans (bmi.mono s2)
    have bmr : Below wr.heap.size wr wm := SHla.out.2.2.trans (bma.mono s1)
    have HSA : Hid (ShS wm mla la rba roa ∧ wr.heap.size ≤ mla ∧ mla < wm.heap.size) := ⟨SHla.out.1.later bma, SHla.out.2.1, by have := SHla.out.1.lt; omega⟩
    have HSB : Hid (ShS wm mlb lb rbb rob ∧ wr.heap.size ≤ mlb ∧ mlb < wm.heap.size) := ⟨SHlb.out.1.later bmi, by have := SHlb.out.2.1; omega, by have := SHlb.out.1.lt; omega⟩
    have HIR : Hid (ids = idsOf la lb ∧ Rd wm (fun d => wr.heap.size ≤ d ∧ d < wm.heap.size) (dIntS ids) (.slice ia ids.length ic)) := ⟨HID.out.1, HID.out.2.1.mono (fun d hd => ⟨by have := hd.1; omega, hd.2⟩)⟩
    have HD0 : Hid (DIn w wm wm wr.heap.size #[.slice (some ⟨xb, xo, none⟩) x.tables.length xc, .int .i64 x.next] #[.slice (some ⟨yb, yo, none⟩) y.tables.length yc, .int .i64 y.next] es (.slice va es.length vc)) := ⟨HWC.out.1.later bmr, fun _ _ _ => rfl, Nat.le_refl _, fun g hg => .inl (HWC.out.1.cg.low hg).2⟩
    have HES := Lib.hid HWC.out.2
    clear s1 s2 s3 s4 bmi bma bmr SHla SHlb HMI HID HWC hx hxb hxv IDS SHA SHB CE
    go_wp2_with fail
    generalize wr = wo at *
    go_loopw [6, 62] (fun v t wv => ∃ (k : Nat) (fs : List Ch3) (pa : Option Addr) (pc : Nat), k ≤ ids.length ∧ t = .int .i64 k ∧ v = .slice pa fs.length pc ∧ Hid (DIn w wm wv wo.heap.size #[.slice (some ⟨xb, xo, none⟩) x.tables.length xc, .int .i64 x.next] #[.slice (some ⟨yb, yo, none⟩) y.tables.length yc, .int .i64 y.next] fs (.slice pa fs.length pc) ∧ fs.map Ch3.c = preT x.tables y.tables i ++ (ids.take k).flatMap (chg i la lb))) (fun _ t _ => ids.length - (intOf t).toNat)
    case atStart => exact ⟨0, es, va, vc, Nat.zero_le _, rfl, rfl, HD0.out, by simpa using HES.out⟩
    case round =>
      obtain ⟨k, fs, pa, pc, hk, rfl, rfl, HV⟩ := hrel
      by_cases hkl : k < ids.length
      case neg =>
        obtain rfl : k = ids.length := by omega
        have hkd : decide ((ids.length : Int) < (ids.length : Int)) = false := by simp
        have HN : Hid (DSt w wr #[.slice (some ⟨xb, xo, none⟩) x.tables.length xc, .int .i64 x.next] #[.slice (some ⟨yb, yo, none⟩) y.tables.length yc, .int .i64 y.next] fs (.slice pa fs.length pc) ∧ fs.map Ch3.c = preT x.tables y.tables (i + 1)) := ⟨HV.out.1.st, by rw [HV.out.2, HPT.out.1, List.take_length, HIR.out.1]; rfl⟩
        clear HV HD0
        go_wp2_with fail
        go_roundw
        case rel => exact ⟨i + 1, fs, pa, pc, by omega, by go_num, rfl, HN.out⟩
        case measure => simp [intOf]; omega
      have hkk : (k : Int) < (ids.length : Int) := by omega
      have hrdi : Rd wr (fun d => wo.heap.size ≤ d ∧ d < wm.heap.size) (dIntS ids) (.slice ia ids.length ic) := Rd.same (fun b hb => HV.out.1.kp b hb.1 hb.2) (fun _ h => h) _ _ HIR.out.2
      obtain ⟨ib, io, rfl, -, hc⟩ := Rd.things (d := cInt) (n := 1) hrdi k hkl
      obtain ⟨u0, c0, r0⟩ := hc 0 (by omega)
      obtain rfl : u0 = .int .i64 ids[k] := r0
      rw [Nat.mul_one, Nat.add_zero] at c0
      have hid : iOK ids[k] := ids_ok HLA.out.1 HLB.out.1 (by rw [← HIR.out.1]; exact List.getElem_mem hkl)
      have HTK : Hid ((ids.take (k + 1)).flatMap (chg i la lb) = (ids.take k).flatMap (chg i la lb) ++ chg i la lb ids[k]) := flat_take hkl
      have HLN : Hid (fs.length ≤ 2097152) := by
        show fs.length ≤ _
        have h1 := congrArg List.length HV.out.2
        rw [List.length_map, List.length_append] at h1
        have h2 := flat_pre (f := chg i la lb) ids k
        have h3 := HPT.out.2
        have h4 : (ids.flatMap (chg i la lb)).length = (diffT i la lb).length := by rw [HIR.out.1]; rfl
        omega
      have hsa : ShS wr mla la rba roa := HSA.out.1.kept (HV.out.1.kp mla HSA.out.2.1 HSA.out.2.2)
      have hsb : ShS wr mlb lb rbb rob := HSB.out.1.kept (HV.out.1.kp mlb HSB.out.2.1 HSB.out.2.2)
      have CA : Hid (Calls Try.prog 21 #[.map (some mla), .int .i64 ids[k]] wr fun e w' => ∃ va vc, e = .returned (.agg #[.int .i64 (rowD la ids[k]).id, .slice va (rowD la ids[k]).cells.length vc]) ∧ Own w' (dAtomSS (rowD la ids[k]).cells) (fun c => wr.heap.size ≤ c ∧ c < w'.heap.size) (.slice va (rowD la ids[k]).cells.length vc) ∧ Below wr.heap.size wr w') := copyOfI la rba roa ra rq A mla ids[k] wr HLA.out.2.1 HRI.out.1 HLA.out.1 hid (HLA.out.2.2 _ HV.out.1.st.bx.bel) hsa
      have CB : Hid (∀ W, Below wr.heap.size wr W → Calls Try.prog 21 #[.map (some mlb), .int .i64 ids[k]] W fun e w' => ∃ va vc, e = .returned (.agg #[.int .i64 (rowD lb ids[k]).id, .slice va (rowD lb ids[k]).cells.length vc]) ∧ Own w' (dAtomSS (rowD lb ids[k]).cells) (fun c => W.heap.size ≤ c ∧ c < w'.heap.size) (.slice va (rowD lb ids[k]).cells.length vc) ∧ Below W.heap.size W w') := fun W h => copyOfI lb rbb rob sa sq B mlb ids[k] W HLB.out.2.1 HRI.out.2 HLB.out.1 hid (HLB.out.2.2 _ (HV.out.1.st.bx.bel.trans (h.mono HV.out.1.st.bx.bel.size))) (hsb.later h)
      have HOA : Hid ((dAtomSS (rowD la ids[k]).cells).le maxLen ∧ (dAtomSS (rowD lb ids[k]).cells).le maxLen) := ⟨rowD_le HLA.out.1 _, rowD_le HLB.out.1 _⟩
      have HCN : Hid (eqB (rowD la ids[k]) (rowD lb ids[k]) = true → chg i la lb ids[k] = []) := fun h => chg_no h
      have HCY : Hid (eqB (rowD la ids[k]) (rowD lb ids[k]) = false → chg i la lb ids[k] = [chV i ids[k] (rowD la ids[k]) (rowD lb ids[k])]) := fun h => chg_yes h
      clear hrdi hc hid hsa hsb HD0
      generalize hcg : chg i la lb ids[k] = cgk at *
      generalize ids[k] = id at *
      clear hcg
      generalize rowD la id = ro at *
      generalize rowD lb id = rn at *
      go_wp2_with fail
      refine CA.out.mono ?_
      rintro e w4 ⟨oa, oc, rfl, ho4, hB4⟩
      clear c0
      have HB4 := Lib.hid (And.intro hB4 ho4)
      have CB4 := Lib.hid (CB.out _ hB4)
      clear hB4 ho4 CA CB
      go_wp2_with fail
      refine CB4.out.mono ?_
      rintro e w5 ⟨na, nc, rfl, hn5, hB5⟩
      have hbx := boxD 56 w5 #[.int .i64 (i : Int), .int .i64 id, .int .i64 ro.id, .slice oa ro.cells.length oc, .int .i64 rn.id, .slice na rn.cells.length nc]
      have z0 := cell_at (o := 0) hbx.1 rfl
      have z1 := cell_at (o := 1) hbx.1 rfl
      have z2 := cell_at (o := 2) hbx.1 rfl
      have z3 := cell_at (o := 3) hbx.1 rfl
      have z4 := cell_at (o := 4) hbx.1 rfl
      have z5 := cell_at (o := 5) hbx.1 rfl
      have HB5 := Lib.hid (And.intro hB5 (And.intro hn5 hbx))
      have SR := Lib.hid (sameRowI ro rn oa oc na nc _ _ _ HOA.out.1 HOA.out.2 ((HB4.out.2.later hB5).later hbx.2).rd' (hn5.later hbx.2).rd')
      clear hn5 hB5 hbx CB4
      go_wp2_with fail
      with_reducible refine SR.out.mono ?_
      rintro e w7 ⟨rfl, hB7⟩
      have HB7 : Hid (BoxD 56 w5 w7 #[.int .i64 (i : Int), .int .i64 id, .int .i64 ro.id, .slice oa ro.cells.length oc, .int .i64 rn.id, .slice na rn.cells.length nc] ∧ Below wr.heap.size wr w7 ∧ w5.heap.size < w7.heap.size) := by
        have h1 := HB5.out.2.2.later hB7
        exact ⟨h1, HB4.out.1.trans ((HB5.out.1.trans (h1.2.mono HB5.out.1.size)).mono HB4.out.1.size), (Array.getElem?_eq_some_iff.1 h1.1).1⟩
      clear z0 z1 z2 z3 z4 z5 hB7 SR
      cases hq : eqB ro rn
      case true =>
        have HN : Hid (DIn w wm w7 wo.heap.size #[.slice (some ⟨xb, xo, none⟩) x.tables.length xc, .int .i64 x.next] #[.slice (some ⟨yb, yo, none⟩) y.tables.length yc, .int .i64 y.next] fs (.slice pa fs.length pc) ∧ fs.map Ch3.c = preT x.tables y.tables i ++ (ids.take (k + 1)).flatMap (chg i la lb)) := ⟨HV.out.1.later HB7.out.2.1, by rw [HV.out.2, HTK.out, HCN.out hq, List.append_nil]⟩
        clear hq
        go_wp2_with fail
        go_roundw
        case rel => exact ⟨k + 1, fs, pa, pc, by omega, by go_num, rfl, HN.out⟩
        case measure => simp [intOf]; omega
      obtain ⟨a', c', W', hr, hcg', hkp', -, hBb', hs', hg'⟩ := HV.out.1.st.cg.push HB7.out.2.1 ⟨chV i id ro rn, .slice oa ro.cells.length oc, .slice na rn.cells.length nc, wr.heap.size, w4.heap.size, w5.heap.size⟩ (Nat.le_refl _) HB4.out.1.size HB5.out.1.size (Nat.le_of_lt HB7.out.2.2)
        ((HB4.out.2.later HB5.out.1).later HB7.out.1.2) (HB5.out.2.1.later HB7.out.1.2) (by have := (Array.getElem?_eq_some_iff.1 HV.out.1.st.bx.b).1; omega) (by have := HLN.out; omega) 26
      have HR : Hid ((Builtin.append_ #[26, 26] 26 #[.slice pa fs.length pc, .slice (some ⟨w7.heap.size, 0, none⟩) 1 1]).run Try.prog (w7.alloc (.cells #[.int .i64 (i : Int), .int .i64 id, .int .i64 ro.id, .slice oa ro.cells.length oc, .int .i64 rn.id, .slice na rn.cells.length nc] 56)) = .ok (.slice a' (fs.length + 1) c') W') := hr
      have HN : Hid (DIn w wm W' wo.heap.size #[.slice (some ⟨xb, xo, none⟩) x.tables.length xc, .int .i64 x.next] #[.slice (some ⟨yb, yo, none⟩) y.tables.length yc, .int .i64 y.next] (fs ++ [⟨chV i id ro rn, .slice oa ro.cells.length oc, .slice na rn.cells.length nc, wr.heap.size, w4.heap.size, w5.heap.size⟩]) (.slice a' (fs ++ [(⟨chV i id ro rn, .slice oa ro.cells.length oc, .slice na rn.cells.length nc, wr.heap.size, w4.heap.size, w5.heap.size⟩ : Ch3)]).length c') ∧ (fs ++ [(⟨chV i id ro rn, .slice oa ro.cells.length oc, .slice na rn.cells.length nc, wr.heap.size, w4.heap.size, w5.heap.size⟩ : Ch3)]).map Ch3.c = preT x.tables y.tables i ++ (ids.take (k + 1)).flatMap (chg i la lb)) := by
        refine ⟨?_, by rw [List.map_append, HV.out.2, HTK.out, HCY.out hq, List.append_assoc]; rfl⟩
        rw [List.length_append, List.length_singleton]
        exact HV.out.1.push HB7.out.2.1.size hcg' hkp' hBb' hs' hg'
      have z0 := cell_at (o := 0) HB7.out.1.1 rfl
      have z1 := cell_at (o := 1) HB7.out.1.1 rfl
      have z2 := cell_at (o := 2) HB7.out.1.1 rfl
      have z3 := cell_at (o := 3) HB7.out.1.1 rfl
      have z4 := cell_at (o := 4) HB7.out.1.1 rfl
      have z5 := cell_at (o := 5) HB7.out.1.1 rfl
      clear hr hcg' hkp' hBb' hs' hg' hq
      go_wp2_with (at_builtin; go_must (refine wpList_append_is rfl (.tmp 81) (.tmp 83) 26 rfl _ _ rfl rfl _ _ HR.out ?_))
      go_roundw
      case rel => exact ⟨k + 1, _, a', c', by omega, by go_num, by rw [List.length_append]; rfl, HN.out⟩
      case measure => simp [intOf]; omega
end Go.Proofs.Ytnkgojjgiemgmaa
