import Derived.Test.YtgegjniilocmnaaDRwA
namespace Go.Proofs.Ytgegjniilocmnaa
open Go.RowKit
set_option linter.unusedSimpArgs false
theorem szIRow (id : Int) (cells : List (List At)) (a : Option Addr) (c : Nat) (L : Int) (B : Nat → Prop) (w : World) (g0 : 0 ≤ L) (g1 : L ≤ 1048576) (h0 : iOK id) (h1 : (dAtomSS cells).le maxLen) (r : Rd w B (dAtomSS cells) (.slice a cells.length c)) :
    Calls Try.prog 9 #[.agg #[.int .i64 id, .slice a cells.length c], .int .i64 L] w fun e w' => e = .returned (.int .i64 (lessI L ((dAtomSS cells).sz))) ∧ Below w.heap.size w w' := by
  have h := szDRow ⟨id, cells⟩ a c L B w g0 g1 (fun j hj => by rcases (by omega : j = 0 ∨ j = 1) with rfl | rfl <;> first | exact h0 | exact h1) r
  rw [szT_Row] at h
  exact h
theorem toIRow (id : Int) (cells : List (List At)) (a : Option Addr) (c : Nat) (B : Nat → Prop) (w : World) (h0 : iOK id) (h1 : (dAtomSS cells).le 1048576) (r : Rd w B (dAtomSS cells) (.slice a cells.length c)) :
    Calls Try.prog 11 #[.agg #[.int .i64 id, .slice a cells.length c]] w fun e w' => ∃ p : Nat, e = .returned (.agg #[.int .i64 id, .slice (some ⟨p, 0, none⟩) cells.length cells.length]) ∧ Own w' (dAtomSS cells) (fun c => w.heap.size ≤ c ∧ c < w'.heap.size) (.slice (some ⟨p, 0, none⟩) cells.length cells.length) ∧ Below w.heap.size w w' :=
  (toDRow ⟨id, cells⟩ a c B w (fun j hj => by rcases (by omega : j = 0 ∨ j = 1) with rfl | rfl <;> first | exact h0 | exact h1) r).mono (fun e w' ⟨p, he, ho, hB⟩ => ⟨p, he, Owns.one ho (j := 1) (by omega), hB⟩)
theorem eqIRow (id : Int) (cells : List (List At)) (a : Option Addr) (c : Nat) (a' : Option Addr) (c' : Nat) (A B : Nat → Prop) (w : World) (h0 : iOK id) (h1 : (dAtomSS cells).le maxLen) (r : Rd w A (dAtomSS cells) (.slice a cells.length c)) (r' : Rd w B (dAtomSS cells) (.slice a' cells.length c')) :
    Calls Try.prog 13 #[.agg #[.int .i64 id, .slice a cells.length c], .agg #[.int .i64 id, .slice a' cells.length c']] w fun e w' => e = .returned (.bool true) ∧ Below w.heap.size w w' :=
  eqDRow ⟨id, cells⟩ a c a' c' A B w (fun j hj => by rcases (by omega : j = 0 ∨ j = 1) with rfl | rfl <;> first | exact h0 | exact h1) r r'
structure ChV where
  tab : Int
  cid : Int
  oid : Int
  ocs : List (List At)
  nid : Int
  ncs : List (List At)
def dChange (x : ChV) : Nat → D
  | 0 => .i x.tab
  | 1 => .i x.cid
  | 2 => .i x.oid
  | 3 => dAtomSS x.ocs
  | 4 => .i x.nid
  | _ => dAtomSS x.ncs
theorem szT_Change (x : ChV) : szT 6 (dChange x) = (dAtomSS x.ocs).sz + (dAtomSS x.ncs).sz := by simp [szT, sumN, dChange, D.sz]
set_option maxHeartbeats 1600000 in
theorem szDChange (x : ChV) (a3 : Option Addr) (c3 : Nat) (a5 : Option Addr) (c5 : Nat) (L : Int) (B : Nat → Prop) (w : World) (h0 : 0 ≤ L) (h1 : L ≤ 1048576) (ho : ∀ j, j < 6 → (dChange x j).le maxLen) (r3 : Rd w B (dAtomSS x.ocs) (.slice a3 x.ocs.length c3)) (r5 : Rd w B (dAtomSS x.ncs) (.slice a5 x.ncs.length c5)) :
    Calls Try.prog 4 #[.agg #[.int .i64 x.tab, .int .i64 x.cid, .int .i64 x.oid, .slice a3 x.ocs.length c3, .int .i64 x.nid, .slice a5 x.ncs.length c5], .int .i64 L] w fun e w' => e = .returned (.int .i64 (lessI L (szT 6 (dChange x)))) ∧ Below w.heap.size w w' := by
  rw [szT_Change]
  have HO := Lib.hid ho
  have R3 := Lib.hid r3
  have R5 := Lib.hid r5
  have hx := boxD 26 w #[.int .i64 x.tab, .int .i64 x.cid, .int .i64 x.oid, .slice a3 x.ocs.length c3, .int .i64 x.nid, .slice a5 x.ncs.length c5]
  clear ho r3 r5
  have x0 := cell_at (o := 0) hx.1 rfl
  have x1 := cell_at (o := 1) hx.1 rfl
  have x2 := cell_at (o := 2) hx.1 rfl
  have x3 := cell_at (o := 3) hx.1 rfl
  have x4 := cell_at (o := 4) hx.1 rfl
  have x5 := cell_at (o := 5) hx.1 rfl
  have bl : Hid (0 ≤ L ∧ L ≤ 1048576) := by show _ ∧ _; omega
  clear h0 h1
  go_enter Try.func4, Try.ntmps4
  go_wp2_with fail
  refine (szIRow x.oid x.ocs a3 c3 L B _ bl.out.1 bl.out.2 (HO.out 2 (by omega)) (HO.out 3 (by omega)) (R3.out.later hx.2)).mono ?_
  rintro e w4 ⟨rfl, hB4⟩
  have hx := hx.later hB4
  clear hB4 x0 x1 x2 x3 x4 x5
  have x0 := cell_at (o := 0) hx.1 rfl
  have x1 := cell_at (o := 1) hx.1 rfl
  have x2 := cell_at (o := 2) hx.1 rfl
  have x3 := cell_at (o := 3) hx.1 rfl
  have x4 := cell_at (o := 4) hx.1 rfl
  have x5 := cell_at (o := 5) hx.1 rfl
  by_cases hn3 : L - ((dAtomSS x.ocs).sz : Int) < 0
  case pos =>
    have HR : Hid (lessI L ((dAtomSS x.ocs).sz + (dAtomSS x.ncs).sz) = -1) := by have := bl.out; show lessI L ((dAtomSS x.ocs).sz + (dAtomSS x.ncs).sz) = -1; unfold lessI; rw [if_neg (by omega)]
    rw [less_no hn3]
    go_wp2_with fail
    go_ret
    exact ⟨ret_i HR.out.symm, hx.2⟩
  rw [less_yes (by omega)]
  obtain ⟨L3, hL3⟩ : ∃ L3 : Int, L3 = L - ((dAtomSS x.ocs).sz : Int) := ⟨_, rfl⟩
  rw [← hL3]
  have d3 : decide (L3 < 0) = false := decide_eq_false (by omega)
  have bL3 : Hid (0 ≤ L3 ∧ L3 ≤ 1048576) := by have := bl.out; show _ ∧ _; omega
  have HL3 := Lib.hid hL3
  clear hn3 hL3 bl
  have bl := bL3
  clear bL3
  go_wp2_with fail
  refine (szIRow x.nid x.ncs a5 c5 L3 B _ bl.out.1 bl.out.2 (HO.out 4 (by omega)) (HO.out 5 (by omega)) (R5.out.later hx.2)).mono ?_
  rintro e w6 ⟨rfl, hB6⟩
  have hx := hx.later hB6
  clear hB6 x0 x1 x2 x3 x4 x5
  have x0 := cell_at (o := 0) hx.1 rfl
  have x1 := cell_at (o := 1) hx.1 rfl
  have x2 := cell_at (o := 2) hx.1 rfl
  have x3 := cell_at (o := 3) hx.1 rfl
  have x4 := cell_at (o := 4) hx.1 rfl
  have x5 := cell_at (o := 5) hx.1 rfl
  by_cases hn5 : L3 - ((dAtomSS x.ncs).sz : Int) < 0
  case pos =>
    have HR : Hid (lessI L ((dAtomSS x.ocs).sz + (dAtomSS x.ncs).sz) = -1) := by have := HL3.out; have := bl.out; show lessI L ((dAtomSS x.ocs).sz + (dAtomSS x.ncs).sz) = -1; unfold lessI; rw [if_neg (by omega)]
    rw [less_no hn5]
    go_wp2_with fail
    go_ret
    exact ⟨ret_i HR.out.symm, hx.2⟩
  rw [less_yes (by omega)]
  obtain ⟨L5, hL5⟩ : ∃ L5 : Int, L5 = L3 - ((dAtomSS x.ncs).sz : Int) := ⟨_, rfl⟩
  rw [← hL5]
  have d5 : decide (L5 < 0) = false := decide_eq_false (by omega)
  have bL5 : Hid (0 ≤ L5 ∧ L5 ≤ 1048576) := by have := bl.out; show _ ∧ _; omega
  have HL5 := Lib.hid hL5
  have HR : Hid (lessI L ((dAtomSS x.ocs).sz + (dAtomSS x.ncs).sz) = L5) := by have := HL3.out; have := HL5.out; have := bL5.out; show lessI L ((dAtomSS x.ocs).sz + (dAtomSS x.ncs).sz) = L5; unfold lessI; rw [if_pos (by omega)]; omega
  clear hn5 hL5 bl
  have bl := bL5
  clear bL5
  go_wp2_with fail
  go_ret
  exact ⟨ret_i HR.out.symm, hx.2⟩
set_option maxRecDepth 100000 in
set_option maxHeartbeats 3200000 in
theorem toDChange (x : ChV) (a3 : Option Addr) (c3 : Nat) (a5 : Option Addr) (c5 : Nat) (B : Nat → Prop) (w : World) (ho : ∀ j, j < 6 → (dChange x j).le 1048576) (r3 : Rd w B (dAtomSS x.ocs) (.slice a3 x.ocs.length c3)) (r5 : Rd w B (dAtomSS x.ncs) (.slice a5 x.ncs.length c5)) :
    Calls Try.prog 6 #[.agg #[.int .i64 x.tab, .int .i64 x.cid, .int .i64 x.oid, .slice a3 x.ocs.length c3, .int .i64 x.nid, .slice a5 x.ncs.length c5]] w fun e w' => ∃ p3 : Nat, ∃ p5 : Nat, e = .returned (.agg #[.int .i64 x.tab, .int .i64 x.cid, .int .i64 x.oid, .slice (some ⟨p3, 0, none⟩) x.ocs.length x.ocs.length, .int .i64 x.nid, .slice (some ⟨p5, 0, none⟩) x.ncs.length x.ncs.length]) ∧ Owns w' 6 (dChange x) (vat [.int .i64 x.tab, .int .i64 x.cid, .int .i64 x.oid, .slice (some ⟨p3, 0, none⟩) x.ocs.length x.ocs.length, .int .i64 x.nid, .slice (some ⟨p5, 0, none⟩) x.ncs.length x.ncs.length]) (fun c => w.heap.size ≤ c ∧ c < w'.heap.size) ∧ Below w.heap.size w w' := by
  have HO := Lib.hid ho
  have R3 := Lib.hid r3
  have R5 := Lib.hid r5
  have T0 := Lib.hid (st3First w 26 34 #[.int .i64 x.tab, .int .i64 x.cid, .int .i64 x.oid, .slice a3 x.ocs.length c3, .int .i64 x.nid, .slice a5 x.ncs.length c5] #[.int .i64 0, .int .i64 0, .int .i64 0, .slice none 0 0, .int .i64 0, .slice none 0 0] #[.int .i64 x.tab, .int .i64 x.cid, .int .i64 0, .slice none 0 0, .int .i64 0, .slice none 0 0])
  clear ho r3 r5
  go_enter Try.func6, Try.ntmps6
  go_wp2_with fail
  have HE : Hid (w.heap.size + 1 + 1 < (((w.alloc (.cells #[.int .i64 x.tab, .int .i64 x.cid, .int .i64 x.oid, .slice a3 x.ocs.length c3, .int .i64 x.nid, .slice a5 x.ncs.length c5] 26)).alloc (.cells #[.int .i64 0, .int .i64 0, .int .i64 0, .slice none 0 0, .int .i64 0, .slice none 0 0] 34)).alloc (.cells #[.int .i64 x.tab, .int .i64 x.cid, .int .i64 0, .slice none 0 0, .int .i64 0, .slice none 0 0] 34)).heap.size) := by show _ < _; simp
  refine (toIRow x.oid x.ocs a3 c3 B _ (HO.out 2 (by omega)) (HO.out 3 (by omega)) (R3.out.later T0.out.bel)).mono ?_
  rintro e w4 ⟨p3, rfl, o3, hB3⟩
  have S3 := Lib.hid (T0.out.later hB3)
  obtain ⟨l3, hp3⟩ : ∃ p, p = (((w.alloc (.cells #[.int .i64 x.tab, .int .i64 x.cid, .int .i64 x.oid, .slice a3 x.ocs.length c3, .int .i64 x.nid, .slice a5 x.ncs.length c5] 26)).alloc (.cells #[.int .i64 0, .int .i64 0, .int .i64 0, .slice none 0 0, .int .i64 0, .slice none 0 0] 34)).alloc (.cells #[.int .i64 x.tab, .int .i64 x.cid, .int .i64 0, .slice none 0 0, .int .i64 0, .slice none 0 0] 34)).heap.size := ⟨_, rfl⟩
  have HP3 : Hid (w.heap.size + 1 + 1 < l3 ∧ l3 ≤ w4.heap.size) := by
    have h1 := hB3.size; have h2 := HE.out
    rw [← hp3] at h1 h2
    exact ⟨h2, h1⟩
  rw [← hp3] at o3
  have O3 := Lib.hid o3
  clear o3 hB3 hp3 T0 HE
  have x3 := cell_at (o := 3) S3.out.ot rfl
  have z3 := frozen_at 3 S3.out.ot
  have hne : (w.heap.size = w.heap.size + 1 + 1) = False := by simp; omega
  have x2 := cell_at (o := 2) S3.out.ot rfl
  have z2 := frozen_at 2 S3.out.ot
  have y2 := cell_at (o := 2) S3.out.bx rfl
  have y4 := cell_at (o := 4) S3.out.bx rfl
  have y5 := cell_at (o := 5) S3.out.bx rfl
  have U3 := Lib.hid ((S3.out.set 2 (.int .i64 x.oid)).set 3 (.slice (some ⟨p3, 0, none⟩) x.ocs.length x.ocs.length))
  have F3 : Hid (Frm (fun c => c = w.heap.size + 1 + 1) w4 ((w4.setCell ⟨w.heap.size + 1 + 1, 2, none⟩ (.int .i64 x.oid)).setCell ⟨w.heap.size + 1 + 1, 3, none⟩ (.slice (some ⟨p3, 0, none⟩) x.ocs.length x.ocs.length))) := by
    show Frm _ _ _
    refine Frm.set (B := fun c => c = w.heap.size + 1 + 1) ?_ rfl _
    refine Frm.set (B := fun c => c = w.heap.size + 1 + 1) ?_ rfl _
    exact Frm.refl _ _
  have P3 := Lib.hid (O3.out.frm F3.out (fun c hc hF => by have h1 := HP3.out.1; have h2 := hc.1; have h3 : c = _ := hF; omega))
  clear O3
  have O3 := P3
  clear P3
  have HE : Hid (w.heap.size + 1 + 1 < ((w4.setCell ⟨w.heap.size + 1 + 1, 2, none⟩ (.int .i64 x.oid)).setCell ⟨w.heap.size + 1 + 1, 3, none⟩ (.slice (some ⟨p3, 0, none⟩) x.ocs.length x.ocs.length)).heap.size) := by have := HP3.out; show _ < _; simp; omega
  clear F3 S3
  go_wp2_with fail
  refine (toIRow x.nid x.ncs a5 c5 B _ (HO.out 4 (by omega)) (HO.out 5 (by omega)) (R5.out.later U3.out.bel)).mono ?_
  rintro e w6 ⟨p5, rfl, o5, hB5⟩
  have S5 := Lib.hid (U3.out.later hB5)
  obtain ⟨l5, hp5⟩ : ∃ p, p = ((w4.setCell ⟨w.heap.size + 1 + 1, 2, none⟩ (.int .i64 x.oid)).setCell ⟨w.heap.size + 1 + 1, 3, none⟩ (.slice (some ⟨p3, 0, none⟩) x.ocs.length x.ocs.length)).heap.size := ⟨_, rfl⟩
  have HP5 : Hid (w.heap.size + 1 + 1 < l5 ∧ l5 ≤ w6.heap.size ∧ w4.heap.size ≤ l5) := by
    have h1 := hB5.size; have h2 := HE.out
    rw [← hp5] at h1 h2
    exact ⟨h2, h1, by rw [hp5]; simp⟩
  rw [← hp5] at o5
  have Q3_5 := Lib.hid (O3.out.later hB5)
  clear O3
  have O3 := Q3_5
  clear Q3_5
  have O5 := Lib.hid o5
  clear o5 hB5 hp5 U3 HE
  have x5 := cell_at (o := 5) S5.out.ot rfl
  have z5 := frozen_at 5 S5.out.ot
  have hne : (w.heap.size = w.heap.size + 1 + 1) = False := by simp; omega
  have x0 := cell_at (o := 0) S5.out.ot rfl
  have x1 := cell_at (o := 1) S5.out.ot rfl
  have x2 := cell_at (o := 2) S5.out.ot rfl
  have x3 := cell_at (o := 3) S5.out.ot rfl
  have x4 := cell_at (o := 4) S5.out.ot rfl
  have z4 := frozen_at 4 S5.out.ot
  have y4 := cell_at (o := 4) S5.out.bx rfl
  have g0 := cell_at (o := 0) S5.out.rv rfl
  have k0 := frozen_at 0 S5.out.rv
  have g1 := cell_at (o := 1) S5.out.rv rfl
  have k1 := frozen_at 1 S5.out.rv
  have g2 := cell_at (o := 2) S5.out.rv rfl
  have k2 := frozen_at 2 S5.out.rv
  have g3 := cell_at (o := 3) S5.out.rv rfl
  have k3 := frozen_at 3 S5.out.rv
  have g4 := cell_at (o := 4) S5.out.rv rfl
  have k4 := frozen_at 4 S5.out.rv
  have g5 := cell_at (o := 5) S5.out.rv rfl
  have k5 := frozen_at 5 S5.out.rv
  go_wp2_with fail
  refine bodyPost_ret (v := .agg #[.int .i64 x.tab, .int .i64 x.cid, .int .i64 x.oid, .slice (some ⟨p3, 0, none⟩) x.ocs.length x.ocs.length, .int .i64 x.nid, .slice (some ⟨p5, 0, none⟩) x.ncs.length x.ncs.length]) (by simp [results, Try.results6, go_sem, *]) rfl ?_
  have FF : Frm (fun c => c = w.heap.size + 1 ∨ c = w.heap.size + 1 + 1) w6 ((((((((w6.setCell ⟨w.heap.size + 1 + 1, 4, none⟩ (.int .i64 x.nid)).setCell ⟨w.heap.size + 1 + 1, 5, none⟩ (.slice (some ⟨p5, 0, none⟩) x.ncs.length x.ncs.length)).setCell ⟨w.heap.size + 1, 0, none⟩ (.int .i64 x.tab)).setCell ⟨w.heap.size + 1, 1, none⟩ (.int .i64 x.cid)).setCell ⟨w.heap.size + 1, 2, none⟩ (.int .i64 x.oid)).setCell ⟨w.heap.size + 1, 3, none⟩ (.slice (some ⟨p3, 0, none⟩) x.ocs.length x.ocs.length)).setCell ⟨w.heap.size + 1, 4, none⟩ (.int .i64 x.nid)).setCell ⟨w.heap.size + 1, 5, none⟩ (.slice (some ⟨p5, 0, none⟩) x.ncs.length x.ncs.length)) := by
    refine Frm.set ?_ (.inl rfl) _
    refine Frm.set ?_ (.inl rfl) _
    refine Frm.set ?_ (.inl rfl) _
    refine Frm.set ?_ (.inl rfl) _
    refine Frm.set ?_ (.inl rfl) _
    refine Frm.set ?_ (.inl rfl) _
    refine Frm.set ?_ (.inr rfl) _
    refine Frm.set ?_ (.inr rfl) _
    exact Frm.refl _ _
  have hsz : ((((((((w6.setCell ⟨w.heap.size + 1 + 1, 4, none⟩ (.int .i64 x.nid)).setCell ⟨w.heap.size + 1 + 1, 5, none⟩ (.slice (some ⟨p5, 0, none⟩) x.ncs.length x.ncs.length)).setCell ⟨w.heap.size + 1, 0, none⟩ (.int .i64 x.tab)).setCell ⟨w.heap.size + 1, 1, none⟩ (.int .i64 x.cid)).setCell ⟨w.heap.size + 1, 2, none⟩ (.int .i64 x.oid)).setCell ⟨w.heap.size + 1, 3, none⟩ (.slice (some ⟨p3, 0, none⟩) x.ocs.length x.ocs.length)).setCell ⟨w.heap.size + 1, 4, none⟩ (.int .i64 x.nid)).setCell ⟨w.heap.size + 1, 5, none⟩ (.slice (some ⟨p5, 0, none⟩) x.ncs.length x.ncs.length)).heap.size = w6.heap.size := by simp
  refine ⟨p3, p5, rfl, ⟨fun j c => (j = 3 ∧ l3 ≤ c ∧ c < w4.heap.size) ∨ (j = 5 ∧ l5 ≤ c ∧ c < w6.heap.size), fun j c hc => ?_, fun j j' c h h' => ?_, fun j hj => ?_⟩, ?_⟩
  · have h3 := HP3.out; have h5 := HP5.out; rw [hsz]; omega
  · have h3 := HP3.out; have h5 := HP5.out; omega
  · rcases (by omega : j = 0 ∨ j = 1 ∨ j = 2 ∨ j = 3 ∨ j = 4 ∨ j = 5) with rfl | rfl | rfl | rfl | rfl | rfl
    · rfl
    · rfl
    · rfl
    · exact (O3.out.frm FF (fun c hc hF => by have h1 := HP3.out; have h2 := hc.1; rcases hF with rfl | rfl <;> omega)).mono (fun c hc => .inl ⟨rfl, hc⟩)
    · rfl
    · exact (O5.out.frm FF (fun c hc hF => by have h1 := HP5.out; have h2 := hc.1; rcases hF with rfl | rfl <;> omega)).mono (fun c hc => .inr ⟨rfl, hc⟩)
  · exact ((((((((S5.out.bel.setCell (by simp <;> omega) _).setCell (by simp <;> omega) _).setCell (by simp <;> omega) _).setCell (by simp <;> omega) _).setCell (by simp <;> omega) _).setCell (by simp <;> omega) _).setCell (by simp <;> omega) _).setCell (by simp <;> omega) _)
set_option maxRecDepth 100000 in
set_option maxHeartbeats 1600000 in
theorem eqDChange (x : ChV) (a3 : Option Addr) (c3 : Nat) (a5 : Option Addr) (c5 : Nat) (a3' : Option Addr) (c3' : Nat) (a5' : Option Addr) (c5' : Nat) (A B : Nat → Prop) (w : World) (ho : ∀ j, j < 6 → (dChange x j).le maxLen) (r3 : Rd w A (dAtomSS x.ocs) (.slice a3 x.ocs.length c3)) (r5 : Rd w A (dAtomSS x.ncs) (.slice a5 x.ncs.length c5)) (r3' : Rd w B (dAtomSS x.ocs) (.slice a3' x.ocs.length c3')) (r5' : Rd w B (dAtomSS x.ncs) (.slice a5' x.ncs.length c5')) :
    Calls Try.prog 8 #[.agg #[.int .i64 x.tab, .int .i64 x.cid, .int .i64 x.oid, .slice a3 x.ocs.length c3, .int .i64 x.nid, .slice a5 x.ncs.length c5], .agg #[.int .i64 x.tab, .int .i64 x.cid, .int .i64 x.oid, .slice a3' x.ocs.length c3', .int .i64 x.nid, .slice a5' x.ncs.length c5']] w fun e w' => e = .returned (.bool true) ∧ Below w.heap.size w w' := by
  have hb : Box2D 34 w ((w.alloc (.cells #[.int .i64 x.tab, .int .i64 x.cid, .int .i64 x.oid, .slice a3 x.ocs.length c3, .int .i64 x.nid, .slice a5 x.ncs.length c5] 34)).alloc (.cells #[.int .i64 x.tab, .int .i64 x.cid, .int .i64 x.oid, .slice a3' x.ocs.length c3', .int .i64 x.nid, .slice a5' x.ncs.length c5'] 34)) #[.int .i64 x.tab, .int .i64 x.cid, .int .i64 x.oid, .slice a3 x.ocs.length c3, .int .i64 x.nid, .slice a5 x.ncs.length c5] #[.int .i64 x.tab, .int .i64 x.cid, .int .i64 x.oid, .slice a3' x.ocs.length c3', .int .i64 x.nid, .slice a5' x.ncs.length c5'] := box2D _ _ _ _
  have E3 : Hid (∀ W, Below w.heap.size w W → Calls Try.prog 13 #[.agg #[.int .i64 x.oid, .slice a3 x.ocs.length c3], .agg #[.int .i64 x.oid, .slice a3' x.ocs.length c3']] W fun e w' => e = .returned (.bool true) ∧ Below W.heap.size W w') := fun W h => eqIRow x.oid x.ocs a3 c3 a3' c3' A B W (ho 2 (by omega)) (ho 3 (by omega)) (r3.later h) (r3'.later h)
  have E5 : Hid (∀ W, Below w.heap.size w W → Calls Try.prog 13 #[.agg #[.int .i64 x.nid, .slice a5 x.ncs.length c5], .agg #[.int .i64 x.nid, .slice a5' x.ncs.length c5']] W fun e w' => e = .returned (.bool true) ∧ Below W.heap.size W w') := fun W h => eqIRow x.nid x.ncs a5 c5 a5' c5' A B W (ho 4 (by omega)) (ho 5 (by omega)) (r5.later h) (r5'.later h)
  have HB := Lib.hid hb
  clear ho hb r3 r3' r5 r5'
  go_enter Try.func8, Try.ntmps8
  have x0 := cell_at (o := 0) HB.out.a rfl
  have y0 := cell_at (o := 0) HB.out.b rfl
  have x1 := cell_at (o := 1) HB.out.a rfl
  have y1 := cell_at (o := 1) HB.out.b rfl
  have x2 := cell_at (o := 2) HB.out.a rfl
  have y2 := cell_at (o := 2) HB.out.b rfl
  have x3 := cell_at (o := 3) HB.out.a rfl
  have y3 := cell_at (o := 3) HB.out.b rfl
  have x4 := cell_at (o := 4) HB.out.a rfl
  have y4 := cell_at (o := 4) HB.out.b rfl
  have x5 := cell_at (o := 5) HB.out.a rfl
  have y5 := cell_at (o := 5) HB.out.b rfl
  go_wp2_with fail
  refine (E3.out _ HB.out.bel).mono ?_
  rintro e w4 ⟨rfl, hB3⟩
  have H3 := Lib.hid (HB.out.later hB3)
  clear hB3 HB x0 y0 x1 y1 x2 y2 x3 y3 x4 y4 x5 y5
  have x0 := cell_at (o := 0) H3.out.a rfl
  have y0 := cell_at (o := 0) H3.out.b rfl
  have x1 := cell_at (o := 1) H3.out.a rfl
  have y1 := cell_at (o := 1) H3.out.b rfl
  have x2 := cell_at (o := 2) H3.out.a rfl
  have y2 := cell_at (o := 2) H3.out.b rfl
  have x3 := cell_at (o := 3) H3.out.a rfl
  have y3 := cell_at (o := 3) H3.out.b rfl
  have x4 := cell_at (o := 4) H3.out.a rfl
  have y4 := cell_at (o := 4) H3.out.b rfl
  have x5 := cell_at (o := 5) H3.out.a rfl
  have y5 := cell_at (o := 5) H3.out.b rfl
  go_wp2_with fail
  refine (E5.out _ H3.out.bel).mono ?_
  rintro e w6 ⟨rfl, hB5⟩
  have H5 := Lib.hid (H3.out.later hB5)
  clear hB5 H3 x0 y0 x1 y1 x2 y2 x3 y3 x4 y4 x5 y5
  have x0 := cell_at (o := 0) H5.out.a rfl
  have y0 := cell_at (o := 0) H5.out.b rfl
  have x1 := cell_at (o := 1) H5.out.a rfl
  have y1 := cell_at (o := 1) H5.out.b rfl
  have x2 := cell_at (o := 2) H5.out.a rfl
  have y2 := cell_at (o := 2) H5.out.b rfl
  have x3 := cell_at (o := 3) H5.out.a rfl
  have y3 := cell_at (o := 3) H5.out.b rfl
  have x4 := cell_at (o := 4) H5.out.a rfl
  have y4 := cell_at (o := 4) H5.out.b rfl
  have x5 := cell_at (o := 5) H5.out.a rfl
  have y5 := cell_at (o := 5) H5.out.b rfl
  go_wp2_with fail
  go_ret
  exact ⟨rfl, H5.out.bel⟩
def dChangeS (l : List ChV) : D := Ls 6 dChange l
end Go.Proofs.Ytgegjniilocmnaa
