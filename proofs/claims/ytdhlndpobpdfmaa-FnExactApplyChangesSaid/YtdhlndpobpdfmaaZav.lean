import Derived.Test.YtdhlndpobpdfmaaZah
namespace Go.Proofs.Ytdhlndpobpdfmaa
open Go.RowKit
set_option linter.unusedSimpArgs false
theorem szIRow (id : Int) (cells : List (List At)) (a : Option Addr) (c : Nat) (L : Int) (B : Nat → Prop) (w : World) (g0 : 0 ≤ L) (g1 : L ≤ 1048576) (h0 : iOK id) (h1 : (dAtomSS cells).le maxLen) (r : Rd w B (dAtomSS cells) (.slice a cells.length c)) :
    Calls Try.prog 34 #[.agg #[.int .i64 id, .slice a cells.length c], .int .i64 L] w fun e w' => e = .returned (.int .i64 (lessI L ((dAtomSS cells).sz))) ∧ Below w.heap.size w w' := by
  have h := szDRow ⟨id, cells⟩ a c L B w g0 g1 (fun j hj => by rcases (by omega : j = 0 ∨ j = 1) with rfl | rfl <;> first | exact h0 | exact h1) r
  rw [szT_Row] at h
  exact h
theorem toIRow (id : Int) (cells : List (List At)) (a : Option Addr) (c : Nat) (B : Nat → Prop) (w : World) (h0 : iOK id) (h1 : (dAtomSS cells).le 1048576) (r : Rd w B (dAtomSS cells) (.slice a cells.length c)) :
    Calls Try.prog 45 #[.agg #[.int .i64 id, .slice a cells.length c]] w fun e w' => ∃ p : Nat, e = .returned (.agg #[.int .i64 id, .slice (some ⟨p, 0, none⟩) cells.length cells.length]) ∧ Own w' (dAtomSS cells) (fun c => w.heap.size ≤ c ∧ c < w'.heap.size) (.slice (some ⟨p, 0, none⟩) cells.length cells.length) ∧ Below w.heap.size w w' :=
  (toDRow ⟨id, cells⟩ a c B w (fun j hj => by rcases (by omega : j = 0 ∨ j = 1) with rfl | rfl <;> first | exact h0 | exact h1) r).mono (fun e w' ⟨p, he, ho, hB⟩ => ⟨p, he, Owns.one ho (j := 1) (by omega), hB⟩)
theorem eqIRow (id : Int) (cells : List (List At)) (a : Option Addr) (c : Nat) (a' : Option Addr) (c' : Nat) (A B : Nat → Prop) (w : World) (h0 : iOK id) (h1 : (dAtomSS cells).le maxLen) (r : Rd w A (dAtomSS cells) (.slice a cells.length c)) (r' : Rd w B (dAtomSS cells) (.slice a' cells.length c')) :
    Calls Try.prog 53 #[.agg #[.int .i64 id, .slice a cells.length c], .agg #[.int .i64 id, .slice a' cells.length c']] w fun e w' => e = .returned (.bool true) ∧ Below w.heap.size w w' :=
  eqDRow ⟨id, cells⟩ a c a' c' A B w (fun j hj => by rcases (by omega : j = 0 ∨ j = 1) with rfl | rfl <;> first | exact h0 | exact h1) r r'
structure ChV where
  tab : Int
  cid : Int
  oid : Int
  ocs : List (List At)
  nid : Int
  ncs : List (List At)
def dChange (x : ChV) : Nat → D
  | 0 => .i x.tab
  | 1 => .i x.cid
  | 2 => .i x.oid
  | 3 => dAtomSS x.ocs
  | 4 => .i x.nid
  | _ => dAtomSS x.ncs
theorem szT_Change (x : ChV) : szT 6 (dChange x) = (dAtomSS x.ocs).sz + (dAtomSS x.ncs).sz := by simp [szT, sumN, dChange, D.sz]
set_option maxHeartbeats 1600000 in
theorem szDChange (x : ChV) (a3 : Option Addr) (c3 : Nat) (a5 : Option Addr) (c5 : Nat) (L : Int) (B : Nat → Prop) (w : World) (h0 : 0 ≤ L) (h1 : L ≤ 1048576) (ho : ∀ j, j < 6 → (dChange x j).le maxLen) (r3 : Rd w B (dAtomSS x.ocs) (.slice a3 x.ocs.length c3)) (r5 : Rd w B (dAtomSS x.ncs) (.slice a5 x.ncs.length c5)) :
    Calls Try.prog 19 #[.agg #[.int .i64 x.tab, .int .i64 x.cid, .int .i64 x.oid, .slice a3 x.ocs.length c3, .int .i64 x.nid, .slice a5 x.ncs.length c5], .int .i64 L] w fun e w' => e = .returned (.int .i64 (lessI L (szT 6 (dChange x)))) ∧ Below w.heap.size w w' := by
  rw [szT_Change]
  have HO := Lib.hid ho
  have R3 := Lib.hid r3
  have R5 := Lib.hid r5
  have hx := boxD 47 w #[.int .i64 x.tab, .int .i64 x.cid, .int .i64 x.oid, .slice a3 x.ocs.length c3, .int .i64 x.nid, .slice a5 x.ncs.length c5]
  clear ho r3 r5
  have x0 := cell_at (o := 0) hx.1 rfl
  have x1 := cell_at (o := 1) hx.1 rfl
  have x2 := cell_at (o := 2) hx.1 rfl
  have x3 := cell_at (o := 3) hx.1 rfl
  have x4 := cell_at (o := 4) hx.1 rfl
  have x5 := cell_at (o := 5) hx.1 rfl
  have bl : Hid (0 ≤ L ∧ L ≤ 1048576) := by show _ ∧ _; omega
  clear h0 h1
  go_enter Try.func19, Try.ntmps19
  go_wp2_with fail
  refine (szIRow x.oid x.ocs a3 c3 L B _ bl.out.1 bl.out.2 (HO.out 2 (by omega)) (HO.out 3 (by omega)) (R3.out.later hx.2)).mono ?_
  rintro e w4 ⟨rfl, hB4⟩
  have hx := hx.later hB4
  clear hB4 x0 x1 x2 x3 x4 x5
  have x0 := cell_at (o := 0) hx.1 rfl
  have x1 := cell_at (o := 1) hx.1 rfl
  have x2 := cell_at (o := 2) hx.1 rfl
  have x3 := cell_at (o := 3) hx.1 rfl
  have x4 := cell_at (o := 4) hx.1 rfl
  have x5 := cell_at (o := 5) hx.1 rfl
  by_cases hn3 : L - ((dAtomSS x.ocs).sz : Int) < 0
  case pos =>
    have HR : Hid (lessI L ((dAtomSS x.ocs).sz + (dAtomSS x.ncs).sz) = -1) := by have := bl.out; show lessI L ((dAtomSS x.ocs).sz + (dAtomSS x.ncs).sz) = -1; unfold lessI; rw [if_neg (by omega)]
    rw [less_no hn3]
    go_wp2_with fail
    go_ret
    exact ⟨ret_i HR.out.symm, hx.2⟩
  rw [less_yes (by omega)]
  obtain ⟨L3, hL3⟩ : ∃ L3 : Int, L3 = L - ((dAtomSS x.ocs).sz : Int) := ⟨_, rfl⟩
  rw [← hL3]
  have d3 : decide (L3 < 0) = false := decide_eq_false (by omega)
  have bL3 : Hid (0 ≤ L3 ∧ L3 ≤ 1048576) := by have := bl.out; show _ ∧ _; omega
  have HL3 := Lib.hid hL3
  clear hn3 hL3 bl
  have bl := bL3
  clear bL3
  go_wp2_with fail
  refine (szIRow x.nid x.ncs a5 c5 L3 B _ bl.out.1 bl.out.2 (HO.out 4 (by omega)) (HO.out 5 (by omega)) (R5.out.later hx.2)).mono ?_
  rintro e w6 ⟨rfl, hB6⟩
  have hx := hx.later hB6
  clear hB6 x0 x1 x2 x3 x4 x5
  have x0 := cell_at (o := 0) hx.1 rfl
  have x1 := cell_at (o := 1) hx.1 rfl
  have x2 := cell_at (o := 2) hx.1 rfl
  have x3 := cell_at (o := 3) hx.1 rfl
  have x4 := cell_at (o := 4) hx.1 rfl
  have x5 := cell_at (o := 5) hx.1 rfl
  by_cases hn5 : L3 - ((dAtomSS x.ncs).sz : Int) < 0
  case pos =>
    have HR : Hid (lessI L ((dAtomSS x.ocs).sz + (dAtomSS x.ncs).sz) = -1) := by have := HL3.out; have := bl.out; show lessI L ((dAtomSS x.ocs).sz + (dAtomSS x.ncs).sz) = -1; unfold lessI; rw [if_neg (by omega)]
    rw [less_no hn5]
    go_wp2_with fail
    go_ret
    exact ⟨ret_i HR.out.symm, hx.2⟩
  rw [less_yes (by omega)]
  obtain ⟨L5, hL5⟩ : ∃ L5 : Int, L5 = L3 - ((dAtomSS x.ncs).sz : Int) := ⟨_, rfl⟩
  rw [← hL5]
  have d5 : decide (L5 < 0) = false := decide_eq_false (by omega)
  have bL5 : Hid (0 ≤ L5 ∧ L5 ≤ 1048576) := by have := bl.out; show _ ∧ _; omega
  have HL5 := Lib.hid hL5
  have HR : Hid (lessI L ((dAtomSS x.ocs).sz + (dAtomSS x.ncs).sz) = L5) := by have := HL3.out; have := HL5.out; have := bL5.out; show lessI L ((dAtomSS x.ocs).sz + (dAtomSS x.ncs).sz) = L5; unfold lessI; rw [if_pos (by omega)]; omega
  clear hn5 hL5 bl
  have bl := bL5
  clear bL5
  go_wp2_with fail
  go_ret
  exact ⟨ret_i HR.out.symm, hx.2⟩
set_option maxRecDepth 100000 in
set_option maxHeartbeats 3200000 in
theorem toDChange (x : ChV) (a3 : Option Addr) (c3 : Nat) (a5 : Option Addr) (c5 : Nat) (B : Nat → Prop) (w : World) (ho : ∀ j, j < 6 → (dChange x j).le 1048576) (r3 : Rd w B (dAtomSS x.ocs) (.slice a3 x.ocs.length c3)) (r5 : Rd w B (dAtomSS x.ncs) (.slice a5 x.ncs.length c5)) :
    Calls Try.prog 23 #[.agg #[.int .i64 x.tab, .int .i64 x.cid, .int .i64 x.oid, .slice a3 x.ocs.length c3, .int .i64 x.nid, .slice a5 x.ncs.length c5]] w fun e w' => ∃ p3 : Nat, ∃ p5 : Nat, e = .returned (.agg #[.int .i64 x.tab, .int .i64 x.cid, .int .i64 x.oid, .slice (some ⟨p3, 0, none⟩) x.ocs.length x.ocs.length, .int .i64 x.nid, .slice (some ⟨p5, 0, none⟩) x.ncs.length x.ncs.length]) ∧ Owns w' 6 (dChange x) (vat [.int .i64 x.tab, .int .i64 x.cid, .int .i64 x.oid, .slice (some ⟨p3, 0, none⟩) x.ocs.length x.ocs.length, .int .i64 x.nid, .slice (some ⟨p5, 0, none⟩) x.ncs.length x.ncs.length]) (fun c => w.heap.size ≤ c ∧ c < w'.heap.size) ∧ Below w.heap.size w w' := by
  have HO := Lib.hid ho
  have R3 := Lib.hid r3
  have R5 := Lib.hid r5
  have T0 := Lib.hid (st3First w 47 55 #[.int .i64 x.tab, .int .i64 x.cid, .int .i64 x.oid, .slice a3 x.ocs.length c3, .int .i64 x.nid, .slice a5 x.ncs.length c5] #[.int .i64 0, .int .i64 0, .int .i64 0, .slice none 0 0, .int .i64 0, .slice none 0 0] #[.int .i64 x.tab, .int .i64 x.cid, .int .i64 0, .slice none 0 0, .int .i64 0, .slice none 0 0])
  clear ho r3 r5
  go_enter Try.func23, Try.ntmps23
  go_wp2_with fail
  have HE : Hid (w.heap.size + 1 + 1 < (((w.alloc (.cells #[.int .i64 x.tab, .int .i64 x.cid, .int .i64 x.oid, .slice a3 x.ocs.length c3, .int .i64 x.nid, .slice a5 x.ncs.length c5] 47)).alloc (.cells #[.int .i64 0, .int .i64 0, .int .i64 0, .slice none 0 0, .int .i64 0, .slice none 0 0] 55)).alloc (.cells #[.int .i64 x.tab, .int .i64 x.cid, .int .i64 0, .slice none 0 0, .int .i64 0, .slice none 0 0] 55)).heap.size) := by show _ < _; simp
  refine (toIRow x.oid x.ocs a3 c3 B _ (HO.out 2 (by omega)) (HO.out 3 (by omega)) (R3.out.later T0.out.bel)).mono ?_
  rintro e w4 ⟨p3, rfl, o3, hB3⟩
  have S3 := Lib.hid (T0.out.later hB3)
  obtain ⟨l3, hp3⟩ : ∃ p, p = (((w.alloc (.cells #[.int .i64 x.tab, .int .i64 x.cid, .int .i64 x.oid, .slice a3 x.ocs.length c3, .int .i64 x.nid, .slice a5 x.ncs.length c5] 47)).alloc (.cells #[.int .i64 0, .int .i64 0, .int .i64 0, .slice none 0 0, .int .i64 0, .slice none 0 0] 55)).alloc (.cells #[.int .i64 x.tab, .int .i64 x.cid, .int .i64 0, .slice none 0 0, .int .i64 0, .slice none 0 0] 55)).heap.size := ⟨_, rfl⟩
  have HP3 : Hid (w.heap.size + 1 + 1 < l3 ∧ l3 ≤ w4.heap.size) := by
    have h1 := hB3.size; have h2 := HE.out
    rw [← hp3] at h1 h2
    exact ⟨h2, h1⟩
  rw [← hp3] at o3
  have O3 := Lib.hid o3
  clear o3 hB3 hp3 T0 HE
  have x3 := cell_at (o := 3) S3.out.ot rfl
  have z3 := frozen_at 3 S3.out.ot
  have hne : (w.heap.size = w.heap.size + 1 + 1) = False := by simp; omega
  have x2 := cell_at (o := 2) S3.out.ot rfl
  have z2 := frozen_at 2 S3.out.ot
  have y2 := cell_at (o := 2) S3.out.bx rfl
  have y4 := cell_at (o := 4) S3.out.bx rfl
  have y5 := cell_at (o := 5) S3.out.bx rfl
  have U3 := Lib.hid ((S3.out.set 2 (.int .i64 x.oid)).set 3 (.slice (some ⟨p3, 0, none⟩) x.ocs.length x.ocs.length))
  have F3 : Hid (Frm (fun c => c = w.heap.size + 1 + 1) w4 ((w4.setCell ⟨w.heap.size + 1 + 1, 2, none⟩ (.int .i64 x.oid)).setCell ⟨w.heap.size + 1 + 1, 3, none⟩ (.slice (some ⟨p3, 0, none⟩) x.ocs.length x.ocs.length))) := by
    show Frm _ _ _
    refine Frm.set (B := fun c => c = w.heap.size + 1 + 1) ?_ rfl _
    refine Frm.set (B := fun c => c = w.heap.size + 1 + 1) ?_ rfl _
    exact Frm.refl _ _
  have P3 := Lib.hid (O3.out.frm F3.out (fun c hc hF => by have h1 := HP3.out.1; have h2 := hc.1; have h3 : c = _ := hF; omega))
  clear O3
  have O3 := P3
  clear P3
  have HE : Hid (w.heap.size + 1 + 1 < ((w4.setCell ⟨w.heap.size + 1 + 1, 2, none⟩ (.int .i64 x.oid)).setCell ⟨w.heap.size + 1 + 1, 3, none⟩ (.slice (some ⟨p3, 0, none⟩) x.ocs.length x.ocs.length)).heap.size) := by have := HP3.out; show _ < _; simp; omega
  clear F3 S3
  go_wp2_with fail
  refine (toIRow x.nid x.ncs a5 c5 B _ (HO.out 4 (by omega)) (HO.out 5 (by omega)) (R5.out.later U3.out.bel)).mono ?_
  rintro e w6 ⟨p5, rfl, o5, hB5⟩
  have S5 := Lib.hid (U3.out.later hB5)
  obtain ⟨l5, hp5⟩ : ∃ p, p = ((w4.setCell ⟨w.heap.size + 1 + 1, 2, none⟩ (.int .i64 x.oid)).setCell ⟨w.heap.size + 1 + 1, 3, none⟩ (.slice (some ⟨p3, 0, none⟩) x.ocs.length x.ocs.length)).heap.size := ⟨_, rfl⟩
  have HP5 : Hid (w.heap.size + 1 + 1 < l5 ∧ l5 ≤ w6.heap.size ∧ w4.heap.size ≤ l5) := by
    have h1 := hB5.size; have h2 := HE.out
    rw [← hp5] at h1 h2
    exact ⟨h2, h1, by rw [hp5]; simp⟩
  rw [← hp5] at o5
  have Q3_5 := Lib.hid (O3.out.later hB5)
  clear O3
  have O3 := Q3_5
  clear Q3_5
  have O5 := Lib.hid o5
  clear o5 hB5 hp5 U3 HE
  have x5 := cell_at (o := 5) S5.out.ot rfl
  have z5 := frozen_at 5 S5.out.ot
  have hne : (w.heap.size = w.heap.size + 1 + 1) = False := by simp; omega
  have x0 := cell_at (o := 0) S5.out.ot rfl
  have x1 := cell_at (o := 1) S5.out.ot rfl
  have x2 := cell_at (o := 2) S5.out.ot rfl
  have x3 := cell_at (o := 3) S5.out.ot rfl
  have x4 := cell_at (o := 4) S5.out.ot rfl
  have z4 := frozen_at 4 S5.out.ot
  have y4 := cell_at (o := 4) S5.out.bx rfl
  have g0 := cell_at (o := 0) S5.out.rv rfl
  have k0 := frozen_at 0 S5.out.rv
  have g1 := cell_at (o := 1) S5.out.rv rfl
  have k1 := frozen_at 1 S5.out.rv
  have g2 := cell_at (o := 2) S5.out.rv rfl
  have k2 := frozen_at 2 S5.out.rv
  have g3 := cell_at (o := 3) S5.out.rv rfl
  have k3 := frozen_at 3 S5.out.rv
  have g4 := cell_at (o := 4) S5.out.rv rfl
  have k4 := frozen_at 4 S5.out.rv
  have g5 := cell_at (o := 5) S5.out.rv rfl
  have k5 := frozen_at 5 S5.out.rv
  go_wp2_with fail
  refine bodyPost_ret (v := .agg #[.int .i64 x.tab, .int .i64 x.cid, .int .i64 x.oid, .slice (some ⟨p3, 0, none⟩) x.ocs.length x.ocs.length, .int .i64 x.nid, .slice (some ⟨p5, 0, none⟩) x.ncs.length x.ncs.length]) (by simp [results, Try.results23, go_sem, *]) rfl ?_
  have FF : Frm (fun c => c = w.heap.size + 1 ∨ c = w.heap.size + 1 + 1) w6 ((((((((w6.setCell ⟨w.heap.size + 1 + 1, 4, none⟩ (.int .i64 x.nid)).setCell ⟨w.heap.size + 1 + 1, 5, none⟩ (.slice (some ⟨p5, 0, none⟩) x.ncs.length x.ncs.length)).setCell ⟨w.heap.size + 1, 0, none⟩ (.int .i64 x.tab)).setCell ⟨w.heap.size + 1, 1, none⟩ (.int .i64 x.cid)).setCell ⟨w.heap.size + 1, 2, none⟩ (.int .i64 x.oid)).setCell ⟨w.heap.size + 1, 3, none⟩ (.slice (some ⟨p3, 0, none⟩) x.ocs.length x.ocs.length)).setCell ⟨w.heap.size + 1, 4, none⟩ (.int .i64 x.nid)).setCell ⟨w.heap.size + 1, 5, none⟩ (.slice (some ⟨p5, 0, none⟩) x.ncs.length x.ncs.length)) := by
    refine Frm.set ?_ (.inl rfl) _
    refine Frm.set ?_ (.inl rfl) _
    refine Frm.set ?_ (.inl rfl) _
    refine Frm.set ?_ (.inl rfl) _
    refine Frm.set ?_ (.inl rfl) _
    refine Frm.set ?_ (.inl rfl) _
    refine Frm.set ?_ (.inr rfl) _
    refine Frm.set ?_ (.inr rfl) _
    exact Frm.refl _ _
  have hsz : ((((((((w6.setCell ⟨w.heap.size + 1 + 1, 4, none⟩ (.int .i64 x.nid)).setCell ⟨w.heap.size + 1 + 1, 5, none⟩ (.slice (some ⟨p5, 0, none⟩) x.ncs.length x.ncs.length)).setCell ⟨w.heap.size + 1, 0, none⟩ (.int .i64 x.tab)).setCell ⟨w.heap.size + 1, 1, none⟩ (.int .i64 x.cid)).setCell ⟨w.heap.size + 1, 2, none⟩ (.int .i64 x.oid)).setCell ⟨w.heap.size + 1, 3, none⟩ (.slice (some ⟨p3, 0, none⟩) x.ocs.length x.ocs.length)).setCell ⟨w.heap.size + 1, 4, none⟩ (.int .i64 x.nid)).setCell ⟨w.heap.size + 1, 5, none⟩ (.slice (some ⟨p5, 0, none⟩) x.ncs.length x.ncs.length)).heap.size = w6.heap.size := by simp
  refine ⟨p3, p5, rfl, ⟨fun j c => (j = 3 ∧ l3 ≤ c ∧ c < w4.heap.size) ∨ (j = 5 ∧ l5 ≤ c ∧ c < w6.heap.size), fun j c hc => ?_, fun j j' c h h' => ?_, fun j hj => ?_⟩, ?_⟩
  · have h3 := HP3.out; have h5 := HP5.out; rw [hsz]; omega
  · have h3 := HP3.out; have h5 := HP5.out; omega
  · rcases (by omega : j = 0 ∨ j = 1 ∨ j = 2 ∨ j = 3 ∨ j = 4 ∨ j = 5) with rfl | rfl | rfl | rfl | rfl | rfl
    · rfl
    · rfl
    · rfl
    · exact (O3.out.frm FF (fun c hc hF => by have h1 := HP3.out; have h2 := hc.1; rcases hF with rfl | rfl <;> omega)).mono (fun c hc => .inl ⟨rfl, hc⟩)
    · rfl
    · exact (O5.out.frm FF (fun c hc hF => by have h1 := HP5.out; have h2 := hc.1; rcases hF with rfl | rfl <;> omega)).mono (fun c hc => .inr ⟨rfl, hc⟩)
  · exact ((((((((S5.out.bel.setCell (by simp <;> omega) _).setCell (by simp <;> omega) _).setCell (by simp <;> omega) _).setCell (by simp <;> omega) _).setCell (by simp <;> omega) _).setCell (by simp <;> omega) _).setCell (by simp <;> omega) _).setCell (by simp <;> omega) _)
set_option maxRecDepth 100000 in
set_option maxHeartbeats 1600000 in
theorem eqDChange (x : ChV) (a3 : Option Addr) (c3 : Nat) (a5 : Option Addr) (c5 : Nat) (a3' : Option Addr) (c3' : Nat) (a5' : Option Addr) (c5' : Nat) (A B : Nat → Prop) (w : World) (ho : ∀ j, j < 6 → (dChange x j).le maxLen) (r3 : Rd w A (dAtomSS x.ocs) (.slice a3 x.ocs.length c3)) (r5 : Rd w A (dAtomSS x.ncs) (.slice a5 x.ncs.length c5)) (r3' : Rd w B (dAtomSS x.ocs) (.slice a3' x.ocs.length c3')) (r5' : Rd w B (dAtomSS x.ncs) (.slice a5' x.ncs.length c5')) :
    Calls Try.prog 28 #[.agg #[.int .i64 x.tab, .int .i64 x.cid, .int .i64 x.oid, .slice a3 x.ocs.length c3, .int .i64 x.nid, .slice a5 x.ncs.length c5], .agg #[.int .i64 x.tab, .int .i64 x.cid, .int .i64 x.oid, .slice a3' x.ocs.length c3', .int .i64 x.nid, .slice a5' x.ncs.length c5']] w fun e w' => e = .returned (.bool true) ∧ Below w.heap.size w w' := by
  have hb : Box2D 55 w ((w.alloc (.cells #[.int .i64 x.tab, .int .i64 x.cid, .int .i64 x.oid, .slice a3 x.ocs.length c3, .int .i64 x.nid, .slice a5 x.ncs.length c5] 55)).alloc (.cells #[.int .i64 x.tab, .int .i64 x.cid, .int .i64 x.oid, .slice a3' x.ocs.length c3', .int .i64 x.nid, .slice a5' x.ncs.length c5'] 55)) #[.int .i64 x.tab, .int .i64 x.cid, .int .i64 x.oid, .slice a3 x.ocs.length c3, .int .i64 x.nid, .slice a5 x.ncs.length c5] #[.int .i64 x.tab, .int .i64 x.cid, .int .i64 x.oid, .slice a3' x.ocs.length c3', .int .i64 x.nid, .slice a5' x.ncs.length c5'] := box2D _ _ _ _
  have E3 : Hid (∀ W, Below w.heap.size w W → Calls Try.prog 53 #[.agg #[.int .i64 x.oid, .slice a3 x.ocs.length c3], .agg #[.int .i64 x.oid, .slice a3' x.ocs.length c3']] W fun e w' => e = .returned (.bool true) ∧ Below W.heap.size W w') := fun W h => eqIRow x.oid x.ocs a3 c3 a3' c3' A B W (ho 2 (by omega)) (ho 3 (by omega)) (r3.later h) (r3'.later h)
  have E5 : Hid (∀ W, Below w.heap.size w W → Calls Try.prog 53 #[.agg #[.int .i64 x.nid, .slice a5 x.ncs.length c5], .agg #[.int .i64 x.nid, .slice a5' x.ncs.length c5']] W fun e w' => e = .returned (.bool true) ∧ Below W.heap.size W w') := fun W h => eqIRow x.nid x.ncs a5 c5 a5' c5' A B W (ho 4 (by omega)) (ho 5 (by omega)) (r5.later h) (r5'.later h)
  have HB := Lib.hid hb
  clear ho hb r3 r3' r5 r5'
  go_enter Try.func28, Try.ntmps28
  have x0 := cell_at (o := 0) HB.out.a rfl
  have y0 := cell_at (o := 0) HB.out.b rfl
  have x1 := cell_at (o := 1) HB.out.a rfl
  have y1 := cell_at (o := 1) HB.out.b rfl
  have x2 := cell_at (o := 2) HB.out.a rfl
  have y2 := cell_at (o := 2) HB.out.b rfl
  have x3 := cell_at (o := 3) HB.out.a rfl
  have y3 := cell_at (o := 3) HB.out.b rfl
  have x4 := cell_at (o := 4) HB.out.a rfl
  have y4 := cell_at (o := 4) HB.out.b rfl
  have x5 := cell_at (o := 5) HB.out.a rfl
  have y5 := cell_at (o := 5) HB.out.b rfl
  go_wp2_with fail
  refine (E3.out _ HB.out.bel).mono ?_
  rintro e w4 ⟨rfl, hB3⟩
  have H3 := Lib.hid (HB.out.later hB3)
  clear hB3 HB x0 y0 x1 y1 x2 y2 x3 y3 x4 y4 x5 y5
  have x0 := cell_at (o := 0) H3.out.a rfl
  have y0 := cell_at (o := 0) H3.out.b rfl
  have x1 := cell_at (o := 1) H3.out.a rfl
  have y1 := cell_at (o := 1) H3.out.b rfl
  have x2 := cell_at (o := 2) H3.out.a rfl
  have y2 := cell_at (o := 2) H3.out.b rfl
  have x3 := cell_at (o := 3) H3.out.a rfl
  have y3 := cell_at (o := 3) H3.out.b rfl
  have x4 := cell_at (o := 4) H3.out.a rfl
  have y4 := cell_at (o := 4) H3.out.b rfl
  have x5 := cell_at (o := 5) H3.out.a rfl
  have y5 := cell_at (o := 5) H3.out.b rfl
  go_wp2_with fail
  refine (E5.out _ H3.out.bel).mono ?_
  rintro e w6 ⟨rfl, hB5⟩
  have H5 := Lib.hid (H3.out.later hB5)
  clear hB5 H3 x0 y0 x1 y1 x2 y2 x3 y3 x4 y4 x5 y5
  have x0 := cell_at (o := 0) H5.out.a rfl
  have y0 := cell_at (o := 0) H5.out.b rfl
  have x1 := cell_at (o := 1) H5.out.a rfl
  have y1 := cell_at (o := 1) H5.out.b rfl
  have x2 := cell_at (o := 2) H5.out.a rfl
  have y2 := cell_at (o := 2) H5.out.b rfl
  have x3 := cell_at (o := 3) H5.out.a rfl
  have y3 := cell_at (o := 3) H5.out.b rfl
  have x4 := cell_at (o := 4) H5.out.a rfl
  have y4 := cell_at (o := 4) H5.out.b rfl
  have x5 := cell_at (o := 5) H5.out.a rfl
  have y5 := cell_at (o := 5) H5.out.b rfl
  go_wp2_with fail
  go_ret
  exact ⟨rfl, H5.out.bel⟩
def dChangeS (l : List ChV) : D := Ls 6 dChange l
set_option maxHeartbeats 1600000 in
theorem szDChangeS (l : List ChV) (a : Option Addr) (c : Nat) (L : Int) (B : Nat → Prop) (w : World) (h0 : 0 ≤ L) (h1 : L ≤ 1048576) (ho : (dChangeS l).le maxLen) (hS : Rd w B (dChangeS l) (.slice a l.length c)) :
    Calls Try.prog 6 #[.slice a l.length c, .int .i64 L] w fun e w' => e = .returned (.int .i64 (lessI L (dChangeS l).sz)) ∧ Below w.heap.size w w' := by
  have hl : l.length ≤ maxLen := (Ls_le.1 ho).2.1
  unfold maxLen at hl
  have HX : Hid (∀ i (h : i < l.length) j, j < 6 → (dChange l[i] j).le maxLen) := (Ls_le.1 ho).2.2
  have HS : Hid (Rd w B (Ls 6 dChange l) (.slice a l.length c)) := hS
  have HZ : Hid ((dChangeS l).sz = l.length + szL 6 dChange l l.length) := Ls_sz
  clear hS ho
  by_cases hn : L - (l.length : Int) < 0
  · have HR : Hid (lessI L (dChangeS l).sz = -1) := by have := HZ.out; show lessI L (dChangeS l).sz = -1; unfold lessI; rw [if_neg (by omega)]
    go_enter Try.func6, Try.ntmps6
    go_wp2_with fail
    go_ret
    exact ⟨ret_i HR.out.symm, Below.refl _ _⟩
  go_enter Try.func6, Try.ntmps6
  go_wp2_with fail
  go_loopw [1, 5] (fun t i wr => ∃ k : Nat, k ≤ l.length ∧ i = .int .i64 k ∧ ∃ m : Int, t = .int .i64 m ∧ 0 ≤ m ∧ m ≤ L ∧ Hid (m = L - (l.length + szL 6 dChange l k : Nat) ∧ Below w.heap.size w wr)) (fun _ i _ => l.length - (intOf i).toNat)
  case atStart => exact ⟨0, Nat.zero_le _, rfl, L - l.length, rfl, by omega, by omega, by show _ = _; rw [szL_zero]; omega, Below.refl _ _⟩
  case round =>
    obtain ⟨k, hk, rfl, m, rfl, hm0, hmL, HM⟩ := hrel
    by_cases hlt : k < l.length
    case neg =>
      have HR : Hid (lessI L (dChangeS l).sz = m) := by
        have h1 := HM.out.1; have h2 := HZ.out
        have hk' : k = l.length := by omega
        rw [hk'] at h1
        show lessI L (dChangeS l).sz = m
        unfold lessI; rw [if_pos (by omega)]; omega
      go_wp2_with fail
      go_ret
      exact ⟨ret_i HR.out.symm, HM.out.2⟩
    obtain ⟨b, off, rfl, -, hc⟩ := (HS.out.later HM.out.2).things k hlt
    have HSU : Hid (szL 6 dChange l (k + 1) = szL 6 dChange l k + szT 6 (dChange l[k])) := szL_succ hlt
    have HLE : Hid (szL 6 dChange l (k + 1) ≤ szL 6 dChange l l.length) := szL_mono (by omega)
    have HXK := Lib.hid (HX.out k hlt)
    obtain ⟨u0, c0, r0⟩ := hc 0 (by omega)
    obtain rfl : u0 = .int .i64 l[k].tab := r0
    replace c0 : wr.cell? ⟨b, off + k * 6, none⟩ = _ := c0
    obtain ⟨u1, c1, r1⟩ := hc 1 (by omega)
    obtain rfl : u1 = .int .i64 l[k].cid := r1
    obtain ⟨u2, c2, r2⟩ := hc 2 (by omega)
    obtain rfl : u2 = .int .i64 l[k].oid := r2
    obtain ⟨u3, c3, r3⟩ := hc 3 (by omega)
    replace r3 : Rd wr _ (dAtomSS l[k].ocs) u3 := r3
    obtain ⟨a3, q3, rfl⟩ := r3.lsSlice
    obtain ⟨u4, c4, r4⟩ := hc 4 (by omega)
    obtain rfl : u4 = .int .i64 l[k].nid := r4
    obtain ⟨u5, c5, r5⟩ := hc 5 (by omega)
    replace r5 : Rd wr _ (dAtomSS l[k].ncs) u5 := r5
    obtain ⟨a5, q5, rfl⟩ := r5.lsSlice
    clear hc
    generalize l[k] = x at *
    have CC := Lib.hid (szDChange x a3 q3 a5 q5 m B wr hm0 (by omega) HXK.out r3 r5)
    clear HXK r3 r5
    by_cases hz : m - (szT 6 (dChange x) : Int) < 0
    · have HR : Hid (lessI L (dChangeS l).sz = -1) := by
        have h1 := HM.out.1; have h2 := HSU.out; have h3 := HLE.out; have h4 := HZ.out
        show lessI L (dChangeS l).sz = -1
        unfold lessI; rw [if_neg (by omega)]
      rw [less_no hz] at CC
      go_wp2_with (go_at_call 19; refine CC.out.mono ?_; rintro e w1 ⟨rfl, hB1⟩)
      go_ret
      exact ⟨ret_i HR.out.symm, HM.out.2.trans (hB1.mono HM.out.2.size)⟩
    rw [less_yes (by omega)] at CC
    obtain ⟨m', hm'⟩ : ∃ m' : Int, m' = m - (szT 6 (dChange x) : Int) := ⟨_, rfl⟩
    rw [← hm'] at CC
    have hd : decide (m' < 0) = false := decide_eq_false (by omega)
    have HM' : Hid (m' = m - (szT 6 (dChange x) : Int) ∧ 0 ≤ m') := ⟨hm', by omega⟩
    clear hm' hz
    go_wp2_with (go_at_call 19; refine CC.out.mono ?_; rintro e w1 ⟨rfl, hB1⟩)
    go_roundw
    case rel =>
      have h1 := HM.out.1; have h2 := HSU.out; have h3 := HM'.out
      exact ⟨k + 1, by omega, by go_num, m', rfl, by omega, by omega, by show _ = _; omega, HM.out.2.trans (hB1.mono HM.out.2.size)⟩
    case measure => simp [intOf]; omega
theorem run_mkChangeS (n : Nat) (hn : n ≤ 1048576) (w : World) :
    (Instr.makeSlice 34 (.int .i64 (n : Int)) (.int .i64 (n : Int))).run Try.prog w = .ok (.slice (some ⟨w.heap.size, 0, none⟩) n n) (w.alloc (.cells (madeCells #[.int .i64 0, .int .i64 0, .int .i64 0, .slice none 0 0, .int .i64 0, .slice none 0 0] (n * 6)) 55)) := by
  have h : (Try.prog.info? 55).map (fun i => (i.zero, i.size, i.bytes)) = some (some (.agg #[.int .i64 0, .int .i64 0, .int .i64 0, .slice none 0 0, .int .i64 0, .slice none 0 0]), 6, 80) := by kernel_rfl
  obtain ⟨i, hi, hzz⟩ := Option.map_eq_some_iff.1 h
  simp only [Prod.mk.injEq] at hzz
  obtain ⟨hz, hs, hb⟩ := hzz
  have hr := run_make (P := Try.prog) w 34 55 i _ Try.underlying34 hi hz .i64 .i64 n n (by omega) (Int.le_refl _) (by rw [hb]; omega) (by omega)
  rw [hr, hs]
  simp only [Int.toNat_natCast]
  rfl
set_option maxRecDepth 100000 in
set_option maxHeartbeats 3200000 in
theorem toDChangeS (l : List ChV) (a : Option Addr) (c : Nat) (B : Nat → Prop) (w : World) (ho : (dChangeS l).le 1048576) (hS : Rd w B (dChangeS l) (.slice a l.length c)) :
    Calls Try.prog 9 #[.slice a l.length c] w fun e w' => e = .returned (.slice (some ⟨w.heap.size, 0, none⟩) l.length l.length) ∧ Own w' (dChangeS l) (fun c => w.heap.size ≤ c ∧ c < w'.heap.size) (.slice (some ⟨w.heap.size, 0, none⟩) l.length l.length) ∧ Below w.heap.size w w' := by
  have HS : Hid (Rd w B (Ls 6 dChange l) (.slice a l.length c)) := hS
  have HX : Hid (∀ i (h : i < l.length) j, j < 6 → (dChange l[i] j).le 1048576) := (Ls_le.1 ho).2.2
  have hl : l.length ≤ 1048576 := (Ls_le.1 ho).2.1
  have hmk := run_mkChangeS l.length hl
  clear hS ho
  go_enter Try.func9, Try.ntmps9
  go_wp2_with fail
  clear hmk
  go_loopw [4] (fun i wr => ∃ k : Nat, k ≤ l.length ∧ i = .int .i64 k ∧ Hid (Below w.heap.size w wr ∧ TS wr 55 6 l.length (lsF dChange l) w.heap.size k)) (fun i _ => l.length - (intOf i).toNat)
  case atStart => exact ⟨0, Nat.zero_le _, rfl, (Below.refl _ _).alloc (Nat.le_refl _) _, by have := TS.start w #[.int .i64 0, .int .i64 0, .int .i64 0, .slice none 0 0, .int .i64 0, .slice none 0 0] 55 6 l.length (lsF dChange l); exact this⟩
  case round =>
    obtain ⟨k, hk, rfl, HD⟩ := hrel
    by_cases hlt : k < l.length
    case neg =>
      have hk' : k = l.length := by omega
      have hki : decide ((k : Int) < (l.length : Int)) = false := decide_eq_false (by omega)
      go_wp2_with fail
      go_ret
      exact ⟨rfl, TS.done (by omega) (by have := HD.out.2; rw [hk'] at this; exact this), HD.out.1⟩
    have hki : (k : Int) < (l.length : Int) := by omega
    obtain ⟨b, off, rfl, -, hc⟩ := (HS.out.later HD.out.1).things k hlt
    have HXK := Lib.hid (HX.out k hlt)
    have HFA : Hid (lsF dChange l k = dChange l[k]) := lsF_at hlt
    obtain ⟨u0, c0, r0⟩ := hc 0 (by omega)
    obtain rfl : u0 = .int .i64 l[k].tab := r0
    replace c0 : wr.cell? ⟨b, off + k * 6, none⟩ = _ := c0
    obtain ⟨u1, c1, r1⟩ := hc 1 (by omega)
    obtain rfl : u1 = .int .i64 l[k].cid := r1
    obtain ⟨u2, c2, r2⟩ := hc 2 (by omega)
    obtain rfl : u2 = .int .i64 l[k].oid := r2
    obtain ⟨u3, c3, r3⟩ := hc 3 (by omega)
    replace r3 : Rd wr _ (dAtomSS l[k].ocs) u3 := r3
    obtain ⟨a3, q3, rfl⟩ := r3.lsSlice
    obtain ⟨u4, c4, r4⟩ := hc 4 (by omega)
    obtain rfl : u4 = .int .i64 l[k].nid := r4
    obtain ⟨u5, c5, r5⟩ := hc 5 (by omega)
    replace r5 : Rd wr _ (dAtomSS l[k].ncs) u5 := r5
    obtain ⟨a5, q5, rfl⟩ := r5.lsSlice
    clear hc
    generalize l[k] = x at *
    have CC := Lib.hid (toDChange x a3 q3 a5 q5 B wr HXK.out r3 r5)
    clear HXK r3 r5
    go_wp2_with fail
    refine CC.out.mono ?_
    rintro e w1 ⟨p3, p5, rfl, oc, hB1⟩
    have HST : Hid (TS ((((((w1.setCell ⟨w.heap.size, k * 6, none⟩ (.int .i64 x.tab)).setCell ⟨w.heap.size, k * 6 + 1, none⟩ (.int .i64 x.cid)).setCell ⟨w.heap.size, k * 6 + 2, none⟩ (.int .i64 x.oid)).setCell ⟨w.heap.size, k * 6 + 3, none⟩ (.slice (some ⟨p3, 0, none⟩) x.ocs.length x.ocs.length)).setCell ⟨w.heap.size, k * 6 + 4, none⟩ (.int .i64 x.nid)).setCell ⟨w.heap.size, k * 6 + 5, none⟩ (.slice (some ⟨p5, 0, none⟩) x.ncs.length x.ncs.length)) 55 6 l.length (lsF dChange l) w.heap.size (k + 1)) := HD.out.2.step hB1 (vat [.int .i64 x.tab, .int .i64 x.cid, .int .i64 x.oid, .slice (some ⟨p3, 0, none⟩) x.ocs.length x.ocs.length, .int .i64 x.nid, .slice (some ⟨p5, 0, none⟩) x.ncs.length x.ncs.length]) (by rw [HFA.out]; exact oc)
    obtain ⟨g, hg⟩ := HD.out.2.row
    have hg1 := hg.of_block (hB1.block _ hg.lt)
    have e0 := hg1.cell (i := k * 6) (by omega)
    have z0 := hg1.frozen (k * 6)
    have e1 := hg1.cell (i := k * 6 + 1) (by omega)
    have z1 := hg1.frozen (k * 6 + 1)
    have e2 := hg1.cell (i := k * 6 + 2) (by omega)
    have z2 := hg1.frozen (k * 6 + 2)
    have e3 := hg1.cell (i := k * 6 + 3) (by omega)
    have z3 := hg1.frozen (k * 6 + 3)
    have e4 := hg1.cell (i := k * 6 + 4) (by omega)
    have z4 := hg1.frozen (k * 6 + 4)
    have e5 := hg1.cell (i := k * 6 + 5) (by omega)
    have z5 := hg1.frozen (k * 6 + 5)
    have HW := Lib.hid (HD.out.1.trans (hB1.mono HD.out.1.size))
    clear hg hg1 hB1 oc CC
    go_wp2_with fail
    go_roundw
    case rel => exact ⟨k + 1, by omega, by go_num, ((((((HW.out.setCell (Nat.le_refl _) _).setCell (Nat.le_refl _) _).setCell (Nat.le_refl _) _).setCell (Nat.le_refl _) _).setCell (Nat.le_refl _) _).setCell (Nat.le_refl _) _), HST.out⟩
    case measure => simp [intOf]; omega
set_option maxRecDepth 100000 in
set_option maxHeartbeats 3200000 in
theorem eqDChangeS (l : List ChV) (a : Option Addr) (c : Nat) (a' : Option Addr) (c' : Nat) (A B : Nat → Prop) (w : World) (ho : (dChangeS l).le maxLen) (hA : Rd w A (dChangeS l) (.slice a l.length c)) (hB : Rd w B (dChangeS l) (.slice a' l.length c')) :
    Calls Try.prog 12 #[.slice a l.length c, .slice a' l.length c'] w fun e w' => e = .returned (.bool true) ∧ Below w.heap.size w w' := by
  have hl : l.length ≤ maxLen := (Ls_le.1 ho).2.1
  unfold maxLen at hl
  have HX : Hid (∀ i (h : i < l.length) j, j < 6 → (dChange l[i] j).le maxLen) := (Ls_le.1 ho).2.2
  have HA : Hid (∀ W, Below w.heap.size w W → Rd W A (Ls 6 dChange l) (.slice a l.length c)) := fun W h => Rd.later hA h
  have HB : Hid (∀ W, Below w.heap.size w W → Rd W B (Ls 6 dChange l) (.slice a' l.length c')) := fun W h => Rd.later hB h
  clear hA hB ho
  go_enter Try.func12, Try.ntmps12
  go_wp2_with fail
  go_loopw [5] (fun i wr => ∃ k : Nat, k ≤ l.length ∧ i = .int .i64 k ∧ Hid (Below w.heap.size w wr)) (fun i _ => l.length - (intOf i).toNat)
  case atStart => exact ⟨0, Nat.zero_le _, rfl, Below.refl _ _⟩
  case round =>
    obtain ⟨k, hk, rfl, HW⟩ := hrel
    by_cases hlt : k < l.length
    case neg =>
      have hki : decide ((k : Int) < (l.length : Int)) = false := by simp; omega
      go_wp2_with fail
      go_ret
      exact ⟨rfl, HW.out⟩
    obtain ⟨b, off, rfl, -, hc⟩ := (HA.out _ HW.out).things k hlt
    obtain ⟨mb, moff, rfl, -, hd⟩ := (HB.out _ HW.out).things k hlt
    have HXK := Lib.hid (HX.out k hlt)
    obtain ⟨u0, c0, r0⟩ := hc 0 (by omega)
    obtain rfl : u0 = .int .i64 l[k].tab := r0
    replace c0 : wr.cell? ⟨b, off + k * 6, none⟩ = _ := c0
    obtain ⟨u1, c1, r1⟩ := hc 1 (by omega)
    obtain rfl : u1 = .int .i64 l[k].cid := r1
    obtain ⟨u2, c2, r2⟩ := hc 2 (by omega)
    obtain rfl : u2 = .int .i64 l[k].oid := r2
    obtain ⟨u3, c3, r3⟩ := hc 3 (by omega)
    replace r3 : Rd wr _ (dAtomSS l[k].ocs) u3 := r3
    obtain ⟨a3, q3, rfl⟩ := r3.lsSlice
    obtain ⟨u4, c4, r4⟩ := hc 4 (by omega)
    obtain rfl : u4 = .int .i64 l[k].nid := r4
    obtain ⟨u5, c5, r5⟩ := hc 5 (by omega)
    replace r5 : Rd wr _ (dAtomSS l[k].ncs) u5 := r5
    obtain ⟨a5, q5, rfl⟩ := r5.lsSlice
    obtain ⟨mu0, mc0, mr0⟩ := hd 0 (by omega)
    obtain rfl : mu0 = .int .i64 l[k].tab := mr0
    replace mc0 : wr.cell? ⟨mb, moff + k * 6, none⟩ = _ := mc0
    obtain ⟨mu1, mc1, mr1⟩ := hd 1 (by omega)
    obtain rfl : mu1 = .int .i64 l[k].cid := mr1
    obtain ⟨mu2, mc2, mr2⟩ := hd 2 (by omega)
    obtain rfl : mu2 = .int .i64 l[k].oid := mr2
    obtain ⟨mu3, mc3, mr3⟩ := hd 3 (by omega)
    replace mr3 : Rd wr _ (dAtomSS l[k].ocs) mu3 := mr3
    obtain ⟨ma3, mq3, rfl⟩ := mr3.lsSlice
    obtain ⟨mu4, mc4, mr4⟩ := hd 4 (by omega)
    obtain rfl : mu4 = .int .i64 l[k].nid := mr4
    obtain ⟨mu5, mc5, mr5⟩ := hd 5 (by omega)
    replace mr5 : Rd wr _ (dAtomSS l[k].ncs) mu5 := mr5
    obtain ⟨ma5, mq5, rfl⟩ := mr5.lsSlice
    clear hc hd
    generalize l[k] = x at *
    have hki : (k : Int) < (l.length : Int) := by omega
    have EQ : Hid (∀ W, Below wr.heap.size wr W → Calls Try.prog 28 #[.agg #[.int .i64 x.tab, .int .i64 x.cid, .int .i64 x.oid, .slice a3 x.ocs.length q3, .int .i64 x.nid, .slice a5 x.ncs.length q5], .agg #[.int .i64 x.tab, .int .i64 x.cid, .int .i64 x.oid, .slice ma3 x.ocs.length mq3, .int .i64 x.nid, .slice ma5 x.ncs.length mq5]] W fun e w' => e = .returned (.bool true) ∧ Below W.heap.size W w') := fun W h => eqDChange x a3 q3 a5 q5 ma3 mq3 ma5 mq5 A B W HXK.out (r3.later h) (r5.later h) (mr3.later h) (mr5.later h)
    clear HXK r3 mr3 r5 mr5
    go_wp2_with fail
    go_region_with (go_at_call 28; refine (EQ.out _ (by first | exact Below.refl _ _ | exact (Below.refl _ _).drew)).mono ?_; rintro e w1 ⟨rfl, hB1⟩)
    all_goals
      go_wp2_with fail
      go_roundw
      case rel => exact ⟨k + 1, by omega, by go_num, HW.out.trans ((Below.refl _ _).drew.trans (hB1.mono (by first | exact HW.out.size | (have := HW.out.size; simpa using this))))⟩
      case measure => simp [intOf]; omega
end Go.Proofs.Ytdhlndpobpdfmaa
