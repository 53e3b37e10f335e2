import Derived.Test.YtpjjpdbmooiplaaGreatDoorXae
namespace Go.Proofs.YtpjjpdbmooiplaaGreatDoor
open Go.RowKit
set_option linter.unusedSimpArgs false
structure CondV where
  col : List UInt8
  fn : Int
  val : List At
def dCond (x : CondV) : Nat → D
  | 0 => .s x.col
  | 1 => .i x.fn
  | _ => dAtomS x.val
theorem szT_Cond (x : CondV) : szT 3 (dCond x) = x.col.length + (dAtomS x.val).sz := by simp [szT, sumN, dCond, D.sz]
set_option maxHeartbeats 1600000 in
theorem szDCond (x : CondV) (a2 : Option Addr) (c2 : Nat) (L : Int) (B : Nat → Prop) (w : World) (h0 : 0 ≤ L) (h1 : L ≤ 1048576) (ho : ∀ j, j < 3 → (dCond x j).le maxLen) (r2 : Rd w B (dAtomS x.val) (.slice a2 x.val.length c2)) :
    Calls Tryz.prog 8 #[.agg #[.string ⟨x.col.toArray⟩, .int .i64 x.fn, .slice a2 x.val.length c2], .int .i64 L] w fun e w' => e = .returned (.int .i64 (lessI L (szT 3 (dCond x)))) ∧ Below w.heap.size w w' := by
  rw [szT_Cond]
  have HO := Lib.hid ho
  have R2 := Lib.hid r2
  have hs0 : x.col.length ≤ maxLen := ho 0 (by omega)
  unfold maxLen at hs0
  have hx := boxD 31 w #[.string ⟨x.col.toArray⟩, .int .i64 x.fn, .slice a2 x.val.length c2]
  clear ho r2
  have x0 := cell_at (o := 0) hx.1 rfl
  have x1 := cell_at (o := 1) hx.1 rfl
  have x2 := cell_at (o := 2) hx.1 rfl
  by_cases hn0 : L - (x.col.length : Int) < 0
  case pos =>
    have HR : Hid (lessI L (x.col.length + (dAtomS x.val).sz) = -1) := by show lessI L (x.col.length + (dAtomS x.val).sz) = -1; unfold lessI; rw [if_neg (by omega)]
    have d0 : decide (L - (x.col.length : Int) < 0) = true := decide_eq_true hn0
    go_enter Tryz.func8, Tryz.ntmps8
    go_wp2_with fail
    go_ret
    exact ⟨ret_i HR.out.symm, hx.2⟩
  obtain ⟨L0, hL0⟩ : ∃ L0 : Int, L0 = L - (x.col.length : Int) := ⟨_, rfl⟩
  have f0 : IntKind.i64.wrap (L - (x.col.length : Int)) = L0 := by rw [IntKind.wrap_i64]; omega
  have d0 : decide (L0 < 0) = false := decide_eq_false (by omega)
  have HL0 := Lib.hid hL0
  have bL0 : 0 ≤ L0 ∧ L0 ≤ 1048576 := by omega
  clear hn0 hL0
  have bl : Hid (0 ≤ L0 ∧ L0 ≤ 1048576) := by show _ ∧ _; omega
  clear h0 h1 bL0
  go_enter Tryz.func8, Tryz.ntmps8
  go_wp2_with fail
  refine (szDAtomS x.val a2 c2 L0 B _ bl.out.1 bl.out.2 (HO.out 2 (by omega)) (R2.out.later hx.2)).mono ?_
  rintro e w3 ⟨rfl, hB3⟩
  have hx := hx.later hB3
  clear hB3 x0 x1 x2
  have x0 := cell_at (o := 0) hx.1 rfl
  have x1 := cell_at (o := 1) hx.1 rfl
  have x2 := cell_at (o := 2) hx.1 rfl
  by_cases hn2 : L0 - ((dAtomS x.val).sz : Int) < 0
  case pos =>
    have HR : Hid (lessI L (x.col.length + (dAtomS x.val).sz) = -1) := by have := HL0.out; have := bl.out; show lessI L (x.col.length + (dAtomS x.val).sz) = -1; unfold lessI; rw [if_neg (by omega)]
    rw [less_no hn2]
    go_wp2_with fail
    go_ret
    exact ⟨ret_i HR.out.symm, hx.2⟩
  rw [less_yes (by omega)]
  obtain ⟨L2, hL2⟩ : ∃ L2 : Int, L2 = L0 - ((dAtomS x.val).sz : Int) := ⟨_, rfl⟩
  rw [← hL2]
  have d2 : decide (L2 < 0) = false := decide_eq_false (by omega)
  have bL2 : Hid (0 ≤ L2 ∧ L2 ≤ 1048576) := by have := bl.out; show _ ∧ _; omega
  have HL2 := Lib.hid hL2
  have HR : Hid (lessI L (x.col.length + (dAtomS x.val).sz) = L2) := by have := HL0.out; have := HL2.out; have := bL2.out; show lessI L (x.col.length + (dAtomS x.val).sz) = L2; unfold lessI; rw [if_pos (by omega)]; omega
  clear hn2 hL2 bl
  have bl := bL2
  clear bL2
  go_wp2_with fail
  go_ret
  exact ⟨ret_i HR.out.symm, hx.2⟩
set_option maxRecDepth 100000 in
set_option maxHeartbeats 3200000 in
theorem toDCond (x : CondV) (a2 : Option Addr) (c2 : Nat) (B : Nat → Prop) (w : World) (ho : ∀ j, j < 3 → (dCond x j).le 1048576) (r2 : Rd w B (dAtomS x.val) (.slice a2 x.val.length c2)) :
    Calls Tryz.prog 12 #[.agg #[.string ⟨x.col.toArray⟩, .int .i64 x.fn, .slice a2 x.val.length c2]] w fun e w' => ∃ p2 : Nat, e = .returned (.agg #[.string ⟨x.col.toArray⟩, .int .i64 x.fn, .slice (some ⟨p2, 0, none⟩) x.val.length x.val.length]) ∧ Owns w' 3 (dCond x) (vat [.string ⟨x.col.toArray⟩, .int .i64 x.fn, .slice (some ⟨p2, 0, none⟩) x.val.length x.val.length]) (fun c => w.heap.size ≤ c ∧ c < w'.heap.size) ∧ Below w.heap.size w w' := by
  have HO := Lib.hid ho
  have R2 := Lib.hid r2
  have T0 := Lib.hid (st3First w 31 47 #[.string ⟨x.col.toArray⟩, .int .i64 x.fn, .slice a2 x.val.length c2] #[.string ⟨#[]⟩, .int .i64 0, .slice none 0 0] #[.string ⟨x.col.toArray⟩, .int .i64 x.fn, .slice none 0 0])
  clear ho r2
  go_enter Tryz.func12, Tryz.ntmps12
  go_wp2_with fail
  have HE : Hid (w.heap.size + 1 + 1 < (((w.alloc (.cells #[.string ⟨x.col.toArray⟩, .int .i64 x.fn, .slice a2 x.val.length c2] 31)).alloc (.cells #[.string ⟨#[]⟩, .int .i64 0, .slice none 0 0] 47)).alloc (.cells #[.string ⟨x.col.toArray⟩, .int .i64 x.fn, .slice none 0 0] 47)).heap.size) := by show _ < _; simp
  refine (toDAtomS x.val a2 c2 B _ (HO.out 2 (by omega)) (R2.out.later T0.out.bel)).mono ?_
  rintro e w3 ⟨rfl, o2, hB2⟩
  have S2 := Lib.hid (T0.out.later hB2)
  obtain ⟨p2, hp2⟩ : ∃ p, p = (((w.alloc (.cells #[.string ⟨x.col.toArray⟩, .int .i64 x.fn, .slice a2 x.val.length c2] 31)).alloc (.cells #[.string ⟨#[]⟩, .int .i64 0, .slice none 0 0] 47)).alloc (.cells #[.string ⟨x.col.toArray⟩, .int .i64 x.fn, .slice none 0 0] 47)).heap.size := ⟨_, rfl⟩
  have HP2 : Hid (w.heap.size + 1 + 1 < p2 ∧ p2 ≤ w3.heap.size) := by
    have h1 := hB2.size; have h2 := HE.out
    rw [← hp2] at h1 h2
    exact ⟨h2, h1⟩
  rw [← hp2] at o2 ⊢
  have O2 := Lib.hid o2
  clear o2 hB2 hp2 T0 HE
  have x2 := cell_at (o := 2) S2.out.ot rfl
  have z2 := frozen_at 2 S2.out.ot
  have hne : (w.heap.size = w.heap.size + 1 + 1) = False := by simp; omega
  have x0 := cell_at (o := 0) S2.out.ot rfl
  have x1 := cell_at (o := 1) S2.out.ot rfl
  have g0 := cell_at (o := 0) S2.out.rv rfl
  have k0 := frozen_at 0 S2.out.rv
  have g1 := cell_at (o := 1) S2.out.rv rfl
  have k1 := frozen_at 1 S2.out.rv
  have g2 := cell_at (o := 2) S2.out.rv rfl
  have k2 := frozen_at 2 S2.out.rv
  go_wp2_with fail
  refine bodyPost_ret (v := .agg #[.string ⟨x.col.toArray⟩, .int .i64 x.fn, .slice (some ⟨p2, 0, none⟩) x.val.length x.val.length]) (by simp [results, Tryz.results12, go_sem, *]) rfl ?_
  have FF : Frm (fun c => c = w.heap.size + 1 ∨ c = w.heap.size + 1 + 1) w3 ((((w3.setCell ⟨w.heap.size + 1 + 1, 2, none⟩ (.slice (some ⟨p2, 0, none⟩) x.val.length x.val.length)).setCell ⟨w.heap.size + 1, 0, none⟩ (.string ⟨x.col.toArray⟩)).setCell ⟨w.heap.size + 1, 1, none⟩ (.int .i64 x.fn)).setCell ⟨w.heap.size + 1, 2, none⟩ (.slice (some ⟨p2, 0, none⟩) x.val.length x.val.length)) := by
    refine Frm.set ?_ (.inl rfl) _
    refine Frm.set ?_ (.inl rfl) _
    refine Frm.set ?_ (.inl rfl) _
    refine Frm.set ?_ (.inr rfl) _
    exact Frm.refl _ _
  have hsz : ((((w3.setCell ⟨w.heap.size + 1 + 1, 2, none⟩ (.slice (some ⟨p2, 0, none⟩) x.val.length x.val.length)).setCell ⟨w.heap.size + 1, 0, none⟩ (.string ⟨x.col.toArray⟩)).setCell ⟨w.heap.size + 1, 1, none⟩ (.int .i64 x.fn)).setCell ⟨w.heap.size + 1, 2, none⟩ (.slice (some ⟨p2, 0, none⟩) x.val.length x.val.length)).heap.size = w3.heap.size := by simp
  refine ⟨p2, rfl, ⟨fun j c => (j = 2 ∧ p2 ≤ c ∧ c < w3.heap.size), fun j c hc => ?_, fun j j' c h h' => ?_, fun j hj => ?_⟩, ?_⟩
  · have h2 := HP2.out; rw [hsz]; omega
  · have h2 := HP2.out; omega
  · rcases (by omega : j = 0 ∨ j = 1 ∨ j = 2) with rfl | rfl | rfl
    · rfl
    · rfl
    · exact (O2.out.frm FF (fun c hc hF => by have h1 := HP2.out; have h2 := hc.1; rcases hF with rfl | rfl <;> omega)).mono (fun c hc => ⟨rfl, hc⟩)
  · exact ((((S2.out.bel.setCell (by simp <;> omega) _).setCell (by simp <;> omega) _).setCell (by simp <;> omega) _).setCell (by simp <;> omega) _)
set_option maxRecDepth 100000 in
set_option maxHeartbeats 1600000 in
theorem eqDCond (x : CondV) (a2 : Option Addr) (c2 : Nat) (a2' : Option Addr) (c2' : Nat) (A B : Nat → Prop) (w : World) (ho : ∀ j, j < 3 → (dCond x j).le maxLen) (r2 : Rd w A (dAtomS x.val) (.slice a2 x.val.length c2)) (r2' : Rd w B (dAtomS x.val) (.slice a2' x.val.length c2')) :
    Calls Tryz.prog 16 #[.agg #[.string ⟨x.col.toArray⟩, .int .i64 x.fn, .slice a2 x.val.length c2], .agg #[.string ⟨x.col.toArray⟩, .int .i64 x.fn, .slice a2' x.val.length c2']] w fun e w' => e = .returned (.bool true) ∧ Below w.heap.size w w' := by
  have hb : Box2D 47 w ((w.alloc (.cells #[.string ⟨x.col.toArray⟩, .int .i64 x.fn, .slice a2 x.val.length c2] 47)).alloc (.cells #[.string ⟨x.col.toArray⟩, .int .i64 x.fn, .slice a2' x.val.length c2'] 47)) #[.string ⟨x.col.toArray⟩, .int .i64 x.fn, .slice a2 x.val.length c2] #[.string ⟨x.col.toArray⟩, .int .i64 x.fn, .slice a2' x.val.length c2'] := box2D _ _ _ _
  have E2 : Hid (∀ W, Below w.heap.size w W → Calls Tryz.prog 50 #[.slice a2 x.val.length c2, .slice a2' x.val.length c2'] W fun e w' => e = .returned (.bool true) ∧ Below W.heap.size W w') := fun W h => eqDAtomS x.val a2 c2 a2' c2' A B W (ho 2 (by omega)) (r2.later h) (r2'.later h)
  have HB := Lib.hid hb
  clear ho hb r2 r2'
  go_enter Tryz.func16, Tryz.ntmps16
  have x0 := cell_at (o := 0) HB.out.a rfl
  have y0 := cell_at (o := 0) HB.out.b rfl
  have x1 := cell_at (o := 1) HB.out.a rfl
  have y1 := cell_at (o := 1) HB.out.b rfl
  have x2 := cell_at (o := 2) HB.out.a rfl
  have y2 := cell_at (o := 2) HB.out.b rfl
  go_wp2_with fail
  refine (E2.out _ HB.out.bel).mono ?_
  rintro e w3 ⟨rfl, hB2⟩
  have H2 := Lib.hid (HB.out.later hB2)
  clear hB2 HB x0 y0 x1 y1 x2 y2
  have x0 := cell_at (o := 0) H2.out.a rfl
  have y0 := cell_at (o := 0) H2.out.b rfl
  have x1 := cell_at (o := 1) H2.out.a rfl
  have y1 := cell_at (o := 1) H2.out.b rfl
  have x2 := cell_at (o := 2) H2.out.a rfl
  have y2 := cell_at (o := 2) H2.out.b rfl
  go_wp2_with fail
  go_ret
  exact ⟨rfl, H2.out.bel⟩
def dCondS (l : List CondV) : D := Ls 3 dCond l
end Go.Proofs.YtpjjpdbmooiplaaGreatDoor
