import Derived.Test.YtnegmpdllbbnhaaZav
namespace Go.Proofs.Ytnegmpdllbbnhaa
open Go.RowKit
set_option linter.unusedSimpArgs false
structure UpV where
  uid : Int
  oid : Int
  ocs : List (List At)
  nid : Int
  ncs : List (List At)
def dUpdate (x : UpV) : Nat → D
  | 0 => .i x.uid
  | 1 => .i x.oid
  | 2 => dAtomSS x.ocs
  | 3 => .i x.nid
  | _ => dAtomSS x.ncs
theorem szT_Update (x : UpV) : szT 5 (dUpdate x) = (dAtomSS x.ocs).sz + (dAtomSS x.ncs).sz := by simp [szT, sumN, dUpdate, D.sz]
set_option maxHeartbeats 1600000 in
theorem szDUpdate (x : UpV) (a2 : Option Addr) (c2 : Nat) (a4 : Option Addr) (c4 : Nat) (L : Int) (B : Nat → Prop) (w : World) (h0 : 0 ≤ L) (h1 : L ≤ 1048576) (ho : ∀ j, j < 5 → (dUpdate x j).le maxLen) (r2 : Rd w B (dAtomSS x.ocs) (.slice a2 x.ocs.length c2)) (r4 : Rd w B (dAtomSS x.ncs) (.slice a4 x.ncs.length c4)) :
    Calls Try.prog 16 #[.agg #[.int .i64 x.uid, .int .i64 x.oid, .slice a2 x.ocs.length c2, .int .i64 x.nid, .slice a4 x.ncs.length c4], .int .i64 L] w fun e w' => e = .returned (.int .i64 (lessI L (szT 5 (dUpdate x)))) ∧ Below w.heap.size w w' := by
  rw [szT_Update]
  have HO := Lib.hid ho
  have R2 := Lib.hid r2
  have R4 := Lib.hid r4
  have hx := boxD 43 w #[.int .i64 x.uid, .int .i64 x.oid, .slice a2 x.ocs.length c2, .int .i64 x.nid, .slice a4 x.ncs.length c4]
  clear ho r2 r4
  have x0 := cell_at (o := 0) hx.1 rfl
  have x1 := cell_at (o := 1) hx.1 rfl
  have x2 := cell_at (o := 2) hx.1 rfl
  have x3 := cell_at (o := 3) hx.1 rfl
  have x4 := cell_at (o := 4) hx.1 rfl
  have bl : Hid (0 ≤ L ∧ L ≤ 1048576) := by show _ ∧ _; omega
  clear h0 h1
  go_enter Try.func16, Try.ntmps16
  go_wp2_with fail
  refine (szIRow x.oid x.ocs a2 c2 L B _ bl.out.1 bl.out.2 (HO.out 1 (by omega)) (HO.out 2 (by omega)) (R2.out.later hx.2)).mono ?_
  rintro e w3 ⟨rfl, hB3⟩
  have hx := hx.later hB3
  clear hB3 x0 x1 x2 x3 x4
  have x0 := cell_at (o := 0) hx.1 rfl
  have x1 := cell_at (o := 1) hx.1 rfl
  have x2 := cell_at (o := 2) hx.1 rfl
  have x3 := cell_at (o := 3) hx.1 rfl
  have x4 := cell_at (o := 4) hx.1 rfl
  by_cases hn2 : L - ((dAtomSS x.ocs).sz : Int) < 0
  case pos =>
    have HR : Hid (lessI L ((dAtomSS x.ocs).sz + (dAtomSS x.ncs).sz) = -1) := by have := bl.out; show lessI L ((dAtomSS x.ocs).sz + (dAtomSS x.ncs).sz) = -1; unfold lessI; rw [if_neg (by omega)]
    rw [less_no hn2]
    go_wp2_with fail
    go_ret
    exact ⟨ret_i HR.out.symm, hx.2⟩
  rw [less_yes (by omega)]
  obtain ⟨L2, hL2⟩ : ∃ L2 : Int, L2 = L - ((dAtomSS x.ocs).sz : Int) := ⟨_, rfl⟩
  rw [← hL2]
  have d2 : decide (L2 < 0) = false := decide_eq_false (by omega)
  have bL2 : Hid (0 ≤ L2 ∧ L2 ≤ 1048576) := by have := bl.out; show _ ∧ _; omega
  have HL2 := Lib.hid hL2
  clear hn2 hL2 bl
  have bl := bL2
  clear bL2
  go_wp2_with fail
  refine (szIRow x.nid x.ncs a4 c4 L2 B _ bl.out.1 bl.out.2 (HO.out 3 (by omega)) (HO.out 4 (by omega)) (R4.out.later hx.2)).mono ?_
  rintro e w5 ⟨rfl, hB5⟩
  have hx := hx.later hB5
  clear hB5 x0 x1 x2 x3 x4
  have x0 := cell_at (o := 0) hx.1 rfl
  have x1 := cell_at (o := 1) hx.1 rfl
  have x2 := cell_at (o := 2) hx.1 rfl
  have x3 := cell_at (o := 3) hx.1 rfl
  have x4 := cell_at (o := 4) hx.1 rfl
  by_cases hn4 : L2 - ((dAtomSS x.ncs).sz : Int) < 0
  case pos =>
    have HR : Hid (lessI L ((dAtomSS x.ocs).sz + (dAtomSS x.ncs).sz) = -1) := by have := HL2.out; have := bl.out; show lessI L ((dAtomSS x.ocs).sz + (dAtomSS x.ncs).sz) = -1; unfold lessI; rw [if_neg (by omega)]
    rw [less_no hn4]
    go_wp2_with fail
    go_ret
    exact ⟨ret_i HR.out.symm, hx.2⟩
  rw [less_yes (by omega)]
  obtain ⟨L4, hL4⟩ : ∃ L4 : Int, L4 = L2 - ((dAtomSS x.ncs).sz : Int) := ⟨_, rfl⟩
  rw [← hL4]
  have d4 : decide (L4 < 0) = false := decide_eq_false (by omega)
  have bL4 : Hid (0 ≤ L4 ∧ L4 ≤ 1048576) := by have := bl.out; show _ ∧ _; omega
  have HL4 := Lib.hid hL4
  have HR : Hid (lessI L ((dAtomSS x.ocs).sz + (dAtomSS x.ncs).sz) = L4) := by have := HL2.out; have := HL4.out; have := bL4.out; show lessI L ((dAtomSS x.ocs).sz + (dAtomSS x.ncs).sz) = L4; unfold lessI; rw [if_pos (by omega)]; omega
  clear hn4 hL4 bl
  have bl := bL4
  clear bL4
  go_wp2_with fail
  go_ret
  exact ⟨ret_i HR.out.symm, hx.2⟩
set_option maxRecDepth 100000 in
set_option maxHeartbeats 3200000 in
theorem toDUpdate (x : UpV) (a2 : Option Addr) (c2 : Nat) (a4 : Option Addr) (c4 : Nat) (B : Nat → Prop) (w : World) (ho : ∀ j, j < 5 → (dUpdate x j).le 1048576) (r2 : Rd w B (dAtomSS x.ocs) (.slice a2 x.ocs.length c2)) (r4 : Rd w B (dAtomSS x.ncs) (.slice a4 x.ncs.length c4)) :
    Calls Try.prog 26 #[.agg #[.int .i64 x.uid, .int .i64 x.oid, .slice a2 x.ocs.length c2, .int .i64 x.nid, .slice a4 x.ncs.length c4]] w fun e w' => ∃ p2 : Nat, ∃ p4 : Nat, e = .returned (.agg #[.int .i64 x.uid, .int .i64 x.oid, .slice (some ⟨p2, 0, none⟩) x.ocs.length x.ocs.length, .int .i64 x.nid, .slice (some ⟨p4, 0, none⟩) x.ncs.length x.ncs.length]) ∧ Owns w' 5 (dUpdate x) (vat [.int .i64 x.uid, .int .i64 x.oid, .slice (some ⟨p2, 0, none⟩) x.ocs.length x.ocs.length, .int .i64 x.nid, .slice (some ⟨p4, 0, none⟩) x.ncs.length x.ncs.length]) (fun c => w.heap.size ≤ c ∧ c < w'.heap.size) ∧ Below w.heap.size w w' := by
  have HO := Lib.hid ho
  have R2 := Lib.hid r2
  have R4 := Lib.hid r4
  have T0 := Lib.hid (st3First w 43 53 #[.int .i64 x.uid, .int .i64 x.oid, .slice a2 x.ocs.length c2, .int .i64 x.nid, .slice a4 x.ncs.length c4] #[.int .i64 0, .int .i64 0, .slice none 0 0, .int .i64 0, .slice none 0 0] #[.int .i64 x.uid, .int .i64 0, .slice none 0 0, .int .i64 0, .slice none 0 0])
  clear ho r2 r4
  go_enter Try.func26, Try.ntmps26
  go_wp2_with fail
  have HE : Hid (w.heap.size + 1 + 1 < (((w.alloc (.cells #[.int .i64 x.uid, .int .i64 x.oid, .slice a2 x.ocs.length c2, .int .i64 x.nid, .slice a4 x.ncs.length c4] 43)).alloc (.cells #[.int .i64 0, .int .i64 0, .slice none 0 0, .int .i64 0, .slice none 0 0] 53)).alloc (.cells #[.int .i64 x.uid, .int .i64 0, .slice none 0 0, .int .i64 0, .slice none 0 0] 53)).heap.size) := by show _ < _; simp
  refine (toIRow x.oid x.ocs a2 c2 B _ (HO.out 1 (by omega)) (HO.out 2 (by omega)) (R2.out.later T0.out.bel)).mono ?_
  rintro e w3 ⟨p2, rfl, o2, hB2⟩
  have S2 := Lib.hid (T0.out.later hB2)
  obtain ⟨l2, hp2⟩ : ∃ p, p = (((w.alloc (.cells #[.int .i64 x.uid, .int .i64 x.oid, .slice a2 x.ocs.length c2, .int .i64 x.nid, .slice a4 x.ncs.length c4] 43)).alloc (.cells #[.int .i64 0, .int .i64 0, .slice none 0 0, .int .i64 0, .slice none 0 0] 53)).alloc (.cells #[.int .i64 x.uid, .int .i64 0, .slice none 0 0, .int .i64 0, .slice none 0 0] 53)).heap.size := ⟨_, rfl⟩
  have HP2 : Hid (w.heap.size + 1 + 1 < l2 ∧ l2 ≤ w3.heap.size) := by
    have h1 := hB2.size; have h2 := HE.out
    rw [← hp2] at h1 h2
    exact ⟨h2, h1⟩
  rw [← hp2] at o2
  have O2 := Lib.hid o2
  clear o2 hB2 hp2 T0 HE
  have x2 := cell_at (o := 2) S2.out.ot rfl
  have z2 := frozen_at 2 S2.out.ot
  have hne : (w.heap.size = w.heap.size + 1 + 1) = False := by simp; omega
  have x1 := cell_at (o := 1) S2.out.ot rfl
  have z1 := frozen_at 1 S2.out.ot
  have y1 := cell_at (o := 1) S2.out.bx rfl
  have y3 := cell_at (o := 3) S2.out.bx rfl
  have y4 := cell_at (o := 4) S2.out.bx rfl
  have U2 := Lib.hid ((S2.out.set 1 (.int .i64 x.oid)).set 2 (.slice (some ⟨p2, 0, none⟩) x.ocs.length x.ocs.length))
  have F2 : Hid (Frm (fun c => c = w.heap.size + 1 + 1) w3 ((w3.setCell ⟨w.heap.size + 1 + 1, 1, none⟩ (.int .i64 x.oid)).setCell ⟨w.heap.size + 1 + 1, 2, none⟩ (.slice (some ⟨p2, 0, none⟩) x.ocs.length x.ocs.length))) := by
    show Frm _ _ _
    refine Frm.set (B := fun c => c = w.heap.size + 1 + 1) ?_ rfl _
    refine Frm.set (B := fun c => c = w.heap.size + 1 + 1) ?_ rfl _
    exact Frm.refl _ _
  have P2 := Lib.hid (O2.out.frm F2.out (fun c hc hF => by have h1 := HP2.out.1; have h2 := hc.1; have h3 : c = _ := hF; omega))
  clear O2
  have O2 := P2
  clear P2
  have HE : Hid (w.heap.size + 1 + 1 < ((w3.setCell ⟨w.heap.size + 1 + 1, 1, none⟩ (.int .i64 x.oid)).setCell ⟨w.heap.size + 1 + 1, 2, none⟩ (.slice (some ⟨p2, 0, none⟩) x.ocs.length x.ocs.length)).heap.size) := by have := HP2.out; show _ < _; simp; omega
  clear F2 S2
  go_wp2_with fail
  refine (toIRow x.nid x.ncs a4 c4 B _ (HO.out 3 (by omega)) (HO.out 4 (by omega)) (R4.out.later U2.out.bel)).mono ?_
  rintro e w5 ⟨p4, rfl, o4, hB4⟩
  have S4 := Lib.hid (U2.out.later hB4)
  obtain ⟨l4, hp4⟩ : ∃ p, p = ((w3.setCell ⟨w.heap.size + 1 + 1, 1, none⟩ (.int .i64 x.oid)).setCell ⟨w.heap.size + 1 + 1, 2, none⟩ (.slice (some ⟨p2, 0, none⟩) x.ocs.length x.ocs.length)).heap.size := ⟨_, rfl⟩
  have HP4 : Hid (w.heap.size + 1 + 1 < l4 ∧ l4 ≤ w5.heap.size ∧ w3.heap.size ≤ l4) := by
    have h1 := hB4.size; have h2 := HE.out
    rw [← hp4] at h1 h2
    exact ⟨h2, h1, by rw [hp4]; simp⟩
  rw [← hp4] at o4
  have Q2_4 := Lib.hid (O2.out.later hB4)
  clear O2
  have O2 := Q2_4
  clear Q2_4
  have O4 := Lib.hid o4
  clear o4 hB4 hp4 U2 HE
  have x4 := cell_at (o := 4) S4.out.ot rfl
  have z4 := frozen_at 4 S4.out.ot
  have hne : (w.heap.size = w.heap.size + 1 + 1) = False := by simp; omega
  have x0 := cell_at (o := 0) S4.out.ot rfl
  have x1 := cell_at (o := 1) S4.out.ot rfl
  have x2 := cell_at (o := 2) S4.out.ot rfl
  have x3 := cell_at (o := 3) S4.out.ot rfl
  have z3 := frozen_at 3 S4.out.ot
  have y3 := cell_at (o := 3) S4.out.bx rfl
  have g0 := cell_at (o := 0) S4.out.rv rfl
  have k0 := frozen_at 0 S4.out.rv
  have g1 := cell_at (o := 1) S4.out.rv rfl
  have k1 := frozen_at 1 S4.out.rv
  have g2 := cell_at (o := 2) S4.out.rv rfl
  have k2 := frozen_at 2 S4.out.rv
  have g3 := cell_at (o := 3) S4.out.rv rfl
  have k3 := frozen_at 3 S4.out.rv
  have g4 := cell_at (o := 4) S4.out.rv rfl
  have k4 := frozen_at 4 S4.out.rv
  go_wp2_with fail
  refine bodyPost_ret (v := .agg #[.int .i64 x.uid, .int .i64 x.oid, .slice (some ⟨p2, 0, none⟩) x.ocs.length x.ocs.length, .int .i64 x.nid, .slice (some ⟨p4, 0, none⟩) x.ncs.length x.ncs.length]) (by simp [results, Try.results26, go_sem, *]) rfl ?_
  have FF : Frm (fun c => c = w.heap.size + 1 ∨ c = w.heap.size + 1 + 1) w5 (((((((w5.setCell ⟨w.heap.size + 1 + 1, 3, none⟩ (.int .i64 x.nid)).setCell ⟨w.heap.size + 1 + 1, 4, none⟩ (.slice (some ⟨p4, 0, none⟩) x.ncs.length x.ncs.length)).setCell ⟨w.heap.size + 1, 0, none⟩ (.int .i64 x.uid)).setCell ⟨w.heap.size + 1, 1, none⟩ (.int .i64 x.oid)).setCell ⟨w.heap.size + 1, 2, none⟩ (.slice (some ⟨p2, 0, none⟩) x.ocs.length x.ocs.length)).setCell ⟨w.heap.size + 1, 3, none⟩ (.int .i64 x.nid)).setCell ⟨w.heap.size + 1, 4, none⟩ (.slice (some ⟨p4, 0, none⟩) x.ncs.length x.ncs.length)) := by
    refine Frm.set ?_ (.inl rfl) _
    refine Frm.set ?_ (.inl rfl) _
    refine Frm.set ?_ (.inl rfl) _
    refine Frm.set ?_ (.inl rfl) _
    refine Frm.set ?_ (.inl rfl) _
    refine Frm.set ?_ (.inr rfl) _
    refine Frm.set ?_ (.inr rfl) _
    exact Frm.refl _ _
  have hsz : (((((((w5.setCell ⟨w.heap.size + 1 + 1, 3, none⟩ (.int .i64 x.nid)).setCell ⟨w.heap.size + 1 + 1, 4, none⟩ (.slice (some ⟨p4, 0, none⟩) x.ncs.length x.ncs.length)).setCell ⟨w.heap.size + 1, 0, none⟩ (.int .i64 x.uid)).setCell ⟨w.heap.size + 1, 1, none⟩ (.int .i64 x.oid)).setCell ⟨w.heap.size + 1, 2, none⟩ (.slice (some ⟨p2, 0, none⟩) x.ocs.length x.ocs.length)).setCell ⟨w.heap.size + 1, 3, none⟩ (.int .i64 x.nid)).setCell ⟨w.heap.size + 1, 4, none⟩ (.slice (some ⟨p4, 0, none⟩) x.ncs.length x.ncs.length)).heap.size = w5.heap.size := by simp
  refine ⟨p2, p4, rfl, ⟨fun j c => (j = 2 ∧ l2 ≤ c ∧ c < w3.heap.size) ∨ (j = 4 ∧ l4 ≤ c ∧ c < w5.heap.size), fun j c hc => ?_, fun j j' c h h' => ?_, fun j hj => ?_⟩, ?_⟩
  · have h2 := HP2.out; have h4 := HP4.out; rw [hsz]; omega
  · have h2 := HP2.out; have h4 := HP4.out; omega
  · rcases (by omega : j = 0 ∨ j = 1 ∨ j = 2 ∨ j = 3 ∨ j = 4) with rfl | rfl | rfl | rfl | rfl
    · rfl
    · rfl
    · exact (O2.out.frm FF (fun c hc hF => by have h1 := HP2.out; have h2 := hc.1; rcases hF with rfl | rfl <;> omega)).mono (fun c hc => .inl ⟨rfl, hc⟩)
    · rfl
    · exact (O4.out.frm FF (fun c hc hF => by have h1 := HP4.out; have h2 := hc.1; rcases hF with rfl | rfl <;> omega)).mono (fun c hc => .inr ⟨rfl, hc⟩)
  · exact (((((((S4.out.bel.setCell (by simp <;> omega) _).setCell (by simp <;> omega) _).setCell (by simp <;> omega) _).setCell (by simp <;> omega) _).setCell (by simp <;> omega) _).setCell (by simp <;> omega) _).setCell (by simp <;> omega) _)
set_option maxRecDepth 100000 in
set_option maxHeartbeats 1600000 in
theorem eqDUpdate (x : UpV) (a2 : Option Addr) (c2 : Nat) (a4 : Option Addr) (c4 : Nat) (a2' : Option Addr) (c2' : Nat) (a4' : Option Addr) (c4' : Nat) (A B : Nat → Prop) (w : World) (ho : ∀ j, j < 5 → (dUpdate x j).le maxLen) (r2 : Rd w A (dAtomSS x.ocs) (.slice a2 x.ocs.length c2)) (r4 : Rd w A (dAtomSS x.ncs) (.slice a4 x.ncs.length c4)) (r2' : Rd w B (dAtomSS x.ocs) (.slice a2' x.ocs.length c2')) (r4' : Rd w B (dAtomSS x.ncs) (.slice a4' x.ncs.length c4')) :
    Calls Try.prog 32 #[.agg #[.int .i64 x.uid, .int .i64 x.oid, .slice a2 x.ocs.length c2, .int .i64 x.nid, .slice a4 x.ncs.length c4], .agg #[.int .i64 x.uid, .int .i64 x.oid, .slice a2' x.ocs.length c2', .int .i64 x.nid, .slice a4' x.ncs.length c4']] w fun e w' => e = .returned (.bool true) ∧ Below w.heap.size w w' := by
  have hb : Box2D 53 w ((w.alloc (.cells #[.int .i64 x.uid, .int .i64 x.oid, .slice a2 x.ocs.length c2, .int .i64 x.nid, .slice a4 x.ncs.length c4] 53)).alloc (.cells #[.int .i64 x.uid, .int .i64 x.oid, .slice a2' x.ocs.length c2', .int .i64 x.nid, .slice a4' x.ncs.length c4'] 53)) #[.int .i64 x.uid, .int .i64 x.oid, .slice a2 x.ocs.length c2, .int .i64 x.nid, .slice a4 x.ncs.length c4] #[.int .i64 x.uid, .int .i64 x.oid, .slice a2' x.ocs.length c2', .int .i64 x.nid, .slice a4' x.ncs.length c4'] := box2D _ _ _ _
  have E2 : Hid (∀ W, Below w.heap.size w W → Calls Try.prog 31 #[.agg #[.int .i64 x.oid, .slice a2 x.ocs.length c2], .agg #[.int .i64 x.oid, .slice a2' x.ocs.length c2']] W fun e w' => e = .returned (.bool true) ∧ Below W.heap.size W w') := fun W h => eqIRow x.oid x.ocs a2 c2 a2' c2' A B W (ho 1 (by omega)) (ho 2 (by omega)) (r2.later h) (r2'.later h)
  have E4 : Hid (∀ W, Below w.heap.size w W → Calls Try.prog 31 #[.agg #[.int .i64 x.nid, .slice a4 x.ncs.length c4], .agg #[.int .i64 x.nid, .slice a4' x.ncs.length c4']] W fun e w' => e = .returned (.bool true) ∧ Below W.heap.size W w') := fun W h => eqIRow x.nid x.ncs a4 c4 a4' c4' A B W (ho 3 (by omega)) (ho 4 (by omega)) (r4.later h) (r4'.later h)
  have HB := Lib.hid hb
  clear ho hb r2 r2' r4 r4'
  go_enter Try.func32, Try.ntmps32
  have x0 := cell_at (o := 0) HB.out.a rfl
  have y0 := cell_at (o := 0) HB.out.b rfl
  have x1 := cell_at (o := 1) HB.out.a rfl
  have y1 := cell_at (o := 1) HB.out.b rfl
  have x2 := cell_at (o := 2) HB.out.a rfl
  have y2 := cell_at (o := 2) HB.out.b rfl
  have x3 := cell_at (o := 3) HB.out.a rfl
  have y3 := cell_at (o := 3) HB.out.b rfl
  have x4 := cell_at (o := 4) HB.out.a rfl
  have y4 := cell_at (o := 4) HB.out.b rfl
  go_wp2_with fail
  refine (E2.out _ HB.out.bel).mono ?_
  rintro e w3 ⟨rfl, hB2⟩
  have H2 := Lib.hid (HB.out.later hB2)
  clear hB2 HB x0 y0 x1 y1 x2 y2 x3 y3 x4 y4
  have x0 := cell_at (o := 0) H2.out.a rfl
  have y0 := cell_at (o := 0) H2.out.b rfl
  have x1 := cell_at (o := 1) H2.out.a rfl
  have y1 := cell_at (o := 1) H2.out.b rfl
  have x2 := cell_at (o := 2) H2.out.a rfl
  have y2 := cell_at (o := 2) H2.out.b rfl
  have x3 := cell_at (o := 3) H2.out.a rfl
  have y3 := cell_at (o := 3) H2.out.b rfl
  have x4 := cell_at (o := 4) H2.out.a rfl
  have y4 := cell_at (o := 4) H2.out.b rfl
  go_wp2_with fail
  refine (E4.out _ H2.out.bel).mono ?_
  rintro e w5 ⟨rfl, hB4⟩
  have H4 := Lib.hid (H2.out.later hB4)
  clear hB4 H2 x0 y0 x1 y1 x2 y2 x3 y3 x4 y4
  have x0 := cell_at (o := 0) H4.out.a rfl
  have y0 := cell_at (o := 0) H4.out.b rfl
  have x1 := cell_at (o := 1) H4.out.a rfl
  have y1 := cell_at (o := 1) H4.out.b rfl
  have x2 := cell_at (o := 2) H4.out.a rfl
  have y2 := cell_at (o := 2) H4.out.b rfl
  have x3 := cell_at (o := 3) H4.out.a rfl
  have y3 := cell_at (o := 3) H4.out.b rfl
  have x4 := cell_at (o := 4) H4.out.a rfl
  have y4 := cell_at (o := 4) H4.out.b rfl
  go_wp2_with fail
  go_ret
  exact ⟨rfl, H4.out.bel⟩
def dUpdateS (l : List UpV) : D := Ls 5 dUpdate l
set_option maxHeartbeats 1600000 in
theorem szDUpdateS (l : List UpV) (a : Option Addr) (c : Nat) (L : Int) (B : Nat → Prop) (w : World) (h0 : 0 ≤ L) (h1 : L ≤ 1048576) (ho : (dUpdateS l).le maxLen) (hS : Rd w B (dUpdateS l) (.slice a l.length c)) :
    Calls Try.prog 5 #[.slice a l.length c, .int .i64 L] w fun e w' => e = .returned (.int .i64 (lessI L (dUpdateS l).sz)) ∧ Below w.heap.size w w' := by
  have hl : l.length ≤ maxLen := (Ls_le.1 ho).2.1
  unfold maxLen at hl
  have HX : Hid (∀ i (h : i < l.length) j, j < 5 → (dUpdate l[i] j).le maxLen) := (Ls_le.1 ho).2.2
  have HS : Hid (Rd w B (Ls 5 dUpdate l) (.slice a l.length c)) := hS
  have HZ : Hid ((dUpdateS l).sz = l.length + szL 5 dUpdate l l.length) := Ls_sz
  clear hS ho
  by_cases hn : L - (l.length : Int) < 0
  · have HR : Hid (lessI L (dUpdateS l).sz = -1) := by have := HZ.out; show lessI L (dUpdateS l).sz = -1; unfold lessI; rw [if_neg (by omega)]
    go_enter Try.func5, Try.ntmps5
    go_wp2_with fail
    go_ret
    exact ⟨ret_i HR.out.symm, Below.refl _ _⟩
  go_enter Try.func5, Try.ntmps5
  go_wp2_with fail
  go_loopw [1, 5] (fun t i wr => ∃ k : Nat, k ≤ l.length ∧ i = .int .i64 k ∧ ∃ m : Int, t = .int .i64 m ∧ 0 ≤ m ∧ m ≤ L ∧ Hid (m = L - (l.length + szL 5 dUpdate l k : Nat) ∧ Below w.heap.size w wr)) (fun _ i _ => l.length - (intOf i).toNat)
  case atStart => exact ⟨0, Nat.zero_le _, rfl, L - l.length, rfl, by omega, by omega, by show _ = _; rw [szL_zero]; omega, Below.refl _ _⟩
  case round =>
    obtain ⟨k, hk, rfl, m, rfl, hm0, hmL, HM⟩ := hrel
    by_cases hlt : k < l.length
    case neg =>
      have HR : Hid (lessI L (dUpdateS l).sz = m) := by
        have h1 := HM.out.1; have h2 := HZ.out
        have hk' : k = l.length := by omega
        rw [hk'] at h1
        show lessI L (dUpdateS l).sz = m
        unfold lessI; rw [if_pos (by omega)]; omega
      go_wp2_with fail
      go_ret
      exact ⟨ret_i HR.out.symm, HM.out.2⟩
    obtain ⟨b, off, rfl, -, hc⟩ := (HS.out.later HM.out.2).things k hlt
    have HSU : Hid (szL 5 dUpdate l (k + 1) = szL 5 dUpdate l k + szT 5 (dUpdate l[k])) := szL_succ hlt
    have HLE : Hid (szL 5 dUpdate l (k + 1) ≤ szL 5 dUpdate l l.length) := szL_mono (by omega)
    have HXK := Lib.hid (HX.out k hlt)
    obtain ⟨u0, c0, r0⟩ := hc 0 (by omega)
    obtain rfl : u0 = .int .i64 l[k].uid := r0
    replace c0 : wr.cell? ⟨b, off + k * 5, none⟩ = _ := c0
    obtain ⟨u1, c1, r1⟩ := hc 1 (by omega)
    obtain rfl : u1 = .int .i64 l[k].oid := r1
    obtain ⟨u2, c2, r2⟩ := hc 2 (by omega)
    replace r2 : Rd wr _ (dAtomSS l[k].ocs) u2 := r2
    obtain ⟨a2, q2, rfl⟩ := r2.lsSlice
    obtain ⟨u3, c3, r3⟩ := hc 3 (by omega)
    obtain rfl : u3 = .int .i64 l[k].nid := r3
    obtain ⟨u4, c4, r4⟩ := hc 4 (by omega)
    replace r4 : Rd wr _ (dAtomSS l[k].ncs) u4 := r4
    obtain ⟨a4, q4, rfl⟩ := r4.lsSlice
    clear hc
    generalize l[k] = x at *
    have CC := Lib.hid (szDUpdate x a2 q2 a4 q4 m B wr hm0 (by omega) HXK.out r2 r4)
    clear HXK r2 r4
    by_cases hz : m - (szT 5 (dUpdate x) : Int) < 0
    · have HR : Hid (lessI L (dUpdateS l).sz = -1) := by
        have h1 := HM.out.1; have h2 := HSU.out; have h3 := HLE.out; have h4 := HZ.out
        show lessI L (dUpdateS l).sz = -1
        unfold lessI; rw [if_neg (by omega)]
      rw [less_no hz] at CC
      go_wp2_with (go_at_call 16; refine CC.out.mono ?_; rintro e w1 ⟨rfl, hB1⟩)
      go_ret
      exact ⟨ret_i HR.out.symm, HM.out.2.trans (hB1.mono HM.out.2.size)⟩
    rw [less_yes (by omega)] at CC
    obtain ⟨m', hm'⟩ : ∃ m' : Int, m' = m - (szT 5 (dUpdate x) : Int) := ⟨_, rfl⟩
    rw [← hm'] at CC
    have hd : decide (m' < 0) = false := decide_eq_false (by omega)
    have HM' : Hid (m' = m - (szT 5 (dUpdate x) : Int) ∧ 0 ≤ m') := ⟨hm', by omega⟩
    clear hm' hz
    go_wp2_with (go_at_call 16; refine CC.out.mono ?_; rintro e w1 ⟨rfl, hB1⟩)
    go_roundw
    case rel =>
      have h1 := HM.out.1; have h2 := HSU.out; have h3 := HM'.out
      exact ⟨k + 1, by omega, by go_num, m', rfl, by omega, by omega, by show _ = _; omega, HM.out.2.trans (hB1.mono HM.out.2.size)⟩
    case measure => simp [intOf]; omega
theorem run_mkUpdateS (n : Nat) (hn : n ≤ 1048576) (w : World) :
    (Instr.makeSlice 30 (.int .i64 (n : Int)) (.int .i64 (n : Int))).run Try.prog w = .ok (.slice (some ⟨w.heap.size, 0, none⟩) n n) (w.alloc (.cells (madeCells #[.int .i64 0, .int .i64 0, .slice none 0 0, .int .i64 0, .slice none 0 0] (n * 5)) 53)) := by
  have h : (Try.prog.info? 53).map (fun i => (i.zero, i.size, i.bytes)) = some (some (.agg #[.int .i64 0, .int .i64 0, .slice none 0 0, .int .i64 0, .slice none 0 0]), 5, 72) := by kernel_rfl
  obtain ⟨i, hi, hzz⟩ := Option.map_eq_some_iff.1 h
  simp only [Prod.mk.injEq] at hzz
  obtain ⟨hz, hs, hb⟩ := hzz
  have hr := run_make (P := Try.prog) w 30 53 i _ Try.underlying30 hi hz .i64 .i64 n n (by omega) (Int.le_refl _) (by rw [hb]; omega) (by omega)
  rw [hr, hs]
  simp only [Int.toNat_natCast]
  rfl
set_option maxRecDepth 100000 in
set_option maxHeartbeats 3200000 in
theorem toDUpdateS (l : List UpV) (a : Option Addr) (c : Nat) (B : Nat → Prop) (w : World) (ho : (dUpdateS l).le 1048576) (hS : Rd w B (dUpdateS l) (.slice a l.length c)) :
    Calls Try.prog 8 #[.slice a l.length c] w fun e w' => e = .returned (.slice (some ⟨w.heap.size, 0, none⟩) l.length l.length) ∧ Own w' (dUpdateS l) (fun c => w.heap.size ≤ c ∧ c < w'.heap.size) (.slice (some ⟨w.heap.size, 0, none⟩) l.length l.length) ∧ Below w.heap.size w w' := by
  have HS : Hid (Rd w B (Ls 5 dUpdate l) (.slice a l.length c)) := hS
  have HX : Hid (∀ i (h : i < l.length) j, j < 5 → (dUpdate l[i] j).le 1048576) := (Ls_le.1 ho).2.2
  have hl : l.length ≤ 1048576 := (Ls_le.1 ho).2.1
  have hmk := run_mkUpdateS l.length hl
  clear hS ho
  go_enter Try.func8, Try.ntmps8
  go_wp2_with fail
  clear hmk
  go_loopw [4] (fun i wr => ∃ k : Nat, k ≤ l.length ∧ i = .int .i64 k ∧ Hid (Below w.heap.size w wr ∧ TS wr 53 5 l.length (lsF dUpdate l) w.heap.size k)) (fun i _ => l.length - (intOf i).toNat)
  case atStart => exact ⟨0, Nat.zero_le _, rfl, (Below.refl _ _).alloc (Nat.le_refl _) _, by have := TS.start w #[.int .i64 0, .int .i64 0, .slice none 0 0, .int .i64 0, .slice none 0 0] 53 5 l.length (lsF dUpdate l); exact this⟩
  case round =>
    obtain ⟨k, hk, rfl, HD⟩ := hrel
    by_cases hlt : k < l.length
    case neg =>
      have hk' : k = l.length := by omega
      have hki : decide ((k : Int) < (l.length : Int)) = false := decide_eq_false (by omega)
      go_wp2_with fail
      go_ret
      exact ⟨rfl, TS.done (by omega) (by have := HD.out.2; rw [hk'] at this; exact this), HD.out.1⟩
    have hki : (k : Int) < (l.length : Int) := by omega
    obtain ⟨b, off, rfl, -, hc⟩ := (HS.out.later HD.out.1).things k hlt
    have HXK := Lib.hid (HX.out k hlt)
    have HFA : Hid (lsF dUpdate l k = dUpdate l[k]) := lsF_at hlt
    obtain ⟨u0, c0, r0⟩ := hc 0 (by omega)
    obtain rfl : u0 = .int .i64 l[k].uid := r0
    replace c0 : wr.cell? ⟨b, off + k * 5, none⟩ = _ := c0
    obtain ⟨u1, c1, r1⟩ := hc 1 (by omega)
    obtain rfl : u1 = .int .i64 l[k].oid := r1
    obtain ⟨u2, c2, r2⟩ := hc 2 (by omega)
    replace r2 : Rd wr _ (dAtomSS l[k].ocs) u2 := r2
    obtain ⟨a2, q2, rfl⟩ := r2.lsSlice
    obtain ⟨u3, c3, r3⟩ := hc 3 (by omega)
    obtain rfl : u3 = .int .i64 l[k].nid := r3
    obtain ⟨u4, c4, r4⟩ := hc 4 (by omega)
    replace r4 : Rd wr _ (dAtomSS l[k].ncs) u4 := r4
    obtain ⟨a4, q4, rfl⟩ := r4.lsSlice
    clear hc
    generalize l[k] = x at *
    have CC := Lib.hid (toDUpdate x a2 q2 a4 q4 B wr HXK.out r2 r4)
    clear HXK r2 r4
    go_wp2_with fail
    refine CC.out.mono ?_
    rintro e w1 ⟨p2, p4, rfl, oc, hB1⟩
    have HST : Hid (TS (((((w1.setCell ⟨w.heap.size, k * 5, none⟩ (.int .i64 x.uid)).setCell ⟨w.heap.size, k * 5 + 1, none⟩ (.int .i64 x.oid)).setCell ⟨w.heap.size, k * 5 + 2, none⟩ (.slice (some ⟨p2, 0, none⟩) x.ocs.length x.ocs.length)).setCell ⟨w.heap.size, k * 5 + 3, none⟩ (.int .i64 x.nid)).setCell ⟨w.heap.size, k * 5 + 4, none⟩ (.slice (some ⟨p4, 0, none⟩) x.ncs.length x.ncs.length)) 53 5 l.length (lsF dUpdate l) w.heap.size (k + 1)) := HD.out.2.step hB1 (vat [.int .i64 x.uid, .int .i64 x.oid, .slice (some ⟨p2, 0, none⟩) x.ocs.length x.ocs.length, .int .i64 x.nid, .slice (some ⟨p4, 0, none⟩) x.ncs.length x.ncs.length]) (by rw [HFA.out]; exact oc)
    obtain ⟨g, hg⟩ := HD.out.2.row
    have hg1 := hg.of_block (hB1.block _ hg.lt)
    have e0 := hg1.cell (i := k * 5) (by omega)
    have z0 := hg1.frozen (k * 5)
    have e1 := hg1.cell (i := k * 5 + 1) (by omega)
    have z1 := hg1.frozen (k * 5 + 1)
    have e2 := hg1.cell (i := k * 5 + 2) (by omega)
    have z2 := hg1.frozen (k * 5 + 2)
    have e3 := hg1.cell (i := k * 5 + 3) (by omega)
    have z3 := hg1.frozen (k * 5 + 3)
    have e4 := hg1.cell (i := k * 5 + 4) (by omega)
    have z4 := hg1.frozen (k * 5 + 4)
    have HW := Lib.hid (HD.out.1.trans (hB1.mono HD.out.1.size))
    clear hg hg1 hB1 oc CC
    go_wp2_with fail
    go_roundw
    case rel => exact ⟨k + 1, by omega, by go_num, (((((HW.out.setCell (Nat.le_refl _) _).setCell (Nat.le_refl _) _).setCell (Nat.le_refl _) _).setCell (Nat.le_refl _) _).setCell (Nat.le_refl _) _), HST.out⟩
    case measure => simp [intOf]; omega
set_option maxRecDepth 100000 in
set_option maxHeartbeats 3200000 in
theorem eqDUpdateS (l : List UpV) (a : Option Addr) (c : Nat) (a' : Option Addr) (c' : Nat) (A B : Nat → Prop) (w : World) (ho : (dUpdateS l).le maxLen) (hA : Rd w A (dUpdateS l) (.slice a l.length c)) (hB : Rd w B (dUpdateS l) (.slice a' l.length c')) :
    Calls Try.prog 11 #[.slice a l.length c, .slice a' l.length c'] w fun e w' => e = .returned (.bool true) ∧ Below w.heap.size w w' := by
  have hl : l.length ≤ maxLen := (Ls_le.1 ho).2.1
  unfold maxLen at hl
  have HX : Hid (∀ i (h : i < l.length) j, j < 5 → (dUpdate l[i] j).le maxLen) := (Ls_le.1 ho).2.2
  have HA : Hid (∀ W, Below w.heap.size w W → Rd W A (Ls 5 dUpdate l) (.slice a l.length c)) := fun W h => Rd.later hA h
  have HB : Hid (∀ W, Below w.heap.size w W → Rd W B (Ls 5 dUpdate l) (.slice a' l.length c')) := fun W h => Rd.later hB h
  clear hA hB ho
  go_enter Try.func11, Try.ntmps11
  go_wp2_with fail
  go_loopw [5] (fun i wr => ∃ k : Nat, k ≤ l.length ∧ i = .int .i64 k ∧ Hid (Below w.heap.size w wr)) (fun i _ => l.length - (intOf i).toNat)
  case atStart => exact ⟨0, Nat.zero_le _, rfl, Below.refl _ _⟩
  case round =>
    obtain ⟨k, hk, rfl, HW⟩ := hrel
    by_cases hlt : k < l.length
    case neg =>
      have hki : decide ((k : Int) < (l.length : Int)) = false := by simp; omega
      go_wp2_with fail
      go_ret
      exact ⟨rfl, HW.out⟩
    obtain ⟨b, off, rfl, -, hc⟩ := (HA.out _ HW.out).things k hlt
    obtain ⟨mb, moff, rfl, -, hd⟩ := (HB.out _ HW.out).things k hlt
    have HXK := Lib.hid (HX.out k hlt)
    obtain ⟨u0, c0, r0⟩ := hc 0 (by omega)
    obtain rfl : u0 = .int .i64 l[k].uid := r0
    replace c0 : wr.cell? ⟨b, off + k * 5, none⟩ = _ := c0
    obtain ⟨u1, c1, r1⟩ := hc 1 (by omega)
    obtain rfl : u1 = .int .i64 l[k].oid := r1
    obtain ⟨u2, c2, r2⟩ := hc 2 (by omega)
    replace r2 : Rd wr _ (dAtomSS l[k].ocs) u2 := r2
    obtain ⟨a2, q2, rfl⟩ := r2.lsSlice
    obtain ⟨u3, c3, r3⟩ := hc 3 (by omega)
    obtain rfl : u3 = .int .i64 l[k].nid := r3
    obtain ⟨u4, c4, r4⟩ := hc 4 (by omega)
    replace r4 : Rd wr _ (dAtomSS l[k].ncs) u4 := r4
    obtain ⟨a4, q4, rfl⟩ := r4.lsSlice
    obtain ⟨mu0, mc0, mr0⟩ := hd 0 (by omega)
    obtain rfl : mu0 = .int .i64 l[k].uid := mr0
    replace mc0 : wr.cell? ⟨mb, moff + k * 5, none⟩ = _ := mc0
    obtain ⟨mu1, mc1, mr1⟩ := hd 1 (by omega)
    obtain rfl : mu1 = .int .i64 l[k].oid := mr1
    obtain ⟨mu2, mc2, mr2⟩ := hd 2 (by omega)
    replace mr2 : Rd wr _ (dAtomSS l[k].ocs) mu2 := mr2
    obtain ⟨ma2, mq2, rfl⟩ := mr2.lsSlice
    obtain ⟨mu3, mc3, mr3⟩ := hd 3 (by omega)
    obtain rfl : mu3 = .int .i64 l[k].nid := mr3
    obtain ⟨mu4, mc4, mr4⟩ := hd 4 (by omega)
    replace mr4 : Rd wr _ (dAtomSS l[k].ncs) mu4 := mr4
    obtain ⟨ma4, mq4, rfl⟩ := mr4.lsSlice
    clear hc hd
    generalize l[k] = x at *
    have hki : (k : Int) < (l.length : Int) := by omega
    have EQ : Hid (∀ W, Below wr.heap.size wr W → Calls Try.prog 32 #[.agg #[.int .i64 x.uid, .int .i64 x.oid, .slice a2 x.ocs.length q2, .int .i64 x.nid, .slice a4 x.ncs.length q4], .agg #[.int .i64 x.uid, .int .i64 x.oid, .slice ma2 x.ocs.length mq2, .int .i64 x.nid, .slice ma4 x.ncs.length mq4]] W fun e w' => e = .returned (.bool true) ∧ Below W.heap.size W w') := fun W h => eqDUpdate x a2 q2 a4 q4 ma2 mq2 ma4 mq4 A B W HXK.out (r2.later h) (r4.later h) (mr2.later h) (mr4.later h)
    clear HXK r2 mr2 r4 mr4
    go_wp2_with fail
    go_region_with (go_at_call 32; refine (EQ.out _ (by first | exact Below.refl _ _ | exact (Below.refl _ _).drew)).mono ?_; rintro e w1 ⟨rfl, hB1⟩)
    all_goals
      go_wp2_with fail
      go_roundw
      case rel => exact ⟨k + 1, by omega, by go_num, HW.out.trans ((Below.refl _ _).drew.trans (hB1.mono (by first | exact HW.out.size | (have := HW.out.size; simpa using this))))⟩
      case measure => simp [intOf]; omega
end Go.Proofs.Ytnegmpdllbbnhaa
