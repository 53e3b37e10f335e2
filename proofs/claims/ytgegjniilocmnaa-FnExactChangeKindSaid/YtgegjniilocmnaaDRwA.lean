import Derived.Test.YtgegjniilocmnaaDAtA
namespace Go.Proofs.Ytgegjniilocmnaa
open Go.RowKit
set_option linter.unusedSimpArgs false
structure RowV where
  id : Int
  cells : List (List At)
def dRow (x : RowV) : Nat → D
  | 0 => .i x.id
  | _ => dAtomSS x.cells
theorem szT_Row (x : RowV) : szT 2 (dRow x) = (dAtomSS x.cells).sz := by simp [szT, sumN, dRow, D.sz]
set_option maxHeartbeats 1600000 in
theorem szDRow (x : RowV) (a1 : Option Addr) (c1 : Nat) (L : Int) (B : Nat → Prop) (w : World) (h0 : 0 ≤ L) (h1 : L ≤ 1048576) (ho : ∀ j, j < 2 → (dRow x j).le maxLen) (r1 : Rd w B (dAtomSS x.cells) (.slice a1 x.cells.length c1)) :
    Calls Try.prog 9 #[.agg #[.int .i64 x.id, .slice a1 x.cells.length c1], .int .i64 L] w fun e w' => e = .returned (.int .i64 (lessI L (szT 2 (dRow x)))) ∧ Below w.heap.size w w' := by
  rw [szT_Row]
  have HO := Lib.hid ho
  have R1 := Lib.hid r1
  have hx := boxD 24 w #[.int .i64 x.id, .slice a1 x.cells.length c1]
  clear ho r1
  have x0 := cell_at (o := 0) hx.1 rfl
  have x1 := cell_at (o := 1) hx.1 rfl
  have bl : Hid (0 ≤ L ∧ L ≤ 1048576) := by show _ ∧ _; omega
  clear h0 h1
  go_enter Try.func9, Try.ntmps9
  go_wp2_with fail
  refine (szDAtomSS x.cells a1 c1 L B _ bl.out.1 bl.out.2 (HO.out 1 (by omega)) (R1.out.later hx.2)).mono ?_
  rintro e w2 ⟨rfl, hB2⟩
  have hx := hx.later hB2
  clear hB2 x0 x1
  have x0 := cell_at (o := 0) hx.1 rfl
  have x1 := cell_at (o := 1) hx.1 rfl
  by_cases hn1 : L - ((dAtomSS x.cells).sz : Int) < 0
  case pos =>
    have HR : Hid (lessI L ((dAtomSS x.cells).sz) = -1) := by have := bl.out; show lessI L ((dAtomSS x.cells).sz) = -1; unfold lessI; rw [if_neg (by omega)]
    rw [less_no hn1]
    go_wp2_with fail
    go_ret
    exact ⟨ret_i HR.out.symm, hx.2⟩
  rw [less_yes (by omega)]
  obtain ⟨L1, hL1⟩ : ∃ L1 : Int, L1 = L - ((dAtomSS x.cells).sz : Int) := ⟨_, rfl⟩
  rw [← hL1]
  have d1 : decide (L1 < 0) = false := decide_eq_false (by omega)
  have bL1 : Hid (0 ≤ L1 ∧ L1 ≤ 1048576) := by have := bl.out; show _ ∧ _; omega
  have HL1 := Lib.hid hL1
  have HR : Hid (lessI L ((dAtomSS x.cells).sz) = L1) := by have := HL1.out; have := bL1.out; show lessI L ((dAtomSS x.cells).sz) = L1; unfold lessI; rw [if_pos (by omega)]; omega
  clear hn1 hL1 bl
  have bl := bL1
  clear bL1
  go_wp2_with fail
  go_ret
  exact ⟨ret_i HR.out.symm, hx.2⟩
set_option maxRecDepth 100000 in
set_option maxHeartbeats 3200000 in
theorem toDRow (x : RowV) (a1 : Option Addr) (c1 : Nat) (B : Nat → Prop) (w : World) (ho : ∀ j, j < 2 → (dRow x j).le 1048576) (r1 : Rd w B (dAtomSS x.cells) (.slice a1 x.cells.length c1)) :
    Calls Try.prog 11 #[.agg #[.int .i64 x.id, .slice a1 x.cells.length c1]] w fun e w' => ∃ p1 : Nat, e = .returned (.agg #[.int .i64 x.id, .slice (some ⟨p1, 0, none⟩) x.cells.length x.cells.length]) ∧ Owns w' 2 (dRow x) (vat [.int .i64 x.id, .slice (some ⟨p1, 0, none⟩) x.cells.length x.cells.length]) (fun c => w.heap.size ≤ c ∧ c < w'.heap.size) ∧ Below w.heap.size w w' := by
  have HO := Lib.hid ho
  have R1 := Lib.hid r1
  have T0 := Lib.hid (st3First w 24 32 #[.int .i64 x.id, .slice a1 x.cells.length c1] #[.int .i64 0, .slice none 0 0] #[.int .i64 x.id, .slice none 0 0])
  clear ho r1
  go_enter Try.func11, Try.ntmps11
  go_wp2_with fail
  have HE : Hid (w.heap.size + 1 + 1 < (((w.alloc (.cells #[.int .i64 x.id, .slice a1 x.cells.length c1] 24)).alloc (.cells #[.int .i64 0, .slice none 0 0] 32)).alloc (.cells #[.int .i64 x.id, .slice none 0 0] 32)).heap.size) := by show _ < _; simp
  refine (toDAtomSS x.cells a1 c1 B _ (HO.out 1 (by omega)) (R1.out.later T0.out.bel)).mono ?_
  rintro e w2 ⟨rfl, o1, hB1⟩
  have S1 := Lib.hid (T0.out.later hB1)
  obtain ⟨p1, hp1⟩ : ∃ p, p = (((w.alloc (.cells #[.int .i64 x.id, .slice a1 x.cells.length c1] 24)).alloc (.cells #[.int .i64 0, .slice none 0 0] 32)).alloc (.cells #[.int .i64 x.id, .slice none 0 0] 32)).heap.size := ⟨_, rfl⟩
  have HP1 : Hid (w.heap.size + 1 + 1 < p1 ∧ p1 ≤ w2.heap.size) := by
    have h1 := hB1.size; have h2 := HE.out
    rw [← hp1] at h1 h2
    exact ⟨h2, h1⟩
  rw [← hp1] at o1 ⊢
  have O1 := Lib.hid o1
  clear o1 hB1 hp1 T0 HE
  have x1 := cell_at (o := 1) S1.out.ot rfl
  have z1 := frozen_at 1 S1.out.ot
  have hne : (w.heap.size = w.heap.size + 1 + 1) = False := by simp; omega
  have x0 := cell_at (o := 0) S1.out.ot rfl
  have g0 := cell_at (o := 0) S1.out.rv rfl
  have k0 := frozen_at 0 S1.out.rv
  have g1 := cell_at (o := 1) S1.out.rv rfl
  have k1 := frozen_at 1 S1.out.rv
  go_wp2_with fail
  refine bodyPost_ret (v := .agg #[.int .i64 x.id, .slice (some ⟨p1, 0, none⟩) x.cells.length x.cells.length]) (by simp [results, Try.results11, go_sem, *]) rfl ?_
  have FF : Frm (fun c => c = w.heap.size + 1 ∨ c = w.heap.size + 1 + 1) w2 (((w2.setCell ⟨w.heap.size + 1 + 1, 1, none⟩ (.slice (some ⟨p1, 0, none⟩) x.cells.length x.cells.length)).setCell ⟨w.heap.size + 1, 0, none⟩ (.int .i64 x.id)).setCell ⟨w.heap.size + 1, 1, none⟩ (.slice (some ⟨p1, 0, none⟩) x.cells.length x.cells.length)) := by
    refine Frm.set ?_ (.inl rfl) _
    refine Frm.set ?_ (.inl rfl) _
    refine Frm.set ?_ (.inr rfl) _
    exact Frm.refl _ _
  have hsz : (((w2.setCell ⟨w.heap.size + 1 + 1, 1, none⟩ (.slice (some ⟨p1, 0, none⟩) x.cells.length x.cells.length)).setCell ⟨w.heap.size + 1, 0, none⟩ (.int .i64 x.id)).setCell ⟨w.heap.size + 1, 1, none⟩ (.slice (some ⟨p1, 0, none⟩) x.cells.length x.cells.length)).heap.size = w2.heap.size := by simp
  refine ⟨p1, rfl, ⟨fun j c => (j = 1 ∧ p1 ≤ c ∧ c < w2.heap.size), fun j c hc => ?_, fun j j' c h h' => ?_, fun j hj => ?_⟩, ?_⟩
  · have h1 := HP1.out; rw [hsz]; omega
  · have h1 := HP1.out; omega
  · rcases (by omega : j = 0 ∨ j = 1) with rfl | rfl
    · rfl
    · exact (O1.out.frm FF (fun c hc hF => by have h1 := HP1.out; have h2 := hc.1; rcases hF with rfl | rfl <;> omega)).mono (fun c hc => ⟨rfl, hc⟩)
  · exact (((S1.out.bel.setCell (by simp <;> omega) _).setCell (by simp <;> omega) _).setCell (by simp <;> omega) _)
set_option maxRecDepth 100000 in
set_option maxHeartbeats 1600000 in
theorem eqDRow (x : RowV) (a1 : Option Addr) (c1 : Nat) (a1' : Option Addr) (c1' : Nat) (A B : Nat → Prop) (w : World) (ho : ∀ j, j < 2 → (dRow x j).le maxLen) (r1 : Rd w A (dAtomSS x.cells) (.slice a1 x.cells.length c1)) (r1' : Rd w B (dAtomSS x.cells) (.slice a1' x.cells.length c1')) :
    Calls Try.prog 13 #[.agg #[.int .i64 x.id, .slice a1 x.cells.length c1], .agg #[.int .i64 x.id, .slice a1' x.cells.length c1']] w fun e w' => e = .returned (.bool true) ∧ Below w.heap.size w w' := by
  have hb : Box2D 32 w ((w.alloc (.cells #[.int .i64 x.id, .slice a1 x.cells.length c1] 32)).alloc (.cells #[.int .i64 x.id, .slice a1' x.cells.length c1'] 32)) #[.int .i64 x.id, .slice a1 x.cells.length c1] #[.int .i64 x.id, .slice a1' x.cells.length c1'] := box2D _ _ _ _
  have E1 : Hid (∀ W, Below w.heap.size w W → Calls Try.prog 16 #[.slice a1 x.cells.length c1, .slice a1' x.cells.length c1'] W fun e w' => e = .returned (.bool true) ∧ Below W.heap.size W w') := fun W h => eqDAtomSS x.cells a1 c1 a1' c1' A B W (ho 1 (by omega)) (r1.later h) (r1'.later h)
  have HB := Lib.hid hb
  clear ho hb r1 r1'
  go_enter Try.func13, Try.ntmps13
  have x0 := cell_at (o := 0) HB.out.a rfl
  have y0 := cell_at (o := 0) HB.out.b rfl
  have x1 := cell_at (o := 1) HB.out.a rfl
  have y1 := cell_at (o := 1) HB.out.b rfl
  go_wp2_with fail
  refine (E1.out _ HB.out.bel).mono ?_
  rintro e w2 ⟨rfl, hB1⟩
  have H1 := Lib.hid (HB.out.later hB1)
  clear hB1 HB x0 y0 x1 y1
  have x0 := cell_at (o := 0) H1.out.a rfl
  have y0 := cell_at (o := 0) H1.out.b rfl
  have x1 := cell_at (o := 1) H1.out.a rfl
  have y1 := cell_at (o := 1) H1.out.b rfl
  go_wp2_with fail
  go_ret
  exact ⟨rfl, H1.out.bel⟩
def dRowS (l : List RowV) : D := Ls 2 dRow l
def cRowS (x : List RowV) : Nat → D := fun _ => dRowS x
def dRowSS (l : List (List RowV)) : D := Ls 1 cRowS l
structure StV where
  tables : List (List RowV)
  next : Int
def dStore (x : StV) : Nat → D
  | 0 => dRowSS x.tables
  | _ => .i x.next
theorem szT_Store (x : StV) : szT 2 (dStore x) = (dRowSS x.tables).sz := by simp [szT, sumN, dStore, D.sz]
end Go.Proofs.Ytgegjniilocmnaa
