import Derived.Test.YthakmdkaciopnaaSIm
import Derived.Test.YthakmdkaciopnaaSCp
namespace Go.Proofs.Ythakmdkaciopnaa
open Go.RowKit
set_option linter.unusedSimpArgs false
theorem tab_of {t : Tb} (h : tabB t = true) : TabP t := by
  unfold tabB at h
  exact @of_decide_eq_true _ (Classical.propDecidable _) h
theorem col_ref4 {x : Cl} (h : colB x = true) : x.k = 4 ↔ x.rf ≠ [] := by
  have hk := colB_kind h
  have hkb : kindB x = true := by unfold colB at h; simp at h; exact h.2.2.2
  rcases (by omega : x.k = 1 ∨ x.k = 4 ∨ (x.k = 2 ∨ x.k = 3)) with k | k | k
  · rw [kind1 k] at hkb; simp at hkb
    exact ⟨fun h => by omega, fun h => absurd hkb.2.2.2.1 h⟩
  · rw [kind4 k] at hkb; simp at hkb
    refine ⟨fun _ e => ?_, fun _ => k⟩
    rw [e] at hkb
    have := hkb.2.2.2
    rw [name_empty] at this
    cases this
  · rw [kind23 k] at hkb; simp at hkb
    exact ⟨fun h => by omega, fun h => absurd hkb.2.2.1 h⟩
theorem sch_parts {l : List Tb} (hl : 1 ≤ l.length ∧ l.length ≤ 4) (ht : ∀ i (h : i < l.length), tabB l[i] = true) : schB l = (upB l && rfB l) := by
  have hc : ∀ i (h : i < l.length) k (hk : k < l[i].cols.length), colB l[i].cols[k] = true := fun i h k hk => ((tab_of (ht i h)).cols k hk).1
  by_cases hu : ∀ i (h : i + 1 < l.length), Op.bytesLess l[i].nm l[i + 1].nm = true
  · rw [up_yes hu]
    by_cases hr : ∀ i (h : i < l.length) k, RfP l i h k
    · rw [rf_yes hr, sch_yes ⟨hl, ht, hu, fun i h k hk hne => hr i h k hk ((col_ref4 (hc i h k hk)).2 hne)⟩]
      rfl
    · have hr' : rfB l = false := by
        unfold rfB
        exact @decide_eq_false _ (Classical.propDecidable _) (fun hh => hr (fun i h k hk => hh i h k hk))
      rw [hr', sch_no (fun h => hr (fun i hi k hk h4 => h.ref i hi k hk ((col_ref4 (hc i hi k hk)).1 h4)))]
      rfl
  · rw [up_no hu, sch_no (fun h => hu h.up)]
    rfl
set_option maxRecDepth 100000 in
set_option maxHeartbeats 3200000 in
theorem schemaI (l : List Tb) (a : Option Addr) (c : Nat) (A : Nat → Ad) (B : Nat → Prop) (w : World) (ho : TbsOk l) (hS : Tabs w B a l A) :
    Calls Try.prog 8 #[.agg #[.slice a l.length c]] w fun e w' => e = .returned (.bool (schB l)) ∧ Below w.heap.size w w' := by
  have hl := ho.1
  unfold maxLen at hl
  have HO : Hid (TbsOk l) := ho
  have HS : Hid (∀ W, Below w.heap.size w W → Tabs W B a l A) := fun W h => hS.later h
  have hx := boxS w a l.length c
  have x0 := hx.cell
  clear ho hS
  by_cases h1 : l.length < 1
  case pos =>
    have HP : Hid (schB l = false) := sch_no (fun h => by have := h.len; omega)
    have d1 : decide ((l.length : Int) < 1) = true := decide_eq_true (by omega)
    go_enter Try.func8, Try.ntmps8
    go_wp2_with fail
    go_ret
    exact ⟨ret_b HP.out.symm, hx.2⟩
  have d1 : decide ((l.length : Int) < 1) = false := decide_eq_false (by omega)
  by_cases h4 : 4 < l.length
  case pos =>
    have HP : Hid (schB l = false) := sch_no (fun h => by have := h.len; omega)
    have d2 : decide (4 < (l.length : Int)) = true := decide_eq_true (by omega)
    go_enter Try.func8, Try.ntmps8
    go_wp2_with fail
    go_ret
    exact ⟨ret_b HP.out.symm, hx.2⟩
  have d2 : decide (4 < (l.length : Int)) = false := decide_eq_false (by omega)
  have HL4 : Hid (1 ≤ l.length ∧ l.length ≤ 4) := by show _ ∧ _; omega
  have RS : Hid (∀ W, BoxS w W a l.length c → Calls Try.prog 21 #[.slice a l.length c, .func (.func 22) #[] #[]] W fun e w' => e = .returned (.bool (upB l)) ∧ BoxS w w' a l.length c) := fun W h => (risesT l a c A B W HO.out.1 (HS.out _ h.2)).mono (fun e w' ⟨he, hB⟩ => ⟨he, h.later hB⟩)
  have RF : Hid (∀ W, BoxS w W a l.length c → Calls Try.prog 23 #[.agg #[.slice a l.length c]] W fun e w' => e = .returned (.bool (rfB l)) ∧ BoxS w w' a l.length c) := fun W h => (refsI l a c A B W HO.out (by have := HL4.out; omega) (HS.out _ h.2)).mono (fun e w' ⟨he, hB⟩ => ⟨he, h.later hB⟩)
  go_enter Try.func8, Try.ntmps8
  go_wp2_with fail
  have HX0 := Lib.hid hx
  clear hx x0 h1 h4 d1 d2
  go_loopw [17] (fun i wr => ∃ k : Nat, k ≤ l.length ∧ i = .int .i64 k ∧ Hid ((∀ m (h : m < l.length), m < k → tabB l[m] = true) ∧ BoxS w wr a l.length c)) (fun i _ => l.length - (intOf i).toNat)
  case atStart => exact ⟨0, Nat.zero_le _, rfl, fun m _ h => absurd h (by omega), HX0.out⟩
  case round =>
    obtain ⟨i, hi, rfl, HW⟩ := hrel
    have hx := HW.out.2
    have x0 := hx.cell
    by_cases hlt : i < l.length
    case neg =>
      have hid : decide ((i : Int) < (l.length : Int)) = false := by simp; omega
      have HP : Hid (schB l = (upB l && rfB l)) := sch_parts HL4.out (fun m h => HW.out.1 m h (by omega))
      clear HW
      cases hu : upB l
      · rw [hu] at HP RS
        clear hu
        go_wp2_with (go_at_call 21; refine (RS.out _ hx).mono ?_; rintro e w1 ⟨rfl, hx⟩; have x0 := hx.cell)
        go_ret
        exact ⟨ret_b HP.out.symm, hx.2⟩
      · rw [hu] at HP RS
        clear hu
        have HP2 : Hid (schB l = rfB l) := HP.out.trans (by simp)
        clear HP
        generalize rfB l = r at *
        go_wp2_with (first | (go_at_call 21; refine (RS.out _ hx).mono ?_; rintro e w1 ⟨rfl, hx⟩; have x0 := hx.cell) | (go_at_call 23; refine (RF.out _ hx).mono ?_; rintro e w2 ⟨rfl, hx⟩))
        go_ret
        exact ⟨ret_b HP2.out.symm, hx.2⟩
    have hki : (i : Int) < (l.length : Int) := by omega
    obtain ⟨b, off, rfl, -, hc⟩ := (HS.out _ hx.2).at i hlt
    obtain ⟨c0, c1, c2, c3⟩ := hc i hlt
    clear hc
    have TB : Hid (∀ W, BoxS w W (some ⟨b, off, none⟩) l.length c → Calls Try.prog 20 #[.agg #[.string ⟨l[i].nm.toArray⟩, .slice (A i).ca l[i].cols.length (A i).cc, .slice (A i).ua l[i].uq.length (A i).uc, .bool l[i].rt]] W fun e w' => e = .returned (.bool (tabB l[i])) ∧ BoxS w w' (some ⟨b, off, none⟩) l.length c) := fun W h => (tableI l[i] _ _ _ _ B W (HO.out.2 _ (List.getElem_mem hlt)) ((HS.out _ h.2).has i hlt)).mono (fun e w' ⟨he, hB⟩ => ⟨he, h.later hB⟩)
    cases ht : tabB l[i]
    · have HP : Hid (schB l = false) := sch_no (fun h => by have := h.tab i hlt; rw [ht] at this; cases this)
      rw [ht] at TB
      clear ht HW
      generalize l[i] = z at *
      go_wp2_with (go_at_call 20; refine (TB.out _ hx).mono ?_; rintro e w1 ⟨rfl, hx⟩)
      go_ret
      exact ⟨ret_b HP.out.symm, hx.2⟩
    · have HG : Hid (∀ m (h : m < l.length), m < i + 1 → tabB l[m] = true) := fun m h hm => by
        by_cases e : m = i
        · subst e; exact ht
        · exact HW.out.1 m h (by omega)
      rw [ht] at TB
      clear ht HW
      generalize l[i] = z at *
      go_wp2_with (go_at_call 20; refine (TB.out _ hx).mono ?_; rintro e w1 ⟨rfl, hx⟩)
      go_roundw
      case rel => exact ⟨i + 1, by omega, by go_num, HG.out, hx⟩
      case measure => simp [intOf]; omega
theorem neq_selfS (c : Bool) : (c != c) = false := by simp
set_option maxRecDepth 100000 in
set_option maxHeartbeats 3200000 in
theorem lawSchemaOK (l : List Tb) (a : Option Addr) (c : Nat) (A : Nat → Ad) (w : World) (ho : TbsOk l) (hS : Tabs w (· < w.heap.size) a l A) :
    Calls Try.prog 3 #[.agg #[.slice a l.length c]] w fun e w' => e = .returned (.bool true) ∧ Below w.heap.size w w' := by
  have hb0 : (w.alloc (.cells #[.slice a l.length c] 24)).heap[w.heap.size]? = some (.cells #[.slice a l.length c] 24) ∧ Below w.heap.size w (w.alloc (.cells #[.slice a l.length c] 24)) := ⟨heap_newC _ _, (Below.refl _ _).alloc (Nat.le_refl _) _⟩
  have HX := Lib.hid hb0
  have HO : Hid (TbsOk l) := ho
  have HS : Hid (∀ W, Below w.heap.size w W → Tabs W (· < w.heap.size) a l A) := fun W h => hS.same (fun b hb => h.block b hb) (fun _ h => h)
  clear ho hS hb0
  go_enter Try.func3, Try.ntmps3
  go_wp2_with fail
  refine (szSchema l a c A 1048576 _ _ (by omega) (by omega) HO.out (HS.out _ HX.out.2)).mono ?_
  rintro e w1 ⟨rfl, hB1⟩
  have HX1 : Hid (w1.heap[w.heap.size]? = some (.cells #[.slice a l.length c] 24) ∧ Below w.heap.size w w1) := ⟨heap_keptC HX.out.1 hB1, HX.out.2.trans (hB1.mono HX.out.2.size)⟩
  clear hB1 HX
  by_cases hz : (1048576 : Int) - (szTs l : Int) < 0
  · rw [less_no hz]
    go_wp2_with fail
    go_ret
    exact ⟨rfl, HX1.out.2⟩
  rw [less_yes (by omega)]
  have HCL : Hid (l.length ≤ 1048576 ∧ ∀ t ∈ l, t.cols.length ≤ 1048576 ∧ t.uq.length ≤ 1048576) := by
    unfold szTs at hz
    refine ⟨by omega, fun t ht => ?_⟩
    have h1 := mem_le_sum Tb.sz l t ht
    have h2 : t.cols.length + t.uq.length ≤ t.sz := by unfold Tb.sz szCs; omega
    omega
  obtain ⟨L, hL⟩ : ∃ L : Int, L = 1048576 - (szTs l : Int) := ⟨_, rfl⟩
  rw [← hL]
  have hl0 : decide (L < 0) = false := by simp; omega
  clear hL hz
  have n1 := neq_selfS (schB l)
  have TT : Hid (∀ W, Below w.heap.size w W → Calls Try.prog 7 #[.agg #[.slice a l.length c]] W fun e w' => ∃ q X, e = .returned (.agg #[.slice (some ⟨q, 0, none⟩) l.length l.length]) ∧ Tabs w' (fun _ => True) (some ⟨q, 0, none⟩) l X ∧ Below W.heap.size W w') := fun W h => (toSchema l a c A _ W HCL.out.1 HCL.out.2 (HS.out W h)).mono (fun e w' ⟨q, X, he, _, ht, hB⟩ => ⟨q, X, he, ht.same (fun _ _ => rfl) (fun _ _ => trivial), hB⟩)
  have CS : Hid (∀ W q n X, Tabs W (fun _ => True) q l X → Calls Try.prog 6 #[.agg #[.slice q l.length n]] W fun e w' => e = .returned (.bool (schB l)) ∧ Below W.heap.size W w') := fun W q n X h => schemaS l q n X _ W HO.out h
  have CI : Hid (∀ W q n X, Tabs W (fun _ => True) q l X → Calls Try.prog 8 #[.agg #[.slice q l.length n]] W fun e w' => e = .returned (.bool (schB l)) ∧ Below W.heap.size W w') := fun W q n X h => schemaI l q n X _ W HO.out h
  have EQ : Hid (∀ W q n q' n' X Y, Tabs W (fun _ => True) q l X → Tabs W (fun _ => True) q' l Y → Calls Try.prog 9 #[.agg #[.slice q l.length n], .agg #[.slice q' l.length n']] W fun e w' => e = .returned (.bool true) ∧ Below W.heap.size W w') := fun W q n q' n' X Y h h' => eqSchema l q q' n n' X Y _ _ W HO.out h h'
  generalize schB l = r1 at *
  have y0 := cell_at (o := 0) HX1.out.1 rfl
  go_wp2_with fail
  refine (TT.out _ HX1.out.2).mono ?_
  rintro e w2 ⟨q1, X1, rfl, hh2, hB2⟩
  have M2 : Hid ((w2.heap[w.heap.size]? = some (.cells #[.slice a l.length c] 24) ∧ Below w.heap.size w w2) ∧ Tabs w2 (fun _ => True) (some ⟨q1, 0, none⟩) l X1) := ⟨⟨heap_keptC HX1.out.1 hB2, HX1.out.2.trans (hB2.mono HX1.out.2.size)⟩, hh2⟩
  clear hh2 hB2 HX1 y0
  go_wp2_with fail
  refine (CS.out _ _ _ _ M2.out.2).mono ?_
  rintro e w3 ⟨rfl, hB3⟩
  have M3 : Hid (w3.heap[w.heap.size]? = some (.cells #[.slice a l.length c] 24) ∧ Below w.heap.size w w3) := ⟨heap_keptC M2.out.1.1 hB3, M2.out.1.2.trans (hB3.mono M2.out.1.2.size)⟩
  clear hB3 M2
  have y0 := cell_at (o := 0) M3.out.1 rfl
  go_wp2_with fail
  refine (TT.out _ M3.out.2).mono ?_
  rintro e w4 ⟨q3, X3, rfl, hh4, hB4⟩
  have M4 : Hid ((w4.heap[w.heap.size]? = some (.cells #[.slice a l.length c] 24) ∧ Below w.heap.size w w4) ∧ Tabs w4 (fun _ => True) (some ⟨q3, 0, none⟩) l X3 ∧ BoxS w4 (w4.alloc (.cells #[.slice (some ⟨q3, 0, none⟩) l.length l.length] 29)) (some ⟨q3, 0, none⟩) l.length l.length) := ⟨⟨heap_keptC M3.out.1 hB4, M3.out.2.trans (hB4.mono M3.out.2.size)⟩, hh4, boxS _ _ _ _⟩
  clear hh4 hB4 M3 y0
  have y0 := M4.out.2.2.cell
  go_wp2_with fail
  refine (CI.out _ _ _ _ (M4.out.2.1.later M4.out.2.2.2)).mono ?_
  rintro e w5 ⟨rfl, hB5⟩
  have M5 : Hid ((w5.heap[w.heap.size]? = some (.cells #[.slice a l.length c] 24) ∧ Below w.heap.size w w5) ∧ Tabs w5 (fun _ => True) (some ⟨q3, 0, none⟩) l X3 ∧ BoxS w4 w5 (some ⟨q3, 0, none⟩) l.length l.length) := by
    have hb := M4.out.2.2.2
    exact ⟨⟨heap_keptC (heap_keptC M4.out.1.1 hb) hB5, (M4.out.1.2.trans (hb.mono M4.out.1.2.size)).trans (hB5.mono (Nat.le_trans M4.out.1.2.size hb.size))⟩, (M4.out.2.1.later hb).later hB5, M4.out.2.2.later hB5⟩
  clear hB5 M4 y0
  have y0 := M5.out.2.2.cell
  have z0 := cell_at (o := 0) M5.out.1.1 rfl
  go_wp2_with fail
  go_region_with (first | (go_at_call 7; refine (TT.out _ (by first | exact M5.out.1.2 | exact M5.out.1.2.drew)).mono ?_; rintro e w6 ⟨q5, X5, rfl, hh6, hB6⟩; have M6 : Hid (Below w.heap.size w w6 ∧ Tabs w6 (fun _ => True) (some ⟨q3, 0, none⟩) l X3 ∧ Tabs w6 (fun _ => True) (some ⟨q5, 0, none⟩) l X5 ∧ BoxS w4 w6 (some ⟨q3, 0, none⟩) l.length l.length) := ⟨M5.out.1.2.drew.trans (hB6.mono (by have := M5.out.1.2.size; simpa using this)), (M5.out.2.1.later (Below.refl _ _).drew).later hB6, hh6, M5.out.2.2.drew.later hB6⟩; clear hh6 hB6; have y0 := M6.out.2.2.2.cell) | (go_at_call 9; refine (EQ.out _ _ _ _ _ _ _ M6.out.2.1 M6.out.2.2.1).mono ?_; rintro e w7 ⟨rfl, hB7⟩))
  all_goals
    go_wp2_with fail
    go_ret
    exact ⟨rfl, M6.out.1.trans (hB7.mono M6.out.1.size)⟩
end Go.Proofs.Ythakmdkaciopnaa
