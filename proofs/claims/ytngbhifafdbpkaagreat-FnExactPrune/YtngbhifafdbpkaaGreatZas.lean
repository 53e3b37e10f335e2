import Derived.Test.YtngbhifafdbpkaaGreatZar
import Derived.Test.YtngbhifafdbpkaaGreatZap
namespace Go.Proofs.YtngbhifafdbpkaaGreat
open Go.RowKit
set_option linter.unusedSimpArgs false
theorem tab_of {t : Tb} (h : tabB t = true) : TabP t := by
  unfold tabB at h
  exact @of_decide_eq_true _ (Classical.propDecidable _) h
theorem col_ref4 {x : Cl} (h : colB x = true) : x.k = 4 ↔ x.rf ≠ [] := by
  have hk := colB_kind h
  have hkb : kindB x = true := by unfold colB at h; simp at h; exact h.2.2.2
  rcases (by omega : x.k = 1 ∨ x.k = 4 ∨ (x.k = 2 ∨ x.k = 3)) with k | k | k
  · rw [kind1 k] at hkb; simp at hkb
    exact ⟨fun h => by omega, fun h => absurd hkb.2.2.2.1 h⟩
  · rw [kind4 k] at hkb; simp at hkb
    refine ⟨fun _ e => ?_, fun _ => k⟩
    rw [e] at hkb
    have := hkb.2.2.2
    rw [name_empty] at this
    cases this
  · rw [kind23 k] at hkb; simp at hkb
    exact ⟨fun h => by omega, fun h => absurd hkb.2.2.1 h⟩
theorem sch_parts {l : List Tb} (hl : 1 ≤ l.length ∧ l.length ≤ 4) (ht : ∀ i (h : i < l.length), tabB l[i] = true) : schB l = (upB l && rfB l) := by
  have hc : ∀ i (h : i < l.length) k (hk : k < l[i].cols.length), colB l[i].cols[k] = true := fun i h k hk => ((tab_of (ht i h)).cols k hk).1
  by_cases hu : ∀ i (h : i + 1 < l.length), Op.bytesLess l[i].nm l[i + 1].nm = true
  · rw [up_yes hu]
    by_cases hr : ∀ i (h : i < l.length) k, RfP l i h k
    · rw [rf_yes hr, sch_yes ⟨hl, ht, hu, fun i h k hk hne => hr i h k hk ((col_ref4 (hc i h k hk)).2 hne)⟩]
      rfl
    · have hr' : rfB l = false := by
        unfold rfB
        exact @decide_eq_false _ (Classical.propDecidable _) (fun hh => hr (fun i h k hk => hh i h k hk))
      rw [hr', sch_no (fun h => hr (fun i hi k hk h4 => h.ref i hi k hk ((col_ref4 (hc i hi k hk)).1 h4)))]
      rfl
  · rw [up_no hu, sch_no (fun h => hu h.up)]
    rfl
set_option maxRecDepth 100000 in
set_option maxHeartbeats 3200000 in
theorem schemaI (l : List Tb) (a : Option Addr) (c : Nat) (A : Nat → Ad) (B : Nat → Prop) (w : World) (ho : TbsOk l) (hS : Tabs w B a l A) :
    Calls Tryz.prog 42 #[.agg #[.slice a l.length c]] w fun e w' => e = .returned (.bool (schB l)) ∧ Below w.heap.size w w' := by
  have hl := ho.1
  unfold maxLen at hl
  have HO : Hid (TbsOk l) := ho
  have HS : Hid (∀ W, Below w.heap.size w W → Tabs W B a l A) := fun W h => hS.later h
  have hx := boxS w a l.length c
  have x0 := hx.cell
  clear ho hS
  by_cases h1 : l.length < 1
  case pos =>
    have HP : Hid (schB l = false) := sch_no (fun h => by have := h.len; omega)
    have d1 : decide ((l.length : Int) < 1) = true := decide_eq_true (by omega)
    go_enter Tryz.func42, Tryz.ntmps42
    go_wp2_with fail
    go_ret
    exact ⟨ret_b HP.out.symm, hx.2⟩
  have d1 : decide ((l.length : Int) < 1) = false := decide_eq_false (by omega)
  by_cases h4 : 4 < l.length
  case pos =>
    have HP : Hid (schB l = false) := sch_no (fun h => by have := h.len; omega)
    have d2 : decide (4 < (l.length : Int)) = true := decide_eq_true (by omega)
    go_enter Tryz.func42, Tryz.ntmps42
    go_wp2_with fail
    go_ret
    exact ⟨ret_b HP.out.symm, hx.2⟩
  have d2 : decide (4 < (l.length : Int)) = false := decide_eq_false (by omega)
  have HL4 : Hid (1 ≤ l.length ∧ l.length ≤ 4) := by show _ ∧ _; omega
  have RS : Hid (∀ W, BoxS w W a l.length c → Calls Tryz.prog 71 #[.slice a l.length c, .func (.func 72) #[] #[]] W fun e w' => e = .returned (.bool (upB l)) ∧ BoxS w w' a l.length c) := fun W h => (risesT l a c A B W HO.out.1 (HS.out _ h.2)).mono (fun e w' ⟨he, hB⟩ => ⟨he, h.later hB⟩)
  have RF : Hid (∀ W, BoxS w W a l.length c → Calls Tryz.prog 73 #[.agg #[.slice a l.length c]] W fun e w' => e = .returned (.bool (rfB l)) ∧ BoxS w w' a l.length c) := fun W h => (refsI l a c A B W HO.out (by have := HL4.out; omega) (HS.out _ h.2)).mono (fun e w' ⟨he, hB⟩ => ⟨he, h.later hB⟩)
  go_enter Tryz.func42, Tryz.ntmps42
  go_wp2_with fail
  have HX0 := Lib.hid hx
  clear hx x0 h1 h4 d1 d2
  go_loopw [17] (fun i wr => ∃ k : Nat, k ≤ l.length ∧ i = .int .i64 k ∧ Hid ((∀ m (h : m < l.length), m < k → tabB l[m] = true) ∧ BoxS w wr a l.length c)) (fun i _ => l.length - (intOf i).toNat)
  case atStart => exact ⟨0, Nat.zero_le _, rfl, fun m _ h => absurd h (by omega), HX0.out⟩
  case round =>
    obtain ⟨i, hi, rfl, HW⟩ := hrel
    have hx := HW.out.2
    have x0 := hx.cell
    by_cases hlt : i < l.length
    case neg =>
      have hid : decide ((i : Int) < (l.length : Int)) = false := by simp; omega
      have HP : Hid (schB l = (upB l && rfB l)) := sch_parts HL4.out (fun m h => HW.out.1 m h (by omega))
      clear HW
      cases hu : upB l
      · rw [hu] at HP RS
        clear hu
        go_wp2_with (go_at_call 71; refine (RS.out _ hx).mono ?_; rintro e w1 ⟨rfl, hx⟩; have x0 := hx.cell)
        go_ret
        exact ⟨ret_b HP.out.symm, hx.2⟩
      · rw [hu] at HP RS
        clear hu
        have HP2 : Hid (schB l = rfB l) := HP.out.trans (by simp)
        clear HP
        generalize rfB l = r at *
        go_wp2_with (first | (go_at_call 71; refine (RS.out _ hx).mono ?_; rintro e w1 ⟨rfl, hx⟩; have x0 := hx.cell) | (go_at_call 73; refine (RF.out _ hx).mono ?_; rintro e w2 ⟨rfl, hx⟩))
        go_ret
        exact ⟨ret_b HP2.out.symm, hx.2⟩
    have hki : (i : Int) < (l.length : Int) := by omega
    obtain ⟨b, off, rfl, -, hc⟩ := (HS.out _ hx.2).at i hlt
    obtain ⟨c0, c1, c2, c3⟩ := hc i hlt
    clear hc
    have TB : Hid (∀ W, BoxS w W (some ⟨b, off, none⟩) l.length c → Calls Tryz.prog 70 #[.agg #[.string ⟨l[i].nm.toArray⟩, .slice (A i).ca l[i].cols.length (A i).cc, .slice (A i).ua l[i].uq.length (A i).uc, .bool l[i].rt]] W fun e w' => e = .returned (.bool (tabB l[i])) ∧ BoxS w w' (some ⟨b, off, none⟩) l.length c) := fun W h => (tableI l[i] _ _ _ _ B W (HO.out.2 _ (List.getElem_mem hlt)) ((HS.out _ h.2).has i hlt)).mono (fun e w' ⟨he, hB⟩ => ⟨he, h.later hB⟩)
    cases ht : tabB l[i]
    · have HP : Hid (schB l = false) := sch_no (fun h => by have := h.tab i hlt; rw [ht] at this; cases this)
      rw [ht] at TB
      clear ht HW
      generalize l[i] = z at *
      go_wp2_with (go_at_call 70; refine (TB.out _ hx).mono ?_; rintro e w1 ⟨rfl, hx⟩)
      go_ret
      exact ⟨ret_b HP.out.symm, hx.2⟩
    · have HG : Hid (∀ m (h : m < l.length), m < i + 1 → tabB l[m] = true) := fun m h hm => by
        by_cases e : m = i
        · subst e; exact ht
        · exact HW.out.1 m h (by omega)
      rw [ht] at TB
      clear ht HW
      generalize l[i] = z at *
      go_wp2_with (go_at_call 70; refine (TB.out _ hx).mono ?_; rintro e w1 ⟨rfl, hx⟩)
      go_roundw
      case rel => exact ⟨i + 1, by omega, by go_num, HG.out, hx⟩
      case measure => simp [intOf]; omega
end Go.Proofs.YtngbhifafdbpkaaGreat
