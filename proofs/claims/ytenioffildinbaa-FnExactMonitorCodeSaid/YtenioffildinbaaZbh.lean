import Derived.Test.YtenioffildinbaaZai
import Derived.Test.YtenioffildinbaaZbg
import Derived.Test.YtenioffildinbaaZan
import Derived.Test.YtenioffildinbaaZae
namespace Go.Proofs.Ytenioffildinbaa
open Go.RowKit
set_option linter.unusedSimpArgs false
def moB (m : MoV) : Bool := nameB m.nm && (decide (m.tb.length ≤ 40) && (decide (m.cs.length ≤ 6) && (condsB m.wh && m.cs.all (fun s => decide (s.length ≤ 40)))))
set_option maxRecDepth 100000 in
set_option maxHeartbeats 6400000 in
theorem moOKs (m : MoV) (a2 : Option Addr) (c2 : Nat) (a7 : Option Addr) (c7 : Nat) (B : Nat → Prop) (w : World) (hn : m.nm.length ≤ maxLen) (ht : m.tb.length ≤ maxLen) (hc : (dStringS m.cs).le maxLen) (hw : (dCondS m.wh).le maxLen) (rc : Rd w B (dStringS m.cs) (.slice a2 m.cs.length c2)) (rh : Rd w B (dCondS m.wh) (.slice a7 m.wh.length c7)) :
    Calls Try.prog 22 #[.agg #[.string ⟨m.nm.toArray⟩, .string ⟨m.tb.toArray⟩, .slice a2 m.cs.length c2, .bool m.ini, .bool m.ins, .bool m.del, .bool m.mod, .slice a7 m.wh.length c7]] w fun e w' => e = .returned (.bool (moB m)) ∧ Below w.heap.size w w' := by
  generalize hR : moB m = R
  have HR := Lib.hid hR
  clear hR
  have NS : Hid (∀ W, Calls Try.prog 43 #[.string ⟨m.nm.toArray⟩] W fun e w' => e = .returned (.bool (nameB m.nm)) ∧ Below W.heap.size W w') := fun W => (nameS m.nm W hn).mono (fun e w' ⟨h1, h2⟩ => ⟨h1, by rw [h2]; exact Below.refl _ _⟩)
  have LS : Hid (∀ W, Below w.heap.size w W → Calls Try.prog 44 #[.slice a7 m.wh.length c7] W fun e w' => e = .returned (.bool (condsB m.wh)) ∧ Below W.heap.size W w') := fun W h => listS m.wh a7 c7 B W hw (rh.later h)
  have HC : Hid (∀ W, Below w.heap.size w W → Rd W B (Ls 1 cString m.cs) (.slice a2 m.cs.length c2)) := fun W h => Rd.later rc h
  have HCL := Lib.hid hc
  have hb := boxD 39 w #[.string ⟨m.nm.toArray⟩, .string ⟨m.tb.toArray⟩, .slice a2 m.cs.length c2, .bool m.ini, .bool m.ins, .bool m.del, .bool m.mod, .slice a7 m.wh.length c7]
  have HB := Lib.hid hb
  unfold maxLen at ht
  clear hn hc hw rc rh
  have x0 := cell_at (o := 0) hb.1 rfl
  have x1 := cell_at (o := 1) hb.1 rfl
  have x2 := cell_at (o := 2) hb.1 rfl
  have x3 := cell_at (o := 3) hb.1 rfl
  have x4 := cell_at (o := 4) hb.1 rfl
  have x5 := cell_at (o := 5) hb.1 rfl
  have x6 := cell_at (o := 6) hb.1 rfl
  have x7 := cell_at (o := 7) hb.1 rfl
  clear hb
  cases h1 : nameB m.nm
  case false =>
    have HV : Hid (R = false) := by show R = _; rw [← HR.out]; unfold moB; rw [h1]; rfl
    rw [h1] at NS
    clear h1
    go_enter Try.func22, Try.ntmps22
    go_wp2_with fail
    refine (NS.out _).mono ?_
    rintro e w1 ⟨rfl, hB⟩
    have HB1 := Lib.hid (HB.out.later hB)
    clear hB x0 x1 x2 x3 x4 x5 x6 x7
    go_wp2_with fail
    go_ret
    exact ⟨ret_b HV.out.symm, HB1.out.2⟩
  rw [h1] at NS
  by_cases h2 : m.tb.length ≤ 40
  case neg =>
    have HV : Hid (R = false) := by show R = _; rw [← HR.out]; unfold moB; rw [decide_eq_false h2]; simp
    have d1 : decide ((m.tb.length : Int) > 40) = true := by simp; omega
    have d2 : decide ((40 : Int) < (m.tb.length : Int)) = true := by simp; omega
    clear h1 h2
    go_enter Try.func22, Try.ntmps22
    go_wp2_with fail
    refine (NS.out _).mono ?_
    rintro e w1 ⟨rfl, hB⟩
    have hb := HB.out.later hB
    have HB1 := Lib.hid hb
    clear hB x0 x1 x2 x3 x4 x5 x6 x7
    have x0 := cell_at (o := 0) hb.1 rfl
    have x1 := cell_at (o := 1) hb.1 rfl
    have x2 := cell_at (o := 2) hb.1 rfl
    have x3 := cell_at (o := 3) hb.1 rfl
    have x4 := cell_at (o := 4) hb.1 rfl
    have x5 := cell_at (o := 5) hb.1 rfl
    have x6 := cell_at (o := 6) hb.1 rfl
    have x7 := cell_at (o := 7) hb.1 rfl
    clear hb
    go_wp2_with fail
    go_ret
    exact ⟨ret_b HV.out.symm, HB1.out.2⟩
  have d1 : decide ((m.tb.length : Int) > 40) = false := by simp; omega
  have d2 : decide ((40 : Int) < (m.tb.length : Int)) = false := by simp; omega
  by_cases h3 : m.cs.length ≤ 6
  case neg =>
    have HV : Hid (R = false) := by show R = _; rw [← HR.out]; unfold moB; rw [decide_eq_false h3]; simp
    have d3 : decide ((m.cs.length : Int) > 6) = true := by simp; omega
    have d4 : decide ((6 : Int) < (m.cs.length : Int)) = true := by simp; omega
    clear h1 h2 h3
    go_enter Try.func22, Try.ntmps22
    go_wp2_with fail
    refine (NS.out _).mono ?_
    rintro e w1 ⟨rfl, hB⟩
    have hb := HB.out.later hB
    have HB1 := Lib.hid hb
    clear hB x0 x1 x2 x3 x4 x5 x6 x7
    have x0 := cell_at (o := 0) hb.1 rfl
    have x1 := cell_at (o := 1) hb.1 rfl
    have x2 := cell_at (o := 2) hb.1 rfl
    have x3 := cell_at (o := 3) hb.1 rfl
    have x4 := cell_at (o := 4) hb.1 rfl
    have x5 := cell_at (o := 5) hb.1 rfl
    have x6 := cell_at (o := 6) hb.1 rfl
    have x7 := cell_at (o := 7) hb.1 rfl
    clear hb
    go_wp2_with fail
    go_ret
    exact ⟨ret_b HV.out.symm, HB1.out.2⟩
  have d3 : decide ((m.cs.length : Int) > 6) = false := by simp; omega
  have d4 : decide ((6 : Int) < (m.cs.length : Int)) = false := by simp; omega
  cases h4 : condsB m.wh
  case false =>
    have HV : Hid (R = false) := by show R = _; rw [← HR.out]; unfold moB; rw [h4]; simp
    rw [h4] at LS
    clear h1 h2 h3 h4
    go_enter Try.func22, Try.ntmps22
    go_wp2_with fail
    refine (NS.out _).mono ?_
    rintro e w1 ⟨rfl, hB⟩
    have hb := HB.out.later hB
    have HB1 := Lib.hid hb
    clear hB x0 x1 x2 x3 x4 x5 x6 x7
    have x0 := cell_at (o := 0) hb.1 rfl
    have x1 := cell_at (o := 1) hb.1 rfl
    have x2 := cell_at (o := 2) hb.1 rfl
    have x3 := cell_at (o := 3) hb.1 rfl
    have x4 := cell_at (o := 4) hb.1 rfl
    have x5 := cell_at (o := 5) hb.1 rfl
    have x6 := cell_at (o := 6) hb.1 rfl
    have x7 := cell_at (o := 7) hb.1 rfl
    clear hb
    go_wp2_with fail
    refine (LS.out _ HB1.out.2).mono ?_
    rintro e w2 ⟨rfl, hB⟩
    have HB2 := Lib.hid (HB1.out.later hB)
    clear hB x0 x1 x2 x3 x4 x5 x6 x7
    go_wp2_with fail
    go_ret
    exact ⟨ret_b HV.out.symm, HB2.out.2⟩
  have HE : Hid (R = m.cs.all (fun s => decide (s.length ≤ 40))) := by show R = _; rw [← HR.out]; unfold moB; rw [h1, h4, decide_eq_true h2, decide_eq_true h3]; simp
  rw [h4] at LS
  have hl6 : m.cs.length ≤ 6 := h3
  clear h1 h2 h3 h4
  go_enter Try.func22, Try.ntmps22
  go_wp2_with fail
  refine (NS.out _).mono ?_
  rintro e w1 ⟨rfl, hB⟩
  have hb := HB.out.later hB
  have HB1 := Lib.hid hb
  clear hB x0 x1 x2 x3 x4 x5 x6 x7
  have x0 := cell_at (o := 0) hb.1 rfl
  have x1 := cell_at (o := 1) hb.1 rfl
  have x2 := cell_at (o := 2) hb.1 rfl
  have x3 := cell_at (o := 3) hb.1 rfl
  have x4 := cell_at (o := 4) hb.1 rfl
  have x5 := cell_at (o := 5) hb.1 rfl
  have x6 := cell_at (o := 6) hb.1 rfl
  have x7 := cell_at (o := 7) hb.1 rfl
  clear hb
  go_wp2_with fail
  refine (LS.out _ HB1.out.2).mono ?_
  rintro e w2 ⟨rfl, hB⟩
  have HB2 := Lib.hid (HB1.out.later hB)
  clear hB x0 x1 x2 x3 x4 x5 x6 x7
  go_wp2_with fail
  go_loopw [3] (fun t wr => ∃ k : Nat, k ≤ m.cs.length ∧ t = .int .i64 k ∧ Hid (BoxD 39 w wr #[.string ⟨m.nm.toArray⟩, .string ⟨m.tb.toArray⟩, .slice a2 m.cs.length c2, .bool m.ini, .bool m.ins, .bool m.del, .bool m.mod, .slice a7 m.wh.length c7] ∧ ∀ j (h : j < m.cs.length), j < k → m.cs[j].length ≤ 40)) (fun t _ => m.cs.length - (intOf t).toNat)
  case atStart => exact ⟨0, Nat.zero_le _, rfl, HB2.out, fun j _ h => absurd h (by omega)⟩
  case round =>
    obtain ⟨k, hk, rfl, HW⟩ := hrel
    have hb := HW.out.1
    have x0 := cell_at (o := 0) hb.1 rfl
    have x1 := cell_at (o := 1) hb.1 rfl
    have x2 := cell_at (o := 2) hb.1 rfl
    have x3 := cell_at (o := 3) hb.1 rfl
    have x4 := cell_at (o := 4) hb.1 rfl
    have x5 := cell_at (o := 5) hb.1 rfl
    have x6 := cell_at (o := 6) hb.1 rfl
    have x7 := cell_at (o := 7) hb.1 rfl
    clear hb
    by_cases hlt : k < m.cs.length
    case neg =>
      have hkd : decide ((k : Int) < (m.cs.length : Int)) = false := by simp; omega
      have HV : Hid (R = true) := by
        show R = _
        rw [HE.out, List.all_eq_true]
        intro s hs
        obtain ⟨j, hj, rfl⟩ := List.mem_iff_getElem.1 hs
        exact decide_eq_true (HW.out.2 j hj (by omega))
      go_wp2_with fail
      go_ret
      exact ⟨ret_b HV.out.symm, HW.out.1.2⟩
    have hki : (k : Int) < (m.cs.length : Int) := by omega
    obtain ⟨b, off, rfl, -, hc⟩ := (HC.out _ HW.out.1.2).things k hlt
    obtain ⟨u, c0, r0⟩ := hc 0 (by omega)
    obtain rfl : u = .string ⟨m.cs[k].toArray⟩ := r0
    rw [Nat.mul_one, Nat.add_zero] at c0
    have hle : m.cs[k].length ≤ maxLen := (Ls_le.1 HCL.out).2.2 k hlt 0 (by omega)
    unfold maxLen at hle
    by_cases h5 : m.cs[k].length ≤ 40
    case neg =>
      have HV : Hid (R = false) := by
        show R = _
        rw [HE.out, List.all_eq_false]
        exact ⟨_, List.getElem_mem hlt, by rw [decide_eq_false h5]; simp⟩
      have e1 : decide ((m.cs[k].length : Int) > 40) = true := by simp; omega
      have e2 : decide ((40 : Int) < (m.cs[k].length : Int)) = true := by simp; omega
      have HBK := Lib.hid HW.out.1.2
      clear hc h5 HW
      generalize m.cs[k] = y at *
      go_wp2_with fail
      go_ret
      exact ⟨ret_b HV.out.symm, HBK.out⟩
    have HG : Hid (∀ j (h : j < m.cs.length), j < k + 1 → m.cs[j].length ≤ 40) := fun j h hj => by
      by_cases e : j = k
      · subst e; exact h5
      · exact HW.out.2 j h (by omega)
    have e1 : decide ((m.cs[k].length : Int) > 40) = false := by simp; omega
    have e2 : decide ((40 : Int) < (m.cs[k].length : Int)) = false := by simp; omega
    have HBK := Lib.hid HW.out.1
    clear hc h5 HW
    generalize m.cs[k] = y at *
    go_wp2_with fail
    go_roundw
    case rel => exact ⟨k + 1, by omega, by go_num, HBK.out, HG.out⟩
    case measure => simp [intOf]; omega
end Go.Proofs.Ytenioffildinbaa
