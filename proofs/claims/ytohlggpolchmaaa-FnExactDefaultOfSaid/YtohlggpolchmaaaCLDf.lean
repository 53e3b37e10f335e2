import Derived.Test.YtohlggpolchmaaaCDf
import Derived.Test.YtohlggpolchmaaaKMk
namespace Go.Proofs.Ytohlggpolchmaaa
open Go.RowKit
set_option linter.unusedSimpArgs false
/-- what the law holds in memory: its argument's box, the specification's answer A, the answer G -/
structure MemG (w W : World) (x : Cl) (A G : List At) (pw pg : Option Addr) (s1 s2 : Nat) : Prop where
  box : BoxC 23 w W x
  rw_ : Ats W (· < s1) pw A
  og : OwnAts W (fun b => s1 ≤ b ∧ b < s2) pg G
  ord : w.heap.size < s1 ∧ s1 ≤ s2 ∧ s2 ≤ W.heap.size
variable {w W W' : World} {x : Cl} {A G : List At} {pw pg : Option Addr} {s1 s2 : Nat}
theorem MemG.later (h : MemG w W x A G pw pg s1 s2) (hB : Below W.heap.size W W') : MemG w W' x A G pw pg s1 s2 := by
  have ho := h.ord
  have hs := hB.size
  exact ⟨h.box.later hB, h.rw_.same (fun b hb => hB.block b (by omega)) (fun _ h => h), h.og.same (fun b hb => hB.block b (by omega)) (fun _ h => h), by omega⟩
theorem MemG.markg {G' : List At} (h : MemG w W x A G pw pg s1 s2) (hF : Frm (fun b => s1 ≤ b ∧ b < s2) W W') (hG : OwnAts W' (fun b => s1 ≤ b ∧ b < s2) pg G') : MemG w W' x A G' pw pg s1 s2 := by
  have ho := h.ord
  have hs := hF.size
  refine ⟨⟨?_, h.box.2.trans (hF.below h.box.2.size (fun b hb => by omega))⟩, h.rw_.same (fun b hb => hF.block b (by omega) (by omega)) (fun _ h => h), hG, by omega⟩
  rw [hF.block w.heap.size (by omega) (by omega)]
  exact h.box.1
theorem neq_selfD (c : Int) : (c != c) = false := by simp
set_option maxRecDepth 100000 in
set_option maxHeartbeats 6400000 in
theorem lawDefaultOf (x : Cl) (w : World) (ht : x.nm.length ≤ maxLen) (hr : x.rf.length ≤ maxLen) :
    Calls Try.prog 5 #[.agg #[.string ⟨x.nm.toArray⟩, .int .i64 x.k, .int .i64 x.mn, .int .i64 x.mx, .int .i64 x.lo, .int .i64 x.hi, .string ⟨x.rf.toArray⟩, .bool x.st]] w fun e w' => e = .returned (.bool true) ∧ Below w.heap.size w w' := by
  have HT : Hid (x.nm.length ≤ maxLen ∧ x.rf.length ≤ maxLen) := ⟨ht, hr⟩
  have HX := Lib.hid (boxC 23 w x)
  clear ht hr
  go_enter Try.func5, Try.ntmps5
  go_wp2_with fail
  refine (szColumn x 1048576 _ (by omega) (by omega) HT.out.1 HT.out.2).mono ?_
  rintro e w1 ⟨rfl, hB1⟩
  have HX1 := Lib.hid (HX.out.later hB1)
  clear hB1 HX
  by_cases hz : (1048576 : Int) - (x.sz : Int) < 0
  · rw [less_no hz]
    go_wp2_with fail
    go_ret
    exact ⟨rfl, HX1.out.2⟩
  rw [less_yes (by omega)]
  obtain ⟨L, hL⟩ : ∃ L : Int, L = 1048576 - (x.sz : Int) := ⟨_, rfl⟩
  rw [← hL]
  have hl0 : decide (L < 0) = false := by simp; omega
  clear hL hz
  have x0 := cell_at (o := 0) HX1.out.1 rfl
  have x1 := cell_at (o := 1) HX1.out.1 rfl
  have x2 := cell_at (o := 2) HX1.out.1 rfl
  have x3 := cell_at (o := 3) HX1.out.1 rfl
  have x4 := cell_at (o := 4) HX1.out.1 rfl
  have x5 := cell_at (o := 5) HX1.out.1 rfl
  have x6 := cell_at (o := 6) HX1.out.1 rfl
  have x7 := cell_at (o := 7) HX1.out.1 rfl
  go_wp2_with fail
  refine (toColumn x _).mono ?_
  rintro e w2 ⟨rfl, hB2⟩
  have HX2 := Lib.hid (HX1.out.later hB2)
  clear hB2 HX1 x0 x1 x2 x3 x4 x5 x6 x7
  go_wp2_with fail
  refine (defaultOfS x _ HT.out.1 HT.out.2).mono ?_
  rintro e w3 ⟨pw, cw, rfl, ho3, hB3⟩
  have HX3 := Lib.hid (HX2.out.later hB3)
  have O3 := Lib.hid (ho3.ats.same (w' := w3) (B' := (· < w3.heap.size)) (fun _ _ => rfl) (fun b hb => hb.2))
  clear ho3 hB3 HX2
  have x0 := cell_at (o := 0) HX3.out.1 rfl
  have x1 := cell_at (o := 1) HX3.out.1 rfl
  have x2 := cell_at (o := 2) HX3.out.1 rfl
  have x3 := cell_at (o := 3) HX3.out.1 rfl
  have x4 := cell_at (o := 4) HX3.out.1 rfl
  have x5 := cell_at (o := 5) HX3.out.1 rfl
  have x6 := cell_at (o := 6) HX3.out.1 rfl
  have x7 := cell_at (o := 7) HX3.out.1 rfl
  go_wp2_with fail
  refine (toColumn x _).mono ?_
  rintro e w4 ⟨rfl, hB4⟩
  have HX4 := Lib.hid (HX3.out.later hB4)
  have O4 := Lib.hid ((O3.out.below hB4).same (w' := w4) (B' := (· < w4.heap.size)) (fun _ _ => rfl) (fun b hb => Nat.lt_of_lt_of_le hb hB4.size))
  clear hB4 HX3 O3 x0 x1 x2 x3 x4 x5 x6 x7
  go_wp2_with fail
  refine (defaultOfI x _ HT.out.1 HT.out.2).mono ?_
  rintro e w5 ⟨pg, cg, rfl, ho5, hB5⟩
  have M5 : Hid (MemG w w5 x (dfR x) (dfR x) pw pg w4.heap.size w5.heap.size) := by
    have hs := hB5.size
    exact ⟨HX4.out.later hB5, O4.out.below hB5, ho5, (Array.getElem?_eq_some_iff.1 HX4.out.1).1, hs, Nat.le_refl _⟩
  clear ho5 hB5 HX4 O4
  generalize w4.heap.size = q4 at *
  generalize w5.heap.size = q5 at *
  have HRL : Hid ((dfR x).length ≤ 1) := dfR_len x
  have hcc := neq_selfD (dfC x)
  have EQ : Hid (∀ (W : World) (A B : Nat → Prop) (a a' : Option Addr) (c c' : Nat), Ats W A a (dfR x) → Ats W B a' (dfR x) → Calls Try.prog 14 #[.slice a (dfR x).length c, .slice a' (dfR x).length c'] W fun e w' => e = .returned (.bool true) ∧ Below W.heap.size W w') := fun W A B a a' c c' h h' => eqAtoms (dfR x) a a' c c' A B W (by have := HRL.out; unfold maxLen; omega) h h'
  obtain ⟨cc, hce⟩ : ∃ cc, dfC x = cc := ⟨_, rfl⟩
  have HCC : Hid (dfC x = cc) := hce
  rw [hce] at hcc ⊢
  clear hce
  go_wp2_with (go_at_call 14; refine (EQ.out _ _ _ _ _ _ _ M5.out.og.ats M5.out.rw_).mono ?_; rintro e w6 ⟨rfl, hB6⟩; have M6 := Lib.hid (M5.out.later hB6); clear hB6; refine Hid.out ?_)
  refine Lib.hid ?_
  go_wp2_with fail
  refine (markAtoms (dfR x) _ _ 1 _ _ (by have := HRL.out; unfold maxLen; omega) (by omega) (by have := HRL.out; omega) M6.out.og).mono ?_
  rintro e w11 ⟨rfl, ho11, hF11⟩
  have M11 := Lib.hid (M6.out.markg hF11 ho11)
  have HB : Hid (1 + 3 * (dfR x).length < 1000000000000) := by have := HRL.out; show _ < _; omega
  clear ho11 hF11 M6 M5
  obtain ⟨n, hn⟩ : ∃ n, n = (dfR x).length := ⟨_, rfl⟩
  have HD : Hid (∀ W (A : Nat → Prop) a c, Ats W A a (marksA n 1) → Calls Try.prog 18 #[.slice a n c, .int .i64 1] W fun e w' => e = .returned (.int .i64 (1 + 3 * n : Nat)) ∧ Below W.heap.size W w') := fun W A a c h => heldAtoms n a c 1 A W (by omega) (by have := HB.out; omega) h
  rw [← hn] at M11 EQ ⊢
  have HN : Hid (n = (dfR x).length) := hn
  clear hn
  obtain ⟨k11, hk11⟩ : ∃ k : Nat, k = 1 + 3 * n := ⟨_, rfl⟩
  rw [← hk11] at HD ⊢
  have d11 : decide ((k11 : Int) < 0) = false := by simp
  have n11 := neq_selfD (k11 : Int)
  clear hk11
  go_wp2_with fail
  refine (HD.out _ _ _ _ M11.out.og.ats).mono ?_
  rintro e w12 ⟨rfl, hB12⟩
  have M12 := Lib.hid (M11.out.later hB12)
  clear hB12 M11
  have x0 := cell_at (o := 0) M12.out.box.1 rfl
  have x1 := cell_at (o := 1) M12.out.box.1 rfl
  have x2 := cell_at (o := 2) M12.out.box.1 rfl
  have x3 := cell_at (o := 3) M12.out.box.1 rfl
  have x4 := cell_at (o := 4) M12.out.box.1 rfl
  have x5 := cell_at (o := 5) M12.out.box.1 rfl
  have x6 := cell_at (o := 6) M12.out.box.1 rfl
  have x7 := cell_at (o := 7) M12.out.box.1 rfl
  go_wp2_with fail
  refine (toColumn x _).mono ?_
  rintro e w13 ⟨rfl, hB13⟩
  have M13 := Lib.hid (M12.out.later hB13)
  clear hB13 M12 x0 x1 x2 x3 x4 x5 x6 x7
  go_wp2_with fail
  refine (defaultOfI x _ HT.out.1 HT.out.2).mono ?_
  rintro e w14 ⟨ph, ch, rfl, ho14, hB14⟩
  rw [← HN.out, HCC.out]
  have M14 := Lib.hid (M13.out.later hB14)
  have O14 := Lib.hid ho14.ats
  clear ho14 hB14 M13
  go_wp2_with (go_at_call 14; refine (EQ.out _ _ _ _ _ _ _ O14.out M14.out.rw_).mono ?_; rintro e w15 ⟨rfl, hB15⟩; have M15 := Lib.hid (M14.out.later hB15); clear hB15; refine Hid.out ?_)
  refine Lib.hid ?_
  go_wp2_with fail
  refine (HD.out _ _ _ _ M15.out.og.ats).mono ?_
  rintro e w16 ⟨rfl, hB16⟩
  have M16 := Lib.hid (M15.out.later hB16)
  clear hB16
  go_wp2_with fail
  go_ret
  exact ⟨rfl, M16.out.box.2⟩
end Go.Proofs.Ytohlggpolchmaaa
