import Derived.Test.YtlaoockphljheaaKOf
import Derived.Test.YtlaoockphljheaaKMk
import Derived.Test.YtlaoockphljheaaKMeB
namespace Go.Proofs.Ytlaoockphljheaa
open Go.RowKit
set_option linter.unusedSimpArgs false
/-- what impl.DatumLess is to answer -/
def LessSaid : Prop := ∀ (a b : List At) (b1 o1 b2 o2 ca cb : Nat) (S : Nat) (w : World), a.length ≤ 1048576 → b.length ≤ 1048576 → (∀ x ∈ a, x.t.length ≤ maxLen) → (∀ x ∈ b, x.t.length ≤ maxLen) → S ≤ w.heap.size → Ats w (· < S) (some ⟨b1, o1, none⟩) a → Ats w (· < S) (some ⟨b2, o2, none⟩) b →
    Calls Try.prog 16 #[.slice (some ⟨b1, o1, none⟩) a.length ca, .slice (some ⟨b2, o2, none⟩) b.length cb] w (AAns2 w (lessL a b) (twoC a b))
theorem Less_len (a b : List At) : (lessL a b).length ≤ 4096 := by
  unfold lessL
  split
  · rename_i h
    have := (two_len h).1
    exact Nat.le_trans (List.length_filter_le _ _) this
  · simp
set_option maxRecDepth 100000 in
set_option maxHeartbeats 12800000 in
theorem lawLess (HI0 : LessSaid) (a b : List At) (pa pb : Option Addr) (ca cb : Nat) (w : World) (hla : a.length ≤ maxLen) (hlb : b.length ≤ maxLen) (hxa : ∀ x ∈ a, x.t.length ≤ maxLen) (hxb : ∀ x ∈ b, x.t.length ≤ maxLen) (hA : Ats w (· < w.heap.size) pa a) (hB : Ats w (· < w.heap.size) pb b) :
    Calls Try.prog 5 #[.slice pa a.length ca, .slice pb b.length cb] w fun e w' => e = .returned (.bool true) ∧ Below w.heap.size w w' := by
  have HA : Hid (Ats w (· < w.heap.size) pa a) := hA
  have HB : Hid (Ats w (· < w.heap.size) pb b) := hB
  have HXA : Hid (∀ x ∈ a, x.t.length ≤ maxLen) := hxa
  have HXB : Hid (∀ x ∈ b, x.t.length ≤ maxLen) := hxb
  have HI : Hid LessSaid := HI0
  have HLA : Hid (a.length ≤ maxLen) := hla
  have HLB : Hid (b.length ≤ maxLen) := hlb
  clear hA hB hxa hxb HI0 hla hlb
  go_enter Try.func5, Try.ntmps5
  go_wp2_with fail
  refine (szAtoms a pa ca 1048576 w.heap.size w (by omega) (by omega) HLA.out HXA.out (Nat.le_refl _) HA.out).mono ?_
  rintro e w1 ⟨rfl, hB1⟩
  by_cases hz : (1048576 : Int) - (szA a : Int) < 0
  · rw [less_no hz]
    go_wp2_with fail
    go_ret
    exact ⟨rfl, hB1⟩
  rw [less_yes (by omega)]
  have hza : a.length ≤ 1048576 := by unfold szA at hz; omega
  obtain ⟨L, hL⟩ : ∃ L : Int, L = 1048576 - (szA a : Int) := ⟨_, rfl⟩
  rw [← hL]
  have hl0 : decide (L < 0) = false := by simp; omega
  have hL0 : 0 ≤ L := by omega
  have hL1 : L ≤ 1048576 := by omega
  have HZA : Hid (a.length ≤ 1048576) := hza
  have HB1 : Hid (Below w.heap.size w w1) := hB1
  clear hL hz hza hB1
  go_wp2_with fail
  refine (szAtoms b pb cb L w.heap.size w1 hL0 hL1 HLB.out HXB.out HB1.out.size (HB.out.below HB1.out)).mono ?_
  rintro e w2 ⟨rfl, hB2⟩
  have HB2 : Hid (Below w.heap.size w w2) := HB1.out.trans (hB2.mono HB1.out.size)
  clear hB2 HB1
  by_cases hz : L - (szA b : Int) < 0
  · rw [less_no hz]
    go_wp2_with fail
    go_ret
    exact ⟨rfl, HB2.out⟩
  rw [less_yes (by omega)]
  have HZB : Hid (b.length ≤ 1048576) := by show b.length ≤ 1048576; unfold szA at hz; omega
  obtain ⟨M, hM⟩ : ∃ M : Int, M = L - (szA b : Int) := ⟨_, rfl⟩
  rw [← hM]
  have hm0 : decide (M < 0) = false := by simp; omega
  clear hM hz hL0 hL1 hl0
  go_wp2_with fail
  refine (toAtoms a pa ca w.heap.size w2 HB2.out.size HZA.out (HA.out.below HB2.out)).mono ?_
  rintro e w3 ⟨rfl, ho3, hB3⟩
  have H3 : Hid (Ats w3 (· < w3.heap.size) (some ⟨w2.heap.size, 0, none⟩) a ∧ Below w.heap.size w w3) := ⟨ho3.ats.same (fun _ _ => rfl) (fun b hb => hb.2), HB2.out.trans (hB3.mono HB2.out.size)⟩
  clear ho3 hB3 HB2
  generalize w2.heap.size = q2 at *
  go_wp2_with fail
  refine (toAtoms b pb cb w.heap.size w3 H3.out.2.size HZB.out (HB.out.below H3.out.2)).mono ?_
  rintro e w4 ⟨rfl, ho4, hB4⟩
  have H4 : Hid (Ats w4 (· < w4.heap.size) (some ⟨q2, 0, none⟩) a ∧ Ats w4 (· < w4.heap.size) (some ⟨w3.heap.size, 0, none⟩) b ∧ Below w.heap.size w w4) := ⟨(H3.out.1.below hB4).same (fun _ _ => rfl) (fun b hb => Nat.lt_of_lt_of_le hb hB4.size), ho4.ats.same (fun _ _ => rfl) (fun b hb => hb.2), H3.out.2.trans (hB4.mono H3.out.2.size)⟩
  clear ho4 hB4 H3
  generalize w3.heap.size = q3 at *
  go_wp2_with fail
  refine (lessS a b _ _ a.length b.length w4.heap.size w4 HZA.out HZB.out HXA.out HXB.out (Nat.le_refl _) H4.out.1 H4.out.2.1).mono ?_
  rintro e w5 ⟨pw, cw, rfl, ho5, hB5⟩
  have H5 : Hid (Ats w5 (· < w5.heap.size) pw (lessL a b) ∧ Below w.heap.size w w5) := ⟨ho5.ats.same (fun _ _ => rfl) (fun b hb => hb.2), H4.out.2.2.trans (hB5.mono H4.out.2.2.size)⟩
  have HRL : Hid ((lessL a b).length ≤ 4096) := Less_len a b
  clear ho5 hB5 H4
  go_wp2_with fail
  refine (toAtoms a pa ca w.heap.size w5 H5.out.2.size HZA.out (HA.out.below H5.out.2)).mono ?_
  rintro e w6 ⟨rfl, ho6, hB6⟩
  have H6 : Hid (Ats w6 (· < w5.heap.size) pw (lessL a b) ∧ OwnAts w6 (fun b => w5.heap.size ≤ b ∧ b < w6.heap.size) (some ⟨w5.heap.size, 0, none⟩) a ∧ Below w.heap.size w w6 ∧ w.heap.size ≤ w5.heap.size ∧ w5.heap.size ≤ w6.heap.size) := ⟨H5.out.1.below hB6, ho6, H5.out.2.trans (hB6.mono H5.out.2.size), H5.out.2.size, hB6.size⟩
  clear ho6 hB6 H5
  generalize w5.heap.size = q5 at *
  go_wp2_with fail
  refine (toAtoms b pb cb w.heap.size w6 H6.out.2.2.1.size HZB.out (HB.out.below H6.out.2.2.1)).mono ?_
  rintro e w7 ⟨rfl, ho7, hB7⟩
  have H7 : Hid (Ats w7 (· < q5) pw (lessL a b) ∧ OwnAts w7 (fun b => q5 ≤ b ∧ b < w6.heap.size) (some ⟨q5, 0, none⟩) a ∧ OwnAts w7 (fun b => w6.heap.size ≤ b ∧ b < w7.heap.size) (some ⟨w6.heap.size, 0, none⟩) b ∧ Below w.heap.size w w7 ∧ w.heap.size ≤ q5 ∧ q5 ≤ w6.heap.size ∧ w6.heap.size ≤ w7.heap.size) :=
    ⟨H6.out.1.same (fun b hb => hB7.block b (by have := H6.out.2.2.2; omega)) (fun _ h => h), H6.out.2.1.same (fun b hb => hB7.block b hb.2) (fun _ h => h), ho7, H6.out.2.2.1.trans (hB7.mono H6.out.2.2.1.size), H6.out.2.2.2.1, H6.out.2.2.2.2, hB7.size⟩
  clear ho7 hB7 H6
  generalize w6.heap.size = q6 at *
  go_wp2_with fail
  refine (HI.out a b q5 0 q6 0 a.length b.length w7.heap.size w7 HZA.out HZB.out HXA.out HXB.out (Nat.le_refl _) (H7.out.2.1.ats.same (fun _ _ => rfl) (fun k hk => by have := H7.out.2.2.2.2; omega)) (H7.out.2.2.1.ats.same (fun _ _ => rfl) (fun k hk => hk.2))).mono ?_
  rintro e w8 ⟨pg, cg, rfl, ho8, hB8⟩
  have M8 : Hid (MemB w w8 a b (lessL a b) a b (lessL a b) pa pb pw (some ⟨q5, 0, none⟩) (some ⟨q6, 0, none⟩) pg q5 q6 w7.heap.size w8.heap.size) := by
    have hs := hB8.size
    have h7 := H7.out.2.2.2.2
    exact ⟨HA.out, HB.out, H7.out.2.2.2.1.trans (hB8.mono H7.out.2.2.2.1.size), H7.out.1.same (fun b hb => hB8.block b (by omega)) (fun _ h => h), H7.out.2.1.same (fun b hb => hB8.block b (by omega)) (fun _ h => h), H7.out.2.2.1.same (fun b hb => hB8.block b (by omega)) (fun _ h => h), ho8, by omega⟩
  clear ho8 hB8 H7
  generalize w7.heap.size = q7 at *
  generalize w8.heap.size = q8 at *
  have hcc := neq_selfK (twoC a b)
  have EQ : Hid (∀ (W : World) (A B : Nat → Prop) (p p' : Option Addr) (c c' : Nat), Ats W A p (lessL a b) → Ats W B p' (lessL a b) → Calls Try.prog 10 #[.slice p (lessL a b).length c, .slice p' (lessL a b).length c'] W fun e w' => e = .returned (.bool true) ∧ Below W.heap.size W w') := fun W A B p p' c c' h h' => eqAtoms (lessL a b) p p' c c' A B W (by have := HRL.out; unfold maxLen; omega) h h'
  obtain ⟨cc, hce⟩ : ∃ cc, twoC a b = cc := ⟨_, rfl⟩
  have HCC : Hid (twoC a b = cc) := hce
  rw [hce] at hcc ⊢
  clear hce
  go_wp2_with fail
  refine (EQ.out _ _ _ _ _ _ _ M8.out.og.ats M8.out.rw_).mono ?_
  rintro e w9 ⟨rfl, hB9⟩
  have M9 := Lib.hid (M8.out.later hB9)
  clear hB9 M8
  go_wp2_with fail
  refine (toAtoms a pa ca w.heap.size w9 M9.out.bel.size HZA.out M9.out.nowa).mono ?_
  rintro e w10 ⟨rfl, ho10, hB10⟩
  have M10 := Lib.hid (M9.out.later hB10)
  have O10 := Lib.hid ho10.ats.any
  clear ho10 hB10 M9
  go_wp2_with fail
  refine (eqAtoms a _ _ _ _ (fun _ => True) (fun _ => True) _ HLA.out M10.out.ox.ats.any O10.out).mono ?_
  rintro e w11 ⟨rfl, hB11⟩
  have M11 := Lib.hid (M10.out.later hB11)
  clear hB11 M10 O10
  go_wp2_with fail
  refine (toAtoms b pb cb w.heap.size w11 M11.out.bel.size HZB.out M11.out.nowb).mono ?_
  rintro e w12 ⟨rfl, ho12, hB12⟩
  have M12 := Lib.hid (M11.out.later hB12)
  have O12 := Lib.hid ho12.ats.any
  clear ho12 hB12 M11
  go_wp2_with fail
  refine (eqAtoms b _ _ _ _ (fun _ => True) (fun _ => True) _ HLB.out M12.out.oy.ats.any O12.out).mono ?_
  rintro e w13 ⟨rfl, hB13⟩
  have M13 := Lib.hid (M12.out.later hB13)
  clear hB13 M12 O12
  go_wp2_with fail
  refine (markAtoms a _ _ 1 _ _ HLA.out (by omega) (by have := HZA.out; omega) M13.out.ox).mono ?_
  rintro e w14 ⟨rfl, ho14, hF14⟩
  have M14 := Lib.hid (M13.out.markx hF14 ho14)
  clear ho14 hF14 M13
  obtain ⟨k14, hk14⟩ : ∃ k : Nat, k = 1 + 3 * a.length := ⟨_, rfl⟩
  rw [← hk14]
  have HK14 : Hid (0 < k14 ∧ k14 ≤ 4000000) := by have := HZA.out; exact ⟨by omega, by omega⟩
  clear hk14
  go_wp2_with fail
  refine (markAtoms b _ _ k14 _ _ HLB.out HK14.out.1 (by have := HZB.out; have := HK14.out; omega) M14.out.oy).mono ?_
  rintro e w15 ⟨rfl, ho15, hF15⟩
  have M15 := Lib.hid (M14.out.marky hF15 ho15)
  clear ho15 hF15 M14
  generalize k14 + 3 * b.length = k15 at *
  have d15 : decide ((k15 : Int) < 0) = false := by simp
  go_wp2_with (go_at_call 10; refine (EQ.out _ _ _ _ _ _ _ M15.out.og.ats M15.out.rw_).mono ?_; rintro e w16 ⟨rfl, hB16⟩; have M16 := Lib.hid (M15.out.later hB16); clear hB16; refine Hid.out ?_)
  refine Lib.hid ?_
  go_wp2_with fail
  refine (markAtoms (lessL a b) _ _ 1 _ _ (by have := HRL.out; unfold maxLen; omega) (by omega) (by have := HRL.out; omega) M16.out.og).mono ?_
  rintro e w17 ⟨rfl, ho17, hF17⟩
  have M17 := Lib.hid (M16.out.markg hF17 ho17)
  have HBD : Hid (1 + 3 * (lessL a b).length < 1000000000000) := by have := HRL.out; show _ < _; omega
  clear ho17 hF17 M16 M15
  obtain ⟨n, hn⟩ : ∃ n, n = (lessL a b).length := ⟨_, rfl⟩
  have HD : Hid (∀ W (A : Nat → Prop) p c, Ats W A p (marksA n 1) → Calls Try.prog 12 #[.slice p n c, .int .i64 1] W fun e w' => e = .returned (.int .i64 (1 + 3 * n : Nat)) ∧ Below W.heap.size W w') := fun W A p c h => heldAtoms n p c 1 A W (by omega) (by have := HBD.out; omega) h
  rw [← hn] at M17 EQ ⊢
  have HN : Hid (n = (lessL a b).length) := hn
  clear hn
  obtain ⟨k17, hk17⟩ : ∃ k : Nat, k = 1 + 3 * n := ⟨_, rfl⟩
  rw [← hk17] at HD ⊢
  have d17 : decide ((k17 : Int) < 0) = false := by simp
  have n17 := neq_selfK (k17 : Int)
  clear hk17
  go_wp2_with fail
  refine (HD.out _ _ _ _ M17.out.og.ats).mono ?_
  rintro e w18 ⟨rfl, hB18⟩
  have M18 := Lib.hid (M17.out.later hB18)
  clear hB18 M17
  go_wp2_with fail
  refine (toAtoms a pa ca w.heap.size w18 M18.out.bel.size HZA.out M18.out.nowa).mono ?_
  rintro e w19 ⟨rfl, ho19, hB19⟩
  have M19 := Lib.hid (M18.out.later hB19)
  have O19 : Hid (Ats w19 (· < w19.heap.size) (some ⟨w18.heap.size, 0, none⟩) a) := ho19.ats.same (fun _ _ => rfl) (fun b hb => hb.2)
  clear ho19 hB19 M18
  generalize w18.heap.size = q18 at *
  go_wp2_with fail
  refine (toAtoms b pb cb w.heap.size w19 M19.out.bel.size HZB.out M19.out.nowb).mono ?_
  rintro e w20 ⟨rfl, ho20, hB20⟩
  have M20 := Lib.hid (M19.out.later hB20)
  have O20 : Hid (Ats w20 (· < w20.heap.size) (some ⟨q18, 0, none⟩) a ∧ Ats w20 (· < w20.heap.size) (some ⟨w19.heap.size, 0, none⟩) b) := ⟨(O19.out.below hB20).same (fun _ _ => rfl) (fun b hb => Nat.lt_of_lt_of_le hb hB20.size), ho20.ats.same (fun _ _ => rfl) (fun b hb => hb.2)⟩
  clear ho20 hB20 M19 O19
  generalize w19.heap.size = q19 at *
  go_wp2_with fail
  refine (HI.out a b q18 0 q19 0 a.length b.length w20.heap.size w20 HZA.out HZB.out HXA.out HXB.out (Nat.le_refl _) O20.out.1 O20.out.2).mono ?_
  rintro e w21 ⟨ph, ch, rfl, ho21, hB21⟩
  rw [← HN.out, HCC.out]
  have M21 := Lib.hid (M20.out.later hB21)
  have O21 := Lib.hid ho21.ats
  clear ho21 hB21 M20 O20
  go_wp2_with (go_at_call 10; refine (EQ.out _ _ _ _ _ _ _ O21.out M21.out.rw_).mono ?_; rintro e w22 ⟨rfl, hB22⟩; have M22 := Lib.hid (M21.out.later hB22); clear hB22; refine Hid.out ?_)
  refine Lib.hid ?_
  go_wp2_with fail
  refine (HD.out _ _ _ _ M22.out.og.ats).mono ?_
  rintro e w23 ⟨rfl, hB23⟩
  have M23 := Lib.hid (M22.out.later hB23)
  clear hB23
  go_wp2_with fail
  go_ret
  exact ⟨rfl, M23.out.bel⟩
end Go.Proofs.Ytlaoockphljheaa
