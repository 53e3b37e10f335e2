import Derived.Test.YtooiejlbnddfmaaFLAll
namespace Go.Proofs.Ytooiejlbnddfmaa
open Go.RowKit
set_option linter.unusedSimpArgs false
set_option maxRecDepth 100000 in
set_option maxHeartbeats 6400000 in
theorem lawFeedAll (l : List (List UInt8)) (pa : Option Addr) (ca : Nat) (w : World) (hl : l.length ≤ maxLen) (hx : ∀ x ∈ l, x.length ≤ maxLen) (hA : Strs w (· < w.heap.size) pa l) :
    Calls Try.prog 5 #[.slice pa l.length ca] w fun e w' => e = .returned (.bool true) ∧ Below w.heap.size w w' := by
  have HA : Hid (Strs w (· < w.heap.size) pa l) := hA
  have HX : Hid (∀ x ∈ l, x.length ≤ maxLen) := hx
  have HL : Hid (l.length ≤ maxLen) := hl
  clear hA hx hl
  go_enter Try.func5, Try.ntmps5
  go_wp2_with fail
  refine (szStrs l pa ca 1048576 _ w (by omega) (by omega) HL.out HX.out HA.out).mono ?_
  rintro e w1 ⟨rfl, hw1⟩
  rw [hw1]
  clear hw1 w1
  by_cases hz : (1048576 : Int) - (szK l : Int) < 0
  · rw [less_no hz]
    go_wp2_with fail
    go_ret
    exact ⟨rfl, Below.refl _ _⟩
  rw [less_yes (by omega)]
  have HZ := Lib.hid (szK_both hz (by omega))
  obtain ⟨L, hL⟩ : ∃ L : Int, L = 1048576 - (szK l : Int) := ⟨_, rfl⟩
  rw [← hL]
  have hl0 : decide (L < 0) = false := by simp; omega
  clear hL hz
  have AS : Hid (∀ (W : World) (p : Option Addr) (cp : Nat), Strs W (· < W.heap.size) p l → Calls Try.prog 17 #[.slice p l.length cp] W (FdAns3 W (faF l) (faO l) (faC l))) := fun W p cp h => allS l p cp W.heap.size W HZ.out.1 HZ.out.2 (Nat.le_refl _) h
  have AI' : Hid (∀ (W : World) (p : Option Addr) (cp : Nat), Strs W (· < W.heap.size) p l → Calls Try.prog 19 #[.slice p l.length cp] W (FdAns3 W (faF l) (faO l) (faC l))) := fun W p cp h => allI l p cp W.heap.size W HZ.out.1 HZ.out.2 (Nat.le_refl _) h
  have TS : Hid (∀ W : World, Below w.heap.size w W → Calls Try.prog 18 #[.slice pa l.length ca] W fun e w' => e = .returned (.slice (some ⟨W.heap.size, 0, none⟩) l.length l.length) ∧ OwnStrs w' (· = W.heap.size) (some ⟨W.heap.size, 0, none⟩) l ∧ Below W.heap.size W w') := fun W h => toStrsO l pa ca w.heap.size W h.size HZ.out.1 (HA.out.below h)
  have HOL : Hid ((faO l).length ≤ 1048576) := by
    show (faO l).length ≤ _
    unfold faO
    split
    · simp
    · have h1 := out_len fr0 l.flatten
      rw [show fr0.buf.length = 0 from rfl, Nat.zero_add] at h1
      exact Nat.le_trans h1 HZ.out.2
  generalize faF l = g at *
  generalize faO l = A at *
  generalize faC l = cc at *
  have hcc := neq_selfFI cc
  have EQ : Hid (∀ (W : World) (P Q : Nat → Prop) (a a' : Option Addr) (c c' : Nat), Strs W P a A → Strs W Q a' A → Calls Try.prog 13 #[.slice a A.length c, .slice a' A.length c'] W fun e w' => e = .returned (.bool true) ∧ Below W.heap.size W w') := fun W P Q a a' c c' h h' => eqStrs A a a' c c' P Q W (by have := HOL.out; unfold maxLen; omega) h h'
  go_wp2_with fail
  refine (TS.out _ (Below.refl _ _)).mono ?_
  rintro e w2 ⟨rfl, ho2, hB2⟩
  have H2 : Hid (Strs w2 (· < w2.heap.size) (some ⟨w.heap.size, 0, none⟩) l ∧ Below w.heap.size w w2) := ⟨ho2.strs.inside.same (fun _ _ => rfl) (fun b hb => hb.2), hB2⟩
  clear ho2 hB2
  go_wp2_with fail
  refine (AS.out _ _ _ H2.out.1).mono ?_
  rintro e w3 ⟨pw, cw, rfl, hB3, ho3⟩
  have H3 : Hid (Strs w3 (· < w3.heap.size) pw A ∧ Below w.heap.size w w3) := ⟨ho3.owns.strs.same (fun _ _ => rfl) (fun b hb => hb.2), H2.out.2.trans (hB3.mono H2.out.2.size)⟩
  clear ho3 hB3 H2
  have hB4 : Below w3.heap.size w3 (w3.alloc (frB g)) := (Below.refl _ _).alloc (Nat.le_refl _) _
  have H4 : Hid (Strs (w3.alloc (frB g)) (· < (w3.alloc (frB g)).heap.size) pw A ∧ Below w.heap.size w (w3.alloc (frB g)) ∧ (w3.alloc (frB g)).heap[w3.heap.size]? = some (frB g)) := ⟨(H3.out.1.below hB4).same (fun _ _ => rfl) (fun b hb => Nat.lt_of_lt_of_le hb hB4.size), H3.out.2.trans (hB4.mono H3.out.2.size), heap_new' _ _⟩
  clear hB4
  go_wp2_with fail
  refine (TS.out _ H4.out.2.1).mono ?_
  rintro e w5 ⟨rfl, ho5, hB5⟩
  rw [show (w3.alloc (frB g)).heap.size = w3.heap.size + 1 by simp]
  have hs4 : (w3.alloc (frB g)).heap.size = w3.heap.size + 1 := by simp
  have H5 : Hid (Strs w5 (· < w3.heap.size + 1) pw A ∧ OwnStrs w5 (fun b => w3.heap.size + 1 ≤ b ∧ b < w5.heap.size) (some ⟨w3.heap.size + 1, 0, none⟩) l ∧ Below w.heap.size w w5 ∧ w5.heap[w3.heap.size]? = some (frB g) ∧ w3.heap.size + 1 ≤ w5.heap.size) := by
    have hsz := hB5.size
    rw [hs4] at ho5 hsz
    refine ⟨?_, ho5.inside.same (fun _ _ => rfl) (fun b hb => ⟨Nat.le_of_eq hb.1.symm, hb.2⟩), H4.out.2.1.trans (hB5.mono H4.out.2.1.size), kept H4.out.2.2 hB5, hsz⟩
    have := H4.out.1.below hB5
    rw [hs4] at this
    exact this
  clear ho5 hB5 H4 hs4
  have hw3 : w.heap.size ≤ w3.heap.size := H3.out.2.size
  clear H3
  generalize w3.heap.size = q3 at *
  go_wp2_with fail
  refine (AI'.out _ _ _ (H5.out.2.1.strs.same (fun _ _ => rfl) (fun b hb => hb.2))).mono ?_
  rintro e w6 ⟨pg, cg, rfl, hB6, ho6⟩
  have M6 : Hid (LA w (w6.alloc (frB g)) l A l A g pa pw (some ⟨q3 + 1, 0, none⟩) pg (q3 + 1) w5.heap.size w6.heap.size q3 w6.heap.size) := by
    have hsz := hB6.size
    have h5 := H5.out
    have hA6 : Below w6.heap.size w6 (w6.alloc (frB g)) := (Below.refl _ _).alloc (Nat.le_refl _) _
    have hbl : Below w5.heap.size w5 (w6.alloc (frB g)) := hB6.trans (hA6.mono hB6.size)
    have hal := hA6.size
    refine ⟨HA.out, h5.2.2.1.trans (hbl.mono h5.2.2.1.size), h5.1.same (fun b hb => hbl.block b (by omega)) (fun _ h => h), h5.2.1.same (fun b hb => hbl.block b hb.2) (fun _ h => h), ho6.owns.same (fun b hb => hA6.block b hb.2) (fun _ h => h), kept h5.2.2.2.1 hbl, heap_new' _ _, by omega⟩
  clear ho6 hB6 H5
  have hq6 : w6.heap.size = w6.heap.size := rfl
  generalize w5.heap.size = q5 at *
  obtain ⟨x0, x1, x2, x3, x4⟩ := frB_cell (show (w6.alloc (.cells #[.string ⟨g.buf.toArray⟩, .int .i64 g.d, .bool g.q, .bool g.s, .bool g.c] 26)).heap[q3]? = _ from M6.out.w0)
  go_wp2_with (first
    | (go_at_call 12; refine (eqFr g _).mono ?_; rintro e w7 ⟨rfl, hB7⟩; have M7 := Lib.hid (M6.out.later hB7); clear hB7)
    | (go_at_call 13; refine (EQ.out _ _ _ _ _ _ _ M7.out.og.strs M7.out.rw_).mono ?_; rintro e w8 ⟨rfl, hB8⟩; have M8 := Lib.hid (M7.out.later hB8); clear hB8)
    | (go_at_call 18; refine Hid.out ?_))
  refine Lib.hid ?_
  refine (TS.out _ M8.out.bel).mono ?_
  rintro e w9 ⟨rfl, ho9, hB9⟩
  have M9 := Lib.hid (M8.out.later hB9)
  have O9 := Lib.hid ho9.strs
  clear ho9 hB9 M8 M7 M6 x0 x1 x2 x3 x4
  go_wp2_with fail
  refine (eqStrs l _ _ _ _ _ _ _ HL.out M9.out.ox.strs O9.out).mono ?_
  rintro e w10 ⟨rfl, hB10⟩
  have M10 := Lib.hid (M9.out.later hB10)
  clear hB10 M9 O9
  go_wp2_with fail
  refine (markStrs l _ _ 1 _ _ HL.out (by omega) (by have := HZ.out.1; omega) M10.out.ox).mono ?_
  rintro e w11 ⟨rfl, ho11, hF11⟩
  have M11 := Lib.hid (M10.out.markx hF11 ho11)
  clear ho11 hF11 M10
  generalize 1 + l.length = k9 at *
  have d9 : decide ((k9 : Int) < 0) = false := by simp
  generalize w6.heap.size = q6 at *
  obtain ⟨x0, x1, x2, x3, x4⟩ := frB_cell M11.out.w0
  obtain ⟨y0, y1, y2, y3, y4⟩ := frB_cell M11.out.g0
  go_wp2_with (first
    | (go_at_call 12; refine (eqFr g _).mono ?_; rintro e w12 ⟨rfl, hB12⟩; have M12 := Lib.hid (M11.out.later hB12); clear hB12)
    | (go_at_call 13; refine (EQ.out _ _ _ _ _ _ _ M12.out.og.strs M12.out.rw_).mono ?_; rintro e w13 ⟨rfl, hB13⟩; have M13 := Lib.hid (M12.out.later hB13); clear hB13)
    | (go_at_call 14; refine Hid.out ?_))
  refine Lib.hid ?_
  refine (markStrs A _ _ 1 _ _ (by have := HOL.out; unfold maxLen; omega) (by omega) (by have := HOL.out; omega) M13.out.og).mono ?_
  rintro e w14 ⟨rfl, ho14, hF14⟩
  have M14 := Lib.hid (M13.out.markg hF14 ho14)
  clear ho14 hF14 M13 M12 M11 x0 x1 x2 x3 x4 y0 y1 y2 y3 y4
  have HB : Hid (1 + A.length < 1000000000000) := by have := HOL.out; show _ < _; omega
  obtain ⟨n, hn⟩ : ∃ n, n = A.length := ⟨_, rfl⟩
  have HD : Hid (∀ (W : World) (P : Nat → Prop) a c, Strs W P a (marks n 1) → Calls Try.prog 15 #[.slice a n c, .int .i64 1] W fun e w' => e = .returned (.int .i64 (1 + n : Nat)) ∧ Below W.heap.size W w') := fun W P a c h => heldStrs n a c 1 P W (by have := HB.out; unfold maxLen; omega) (by omega) (by have := HB.out; omega) h
  rw [← hn] at M14 EQ ⊢
  have HNN : Hid (n = A.length) := hn
  clear hn
  obtain ⟨k11, hk11⟩ : ∃ k : Nat, k = 1 + n := ⟨_, rfl⟩
  rw [← hk11] at HD ⊢
  have d11 : decide ((k11 : Int) < 0) = false := by simp
  have n11 := neq_selfFI (k11 : Int)
  clear hk11
  go_wp2_with fail
  refine (HD.out _ _ _ _ M14.out.og.strs).mono ?_
  rintro e w15 ⟨rfl, hB15⟩
  have M15 := Lib.hid (M14.out.later hB15)
  clear hB15 M14
  go_wp2_with fail
  refine (TS.out _ M15.out.bel).mono ?_
  rintro e w16 ⟨rfl, ho16, hB16⟩
  have M16 := Lib.hid (M15.out.later hB16)
  have O16 : Hid (Strs w16 (· < w16.heap.size) (some ⟨w15.heap.size, 0, none⟩) l) := ho16.strs.inside.same (fun _ _ => rfl) (fun b hb => hb.2)
  clear ho16 hB16 M15
  generalize w15.heap.size = q15 at *
  go_wp2_with fail
  refine (AI'.out _ _ _ O16.out).mono ?_
  rintro e w17 ⟨ph, ch, rfl, hB17, ho17⟩
  rw [← HNN.out] at ho17 ⊢
  have hA17 : Below w17.heap.size w17 (w17.alloc (frB g)) := (Below.refl _ _).alloc (Nat.le_refl _) _
  have M17 := Lib.hid ((M16.out.later hB17).later hA17)
  have O17 := Lib.hid (ho17.owns.strs.same (w' := w17.alloc (frB g)) (B' := fun _ => True) (fun b hb => hA17.block b hb.2) (fun _ _ => trivial))
  clear ho17 hB17 hA17 M16 O16
  obtain ⟨x0, x1, x2, x3, x4⟩ := frB_cell (show (w17.alloc (.cells #[.string ⟨g.buf.toArray⟩, .int .i64 g.d, .bool g.q, .bool g.s, .bool g.c] 26)).heap[q3]? = _ from M17.out.w0)
  go_wp2_with (first
    | (go_at_call 12; refine (eqFr g _).mono ?_; rintro e w18 ⟨rfl, hB18⟩; have M18 := Lib.hid (M17.out.later hB18); have O18 := Lib.hid (O17.out.later hB18); clear hB18)
    | (go_at_call 13; refine (EQ.out _ _ _ _ _ _ _ O18.out M18.out.rw_).mono ?_; rintro e w19 ⟨rfl, hB19⟩; have M19 := Lib.hid (M18.out.later hB19); clear hB19)
    | (go_at_call 15; refine Hid.out ?_))
  refine Lib.hid ?_
  refine (HD.out _ _ _ _ M19.out.og.strs).mono ?_
  rintro e w20 ⟨rfl, hB20⟩
  have M20 := Lib.hid (M19.out.later hB20)
  clear hB20
  go_wp2_with fail
  go_ret
  exact ⟨rfl, M20.out.bel⟩
end Go.Proofs.Ytooiejlbnddfmaa
