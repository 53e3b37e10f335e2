import Derived.Test.YtooiejlbnddfmaaFLAll
import Derived.Test.YtooiejlbnddfmaaFLOk
import Derived.Test.YtooiejlbnddfmaaFFdS
namespace Go.Proofs.Ytooiejlbnddfmaa
open Go.RowKit
set_option linter.unusedSimpArgs false
theorem fdO_len (f : Fr) (s : ByteArray) (hl : f.buf.length ≤ 1048576) : (fdO f s).length ≤ 2097152 := by
  unfold fdO
  split
  · simp
  · split
    · simp
    · split
      · simp
      · have h1 := out_len f s.data.toList
        simp only [Array.length_toList] at h1
        have h2 : s.data.size = s.size := rfl
        omega
set_option maxRecDepth 100000 in
set_option maxHeartbeats 6400000 in
theorem lawFeed (f : Fr) (s : ByteArray) (w : World) (hx : f.buf.length ≤ maxLen) (_hs : s.size ≤ maxLen) :
    Calls Try.prog 4 #[.agg #[.string ⟨f.buf.toArray⟩, .int .i64 f.d, .bool f.q, .bool f.s, .bool f.c], .string s] w fun e w' => e = .returned (.bool true) ∧ Below w.heap.size w w' := by
  have HT : Hid (f.buf.length ≤ maxLen) := hx
  have HXB : Hid (Below w.heap.size w (w.alloc (frL f))) := (Below.refl _ _).alloc (Nat.le_refl _) _
  clear hx
  by_cases h1 : 1048576 < s.size
  · have d1 : decide (1048576 < (s.size : Int)) = true := decide_eq_true (by omega)
    go_enter Try.func4, Try.ntmps4
    go_wp2_with fail
    go_ret
    exact ⟨rfl, HXB.out⟩
  have d1 : decide (1048576 < (s.size : Int)) = false := decide_eq_false (by omega)
  have HS : Hid (s.size ≤ 1048576) := Nat.le_of_not_lt h1
  clear h1
  go_enter Try.func4, Try.ntmps4
  go_wp2_with fail
  refine (szFr f 1048576 _ (by omega) (by omega) HT.out).mono ?_
  rintro e w1 ⟨rfl, hB1⟩
  have HC : Hid (∀ W, Below (w.alloc (frL f)).heap.size (w.alloc (frL f)) W → W.heap[w.heap.size]? = some (frL f)) := fun W h => kept (heap_new' _ _) h
  have HF : Hid (∀ W, Below (w.alloc (frL f)).heap.size (w.alloc (frL f)) W → Below w.heap.size w W) := fun W h => HXB.out.trans (h.mono HXB.out.size)
  have HB1 : Hid (Below (w.alloc (frL f)).heap.size (w.alloc (frL f)) w1) := hB1
  obtain ⟨W0, hW0⟩ : ∃ W0, W0 = w.alloc (frL f) := ⟨_, rfl⟩
  rw [← hW0] at HC HF HB1
  clear hB1 hW0 HXB
  by_cases hz : (1048576 : Int) - (f.buf.length : Int) < 0
  · rw [less_no hz]
    go_wp2_with fail
    go_ret
    exact ⟨rfl, HF.out _ HB1.out⟩
  rw [less_yes (by omega)]
  have HLN : Hid (f.buf.length ≤ 1048576) := by show f.buf.length ≤ _; omega
  obtain ⟨L, hL⟩ : ∃ L : Int, L = 1048576 - (f.buf.length : Int) := ⟨_, rfl⟩
  rw [← hL]
  have hl0 : decide (L < 0) = false := by simp; omega
  clear hL hz
  have HOL := Lib.hid (fdO_len f s HLN.out)
  have AS : Hid (∀ W : World, Calls Try.prog 10 #[.agg #[.string ⟨f.buf.toArray⟩, .int .i64 f.d, .bool f.q, .bool f.s, .bool f.c], .string s] W (FdAns3 W (fdF f s) (fdO f s) (fdC f s))) := fun W => fdS f s W (by have := HLN.out; omega) (by have := HS.out; omega)
  have AI' : Hid (∀ W : World, Calls Try.prog 11 #[.agg #[.string ⟨f.buf.toArray⟩, .int .i64 f.d, .bool f.q, .bool f.s, .bool f.c], .string s] W (FdAns3 W (fdF f s) (fdO f s) (fdC f s))) := fun W => fdI f s W (by have := HLN.out; omega) (by have := HS.out; omega)
  clear d1
  generalize fdF f s = g at *
  generalize fdO f s = A at *
  generalize fdC f s = cc at *
  have hcc := neq_selfFI cc
  have EQ : Hid (∀ (W : World) (P Q : Nat → Prop) (a a' : Option Addr) (c c' : Nat), Strs W P a A → Strs W Q a' A → Calls Try.prog 13 #[.slice a A.length c, .slice a' A.length c'] W fun e w' => e = .returned (.bool true) ∧ Below W.heap.size W w') := fun W P Q a a' c c' h h' => eqStrs A a a' c c' P Q W (by have := HOL.out; unfold maxLen; omega) h h'
  obtain ⟨x0, x1, x2, x3, x4⟩ := frL_cell (HC.out _ HB1.out)
  go_wp2_with fail
  refine (toFr f _).mono ?_
  rintro e w2 ⟨rfl, hB2⟩
  have H2 := Lib.hid (HB1.out.trans (hB2.mono HB1.out.size))
  clear hB2 x0 x1 x2 x3 x4 HB1
  go_wp2_with fail
  refine (AS.out _).mono ?_
  rintro e w3 ⟨pw, cw, rfl, hB3, ho3⟩
  have H3 : Hid (Strs w3 (· < w3.heap.size) pw A ∧ Below W0.heap.size W0 w3) := ⟨ho3.owns.strs.same (fun _ _ => rfl) (fun b hb => hb.2), H2.out.trans (hB3.mono H2.out.size)⟩
  clear ho3 hB3 H2
  have hB4 : Below w3.heap.size w3 (w3.alloc (frB g)) := (Below.refl _ _).alloc (Nat.le_refl _) _
  have H4 : Hid (Strs (w3.alloc (frB g)) (· < (w3.alloc (frB g)).heap.size) pw A ∧ Below W0.heap.size W0 (w3.alloc (frB g)) ∧ (w3.alloc (frB g)).heap[w3.heap.size]? = some (frB g)) := ⟨(H3.out.1.below hB4).same (fun _ _ => rfl) (fun b hb => Nat.lt_of_lt_of_le hb hB4.size), H3.out.2.trans (hB4.mono H3.out.2.size), heap_new' _ _⟩
  clear hB4
  obtain ⟨x0, x1, x2, x3, x4⟩ := frL_cell (show (w3.alloc (.cells #[.string ⟨g.buf.toArray⟩, .int .i64 g.d, .bool g.q, .bool g.s, .bool g.c] 26)).heap[w.heap.size]? = _ from HC.out _ H4.out.2.1)
  go_wp2_with fail
  refine (toFr f _).mono ?_
  rintro e w5 ⟨rfl, hB5'⟩
  have hB5 : Below (w3.alloc (frB g)).heap.size (w3.alloc (frB g)) w5 := hB5'
  have hs4 : (w3.alloc (frB g)).heap.size = w3.heap.size + 1 := by simp
  have H5 : Hid (Strs w5 (· < w3.heap.size + 1) pw A ∧ Below W0.heap.size W0 w5 ∧ w5.heap[w3.heap.size]? = some (frB g) ∧ w3.heap.size + 1 ≤ w5.heap.size) := by
    have hsz := hB5.size
    rw [hs4] at hsz
    refine ⟨?_, H4.out.2.1.trans (hB5.mono H4.out.2.1.size), kept H4.out.2.2 hB5, hsz⟩
    have := H4.out.1.below hB5
    rw [hs4] at this
    exact this
  clear hB5 hB5' H4 hs4 x0 x1 x2 x3 x4
  have hw3 : W0.heap.size ≤ w3.heap.size := H3.out.2.size
  clear H3
  generalize w3.heap.size = q3 at *
  go_wp2_with fail
  refine (AI'.out _).mono ?_
  rintro e w6 ⟨pg, cg, rfl, hB6, ho6⟩
  have M6 : Hid (LA W0 (w6.alloc (frB g)) [] A [] A g none pw none pg (q3 + 1) w5.heap.size w6.heap.size q3 w6.heap.size) := by
    have hsz := hB6.size
    have h5 := H5.out
    have hA6 : Below w6.heap.size w6 (w6.alloc (frB g)) := (Below.refl _ _).alloc (Nat.le_refl _) _
    have hbl : Below w5.heap.size w5 (w6.alloc (frB g)) := hB6.trans (hA6.mono hB6.size)
    have hal := hA6.size
    refine ⟨.inl rfl, h5.2.1.trans (hbl.mono h5.2.1.size), h5.1.same (fun b hb => hbl.block b (by omega)) (fun _ h => h), .inl rfl, ho6.owns.same (fun b hb => hA6.block b hb.2) (fun _ h => h), kept h5.2.2.1 hbl, heap_new' _ _, by omega⟩
  clear ho6 hB6 H5
  generalize w5.heap.size = q5 at *
  obtain ⟨x0, x1, x2, x3, x4⟩ := frB_cell (show (w6.alloc (.cells #[.string ⟨g.buf.toArray⟩, .int .i64 g.d, .bool g.q, .bool g.s, .bool g.c] 26)).heap[q3]? = _ from M6.out.w0)
  go_wp2_with (first
    | (go_at_call 12; refine (eqFr g _).mono ?_; rintro e w7 ⟨rfl, hB7⟩; have M7 := Lib.hid (M6.out.later hB7); clear hB7)
    | (go_at_call 13; refine (EQ.out _ _ _ _ _ _ _ M7.out.og.strs M7.out.rw_).mono ?_; rintro e w8 ⟨rfl, hB8⟩; have M8 := Lib.hid (M7.out.later hB8); clear hB8)
    | (go_at_call 14; refine Hid.out ?_))
  refine Lib.hid ?_
  refine (markStrs A _ _ 1 _ _ (by have := HOL.out; unfold maxLen; omega) (by omega) (by have := HOL.out; omega) M8.out.og).mono ?_
  rintro e w14 ⟨rfl, ho14, hF14⟩
  have M14 := Lib.hid (M8.out.markg hF14 ho14)
  clear ho14 hF14 M8 M7 M6 x0 x1 x2 x3 x4
  have HB : Hid (1 + A.length < 1000000000000) := by have := HOL.out; show _ < _; omega
  obtain ⟨n, hn⟩ : ∃ n, n = A.length := ⟨_, rfl⟩
  have HD : Hid (∀ (W : World) (P : Nat → Prop) a c, Strs W P a (marks n 1) → Calls Try.prog 15 #[.slice a n c, .int .i64 1] W fun e w' => e = .returned (.int .i64 (1 + n : Nat)) ∧ Below W.heap.size W w') := fun W P a c h => heldStrs n a c 1 P W (by have := HB.out; unfold maxLen; omega) (by omega) (by have := HB.out; omega) h
  rw [← hn] at M14 EQ ⊢
  have HNN : Hid (n = A.length) := hn
  clear hn
  obtain ⟨k11, hk11⟩ : ∃ k : Nat, k = 1 + n := ⟨_, rfl⟩
  rw [← hk11] at HD ⊢
  have d11 : decide ((k11 : Int) < 0) = false := by simp
  have n11 := neq_selfFI (k11 : Int)
  clear hk11
  generalize w6.heap.size = q6 at *
  go_wp2_with fail
  refine (HD.out _ _ _ _ M14.out.og.strs).mono ?_
  rintro e w15 ⟨rfl, hB15⟩
  have M15 := Lib.hid (M14.out.later hB15)
  clear hB15 M14
  obtain ⟨x0, x1, x2, x3, x4⟩ := frL_cell (HC.out _ M15.out.bel)
  go_wp2_with fail
  refine (toFr f _).mono ?_
  rintro e w16 ⟨rfl, hB16⟩
  have M16 := Lib.hid (M15.out.later hB16)
  clear hB16 M15 x0 x1 x2 x3 x4
  go_wp2_with fail
  refine (AI'.out _).mono ?_
  rintro e w17 ⟨ph, ch, rfl, hB17, ho17⟩
  rw [← HNN.out] at ho17 ⊢
  have hA17 : Below w17.heap.size w17 (w17.alloc (frB g)) := (Below.refl _ _).alloc (Nat.le_refl _) _
  have M17 := Lib.hid ((M16.out.later hB17).later hA17)
  have O17 := Lib.hid (ho17.owns.strs.same (w' := w17.alloc (frB g)) (B' := fun _ => True) (fun b hb => hA17.block b hb.2) (fun _ _ => trivial))
  clear ho17 hB17 hA17 M16
  obtain ⟨x0, x1, x2, x3, x4⟩ := frB_cell (show (w17.alloc (.cells #[.string ⟨g.buf.toArray⟩, .int .i64 g.d, .bool g.q, .bool g.s, .bool g.c] 26)).heap[q3]? = _ from M17.out.w0)
  go_wp2_with (first
    | (go_at_call 12; refine (eqFr g _).mono ?_; rintro e w18 ⟨rfl, hB18⟩; have M18 := Lib.hid (M17.out.later hB18); have O18 := Lib.hid (O17.out.later hB18); clear hB18)
    | (go_at_call 13; refine (EQ.out _ _ _ _ _ _ _ O18.out M18.out.rw_).mono ?_; rintro e w19 ⟨rfl, hB19⟩; have M19 := Lib.hid (M18.out.later hB19); clear hB19)
    | (go_at_call 15; refine Hid.out ?_))
  refine Lib.hid ?_
  refine (HD.out _ _ _ _ M19.out.og.strs).mono ?_
  rintro e w20 ⟨rfl, hB20⟩
  have M20 := Lib.hid (M19.out.later hB20)
  clear hB20
  go_wp2_with fail
  go_ret
  exact ⟨rfl, HF.out _ M20.out.bel⟩
end Go.Proofs.Ytooiejlbnddfmaa
