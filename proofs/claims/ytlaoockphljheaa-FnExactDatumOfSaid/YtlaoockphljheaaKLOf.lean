import Derived.Test.YtlaoockphljheaaKOf
import Derived.Test.YtlaoockphljheaaKMk
namespace Go.Proofs.Ytlaoockphljheaa
open Go.RowKit
set_option linter.unusedSimpArgs false
/-- what the law holds in memory: the specification's answer A, the argument's copy X, the answer G -/
structure MemA (w W : World) (l A X G : List At) (pa pw px pg : Option Addr) (s1 s2 s3 : Nat) : Prop where
  arg : Ats w (· < w.heap.size) pa l
  bel : Below w.heap.size w W
  rw_ : Ats W (· < s1) pw A
  ox : OwnAts W (fun b => s1 ≤ b ∧ b < s2) px X
  og : OwnAts W (fun b => s2 ≤ b ∧ b < s3) pg G
  ord : w.heap.size ≤ s1 ∧ s1 ≤ s2 ∧ s2 ≤ s3 ∧ s3 ≤ W.heap.size
variable {w W W' : World} {l A X G : List At} {pa pw px pg : Option Addr} {s1 s2 s3 : Nat}
theorem MemA.now (h : MemA w W l A X G pa pw px pg s1 s2 s3) : Ats W (· < w.heap.size) pa l := h.arg.below h.bel
theorem MemA.later (h : MemA w W l A X G pa pw px pg s1 s2 s3) (hB : Below W.heap.size W W') : MemA w W' l A X G pa pw px pg s1 s2 s3 := by
  have ho := h.ord
  have hs := hB.size
  exact ⟨h.arg, h.bel.trans (hB.mono h.bel.size), h.rw_.same (fun b hb => hB.block b (by omega)) (fun _ h => h), h.ox.same (fun b hb => hB.block b (by omega)) (fun _ h => h), h.og.same (fun b hb => hB.block b (by omega)) (fun _ h => h), by omega⟩
theorem MemA.markx {X' : List At} (h : MemA w W l A X G pa pw px pg s1 s2 s3) (hF : Frm (fun b => s1 ≤ b ∧ b < s2) W W') (hX : OwnAts W' (fun b => s1 ≤ b ∧ b < s2) px X') : MemA w W' l A X' G pa pw px pg s1 s2 s3 := by
  have ho := h.ord
  have hs := hF.size
  exact ⟨h.arg, h.bel.trans (hF.below h.bel.size (fun b hb => by omega)), h.rw_.same (fun b hb => hF.block b (by omega) (by omega)) (fun _ h => h), hX, h.og.same (fun b hb => hF.block b (by omega) (by omega)) (fun _ h => h), by omega⟩
theorem MemA.markg {G' : List At} (h : MemA w W l A X G pa pw px pg s1 s2 s3) (hF : Frm (fun b => s2 ≤ b ∧ b < s3) W W') (hG : OwnAts W' (fun b => s2 ≤ b ∧ b < s3) pg G') : MemA w W' l A X G' pa pw px pg s1 s2 s3 := by
  have ho := h.ord
  have hs := hF.size
  exact ⟨h.arg, h.bel.trans (hF.below h.bel.size (fun b hb => by omega)), h.rw_.same (fun b hb => hF.block b (by omega) (by omega)) (fun _ h => h), h.ox.same (fun b hb => hF.block b (by omega) (by omega)) (fun _ h => h), hG, by omega⟩
/-- what impl.DatumOf is to answer -/
def OfSaid : Prop := ∀ (l : List At) (b off c : Nat) (S : Nat) (w : World), l.length ≤ 1048576 → (∀ x ∈ l, x.t.length ≤ maxLen) → S ≤ w.heap.size → Ats w (· < S) (some ⟨b, off, none⟩) l →
    Calls Try.prog 9 #[.slice (some ⟨b, off, none⟩) l.length c] w (AAns2 w (ofR l) (ofC l))
theorem ofR_len (l : List At) : (ofR l).length ≤ 8 := by
  unfold ofR
  split
  · omega
  · simp
set_option maxRecDepth 100000 in
set_option maxHeartbeats 6400000 in
theorem lawOf (HI0 : OfSaid) (l : List At) (pa : Option Addr) (ca : Nat) (w : World) (hl : l.length ≤ maxLen) (hx : ∀ x ∈ l, x.t.length ≤ maxLen) (hA : Ats w (· < w.heap.size) pa l) :
    Calls Try.prog 3 #[.slice pa l.length ca] w fun e w' => e = .returned (.bool true) ∧ Below w.heap.size w w' := by
  have HA : Hid (Ats w (· < w.heap.size) pa l) := hA
  have HX : Hid (∀ x ∈ l, x.t.length ≤ maxLen) := hx
  have HI : Hid OfSaid := HI0
  have HL : Hid (l.length ≤ maxLen) := hl
  clear hA hx HI0 hl
  go_enter Try.func3, Try.ntmps3
  go_wp2_with fail
  refine (szAtoms l pa ca 1048576 w.heap.size w (by omega) (by omega) HL.out HX.out (Nat.le_refl _) HA.out).mono ?_
  rintro e w1 ⟨rfl, hB1⟩
  by_cases hz : (1048576 : Int) - (szA l : Int) < 0
  · rw [less_no hz]
    go_wp2_with fail
    go_ret
    exact ⟨rfl, hB1⟩
  rw [less_yes (by omega)]
  have hza : l.length ≤ 1048576 := by unfold szA at hz; omega
  obtain ⟨L, hL⟩ : ∃ L : Int, L = 1048576 - (szA l : Int) := ⟨_, rfl⟩
  rw [← hL]
  have hl0 : decide (L < 0) = false := by simp; omega
  have HZ : Hid (l.length ≤ 1048576) := hza
  have HB1 : Hid (Below w.heap.size w w1) := hB1
  clear hL hz hza hB1
  go_wp2_with fail
  refine (toAtoms l pa ca w.heap.size w1 HB1.out.size HZ.out (HA.out.below HB1.out)).mono ?_
  rintro e w2 ⟨rfl, ho2, hB2⟩
  have H2 : Hid (OwnAts w2 (fun b => w1.heap.size ≤ b ∧ b < w2.heap.size) (some ⟨w1.heap.size, 0, none⟩) l ∧ Below w.heap.size w w2) := ⟨ho2, HB1.out.trans (hB2.mono HB1.out.size)⟩
  clear ho2 hB2 HB1
  generalize w1.heap.size = q1 at *
  go_wp2_with fail
  refine (datumOfS l q1 0 l.length w2.heap.size w2 HZ.out HX.out (Nat.le_refl _) (H2.out.1.ats.same (fun _ _ => rfl) (fun b hb => hb.2))).mono ?_
  rintro e w3 ⟨pw, cw, rfl, ho3, hB3⟩
  have H3 : Hid (Ats w3 (· < w3.heap.size) pw (ofR l) ∧ Below w.heap.size w w3) := ⟨ho3.ats.same (fun _ _ => rfl) (fun b hb => hb.2), H2.out.2.trans (hB3.mono H2.out.2.size)⟩
  have HRL : Hid ((ofR l).length ≤ 8) := ofR_len l
  clear ho3 hB3 H2
  go_wp2_with fail
  refine (toAtoms l pa ca w.heap.size w3 H3.out.2.size HZ.out (HA.out.below H3.out.2)).mono ?_
  rintro e w4 ⟨rfl, ho4, hB4⟩
  have H4 : Hid (Ats w4 (· < w3.heap.size) pw (ofR l) ∧ OwnAts w4 (fun b => w3.heap.size ≤ b ∧ b < w4.heap.size) (some ⟨w3.heap.size, 0, none⟩) l ∧ Below w.heap.size w w4 ∧ w.heap.size ≤ w3.heap.size ∧ w3.heap.size ≤ w4.heap.size) := ⟨H3.out.1.below hB4, ho4, H3.out.2.trans (hB4.mono H3.out.2.size), H3.out.2.size, hB4.size⟩
  clear ho4 hB4 H3
  generalize w3.heap.size = q3 at *
  go_wp2_with fail
  refine (HI.out l q3 0 l.length w4.heap.size w4 HZ.out HX.out (Nat.le_refl _) (H4.out.2.1.ats.same (fun _ _ => rfl) (fun b hb => hb.2))).mono ?_
  rintro e w5 ⟨pg, cg, rfl, ho5, hB5⟩
  have M5 : Hid (MemA w w5 l (ofR l) l (ofR l) pa pw (some ⟨q3, 0, none⟩) pg q3 w4.heap.size w5.heap.size) := by
    have hs := hB5.size
    have h4 := H4.out.2.2.2
    exact ⟨HA.out, H4.out.2.2.1.trans (hB5.mono H4.out.2.2.1.size), H4.out.1.same (fun b hb => hB5.block b (by omega)) (fun _ h => h), H4.out.2.1.same (fun b hb => hB5.block b hb.2) (fun _ h => h), ho5, by omega⟩
  clear ho5 hB5 H4
  generalize w4.heap.size = q4 at *
  generalize w5.heap.size = q5 at *
  have hcc := neq_selfK (ofC l)
  have EQ : Hid (∀ (W : World) (A B : Nat → Prop) (a a' : Option Addr) (c c' : Nat), Ats W A a (ofR l) → Ats W B a' (ofR l) → Calls Try.prog 10 #[.slice a (ofR l).length c, .slice a' (ofR l).length c'] W fun e w' => e = .returned (.bool true) ∧ Below W.heap.size W w') := fun W A B a a' c c' h h' => eqAtoms (ofR l) a a' c c' A B W (by have := HRL.out; unfold maxLen; omega) h h'
  obtain ⟨cc, hce⟩ : ∃ cc, ofC l = cc := ⟨_, rfl⟩
  have HCC : Hid (ofC l = cc) := hce
  rw [hce] at hcc ⊢
  clear hce
  go_wp2_with fail
  refine (EQ.out _ _ _ _ _ _ _ M5.out.og.ats M5.out.rw_).mono ?_
  rintro e w6 ⟨rfl, hB6⟩
  have M6 := Lib.hid (M5.out.later hB6)
  clear hB6 M5
  go_wp2_with fail
  refine (toAtoms l pa ca w.heap.size w6 M6.out.bel.size HZ.out M6.out.now).mono ?_
  rintro e w7 ⟨rfl, ho7, hB7⟩
  have M7 := Lib.hid (M6.out.later hB7)
  have O7 := Lib.hid ho7.ats.any
  clear ho7 hB7 M6
  go_wp2_with fail
  refine (eqAtoms l _ _ _ _ (fun _ => True) (fun _ => True) _ HL.out M7.out.ox.ats.any O7.out).mono ?_
  rintro e w8 ⟨rfl, hB8⟩
  have M8 := Lib.hid (M7.out.later hB8)
  clear hB8 M7 O7
  go_wp2_with fail
  refine (markAtoms l _ _ 1 _ _ HL.out (by omega) (by have := HZ.out; omega) M8.out.ox).mono ?_
  rintro e w9 ⟨rfl, ho9, hF9⟩
  have M9 := Lib.hid (M8.out.markx hF9 ho9)
  clear ho9 hF9 M8
  generalize 1 + 3 * l.length = k9 at *
  have d9 : decide ((k9 : Int) < 0) = false := by simp
  go_wp2_with (go_at_call 10; refine (EQ.out _ _ _ _ _ _ _ M9.out.og.ats M9.out.rw_).mono ?_; rintro e w10 ⟨rfl, hB10⟩; have M10 := Lib.hid (M9.out.later hB10); clear hB10; refine Hid.out ?_)
  refine Lib.hid ?_
  go_wp2_with fail
  refine (markAtoms (ofR l) _ _ 1 _ _ (by have := HRL.out; unfold maxLen; omega) (by omega) (by have := HRL.out; omega) M10.out.og).mono ?_
  rintro e w11 ⟨rfl, ho11, hF11⟩
  have M11 := Lib.hid (M10.out.markg hF11 ho11)
  have HB : Hid (1 + 3 * (ofR l).length < 1000000000000) := by have := HRL.out; show _ < _; omega
  clear ho11 hF11 M10 M9
  obtain ⟨n, hn⟩ : ∃ n, n = (ofR l).length := ⟨_, rfl⟩
  have HD : Hid (∀ W (A : Nat → Prop) a c, Ats W A a (marksA n 1) → Calls Try.prog 12 #[.slice a n c, .int .i64 1] W fun e w' => e = .returned (.int .i64 (1 + 3 * n : Nat)) ∧ Below W.heap.size W w') := fun W A a c h => heldAtoms n a c 1 A W (by omega) (by have := HB.out; omega) h
  rw [← hn] at M11 EQ ⊢
  have HN : Hid (n = (ofR l).length) := hn
  clear hn
  obtain ⟨k11, hk11⟩ : ∃ k : Nat, k = 1 + 3 * n := ⟨_, rfl⟩
  rw [← hk11] at HD ⊢
  have d11 : decide ((k11 : Int) < 0) = false := by simp
  have n11 := neq_selfK (k11 : Int)
  clear hk11
  go_wp2_with fail
  refine (HD.out _ _ _ _ M11.out.og.ats).mono ?_
  rintro e w12 ⟨rfl, hB12⟩
  have M12 := Lib.hid (M11.out.later hB12)
  clear hB12 M11
  go_wp2_with fail
  refine (toAtoms l pa ca w.heap.size w12 M12.out.bel.size HZ.out M12.out.now).mono ?_
  rintro e w13 ⟨rfl, ho13, hB13⟩
  have M13 := Lib.hid (M12.out.later hB13)
  have O13 : Hid (Ats w13 (· < w13.heap.size) (some ⟨w12.heap.size, 0, none⟩) l) := ho13.ats.same (fun _ _ => rfl) (fun b hb => hb.2)
  clear ho13 hB13 M12
  generalize w12.heap.size = q12 at *
  go_wp2_with fail
  refine (HI.out l q12 0 l.length w13.heap.size w13 HZ.out HX.out (Nat.le_refl _) O13.out).mono ?_
  rintro e w14 ⟨ph, ch, rfl, ho14, hB14⟩
  rw [← HN.out, HCC.out]
  have M14 := Lib.hid (M13.out.later hB14)
  have O14 := Lib.hid ho14.ats
  clear ho14 hB14 M13 O13
  go_wp2_with (go_at_call 10; refine (EQ.out _ _ _ _ _ _ _ O14.out M14.out.rw_).mono ?_; rintro e w15 ⟨rfl, hB15⟩; have M15 := Lib.hid (M14.out.later hB15); clear hB15; refine Hid.out ?_)
  refine Lib.hid ?_
  go_wp2_with fail
  refine (HD.out _ _ _ _ M15.out.og.ats).mono ?_
  rintro e w16 ⟨rfl, hB16⟩
  have M16 := Lib.hid (M15.out.later hB16)
  clear hB16
  go_wp2_with fail
  go_ret
  exact ⟨rfl, M16.out.bel⟩
end Go.Proofs.Ytlaoockphljheaa
