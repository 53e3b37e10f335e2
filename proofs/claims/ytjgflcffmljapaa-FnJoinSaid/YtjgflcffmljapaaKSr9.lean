import Derived.Test.YtjgflcffmljapaaKSr8
import Derived.Test.YtjgflcffmljapaaKSr7
import Derived.Test.YtjgflcffmljapaaKSr6
import Derived.Test.YtjgflcffmljapaaKSr4
import Derived.Test.YtjgflcffmljapaaKIg
namespace Go.Proofs.Ytjgflcffmljapaa
open Go.RowKit
set_option linter.unusedSimpArgs false
theorem Ats.up {W W' : World} {q : Option Addr} {L : List At} (h : Ats W (· < W.heap.size) q L) (hB : Below W.heap.size W W') : Ats W' (· < W'.heap.size) q L := h.same (fun b hb => hB.block b hb) (fun _ hb => Nat.lt_of_lt_of_le hb hB.size)
theorem AAns2.two {W w' : World} {L : List At} {c : Int} {e : Ending} (h : AAns2 W L c e w') : ∃ q cp, e = .returned (.tuple #[.slice q L.length cp, .int .i64 c]) ∧ Ats w' (· < w'.heap.size) q L ∧ Below W.heap.size W w' := by
  obtain ⟨q, cp, e, ho, hb⟩ := h
  exact ⟨q, cp, e, ho.ats.same (fun _ _ => rfl) (fun _ hb => hb.2), hb⟩
theorem Byts.up {w W : World} {q : Option Addr} {l : List UInt8} (h : Byts w (· < w.heap.size) q l) (hB : Below w.heap.size w W) : Byts W (· < w.heap.size) q l := h.same (fun b hb => hB.block b hb) (fun _ h => h)
/-- an answer: a list in memory and the code 0 -/
def JAns (W : World) (L : List At) (e : Ending) (w' : World) : Prop := ∃ q cp, e = .returned (.tuple #[.slice q L.length cp, .int .i64 0]) ∧ Ats w' (· < w'.heap.size) q L ∧ Below W.heap.size W w'
set_option maxRecDepth 100000 in
set_option maxHeartbeats 6400000 in
theorem lawFnJoin (l1 l2 : List UInt8) (pa pb : Option Addr) (ca cb : Nat) (w : World) (h1 : Byts w (· < w.heap.size) pa l1) (h2 : Byts w (· < w.heap.size) pb l2) :
    Calls Try.prog 4 #[.slice pa l1.length ca, .slice pb l2.length cb] w fun e w' => e = .returned (.bool true) ∧ Below w.heap.size w w' := by
  by_cases g1 : 1048576 < l1.length
  · have d1 : decide (1048576 < (l1.length : Int)) = true := decide_eq_true (by omega)
    have d2 : decide (1048576 < l1.length) = true := decide_eq_true g1
    go_enter Try.func4, Try.ntmps4
    go_wp2_with fail
    go_ret
    exact ⟨rfl, Below.refl _ _⟩
  have d1 : decide (1048576 < (l1.length : Int)) = false := decide_eq_false (by omega)
  have d2 : decide (1048576 < l1.length) = false := decide_eq_false g1
  by_cases g2 : 1048576 < l2.length
  · have d3 : decide (1048576 < (l2.length : Int)) = true := decide_eq_true (by omega)
    have d4 : decide (1048576 < l2.length) = true := decide_eq_true g2
    go_enter Try.func4, Try.ntmps4
    go_wp2_with fail
    go_ret
    exact ⟨rfl, Below.refl _ _⟩
  have d3 : decide (1048576 < (l2.length : Int)) = false := decide_eq_false (by omega)
  have d4 : decide (1048576 < l2.length) = false := decide_eq_false g2
  have AT : Hid (Calls Try.prog 6 #[.slice pb l2.length cb, .int .i64 0, .int .i64 4] w fun e W' => ∃ k : Nat, e = .returned (.int .i64 (k : Int)) ∧ k < 4 ∧ Below w.heap.size w W') := atS l2 pb cb 4 _ w h2 (by omega) (by omega) (by omega)
  have H1 := Lib.hid h1
  have H2 := Lib.hid h2
  clear h1 h2 g1 g2
  go_enter Try.func4, Try.ntmps4
  go_wp2_with fail
  refine AT.out.mono ?_
  rintro e w1 ⟨k0, rfl, hk0, hB1⟩
  obtain ⟨k, hk⟩ : ∃ k : Nat, k = 1 + k0 := ⟨_, rfl⟩
  have f1 : IntKind.i64.wrap (1 + (k0 : Int)) = (k : Int) := by rw [IntKind.wrap_i64]; omega
  have HB1 := Lib.hid hB1
  have DA := Lib.hid (drawnS l1 pa ca k w.heap.size w1 hB1.size (H1.out.up hB1) (by omega) (by omega))
  have DB : Hid (∀ W, Below w.heap.size w W → Calls Try.prog 12 #[.slice pb l2.length cb, .int .i64 (k : Int)] W (DatumAns W k)) := fun W h => drawnS l2 pb cb k w.heap.size W h.size (H2.out.up h) (by omega) (by omega)
  clear hk hk0 hB1 AT
  go_wp2_with fail
  refine DA.out.mono ?_
  rintro e w2 ⟨ga, ka, A, rfl, hA4, hAd, hAt, hB2⟩
  have HA : Hid (A.length ≤ 4 ∧ Drn k A) := ⟨hA4, hAd⟩
  have M2 : Hid (Below w.heap.size w w2 ∧ Ats w2 (· < w2.heap.size) (some ⟨ga, 0, none⟩) A) := ⟨HB1.out.trans (hB2.mono HB1.out.size), hAt⟩
  clear hA4 hAd hAt hB2 DA HB1
  go_wp2_with fail
  refine (DB.out _ M2.out.1).mono ?_
  rintro e w3 ⟨gb, kb, B, rfl, hB4, hBd, hBt, hB3⟩
  have HBB : Hid (B.length ≤ 4 ∧ Drn k B) := ⟨hB4, hBd⟩
  have M3 : Hid (Below w.heap.size w w3 ∧ Ats w3 (· < w3.heap.size) (some ⟨ga, 0, none⟩) A ∧ Ats w3 (· < w3.heap.size) (some ⟨gb, 0, none⟩) B) := ⟨M2.out.1.trans (hB3.mono M2.out.1.size), M2.out.2.up hB3, hBt⟩
  clear hB4 hBd hBt hB3 DB M2
  obtain ⟨e1, e2, e3, e4, e5, e6⟩ := join_law HA.out.2 HBB.out.2 HA.out.1 HBB.out.1
  have bX : (joinR A B).length ≤ 1048576 ∧ ∀ x ∈ joinR A B, x.t.length ≤ maxLen := by
    obtain ⟨q1, -, q3⟩ := join_drn HA.out.2 HBB.out.2 HA.out.1 HBB.out.1
    rw [q1]
    exact ⟨by omega, (HA.out.2.join HBB.out.2).text⟩
  have bZ : (lessL A B).length ≤ 1048576 ∧ ∀ x ∈ lessL A B, x.t.length ≤ maxLen := by
    obtain ⟨q1, -⟩ := less_drn HA.out.2 HBB.out.2 (by have := HA.out.1; omega) (by have := HBB.out.1; omega)
    rw [q1]
    have := minus_len' A B
    have := HA.out.1
    exact ⟨by omega, (HA.out.2.minus B).text⟩
  have lA : A.length ≤ 1048576 := by have := HA.out.1; omega
  have lB : B.length ≤ 1048576 := by have := HBB.out.1; omega
  have J1 : Hid (∀ W cp cq, Ats W (· < W.heap.size) (some ⟨ga, 0, none⟩) A → Ats W (· < W.heap.size) (some ⟨gb, 0, none⟩) B → Calls Try.prog 13 #[.slice (some ⟨ga, 0, none⟩) A.length cp, .slice (some ⟨gb, 0, none⟩) B.length cq] W (JAns W (joinR A B))) := fun W cp cq h h' =>
    (datumJoinO A B _ _ cp cq W.heap.size W lA lB HA.out.2.text HBB.out.2.text (Nat.le_refl _) h h').mono (fun e w' hh => by rw [e1] at hh; exact hh.two)
  have J2 : Hid (∀ W cp cq, Ats W (· < W.heap.size) (some ⟨ga, 0, none⟩) A → Ats W (· < W.heap.size) (some ⟨gb, 0, none⟩) B → Calls Try.prog 14 #[.slice (some ⟨ga, 0, none⟩) A.length cp, .slice (some ⟨gb, 0, none⟩) B.length cq] W (JAns W (joinR A B))) := fun W cp cq h h' =>
    (datumJoinS A B _ _ cp cq _ W.heap.size W lA lB HA.out.2.text HBB.out.2.text (Nat.le_refl _) h h').mono (fun e w' hh => by rw [e1] at hh; exact hh.two)
  have L1 : Hid (∀ W q cp cq, Ats W (· < W.heap.size) q (joinR A B) → Ats W (· < W.heap.size) (some ⟨gb, 0, none⟩) B → Calls Try.prog 15 #[.slice q (joinR A B).length cp, .slice (some ⟨gb, 0, none⟩) B.length cq] W (JAns W (lessL A B))) := fun W q cp cq h h' =>
    (datumLessI _ B _ _ cp cq W.heap.size W bX.1 lB bX.2 HBB.out.2.text (Nat.le_refl _) h h').mono (fun e w' hh => by rw [e2, e4] at hh; exact hh.two)
  have L2 : Hid (∀ W cp cq, Ats W (· < W.heap.size) (some ⟨ga, 0, none⟩) A → Ats W (· < W.heap.size) (some ⟨gb, 0, none⟩) B → Calls Try.prog 15 #[.slice (some ⟨ga, 0, none⟩) A.length cp, .slice (some ⟨gb, 0, none⟩) B.length cq] W (JAns W (lessL A B))) := fun W cp cq h h' =>
    (datumLessI A B _ _ cp cq W.heap.size W lA lB HA.out.2.text HBB.out.2.text (Nat.le_refl _) h h').mono (fun e w' hh => by rw [e3] at hh; exact hh.two)
  have J3 : Hid (∀ W q cp cq, Ats W (· < W.heap.size) q (lessL A B) → Ats W (· < W.heap.size) (some ⟨gb, 0, none⟩) B → Calls Try.prog 13 #[.slice q (lessL A B).length cp, .slice (some ⟨gb, 0, none⟩) B.length cq] W (JAns W (joinR A B))) := fun W q cp cq h h' =>
    (datumJoinO _ B _ _ cp cq W.heap.size W bZ.1 lB bZ.2 HBB.out.2.text (Nat.le_refl _) h h').mono (fun e w' hh => by rw [e5, e6] at hh; exact hh.two)
  have SX : Hid (∀ W q q' c c', Ats W (· < W.heap.size) q (joinR A B) → Ats W (· < W.heap.size) q' (joinR A B) → Calls Try.prog 8 #[.slice q (joinR A B).length c, .slice q' (joinR A B).length c'] W fun e w' => e = .returned (.bool true) ∧ Below W.heap.size W w') := fun W q q' c c' h h' => sameDatumS _ q q' c c' _ _ W bX.1 h h'
  have SZ : Hid (∀ W q q' c c', Ats W (· < W.heap.size) q (lessL A B) → Ats W (· < W.heap.size) q' (lessL A B) → Calls Try.prog 8 #[.slice q (lessL A B).length c, .slice q' (lessL A B).length c'] W fun e w' => e = .returned (.bool true) ∧ Below W.heap.size W w') := fun W q q' c c' h h' => sameDatumS _ q q' c c' _ _ W bZ.1 h h'
  clear e1 e2 e3 e4 e5 e6 bX bZ lA lB HA HBB
  generalize joinR A B = X at *
  generalize lessL A B = Z at *
  go_wp2_with fail
  refine (J1.out _ _ _ M3.out.2.1 M3.out.2.2).mono ?_
  rintro e w4 ⟨qx, cx, rfl, hx, hB4⟩
  have M4 : Hid (Below w.heap.size w w4 ∧ Ats w4 (· < w4.heap.size) (some ⟨ga, 0, none⟩) A ∧ Ats w4 (· < w4.heap.size) (some ⟨gb, 0, none⟩) B ∧ Ats w4 (· < w4.heap.size) qx X) := ⟨M3.out.1.trans (hB4.mono M3.out.1.size), M3.out.2.1.up hB4, M3.out.2.2.up hB4, hx⟩
  clear hx hB4 M3
  go_wp2_with fail
  refine (J2.out _ _ _ M4.out.2.1 M4.out.2.2.1).mono ?_
  rintro e w5 ⟨qw, cw, rfl, hx, hB5⟩
  have M5 : Hid (Below w.heap.size w w5 ∧ Ats w5 (· < w5.heap.size) (some ⟨ga, 0, none⟩) A ∧ Ats w5 (· < w5.heap.size) (some ⟨gb, 0, none⟩) B ∧ Ats w5 (· < w5.heap.size) qx X ∧ Ats w5 (· < w5.heap.size) qw X) := ⟨M4.out.1.trans (hB5.mono M4.out.1.size), M4.out.2.1.up hB5, M4.out.2.2.1.up hB5, M4.out.2.2.2.up hB5, hx⟩
  clear hx hB5 M4
  go_wp2_with fail
  refine (L1.out _ _ _ _ M5.out.2.2.2.1 M5.out.2.2.1).mono ?_
  rintro e w6 ⟨qy, cy, rfl, hx, hB6⟩
  have M6 : Hid (Below w.heap.size w w6 ∧ Ats w6 (· < w6.heap.size) (some ⟨ga, 0, none⟩) A ∧ Ats w6 (· < w6.heap.size) (some ⟨gb, 0, none⟩) B ∧ Ats w6 (· < w6.heap.size) qx X ∧ Ats w6 (· < w6.heap.size) qw X ∧ Ats w6 (· < w6.heap.size) qy Z) := ⟨M5.out.1.trans (hB6.mono M5.out.1.size), M5.out.2.1.up hB6, M5.out.2.2.1.up hB6, M5.out.2.2.2.1.up hB6, M5.out.2.2.2.2.up hB6, hx⟩
  clear hx hB6 M5
  go_wp2_with fail
  refine (L2.out _ _ _ M6.out.2.1 M6.out.2.2.1).mono ?_
  rintro e w7 ⟨qz, cz, rfl, hx, hB7⟩
  have M7 : Hid (Below w.heap.size w w7 ∧ Ats w7 (· < w7.heap.size) (some ⟨gb, 0, none⟩) B ∧ Ats w7 (· < w7.heap.size) qx X ∧ Ats w7 (· < w7.heap.size) qw X ∧ Ats w7 (· < w7.heap.size) qy Z ∧ Ats w7 (· < w7.heap.size) qz Z) := ⟨M6.out.1.trans (hB7.mono M6.out.1.size), M6.out.2.2.1.up hB7, M6.out.2.2.2.1.up hB7, M6.out.2.2.2.2.1.up hB7, M6.out.2.2.2.2.2.up hB7, hx⟩
  clear hx hB7 M6
  go_wp2_with fail
  refine (J3.out _ _ _ _ M7.out.2.2.2.2.2 M7.out.2.1).mono ?_
  rintro e w8 ⟨qv, cv, rfl, hx, hB8⟩
  have M8 : Hid (Below w.heap.size w w8 ∧ Ats w8 (· < w8.heap.size) qx X ∧ Ats w8 (· < w8.heap.size) qw X ∧ Ats w8 (· < w8.heap.size) qy Z ∧ Ats w8 (· < w8.heap.size) qz Z ∧ Ats w8 (· < w8.heap.size) qv X) := ⟨M7.out.1.trans (hB8.mono M7.out.1.size), M7.out.2.2.1.up hB8, M7.out.2.2.2.1.up hB8, M7.out.2.2.2.2.1.up hB8, M7.out.2.2.2.2.2.up hB8, hx⟩
  clear hx hB8 M7
  go_wp2_with fail
  refine (SX.out _ _ _ _ _ M8.out.2.1 M8.out.2.2.1).mono ?_
  rintro e w9 ⟨rfl, hB9⟩
  have M9 : Hid (Below w.heap.size w w9 ∧ Ats w9 (· < w9.heap.size) qx X ∧ Ats w9 (· < w9.heap.size) qy Z ∧ Ats w9 (· < w9.heap.size) qz Z ∧ Ats w9 (· < w9.heap.size) qv X) := ⟨M8.out.1.trans (hB9.mono M8.out.1.size), M8.out.2.1.up hB9, M8.out.2.2.2.1.up hB9, M8.out.2.2.2.2.1.up hB9, M8.out.2.2.2.2.2.up hB9⟩
  clear hB9 M8
  go_wp2_with fail
  refine (SZ.out _ _ _ _ _ M9.out.2.2.1 M9.out.2.2.2.1).mono ?_
  rintro e w10 ⟨rfl, hB10⟩
  have M10 : Hid (Below w.heap.size w w10 ∧ Ats w10 (· < w10.heap.size) qx X ∧ Ats w10 (· < w10.heap.size) qv X) := ⟨M9.out.1.trans (hB10.mono M9.out.1.size), M9.out.2.1.up hB10, M9.out.2.2.2.2.up hB10⟩
  clear hB10 M9
  go_wp2_with fail
  refine (SX.out _ _ _ _ _ M10.out.2.2 M10.out.2.1).mono ?_
  rintro e w11 ⟨rfl, hB11⟩
  have M11 : Hid (Below w.heap.size w w11) := M10.out.1.trans (hB11.mono M10.out.1.size)
  clear hB11 M10
  go_wp2_with fail
  go_ret
  exact ⟨rfl, M11.out⟩
end Go.Proofs.Ytjgflcffmljapaa
