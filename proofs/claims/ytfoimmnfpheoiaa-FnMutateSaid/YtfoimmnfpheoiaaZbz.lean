import Derived.Test.YtfoimmnfpheoiaaZbw
import Derived.Test.YtfoimmnfpheoiaaZbk
import Derived.Test.YtfoimmnfpheoiaaZbx
import Derived.Test.YtfoimmnfpheoiaaZby
import Derived.Test.YtfoimmnfpheoiaaZbl
namespace Go.Proofs.Ytfoimmnfpheoiaa
open Go.RowKit
set_option linter.unusedSimpArgs false
theorem Ats.upM {W W' : World} {q : Option Addr} {L : List At} (h : Ats W (· < W.heap.size) q L) (hB : Below W.heap.size W W') : Ats W' (· < W'.heap.size) q L := h.same (fun b hb => hB.block b hb) (fun _ hb => Nat.lt_of_lt_of_le hb hB.size)
theorem Byts.upM {w W : World} {q : Option Addr} {l : List UInt8} (h : Byts w (· < w.heap.size) q l) (hB : Below w.heap.size w W) : Byts W (· < w.heap.size) q l := h.same (fun b hb => hB.block b hb) (fun _ h => h)
def JAnsM (W : World) (L : List At) (m : Nat) (c : Int) (e : Ending) (w' : World) : Prop := ∃ q cp, e = .returned (.tuple #[.slice q m cp, .int .i64 c]) ∧ Ats w' (· < w'.heap.size) q L ∧ Below W.heap.size W w'
theorem AAns2.twoM {W w' : World} {L : List At} {c : Int} {e : Ending} (h : AAns2 W L c e w') : JAnsM W L L.length c e w' := by
  obtain ⟨q, cp, e, ho, hb⟩ := h
  exact ⟨q, cp, e, ho.ats.same (fun _ _ => rfl) (fun _ hb => hb.2), hb⟩
set_option maxRecDepth 100000 in
set_option maxHeartbeats 12800000 in
theorem lawFnMutate (l1 l2 : List UInt8) (pa pb : Option Addr) (ca cb : Nat) (w : World) (h1 : Byts w (· < w.heap.size) pa l1) (h2 : Byts w (· < w.heap.size) pb l2) :
    Calls Try.prog 3 #[.slice pa l1.length ca, .slice pb l2.length cb] w fun e w' => e = .returned (.bool true) ∧ Below w.heap.size w w' := by
  by_cases g1 : 1048576 < l1.length
  case pos =>
    have d1a : decide (1048576 < (l1.length : Int)) = true := decide_eq_true (by omega)
    have d1b : decide (1048576 < l1.length) = true := decide_eq_true g1
    go_enter Try.func3, Try.ntmps3
    go_wp2_with fail
    go_ret
    exact ⟨rfl, Below.refl _ _⟩
  have d1a : decide (1048576 < (l1.length : Int)) = false := decide_eq_false (by omega)
  have d1b : decide (1048576 < l1.length) = false := decide_eq_false g1
  by_cases g2 : 1048576 < l2.length
  case pos =>
    have d2a : decide (1048576 < (l2.length : Int)) = true := decide_eq_true (by omega)
    have d2b : decide (1048576 < l2.length) = true := decide_eq_true g2
    go_enter Try.func3, Try.ntmps3
    go_wp2_with fail
    go_ret
    exact ⟨rfl, Below.refl _ _⟩
  have d2a : decide (1048576 < (l2.length : Int)) = false := decide_eq_false (by omega)
  have d2b : decide (1048576 < l2.length) = false := decide_eq_false g2
  have DA : Hid (∀ W, Below w.heap.size w W → Calls Try.prog 4 #[.slice pa l1.length ca, .int .i64 2] W (DatumAns W 2)) := fun W h => drawnS l1 pa ca 2 w.heap.size W h.size (h1.upM h) (by omega) (by omega)
  have DB : Hid (∀ W, Below w.heap.size w W → Calls Try.prog 4 #[.slice pb l2.length cb, .int .i64 2] W (DatumAns W 2)) := fun W h => drawnS l2 pb cb 2 w.heap.size W h.size (h2.upM h) (by omega) (by omega)
  have AA : Hid (∀ W, Below w.heap.size w W → Calls Try.prog 8 #[.slice pa l1.length ca, .int .i64 0, .int .i64 2000] W fun e W' => ∃ k : Nat, e = .returned (.int .i64 (k : Int)) ∧ k < 2000 ∧ Below W.heap.size W W') := fun W h => atS l1 pa ca 2000 _ W (h1.upM h) (by omega) (by omega) (by omega)
  have AB : Hid (∀ W, Below w.heap.size w W → Calls Try.prog 8 #[.slice pb l2.length cb, .int .i64 0, .int .i64 900] W fun e W' => ∃ k : Nat, e = .returned (.int .i64 (k : Int)) ∧ k < 900 ∧ Below W.heap.size W W') := fun W h => atS l2 pb cb 900 _ W (h2.upM h) (by omega) (by omega) (by omega)
  clear h1 h2 g1 g2
  go_enter Try.func3, Try.ntmps3
  go_wp2_with fail
  have M0 : Hid (Below w.heap.size w (w.alloc (.cells #[.string ⟨#[99]⟩, .int .i64 2, .int .i64 0, .int .i64 8, .int .i64 0, .int .i64 0, .string ⟨#[]⟩, .bool false] 24)) ∧ (w.alloc (.cells #[.string ⟨#[99]⟩, .int .i64 2, .int .i64 0, .int .i64 8, .int .i64 0, .int .i64 0, .string ⟨#[]⟩, .bool false] 24)).heap[w.heap.size]? = some (.cells #[.string ⟨#[99]⟩, .int .i64 2, .int .i64 0, .int .i64 8, .int .i64 0, .int .i64 0, .string ⟨#[]⟩, .bool false] 24)) := ⟨below_allocD _ _, heap_newD _ _⟩
  have c_c_0 := cell_at (o := 0) M0.out.2 rfl
  have c_c_1 := cell_at (o := 1) M0.out.2 rfl
  have c_c_2 := cell_at (o := 2) M0.out.2 rfl
  have c_c_3 := cell_at (o := 3) M0.out.2 rfl
  have c_c_4 := cell_at (o := 4) M0.out.2 rfl
  have c_c_5 := cell_at (o := 5) M0.out.2 rfl
  have c_c_6 := cell_at (o := 6) M0.out.2 rfl
  have c_c_7 := cell_at (o := 7) M0.out.2 rfl
  go_wp2_with fail
  refine (DA.out _ M0.out.1).mono ?_
  rintro e w1 ⟨ga, ka, A, rfl, hA4, hAd, hAt, hB⟩
  have M1 : Hid (Below w.heap.size w w1 ∧ w1.heap[w.heap.size]? = some (.cells #[.string ⟨#[99]⟩, .int .i64 2, .int .i64 0, .int .i64 8, .int .i64 0, .int .i64 0, .string ⟨#[]⟩, .bool false] 24) ∧ Ats w1 (· < w1.heap.size) (some ⟨ga, 0, none⟩) A) := ⟨M0.out.1.trans (hB.mono M0.out.1.size), heap_keptD M0.out.2 hB, hAt⟩
  clear c_c_0 c_c_1 c_c_2 c_c_3 c_c_4 c_c_5 c_c_6 c_c_7 M0 hB hAt DA
  have c_c_0 := cell_at (o := 0) M1.out.2.1 rfl
  have c_c_1 := cell_at (o := 1) M1.out.2.1 rfl
  have c_c_2 := cell_at (o := 2) M1.out.2.1 rfl
  have c_c_3 := cell_at (o := 3) M1.out.2.1 rfl
  have c_c_4 := cell_at (o := 4) M1.out.2.1 rfl
  have c_c_5 := cell_at (o := 5) M1.out.2.1 rfl
  have c_c_6 := cell_at (o := 6) M1.out.2.1 rfl
  have c_c_7 := cell_at (o := 7) M1.out.2.1 rfl
  go_wp2_with fail
  refine (DB.out _ M1.out.1).mono ?_
  rintro e w2 ⟨gb, kb, B, rfl, hB4, hBd, hBt, hB⟩
  have M2 : Hid (Below w.heap.size w w2 ∧ w2.heap[w.heap.size]? = some (.cells #[.string ⟨#[99]⟩, .int .i64 2, .int .i64 0, .int .i64 8, .int .i64 0, .int .i64 0, .string ⟨#[]⟩, .bool false] 24) ∧ Ats w2 (· < w2.heap.size) (some ⟨ga, 0, none⟩) A ∧ Ats w2 (· < w2.heap.size) (some ⟨gb, 0, none⟩) B) := ⟨M1.out.1.trans (hB.mono M1.out.1.size), heap_keptD M1.out.2.1 hB, M1.out.2.2.upM hB, hBt⟩
  clear c_c_0 c_c_1 c_c_2 c_c_3 c_c_4 c_c_5 c_c_6 c_c_7 M1 hB hBt DB
  have c_c_0 := cell_at (o := 0) M2.out.2.1 rfl
  have c_c_1 := cell_at (o := 1) M2.out.2.1 rfl
  have c_c_2 := cell_at (o := 2) M2.out.2.1 rfl
  have c_c_3 := cell_at (o := 3) M2.out.2.1 rfl
  have c_c_4 := cell_at (o := 4) M2.out.2.1 rfl
  have c_c_5 := cell_at (o := 5) M2.out.2.1 rfl
  have c_c_6 := cell_at (o := 6) M2.out.2.1 rfl
  have c_c_7 := cell_at (o := 7) M2.out.2.1 rfl
  obtain ⟨m1, m2⟩ := mt_ins hAd hBd hA4 hB4
  obtain ⟨m3, m4⟩ := mt_del hAd hBd hA4 hB4
  obtain ⟨e1, e2, e3, e4, e5, e6⟩ := join_law hAd hBd hA4 hB4
  have bX : (joinR A B).length ≤ 8 ∧ ∀ x ∈ joinR A B, x.t.length ≤ maxLen := by
    obtain ⟨q1, -, q3⟩ := join_drn hAd hBd hA4 hB4
    rw [q1]
    exact ⟨q3, (hAd.join hBd).text⟩
  have bZ : (lessL A B).length ≤ 8 := by
    obtain ⟨q1, -⟩ := less_drn hAd hBd (by omega) (by omega)
    rw [q1]
    have := minus_len' A B
    omega
  have hml : (8 : Nat) ≤ maxLen := by unfold maxLen; omega
  have MI : Hid (∀ W cp cq, Ats W (· < W.heap.size) (some ⟨ga, 0, none⟩) A → Ats W (· < W.heap.size) (some ⟨gb, 0, none⟩) B → Calls Try.prog 5 #[.agg #[.string ⟨#[99]⟩, .int .i64 2, .int .i64 0, .int .i64 8, .int .i64 0, .int .i64 0, .string ⟨#[]⟩, .bool false], .slice (some ⟨ga, 0, none⟩) A.length cp, .agg #[.string ⟨#[]⟩, .int .i64 6, .slice (some ⟨gb, 0, none⟩) B.length cq]] W (JAnsM W (joinR A B) (joinR A B).length 0)) := fun W cp cq h h' => (mtI colT A ⟨[], 6, B⟩ _ cp _ cq W.heap.size W ⟨by show 1 ≤ maxLen; unfold maxLen; omega, by show 0 ≤ maxLen; omega⟩ (by omega) hAd.text (by simp) (by show B.length ≤ _; omega) hBd.text (Nat.le_refl _) h h').mono (fun _ _ hh => by rw [m1, m2] at hh; exact hh.twoM)
  have MD : Hid (∀ W qx cp cq, Ats W (· < W.heap.size) qx (joinR A B) → Ats W (· < W.heap.size) (some ⟨gb, 0, none⟩) B → Calls Try.prog 5 #[.agg #[.string ⟨#[99]⟩, .int .i64 2, .int .i64 0, .int .i64 8, .int .i64 0, .int .i64 0, .string ⟨#[]⟩, .bool false], .slice qx (joinR A B).length cp, .agg #[.string ⟨#[]⟩, .int .i64 7, .slice (some ⟨gb, 0, none⟩) B.length cq]] W (JAnsM W (lessL A B) (lessL A B).length 0)) := fun W qx cp cq h h' => (mtI colT (joinR A B) ⟨[], 7, B⟩ _ cp _ cq W.heap.size W ⟨by show 1 ≤ maxLen; unfold maxLen; omega, by show 0 ≤ maxLen; omega⟩ (Nat.le_trans bX.1 hml) bX.2 (by simp) (by show B.length ≤ _; omega) hBd.text (Nat.le_refl _) h h').mono (fun _ _ hh => by rw [m3, m4] at hh; exact hh.twoM)
  have J1 : Hid (∀ W cp cq, Ats W (· < W.heap.size) (some ⟨ga, 0, none⟩) A → Ats W (· < W.heap.size) (some ⟨gb, 0, none⟩) B → Calls Try.prog 6 #[.slice (some ⟨ga, 0, none⟩) A.length cp, .slice (some ⟨gb, 0, none⟩) B.length cq] W (JAnsM W (joinR A B) (joinR A B).length 0)) := fun W cp cq h h' => (datumJoinO A B _ _ cp cq W.heap.size W (by omega) (by omega) hAd.text hBd.text (Nat.le_refl _) h h').mono (fun _ _ hh => by rw [e1] at hh; exact hh.twoM)
  have L1 : Hid (∀ W cp cq, Ats W (· < W.heap.size) (some ⟨ga, 0, none⟩) A → Ats W (· < W.heap.size) (some ⟨gb, 0, none⟩) B → Calls Try.prog 7 #[.slice (some ⟨ga, 0, none⟩) A.length cp, .slice (some ⟨gb, 0, none⟩) B.length cq] W (JAnsM W (lessL A B) (lessL A B).length 0)) := fun W cp cq h h' => (datumLessI A B _ _ cp cq W.heap.size W (by omega) (by omega) hAd.text hBd.text (Nat.le_refl _) h h').mono (fun _ _ hh => by rw [e3] at hh; exact hh.twoM)
  have SX : Hid (∀ W q q' c c', Ats W (· < W.heap.size) q (joinR A B) → Ats W (· < W.heap.size) q' (joinR A B) → Calls Try.prog 9 #[.slice q (joinR A B).length c, .slice q' (joinR A B).length c'] W fun e w' => e = .returned (.bool true) ∧ Below W.heap.size W w') := fun W q q' c c' h h' => sameDatumS _ q q' c c' _ _ W (by have := bX.1; omega) h h'
  have SZ : Hid (∀ W q q' c c', Ats W (· < W.heap.size) q (lessL A B) → Ats W (· < W.heap.size) q' (lessL A B) → Calls Try.prog 9 #[.slice q (lessL A B).length c, .slice q' (lessL A B).length c'] W fun e w' => e = .returned (.bool true) ∧ Below W.heap.size W w') := fun W q q' c c' h h' => sameDatumS _ q q' c c' _ _ W (by omega) h h'
  clear m1 m2 m3 m4 e1 e2 e3 e4 e5 e6 bX bZ hA4 hAd hB4 hBd hml
  generalize joinR A B = X at *
  generalize lessL A B = Z at *
  go_wp2_with fail
  refine (MI.out _ _ _ M2.out.2.2.1 M2.out.2.2.2).mono ?_
  rintro e w3 ⟨qx, cx, rfl, hx, hB⟩
  have M3 : Hid (Below w.heap.size w w3 ∧ w3.heap[w.heap.size]? = some (.cells #[.string ⟨#[99]⟩, .int .i64 2, .int .i64 0, .int .i64 8, .int .i64 0, .int .i64 0, .string ⟨#[]⟩, .bool false] 24) ∧ Ats w3 (· < w3.heap.size) (some ⟨ga, 0, none⟩) A ∧ Ats w3 (· < w3.heap.size) (some ⟨gb, 0, none⟩) B ∧ Ats w3 (· < w3.heap.size) qx X) := ⟨M2.out.1.trans (hB.mono M2.out.1.size), heap_keptD M2.out.2.1 hB, M2.out.2.2.1.upM hB, M2.out.2.2.2.upM hB, hx⟩
  clear c_c_0 c_c_1 c_c_2 c_c_3 c_c_4 c_c_5 c_c_6 c_c_7 M2 hB hx MI
  have c_c_0 := cell_at (o := 0) M3.out.2.1 rfl
  have c_c_1 := cell_at (o := 1) M3.out.2.1 rfl
  have c_c_2 := cell_at (o := 2) M3.out.2.1 rfl
  have c_c_3 := cell_at (o := 3) M3.out.2.1 rfl
  have c_c_4 := cell_at (o := 4) M3.out.2.1 rfl
  have c_c_5 := cell_at (o := 5) M3.out.2.1 rfl
  have c_c_6 := cell_at (o := 6) M3.out.2.1 rfl
  have c_c_7 := cell_at (o := 7) M3.out.2.1 rfl
  go_wp2_with fail
  refine (MD.out _ _ _ _ M3.out.2.2.2.2 M3.out.2.2.2.1).mono ?_
  rintro e w4 ⟨qy, cy, rfl, hx, hB⟩
  have M4 : Hid (Below w.heap.size w w4 ∧ w4.heap[w.heap.size]? = some (.cells #[.string ⟨#[99]⟩, .int .i64 2, .int .i64 0, .int .i64 8, .int .i64 0, .int .i64 0, .string ⟨#[]⟩, .bool false] 24) ∧ Ats w4 (· < w4.heap.size) (some ⟨ga, 0, none⟩) A ∧ Ats w4 (· < w4.heap.size) (some ⟨gb, 0, none⟩) B ∧ Ats w4 (· < w4.heap.size) qx X ∧ Ats w4 (· < w4.heap.size) qy Z) := ⟨M3.out.1.trans (hB.mono M3.out.1.size), heap_keptD M3.out.2.1 hB, M3.out.2.2.1.upM hB, M3.out.2.2.2.1.upM hB, M3.out.2.2.2.2.upM hB, hx⟩
  clear c_c_0 c_c_1 c_c_2 c_c_3 c_c_4 c_c_5 c_c_6 c_c_7 M3 hB hx MD
  have c_c_0 := cell_at (o := 0) M4.out.2.1 rfl
  have c_c_1 := cell_at (o := 1) M4.out.2.1 rfl
  have c_c_2 := cell_at (o := 2) M4.out.2.1 rfl
  have c_c_3 := cell_at (o := 3) M4.out.2.1 rfl
  have c_c_4 := cell_at (o := 4) M4.out.2.1 rfl
  have c_c_5 := cell_at (o := 5) M4.out.2.1 rfl
  have c_c_6 := cell_at (o := 6) M4.out.2.1 rfl
  have c_c_7 := cell_at (o := 7) M4.out.2.1 rfl
  go_wp2_with fail
  refine (J1.out _ _ _ M4.out.2.2.1 M4.out.2.2.2.1).mono ?_
  rintro e w5 ⟨qj, cj, rfl, hx, hB⟩
  have M5 : Hid (Below w.heap.size w w5 ∧ w5.heap[w.heap.size]? = some (.cells #[.string ⟨#[99]⟩, .int .i64 2, .int .i64 0, .int .i64 8, .int .i64 0, .int .i64 0, .string ⟨#[]⟩, .bool false] 24) ∧ Ats w5 (· < w5.heap.size) (some ⟨ga, 0, none⟩) A ∧ Ats w5 (· < w5.heap.size) (some ⟨gb, 0, none⟩) B ∧ Ats w5 (· < w5.heap.size) qx X ∧ Ats w5 (· < w5.heap.size) qy Z ∧ Ats w5 (· < w5.heap.size) qj X) := ⟨M4.out.1.trans (hB.mono M4.out.1.size), heap_keptD M4.out.2.1 hB, M4.out.2.2.1.upM hB, M4.out.2.2.2.1.upM hB, M4.out.2.2.2.2.1.upM hB, M4.out.2.2.2.2.2.upM hB, hx⟩
  clear c_c_0 c_c_1 c_c_2 c_c_3 c_c_4 c_c_5 c_c_6 c_c_7 M4 hB hx J1
  have c_c_0 := cell_at (o := 0) M5.out.2.1 rfl
  have c_c_1 := cell_at (o := 1) M5.out.2.1 rfl
  have c_c_2 := cell_at (o := 2) M5.out.2.1 rfl
  have c_c_3 := cell_at (o := 3) M5.out.2.1 rfl
  have c_c_4 := cell_at (o := 4) M5.out.2.1 rfl
  have c_c_5 := cell_at (o := 5) M5.out.2.1 rfl
  have c_c_6 := cell_at (o := 6) M5.out.2.1 rfl
  have c_c_7 := cell_at (o := 7) M5.out.2.1 rfl
  go_wp2_with fail
  refine (L1.out _ _ _ M5.out.2.2.1 M5.out.2.2.2.1).mono ?_
  rintro e w6 ⟨ql, cl, rfl, hx, hB⟩
  have M6 : Hid (Below w.heap.size w w6 ∧ Ats w6 (· < w6.heap.size) qx X ∧ Ats w6 (· < w6.heap.size) qy Z ∧ Ats w6 (· < w6.heap.size) qj X ∧ Ats w6 (· < w6.heap.size) ql Z) := ⟨M5.out.1.trans (hB.mono M5.out.1.size), M5.out.2.2.2.2.1.upM hB, M5.out.2.2.2.2.2.1.upM hB, M5.out.2.2.2.2.2.2.upM hB, hx⟩
  clear c_c_0 c_c_1 c_c_2 c_c_3 c_c_4 c_c_5 c_c_6 c_c_7 M5 hB hx L1
  have M7 : Hid (Below w.heap.size w (w6.alloc (.cells #[.string ⟨#[110]⟩, .int .i64 1, .int .i64 0, .int .i64 1, .int .i64 (-5000), .int .i64 5000, .string ⟨#[]⟩, .bool false] 24)) ∧ Ats (w6.alloc (.cells #[.string ⟨#[110]⟩, .int .i64 1, .int .i64 0, .int .i64 1, .int .i64 (-5000), .int .i64 5000, .string ⟨#[]⟩, .bool false] 24)) (· < (w6.alloc (.cells #[.string ⟨#[110]⟩, .int .i64 1, .int .i64 0, .int .i64 1, .int .i64 (-5000), .int .i64 5000, .string ⟨#[]⟩, .bool false] 24)).heap.size) qx X ∧ Ats (w6.alloc (.cells #[.string ⟨#[110]⟩, .int .i64 1, .int .i64 0, .int .i64 1, .int .i64 (-5000), .int .i64 5000, .string ⟨#[]⟩, .bool false] 24)) (· < (w6.alloc (.cells #[.string ⟨#[110]⟩, .int .i64 1, .int .i64 0, .int .i64 1, .int .i64 (-5000), .int .i64 5000, .string ⟨#[]⟩, .bool false] 24)).heap.size) qy Z ∧ Ats (w6.alloc (.cells #[.string ⟨#[110]⟩, .int .i64 1, .int .i64 0, .int .i64 1, .int .i64 (-5000), .int .i64 5000, .string ⟨#[]⟩, .bool false] 24)) (· < (w6.alloc (.cells #[.string ⟨#[110]⟩, .int .i64 1, .int .i64 0, .int .i64 1, .int .i64 (-5000), .int .i64 5000, .string ⟨#[]⟩, .bool false] 24)).heap.size) qj X ∧ Ats (w6.alloc (.cells #[.string ⟨#[110]⟩, .int .i64 1, .int .i64 0, .int .i64 1, .int .i64 (-5000), .int .i64 5000, .string ⟨#[]⟩, .bool false] 24)) (· < (w6.alloc (.cells #[.string ⟨#[110]⟩, .int .i64 1, .int .i64 0, .int .i64 1, .int .i64 (-5000), .int .i64 5000, .string ⟨#[]⟩, .bool false] 24)).heap.size) ql Z ∧ (w6.alloc (.cells #[.string ⟨#[110]⟩, .int .i64 1, .int .i64 0, .int .i64 1, .int .i64 (-5000), .int .i64 5000, .string ⟨#[]⟩, .bool false] 24)).heap[w6.heap.size]? = some (.cells #[.string ⟨#[110]⟩, .int .i64 1, .int .i64 0, .int .i64 1, .int .i64 (-5000), .int .i64 5000, .string ⟨#[]⟩, .bool false] 24)) := ⟨M6.out.1.trans ((below_allocD w6 (.cells #[.string ⟨#[110]⟩, .int .i64 1, .int .i64 0, .int .i64 1, .int .i64 (-5000), .int .i64 5000, .string ⟨#[]⟩, .bool false] 24)).mono M6.out.1.size), M6.out.2.1.upM (below_allocD w6 (.cells #[.string ⟨#[110]⟩, .int .i64 1, .int .i64 0, .int .i64 1, .int .i64 (-5000), .int .i64 5000, .string ⟨#[]⟩, .bool false] 24)), M6.out.2.2.1.upM (below_allocD w6 (.cells #[.string ⟨#[110]⟩, .int .i64 1, .int .i64 0, .int .i64 1, .int .i64 (-5000), .int .i64 5000, .string ⟨#[]⟩, .bool false] 24)), M6.out.2.2.2.1.upM (below_allocD w6 (.cells #[.string ⟨#[110]⟩, .int .i64 1, .int .i64 0, .int .i64 1, .int .i64 (-5000), .int .i64 5000, .string ⟨#[]⟩, .bool false] 24)), M6.out.2.2.2.2.upM (below_allocD w6 (.cells #[.string ⟨#[110]⟩, .int .i64 1, .int .i64 0, .int .i64 1, .int .i64 (-5000), .int .i64 5000, .string ⟨#[]⟩, .bool false] 24)), heap_newD _ _⟩
  clear  M6 
  have c_n_0 := cell_at (o := 0) M7.out.2.2.2.2.2 rfl
  have c_n_1 := cell_at (o := 1) M7.out.2.2.2.2.2 rfl
  have c_n_2 := cell_at (o := 2) M7.out.2.2.2.2.2 rfl
  have c_n_3 := cell_at (o := 3) M7.out.2.2.2.2.2 rfl
  have c_n_4 := cell_at (o := 4) M7.out.2.2.2.2.2 rfl
  have c_n_5 := cell_at (o := 5) M7.out.2.2.2.2.2 rfl
  have c_n_6 := cell_at (o := 6) M7.out.2.2.2.2.2 rfl
  have c_n_7 := cell_at (o := 7) M7.out.2.2.2.2.2 rfl
  go_wp2_with fail
  refine (AA.out _ M7.out.1).mono ?_
  rintro e w7 ⟨k1, rfl, hk1, hB⟩
  have M8 : Hid (Below w.heap.size w w7 ∧ Ats w7 (· < w7.heap.size) qx X ∧ Ats w7 (· < w7.heap.size) qy Z ∧ Ats w7 (· < w7.heap.size) qj X ∧ Ats w7 (· < w7.heap.size) ql Z ∧ w7.heap[w6.heap.size]? = some (.cells #[.string ⟨#[110]⟩, .int .i64 1, .int .i64 0, .int .i64 1, .int .i64 (-5000), .int .i64 5000, .string ⟨#[]⟩, .bool false] 24)) := ⟨M7.out.1.trans (hB.mono M7.out.1.size), M7.out.2.1.upM hB, M7.out.2.2.1.upM hB, M7.out.2.2.2.1.upM hB, M7.out.2.2.2.2.1.upM hB, heap_keptD M7.out.2.2.2.2.2 hB⟩
  clear c_n_0 c_n_1 c_n_2 c_n_3 c_n_4 c_n_5 c_n_6 c_n_7 M7 hB AA
  have c_n_0 := cell_at (o := 0) M8.out.2.2.2.2.2 rfl
  have c_n_1 := cell_at (o := 1) M8.out.2.2.2.2.2 rfl
  have c_n_2 := cell_at (o := 2) M8.out.2.2.2.2.2 rfl
  have c_n_3 := cell_at (o := 3) M8.out.2.2.2.2.2 rfl
  have c_n_4 := cell_at (o := 4) M8.out.2.2.2.2.2 rfl
  have c_n_5 := cell_at (o := 5) M8.out.2.2.2.2.2 rfl
  have c_n_6 := cell_at (o := 6) M8.out.2.2.2.2.2 rfl
  have c_n_7 := cell_at (o := 7) M8.out.2.2.2.2.2 rfl
  obtain ⟨a, ea⟩ : ∃ a : Int, a = (k1 : Int) - 1000 := ⟨_, rfl⟩
  have fa : IntKind.i64.wrap ((k1 : Int) - 1000) = a := by rw [IntKind.wrap_i64]; omega
  have HA : Hid (-1000 ≤ a ∧ a ≤ 1000) := by show _ ∧ _; omega
  clear ea hk1
  have M9 : Hid (Below w.heap.size w (w7.alloc (.cells #[.int .i64 1, .int .i64 a, .string ⟨#[]⟩] 34)) ∧ Ats (w7.alloc (.cells #[.int .i64 1, .int .i64 a, .string ⟨#[]⟩] 34)) (· < (w7.alloc (.cells #[.int .i64 1, .int .i64 a, .string ⟨#[]⟩] 34)).heap.size) qx X ∧ Ats (w7.alloc (.cells #[.int .i64 1, .int .i64 a, .string ⟨#[]⟩] 34)) (· < (w7.alloc (.cells #[.int .i64 1, .int .i64 a, .string ⟨#[]⟩] 34)).heap.size) qy Z ∧ Ats (w7.alloc (.cells #[.int .i64 1, .int .i64 a, .string ⟨#[]⟩] 34)) (· < (w7.alloc (.cells #[.int .i64 1, .int .i64 a, .string ⟨#[]⟩] 34)).heap.size) qj X ∧ Ats (w7.alloc (.cells #[.int .i64 1, .int .i64 a, .string ⟨#[]⟩] 34)) (· < (w7.alloc (.cells #[.int .i64 1, .int .i64 a, .string ⟨#[]⟩] 34)).heap.size) ql Z ∧ (w7.alloc (.cells #[.int .i64 1, .int .i64 a, .string ⟨#[]⟩] 34)).heap[w6.heap.size]? = some (.cells #[.string ⟨#[110]⟩, .int .i64 1, .int .i64 0, .int .i64 1, .int .i64 (-5000), .int .i64 5000, .string ⟨#[]⟩, .bool false] 24) ∧ Ats (w7.alloc (.cells #[.int .i64 1, .int .i64 a, .string ⟨#[]⟩] 34)) (· < (w7.alloc (.cells #[.int .i64 1, .int .i64 a, .string ⟨#[]⟩] 34)).heap.size) (some ⟨w7.heap.size, 0, none⟩) [⟨1, a, []⟩]) := ⟨M8.out.1.trans ((below_allocD w7 (.cells #[.int .i64 1, .int .i64 a, .string ⟨#[]⟩] 34)).mono M8.out.1.size), M8.out.2.1.upM (below_allocD w7 (.cells #[.int .i64 1, .int .i64 a, .string ⟨#[]⟩] 34)), M8.out.2.2.1.upM (below_allocD w7 (.cells #[.int .i64 1, .int .i64 a, .string ⟨#[]⟩] 34)), M8.out.2.2.2.1.upM (below_allocD w7 (.cells #[.int .i64 1, .int .i64 a, .string ⟨#[]⟩] 34)), M8.out.2.2.2.2.1.upM (below_allocD w7 (.cells #[.int .i64 1, .int .i64 a, .string ⟨#[]⟩] 34)), heap_keptD M8.out.2.2.2.2.2 (below_allocD w7 (.cells #[.int .i64 1, .int .i64 a, .string ⟨#[]⟩] 34)), ats_one (heap_newD _ _)⟩
  clear c_n_0 c_n_1 c_n_2 c_n_3 c_n_4 c_n_5 c_n_6 c_n_7 M8 
  have c_n_0 := cell_at (o := 0) M9.out.2.2.2.2.2.1 rfl
  have c_n_1 := cell_at (o := 1) M9.out.2.2.2.2.2.1 rfl
  have c_n_2 := cell_at (o := 2) M9.out.2.2.2.2.2.1 rfl
  have c_n_3 := cell_at (o := 3) M9.out.2.2.2.2.2.1 rfl
  have c_n_4 := cell_at (o := 4) M9.out.2.2.2.2.2.1 rfl
  have c_n_5 := cell_at (o := 5) M9.out.2.2.2.2.2.1 rfl
  have c_n_6 := cell_at (o := 6) M9.out.2.2.2.2.2.1 rfl
  have c_n_7 := cell_at (o := 7) M9.out.2.2.2.2.2.1 rfl
  go_wp2_with fail
  refine (AB.out _ M9.out.1).mono ?_
  rintro e w8 ⟨k2, rfl, hk2, hB⟩
  have M10 : Hid (Below w.heap.size w w8 ∧ Ats w8 (· < w8.heap.size) qx X ∧ Ats w8 (· < w8.heap.size) qy Z ∧ Ats w8 (· < w8.heap.size) qj X ∧ Ats w8 (· < w8.heap.size) ql Z ∧ w8.heap[w6.heap.size]? = some (.cells #[.string ⟨#[110]⟩, .int .i64 1, .int .i64 0, .int .i64 1, .int .i64 (-5000), .int .i64 5000, .string ⟨#[]⟩, .bool false] 24) ∧ Ats w8 (· < w8.heap.size) (some ⟨w7.heap.size, 0, none⟩) [⟨1, a, []⟩]) := ⟨M9.out.1.trans (hB.mono M9.out.1.size), M9.out.2.1.upM hB, M9.out.2.2.1.upM hB, M9.out.2.2.2.1.upM hB, M9.out.2.2.2.2.1.upM hB, heap_keptD M9.out.2.2.2.2.2.1 hB, M9.out.2.2.2.2.2.2.upM hB⟩
  clear c_n_0 c_n_1 c_n_2 c_n_3 c_n_4 c_n_5 c_n_6 c_n_7 M9 hB AB
  have c_n_0 := cell_at (o := 0) M10.out.2.2.2.2.2.1 rfl
  have c_n_1 := cell_at (o := 1) M10.out.2.2.2.2.2.1 rfl
  have c_n_2 := cell_at (o := 2) M10.out.2.2.2.2.2.1 rfl
  have c_n_3 := cell_at (o := 3) M10.out.2.2.2.2.2.1 rfl
  have c_n_4 := cell_at (o := 4) M10.out.2.2.2.2.2.1 rfl
  have c_n_5 := cell_at (o := 5) M10.out.2.2.2.2.2.1 rfl
  have c_n_6 := cell_at (o := 6) M10.out.2.2.2.2.2.1 rfl
  have c_n_7 := cell_at (o := 7) M10.out.2.2.2.2.2.1 rfl
  obtain ⟨b, eb⟩ : ∃ b : Int, b = 1 + (k2 : Int) := ⟨_, rfl⟩
  have fb : IntKind.i64.wrap (1 + (k2 : Int)) = b := by rw [IntKind.wrap_i64]; omega
  have HB : Hid (1 ≤ b ∧ b ≤ 900) := by show _ ∧ _; omega
  clear eb hk2
  have M11 : Hid (Below w.heap.size w (w8.alloc (.cells #[.int .i64 1, .int .i64 b, .string ⟨#[]⟩] 34)) ∧ Ats (w8.alloc (.cells #[.int .i64 1, .int .i64 b, .string ⟨#[]⟩] 34)) (· < (w8.alloc (.cells #[.int .i64 1, .int .i64 b, .string ⟨#[]⟩] 34)).heap.size) qx X ∧ Ats (w8.alloc (.cells #[.int .i64 1, .int .i64 b, .string ⟨#[]⟩] 34)) (· < (w8.alloc (.cells #[.int .i64 1, .int .i64 b, .string ⟨#[]⟩] 34)).heap.size) qy Z ∧ Ats (w8.alloc (.cells #[.int .i64 1, .int .i64 b, .string ⟨#[]⟩] 34)) (· < (w8.alloc (.cells #[.int .i64 1, .int .i64 b, .string ⟨#[]⟩] 34)).heap.size) qj X ∧ Ats (w8.alloc (.cells #[.int .i64 1, .int .i64 b, .string ⟨#[]⟩] 34)) (· < (w8.alloc (.cells #[.int .i64 1, .int .i64 b, .string ⟨#[]⟩] 34)).heap.size) ql Z ∧ (w8.alloc (.cells #[.int .i64 1, .int .i64 b, .string ⟨#[]⟩] 34)).heap[w6.heap.size]? = some (.cells #[.string ⟨#[110]⟩, .int .i64 1, .int .i64 0, .int .i64 1, .int .i64 (-5000), .int .i64 5000, .string ⟨#[]⟩, .bool false] 24) ∧ Ats (w8.alloc (.cells #[.int .i64 1, .int .i64 b, .string ⟨#[]⟩] 34)) (· < (w8.alloc (.cells #[.int .i64 1, .int .i64 b, .string ⟨#[]⟩] 34)).heap.size) (some ⟨w7.heap.size, 0, none⟩) [⟨1, a, []⟩] ∧ Ats (w8.alloc (.cells #[.int .i64 1, .int .i64 b, .string ⟨#[]⟩] 34)) (· < (w8.alloc (.cells #[.int .i64 1, .int .i64 b, .string ⟨#[]⟩] 34)).heap.size) (some ⟨w8.heap.size, 0, none⟩) [⟨1, b, []⟩]) := ⟨M10.out.1.trans ((below_allocD w8 (.cells #[.int .i64 1, .int .i64 b, .string ⟨#[]⟩] 34)).mono M10.out.1.size), M10.out.2.1.upM (below_allocD w8 (.cells #[.int .i64 1, .int .i64 b, .string ⟨#[]⟩] 34)), M10.out.2.2.1.upM (below_allocD w8 (.cells #[.int .i64 1, .int .i64 b, .string ⟨#[]⟩] 34)), M10.out.2.2.2.1.upM (below_allocD w8 (.cells #[.int .i64 1, .int .i64 b, .string ⟨#[]⟩] 34)), M10.out.2.2.2.2.1.upM (below_allocD w8 (.cells #[.int .i64 1, .int .i64 b, .string ⟨#[]⟩] 34)), heap_keptD M10.out.2.2.2.2.2.1 (below_allocD w8 (.cells #[.int .i64 1, .int .i64 b, .string ⟨#[]⟩] 34)), M10.out.2.2.2.2.2.2.upM (below_allocD w8 (.cells #[.int .i64 1, .int .i64 b, .string ⟨#[]⟩] 34)), ats_one (heap_newD _ _)⟩
  clear c_n_0 c_n_1 c_n_2 c_n_3 c_n_4 c_n_5 c_n_6 c_n_7 M10 
  have c_n_0 := cell_at (o := 0) M11.out.2.2.2.2.2.1 rfl
  have c_n_1 := cell_at (o := 1) M11.out.2.2.2.2.2.1 rfl
  have c_n_2 := cell_at (o := 2) M11.out.2.2.2.2.2.1 rfl
  have c_n_3 := cell_at (o := 3) M11.out.2.2.2.2.2.1 rfl
  have c_n_4 := cell_at (o := 4) M11.out.2.2.2.2.2.1 rfl
  have c_n_5 := cell_at (o := 5) M11.out.2.2.2.2.2.1 rfl
  have c_n_6 := cell_at (o := 6) M11.out.2.2.2.2.2.1 rfl
  have c_n_7 := cell_at (o := 7) M11.out.2.2.2.2.2.1 rfl
  have HQ := Lib.hid (quo_rest HA.out HB.out)
  have NA : Hid (∀ W q q' cp cq, Ats W (· < W.heap.size) q [⟨1, a, []⟩] → Ats W (· < W.heap.size) q' [⟨1, b, []⟩] → Calls Try.prog 5 #[.agg #[.string ⟨#[110]⟩, .int .i64 1, .int .i64 0, .int .i64 1, .int .i64 (-5000), .int .i64 5000, .string ⟨#[]⟩, .bool false], .slice q 1 cp, .agg #[.string ⟨#[]⟩, .int .i64 1, .slice q' 1 cq]] W (JAnsM W [⟨1, (a + b), []⟩] 1 0)) := by
    have ha := HA.out; have hb := HB.out; have hq := HQ.out
    have hn := mt_num (a := a) (b := b) (f := 1) (by omega) (by omega) (by omega) (by rw [show numR 1 (a) b = (a + b) from rfl]; omega)
    rw [show numR 1 (a) b = (a + b) from rfl] at hn
    intro W q q' cp cq h h'
    exact (mtI colN [⟨1, a, []⟩] ⟨[], 1, [⟨1, b, []⟩]⟩ q cp q' cq W.heap.size W ⟨by show 1 ≤ maxLen; unfold maxLen; omega, by show 0 ≤ maxLen; omega⟩ (by show 1 ≤ maxLen; unfold maxLen; omega) (by intro y hy; rw [List.mem_singleton.1 hy]; simp) (by simp) (by show 1 ≤ maxLen; unfold maxLen; omega) (by intro y hy; rw [List.mem_singleton.1 hy]; simp) (Nat.le_refl _) h h').mono (fun _ _ hh => by rw [hn.1, hn.2] at hh; exact hh.twoM)
  have NS : Hid (∀ W q q' cp cq, Ats W (· < W.heap.size) q [⟨1, (a + b), []⟩] → Ats W (· < W.heap.size) q' [⟨1, b, []⟩] → Calls Try.prog 5 #[.agg #[.string ⟨#[110]⟩, .int .i64 1, .int .i64 0, .int .i64 1, .int .i64 (-5000), .int .i64 5000, .string ⟨#[]⟩, .bool false], .slice q 1 cp, .agg #[.string ⟨#[]⟩, .int .i64 2, .slice q' 1 cq]] W (JAnsM W [⟨1, a, []⟩] 1 0)) := by
    have ha := HA.out; have hb := HB.out; have hq := HQ.out
    have hn := mt_num (a := (a + b)) (b := b) (f := 2) (by omega) (by omega) (by omega) (by rw [show numR 2 ((a + b)) b = a from by show a + b - b = a; omega]; omega)
    rw [show numR 2 ((a + b)) b = a from by show a + b - b = a; omega] at hn
    intro W q q' cp cq h h'
    exact (mtI colN [⟨1, (a + b), []⟩] ⟨[], 2, [⟨1, b, []⟩]⟩ q cp q' cq W.heap.size W ⟨by show 1 ≤ maxLen; unfold maxLen; omega, by show 0 ≤ maxLen; omega⟩ (by show 1 ≤ maxLen; unfold maxLen; omega) (by intro y hy; rw [List.mem_singleton.1 hy]; simp) (by simp) (by show 1 ≤ maxLen; unfold maxLen; omega) (by intro y hy; rw [List.mem_singleton.1 hy]; simp) (Nat.le_refl _) h h').mono (fun _ _ hh => by rw [hn.1, hn.2] at hh; exact hh.twoM)
  have ND : Hid (∀ W q q' cp cq, Ats W (· < W.heap.size) q [⟨1, a, []⟩] → Ats W (· < W.heap.size) q' [⟨1, b, []⟩] → Calls Try.prog 5 #[.agg #[.string ⟨#[110]⟩, .int .i64 1, .int .i64 0, .int .i64 1, .int .i64 (-5000), .int .i64 5000, .string ⟨#[]⟩, .bool false], .slice q 1 cp, .agg #[.string ⟨#[]⟩, .int .i64 4, .slice q' 1 cq]] W (JAnsM W [⟨1, (a.tdiv b), []⟩] 1 0)) := by
    have ha := HA.out; have hb := HB.out; have hq := HQ.out
    have hn := mt_num (a := a) (b := b) (f := 4) (by omega) (by omega) (by omega) (by rw [show numR 4 (a) b = (a.tdiv b) from rfl]; omega)
    rw [show numR 4 (a) b = (a.tdiv b) from rfl] at hn
    intro W q q' cp cq h h'
    exact (mtI colN [⟨1, a, []⟩] ⟨[], 4, [⟨1, b, []⟩]⟩ q cp q' cq W.heap.size W ⟨by show 1 ≤ maxLen; unfold maxLen; omega, by show 0 ≤ maxLen; omega⟩ (by show 1 ≤ maxLen; unfold maxLen; omega) (by intro y hy; rw [List.mem_singleton.1 hy]; simp) (by simp) (by show 1 ≤ maxLen; unfold maxLen; omega) (by intro y hy; rw [List.mem_singleton.1 hy]; simp) (Nat.le_refl _) h h').mono (fun _ _ hh => by rw [hn.1, hn.2] at hh; exact hh.twoM)
  have NM : Hid (∀ W q q' cp cq, Ats W (· < W.heap.size) q [⟨1, a, []⟩] → Ats W (· < W.heap.size) q' [⟨1, b, []⟩] → Calls Try.prog 5 #[.agg #[.string ⟨#[110]⟩, .int .i64 1, .int .i64 0, .int .i64 1, .int .i64 (-5000), .int .i64 5000, .string ⟨#[]⟩, .bool false], .slice q 1 cp, .agg #[.string ⟨#[]⟩, .int .i64 5, .slice q' 1 cq]] W (JAnsM W [⟨1, (a.tmod b), []⟩] 1 0)) := by
    have ha := HA.out; have hb := HB.out; have hq := HQ.out
    have hn := mt_num (a := a) (b := b) (f := 5) (by omega) (by omega) (by omega) (by rw [show numR 5 (a) b = (a.tmod b) from rfl]; omega)
    rw [show numR 5 (a) b = (a.tmod b) from rfl] at hn
    intro W q q' cp cq h h'
    exact (mtI colN [⟨1, a, []⟩] ⟨[], 5, [⟨1, b, []⟩]⟩ q cp q' cq W.heap.size W ⟨by show 1 ≤ maxLen; unfold maxLen; omega, by show 0 ≤ maxLen; omega⟩ (by show 1 ≤ maxLen; unfold maxLen; omega) (by intro y hy; rw [List.mem_singleton.1 hy]; simp) (by simp) (by show 1 ≤ maxLen; unfold maxLen; omega) (by intro y hy; rw [List.mem_singleton.1 hy]; simp) (Nat.le_refl _) h h').mono (fun _ _ hh => by rw [hn.1, hn.2] at hh; exact hh.twoM)
  have NZ : Hid (∀ W q q' cp cq, Ats W (· < W.heap.size) q [⟨1, a, []⟩] → Ats W (· < W.heap.size) q' [⟨1, 0, []⟩] → Calls Try.prog 5 #[.agg #[.string ⟨#[110]⟩, .int .i64 1, .int .i64 0, .int .i64 1, .int .i64 (-5000), .int .i64 5000, .string ⟨#[]⟩, .bool false], .slice q 1 cp, .agg #[.string ⟨#[]⟩, .int .i64 4, .slice q' 1 cq]] W (JAnsM W [] 0 4)) := by
    have ha := HA.out
    have hn := mt_zero (a := a) (by omega)
    intro W q q' cp cq h h'
    exact (mtI colN [⟨1, a, []⟩] ⟨[], 4, [⟨1, 0, []⟩]⟩ q cp q' cq W.heap.size W ⟨by show 1 ≤ maxLen; unfold maxLen; omega, by show 0 ≤ maxLen; omega⟩ (by show 1 ≤ maxLen; unfold maxLen; omega) (by intro y hy; rw [List.mem_singleton.1 hy]; simp) (by simp) (by show 1 ≤ maxLen; unfold maxLen; omega) (by intro y hy; rw [List.mem_singleton.1 hy]; simp) (Nat.le_refl _) h h').mono (fun _ _ hh => by rw [hn.1, hn.2] at hh; exact hh.twoM)
  have SO : Hid (∀ W q q' c c', Ats W (· < W.heap.size) q [⟨1, a, []⟩] → Ats W (· < W.heap.size) q' [⟨1, a, []⟩] → Calls Try.prog 9 #[.slice q 1 c, .slice q' 1 c'] W fun e w' => e = .returned (.bool true) ∧ Below W.heap.size W w') := fun W q q' c c' h h' => sameDatumS [⟨1, a, []⟩] q q' c c' _ _ W (by simp) h h'
  have fab : Hid True := trivial
  go_wp2_with fail
  refine (NA.out _ _ _ _ _ M11.out.2.2.2.2.2.2.1 M11.out.2.2.2.2.2.2.2).mono ?_
  rintro e w9 ⟨qp, cp, rfl, hx, hB⟩
  have M12 : Hid (Below w.heap.size w w9 ∧ Ats w9 (· < w9.heap.size) qx X ∧ Ats w9 (· < w9.heap.size) qy Z ∧ Ats w9 (· < w9.heap.size) qj X ∧ Ats w9 (· < w9.heap.size) ql Z ∧ w9.heap[w6.heap.size]? = some (.cells #[.string ⟨#[110]⟩, .int .i64 1, .int .i64 0, .int .i64 1, .int .i64 (-5000), .int .i64 5000, .string ⟨#[]⟩, .bool false] 24) ∧ Ats w9 (· < w9.heap.size) (some ⟨w7.heap.size, 0, none⟩) [⟨1, a, []⟩] ∧ Ats w9 (· < w9.heap.size) (some ⟨w8.heap.size, 0, none⟩) [⟨1, b, []⟩] ∧ Ats w9 (· < w9.heap.size) qp [⟨1, a + b, []⟩]) := ⟨M11.out.1.trans (hB.mono M11.out.1.size), M11.out.2.1.upM hB, M11.out.2.2.1.upM hB, M11.out.2.2.2.1.upM hB, M11.out.2.2.2.2.1.upM hB, heap_keptD M11.out.2.2.2.2.2.1 hB, M11.out.2.2.2.2.2.2.1.upM hB, M11.out.2.2.2.2.2.2.2.upM hB, hx⟩
  clear c_n_0 c_n_1 c_n_2 c_n_3 c_n_4 c_n_5 c_n_6 c_n_7 M11 hB hx NA
  have c_n_0 := cell_at (o := 0) M12.out.2.2.2.2.2.1 rfl
  have c_n_1 := cell_at (o := 1) M12.out.2.2.2.2.2.1 rfl
  have c_n_2 := cell_at (o := 2) M12.out.2.2.2.2.2.1 rfl
  have c_n_3 := cell_at (o := 3) M12.out.2.2.2.2.2.1 rfl
  have c_n_4 := cell_at (o := 4) M12.out.2.2.2.2.2.1 rfl
  have c_n_5 := cell_at (o := 5) M12.out.2.2.2.2.2.1 rfl
  have c_n_6 := cell_at (o := 6) M12.out.2.2.2.2.2.1 rfl
  have c_n_7 := cell_at (o := 7) M12.out.2.2.2.2.2.1 rfl
  go_wp2_with fail
  refine (NS.out _ _ _ _ _ M12.out.2.2.2.2.2.2.2.2 M12.out.2.2.2.2.2.2.2.1).mono ?_
  rintro e w10 ⟨qq, cq, rfl, hx, hB⟩
  have M13 : Hid (Below w.heap.size w w10 ∧ Ats w10 (· < w10.heap.size) qx X ∧ Ats w10 (· < w10.heap.size) qy Z ∧ Ats w10 (· < w10.heap.size) qj X ∧ Ats w10 (· < w10.heap.size) ql Z ∧ w10.heap[w6.heap.size]? = some (.cells #[.string ⟨#[110]⟩, .int .i64 1, .int .i64 0, .int .i64 1, .int .i64 (-5000), .int .i64 5000, .string ⟨#[]⟩, .bool false] 24) ∧ Ats w10 (· < w10.heap.size) (some ⟨w7.heap.size, 0, none⟩) [⟨1, a, []⟩] ∧ Ats w10 (· < w10.heap.size) (some ⟨w8.heap.size, 0, none⟩) [⟨1, b, []⟩] ∧ Ats w10 (· < w10.heap.size) qq [⟨1, a, []⟩]) := ⟨M12.out.1.trans (hB.mono M12.out.1.size), M12.out.2.1.upM hB, M12.out.2.2.1.upM hB, M12.out.2.2.2.1.upM hB, M12.out.2.2.2.2.1.upM hB, heap_keptD M12.out.2.2.2.2.2.1 hB, M12.out.2.2.2.2.2.2.1.upM hB, M12.out.2.2.2.2.2.2.2.1.upM hB, hx⟩
  clear c_n_0 c_n_1 c_n_2 c_n_3 c_n_4 c_n_5 c_n_6 c_n_7 M12 hB hx NS
  have c_n_0 := cell_at (o := 0) M13.out.2.2.2.2.2.1 rfl
  have c_n_1 := cell_at (o := 1) M13.out.2.2.2.2.2.1 rfl
  have c_n_2 := cell_at (o := 2) M13.out.2.2.2.2.2.1 rfl
  have c_n_3 := cell_at (o := 3) M13.out.2.2.2.2.2.1 rfl
  have c_n_4 := cell_at (o := 4) M13.out.2.2.2.2.2.1 rfl
  have c_n_5 := cell_at (o := 5) M13.out.2.2.2.2.2.1 rfl
  have c_n_6 := cell_at (o := 6) M13.out.2.2.2.2.2.1 rfl
  have c_n_7 := cell_at (o := 7) M13.out.2.2.2.2.2.1 rfl
  go_wp2_with fail
  refine (ND.out _ _ _ _ _ M13.out.2.2.2.2.2.2.1 M13.out.2.2.2.2.2.2.2.1).mono ?_
  rintro e w11 ⟨qu, cu, rfl, hx, hB⟩
  have M14 : Hid (Below w.heap.size w w11 ∧ Ats w11 (· < w11.heap.size) qx X ∧ Ats w11 (· < w11.heap.size) qy Z ∧ Ats w11 (· < w11.heap.size) qj X ∧ Ats w11 (· < w11.heap.size) ql Z ∧ w11.heap[w6.heap.size]? = some (.cells #[.string ⟨#[110]⟩, .int .i64 1, .int .i64 0, .int .i64 1, .int .i64 (-5000), .int .i64 5000, .string ⟨#[]⟩, .bool false] 24) ∧ Ats w11 (· < w11.heap.size) (some ⟨w7.heap.size, 0, none⟩) [⟨1, a, []⟩] ∧ Ats w11 (· < w11.heap.size) (some ⟨w8.heap.size, 0, none⟩) [⟨1, b, []⟩] ∧ Ats w11 (· < w11.heap.size) qq [⟨1, a, []⟩] ∧ Ats w11 (· < w11.heap.size) qu [⟨1, a.tdiv b, []⟩]) := ⟨M13.out.1.trans (hB.mono M13.out.1.size), M13.out.2.1.upM hB, M13.out.2.2.1.upM hB, M13.out.2.2.2.1.upM hB, M13.out.2.2.2.2.1.upM hB, heap_keptD M13.out.2.2.2.2.2.1 hB, M13.out.2.2.2.2.2.2.1.upM hB, M13.out.2.2.2.2.2.2.2.1.upM hB, M13.out.2.2.2.2.2.2.2.2.upM hB, hx⟩
  clear c_n_0 c_n_1 c_n_2 c_n_3 c_n_4 c_n_5 c_n_6 c_n_7 M13 hB hx ND
  have c_n_0 := cell_at (o := 0) M14.out.2.2.2.2.2.1 rfl
  have c_n_1 := cell_at (o := 1) M14.out.2.2.2.2.2.1 rfl
  have c_n_2 := cell_at (o := 2) M14.out.2.2.2.2.2.1 rfl
  have c_n_3 := cell_at (o := 3) M14.out.2.2.2.2.2.1 rfl
  have c_n_4 := cell_at (o := 4) M14.out.2.2.2.2.2.1 rfl
  have c_n_5 := cell_at (o := 5) M14.out.2.2.2.2.2.1 rfl
  have c_n_6 := cell_at (o := 6) M14.out.2.2.2.2.2.1 rfl
  have c_n_7 := cell_at (o := 7) M14.out.2.2.2.2.2.1 rfl
  go_wp2_with fail
  refine (NM.out _ _ _ _ _ M14.out.2.2.2.2.2.2.1 M14.out.2.2.2.2.2.2.2.1).mono ?_
  rintro e w12 ⟨qw, cw, rfl, hx, hB⟩
  have M15 : Hid (Below w.heap.size w w12 ∧ Ats w12 (· < w12.heap.size) qx X ∧ Ats w12 (· < w12.heap.size) qy Z ∧ Ats w12 (· < w12.heap.size) qj X ∧ Ats w12 (· < w12.heap.size) ql Z ∧ w12.heap[w6.heap.size]? = some (.cells #[.string ⟨#[110]⟩, .int .i64 1, .int .i64 0, .int .i64 1, .int .i64 (-5000), .int .i64 5000, .string ⟨#[]⟩, .bool false] 24) ∧ Ats w12 (· < w12.heap.size) (some ⟨w7.heap.size, 0, none⟩) [⟨1, a, []⟩] ∧ Ats w12 (· < w12.heap.size) (some ⟨w8.heap.size, 0, none⟩) [⟨1, b, []⟩] ∧ Ats w12 (· < w12.heap.size) qq [⟨1, a, []⟩] ∧ Ats w12 (· < w12.heap.size) qu [⟨1, a.tdiv b, []⟩] ∧ Ats w12 (· < w12.heap.size) qw [⟨1, a.tmod b, []⟩]) := ⟨M14.out.1.trans (hB.mono M14.out.1.size), M14.out.2.1.upM hB, M14.out.2.2.1.upM hB, M14.out.2.2.2.1.upM hB, M14.out.2.2.2.2.1.upM hB, heap_keptD M14.out.2.2.2.2.2.1 hB, M14.out.2.2.2.2.2.2.1.upM hB, M14.out.2.2.2.2.2.2.2.1.upM hB, M14.out.2.2.2.2.2.2.2.2.1.upM hB, M14.out.2.2.2.2.2.2.2.2.2.upM hB, hx⟩
  clear c_n_0 c_n_1 c_n_2 c_n_3 c_n_4 c_n_5 c_n_6 c_n_7 M14 hB hx NM
  have c_n_0 := cell_at (o := 0) M15.out.2.2.2.2.2.1 rfl
  have c_n_1 := cell_at (o := 1) M15.out.2.2.2.2.2.1 rfl
  have c_n_2 := cell_at (o := 2) M15.out.2.2.2.2.2.1 rfl
  have c_n_3 := cell_at (o := 3) M15.out.2.2.2.2.2.1 rfl
  have c_n_4 := cell_at (o := 4) M15.out.2.2.2.2.2.1 rfl
  have c_n_5 := cell_at (o := 5) M15.out.2.2.2.2.2.1 rfl
  have c_n_6 := cell_at (o := 6) M15.out.2.2.2.2.2.1 rfl
  have c_n_7 := cell_at (o := 7) M15.out.2.2.2.2.2.1 rfl
  go_wp2_with fail
  refine (SX.out _ _ _ _ _ M15.out.2.1 M15.out.2.2.2.1).mono ?_
  rintro e w13 ⟨rfl, hB⟩
  have M16 : Hid (Below w.heap.size w w13 ∧ Ats w13 (· < w13.heap.size) qy Z ∧ Ats w13 (· < w13.heap.size) ql Z ∧ w13.heap[w6.heap.size]? = some (.cells #[.string ⟨#[110]⟩, .int .i64 1, .int .i64 0, .int .i64 1, .int .i64 (-5000), .int .i64 5000, .string ⟨#[]⟩, .bool false] 24) ∧ Ats w13 (· < w13.heap.size) (some ⟨w7.heap.size, 0, none⟩) [⟨1, a, []⟩] ∧ Ats w13 (· < w13.heap.size) (some ⟨w8.heap.size, 0, none⟩) [⟨1, b, []⟩] ∧ Ats w13 (· < w13.heap.size) qq [⟨1, a, []⟩] ∧ Ats w13 (· < w13.heap.size) qu [⟨1, a.tdiv b, []⟩] ∧ Ats w13 (· < w13.heap.size) qw [⟨1, a.tmod b, []⟩]) := ⟨M15.out.1.trans (hB.mono M15.out.1.size), M15.out.2.2.1.upM hB, M15.out.2.2.2.2.1.upM hB, heap_keptD M15.out.2.2.2.2.2.1 hB, M15.out.2.2.2.2.2.2.1.upM hB, M15.out.2.2.2.2.2.2.2.1.upM hB, M15.out.2.2.2.2.2.2.2.2.1.upM hB, M15.out.2.2.2.2.2.2.2.2.2.1.upM hB, M15.out.2.2.2.2.2.2.2.2.2.2.upM hB⟩
  clear c_n_0 c_n_1 c_n_2 c_n_3 c_n_4 c_n_5 c_n_6 c_n_7 M15 hB SX
  have c_n_0 := cell_at (o := 0) M16.out.2.2.2.1 rfl
  have c_n_1 := cell_at (o := 1) M16.out.2.2.2.1 rfl
  have c_n_2 := cell_at (o := 2) M16.out.2.2.2.1 rfl
  have c_n_3 := cell_at (o := 3) M16.out.2.2.2.1 rfl
  have c_n_4 := cell_at (o := 4) M16.out.2.2.2.1 rfl
  have c_n_5 := cell_at (o := 5) M16.out.2.2.2.1 rfl
  have c_n_6 := cell_at (o := 6) M16.out.2.2.2.1 rfl
  have c_n_7 := cell_at (o := 7) M16.out.2.2.2.1 rfl
  go_wp2_with fail
  refine (SZ.out _ _ _ _ _ M16.out.2.1 M16.out.2.2.1).mono ?_
  rintro e w14 ⟨rfl, hB⟩
  have M17 : Hid (Below w.heap.size w w14 ∧ w14.heap[w6.heap.size]? = some (.cells #[.string ⟨#[110]⟩, .int .i64 1, .int .i64 0, .int .i64 1, .int .i64 (-5000), .int .i64 5000, .string ⟨#[]⟩, .bool false] 24) ∧ Ats w14 (· < w14.heap.size) (some ⟨w7.heap.size, 0, none⟩) [⟨1, a, []⟩] ∧ Ats w14 (· < w14.heap.size) (some ⟨w8.heap.size, 0, none⟩) [⟨1, b, []⟩] ∧ Ats w14 (· < w14.heap.size) qq [⟨1, a, []⟩] ∧ Ats w14 (· < w14.heap.size) qu [⟨1, a.tdiv b, []⟩] ∧ Ats w14 (· < w14.heap.size) qw [⟨1, a.tmod b, []⟩]) := ⟨M16.out.1.trans (hB.mono M16.out.1.size), heap_keptD M16.out.2.2.2.1 hB, M16.out.2.2.2.2.1.upM hB, M16.out.2.2.2.2.2.1.upM hB, M16.out.2.2.2.2.2.2.1.upM hB, M16.out.2.2.2.2.2.2.2.1.upM hB, M16.out.2.2.2.2.2.2.2.2.upM hB⟩
  clear c_n_0 c_n_1 c_n_2 c_n_3 c_n_4 c_n_5 c_n_6 c_n_7 M16 hB SZ
  have c_n_0 := cell_at (o := 0) M17.out.2.1 rfl
  have c_n_1 := cell_at (o := 1) M17.out.2.1 rfl
  have c_n_2 := cell_at (o := 2) M17.out.2.1 rfl
  have c_n_3 := cell_at (o := 3) M17.out.2.1 rfl
  have c_n_4 := cell_at (o := 4) M17.out.2.1 rfl
  have c_n_5 := cell_at (o := 5) M17.out.2.1 rfl
  have c_n_6 := cell_at (o := 6) M17.out.2.1 rfl
  have c_n_7 := cell_at (o := 7) M17.out.2.1 rfl
  go_wp2_with fail
  refine (SO.out _ _ _ _ _ M17.out.2.2.2.2.1 M17.out.2.2.1).mono ?_
  rintro e w15 ⟨rfl, hB⟩
  have M18 : Hid (Below w.heap.size w w15 ∧ w15.heap[w6.heap.size]? = some (.cells #[.string ⟨#[110]⟩, .int .i64 1, .int .i64 0, .int .i64 1, .int .i64 (-5000), .int .i64 5000, .string ⟨#[]⟩, .bool false] 24) ∧ Ats w15 (· < w15.heap.size) (some ⟨w7.heap.size, 0, none⟩) [⟨1, a, []⟩] ∧ Ats w15 (· < w15.heap.size) (some ⟨w8.heap.size, 0, none⟩) [⟨1, b, []⟩] ∧ Ats w15 (· < w15.heap.size) qu [⟨1, a.tdiv b, []⟩] ∧ Ats w15 (· < w15.heap.size) qw [⟨1, a.tmod b, []⟩]) := ⟨M17.out.1.trans (hB.mono M17.out.1.size), heap_keptD M17.out.2.1 hB, M17.out.2.2.1.upM hB, M17.out.2.2.2.1.upM hB, M17.out.2.2.2.2.2.1.upM hB, M17.out.2.2.2.2.2.2.upM hB⟩
  clear c_n_0 c_n_1 c_n_2 c_n_3 c_n_4 c_n_5 c_n_6 c_n_7 M17 hB SO
  have c_n_0 := cell_at (o := 0) M18.out.2.1 rfl
  have c_n_1 := cell_at (o := 1) M18.out.2.1 rfl
  have c_n_2 := cell_at (o := 2) M18.out.2.1 rfl
  have c_n_3 := cell_at (o := 3) M18.out.2.1 rfl
  have c_n_4 := cell_at (o := 4) M18.out.2.1 rfl
  have c_n_5 := cell_at (o := 5) M18.out.2.1 rfl
  have c_n_6 := cell_at (o := 6) M18.out.2.1 rfl
  have c_n_7 := cell_at (o := 7) M18.out.2.1 rfl
  go_wp2_with fail
  have M19 : Hid (Below w.heap.size w (w15.alloc (.cells #[.int .i64 1, .int .i64 0, .string ⟨#[]⟩] 34)) ∧ (w15.alloc (.cells #[.int .i64 1, .int .i64 0, .string ⟨#[]⟩] 34)).heap[w6.heap.size]? = some (.cells #[.string ⟨#[110]⟩, .int .i64 1, .int .i64 0, .int .i64 1, .int .i64 (-5000), .int .i64 5000, .string ⟨#[]⟩, .bool false] 24) ∧ Ats (w15.alloc (.cells #[.int .i64 1, .int .i64 0, .string ⟨#[]⟩] 34)) (· < (w15.alloc (.cells #[.int .i64 1, .int .i64 0, .string ⟨#[]⟩] 34)).heap.size) (some ⟨w7.heap.size, 0, none⟩) [⟨1, a, []⟩] ∧ Ats (w15.alloc (.cells #[.int .i64 1, .int .i64 0, .string ⟨#[]⟩] 34)) (· < (w15.alloc (.cells #[.int .i64 1, .int .i64 0, .string ⟨#[]⟩] 34)).heap.size) (some ⟨w8.heap.size, 0, none⟩) [⟨1, b, []⟩] ∧ Ats (w15.alloc (.cells #[.int .i64 1, .int .i64 0, .string ⟨#[]⟩] 34)) (· < (w15.alloc (.cells #[.int .i64 1, .int .i64 0, .string ⟨#[]⟩] 34)).heap.size) qu [⟨1, a.tdiv b, []⟩] ∧ Ats (w15.alloc (.cells #[.int .i64 1, .int .i64 0, .string ⟨#[]⟩] 34)) (· < (w15.alloc (.cells #[.int .i64 1, .int .i64 0, .string ⟨#[]⟩] 34)).heap.size) qw [⟨1, a.tmod b, []⟩] ∧ Ats (w15.alloc (.cells #[.int .i64 1, .int .i64 0, .string ⟨#[]⟩] 34)) (· < (w15.alloc (.cells #[.int .i64 1, .int .i64 0, .string ⟨#[]⟩] 34)).heap.size) (some ⟨w15.heap.size, 0, none⟩) [⟨1, 0, []⟩]) := ⟨M18.out.1.trans ((below_allocD w15 (.cells #[.int .i64 1, .int .i64 0, .string ⟨#[]⟩] 34)).mono M18.out.1.size), heap_keptD M18.out.2.1 (below_allocD w15 (.cells #[.int .i64 1, .int .i64 0, .string ⟨#[]⟩] 34)), M18.out.2.2.1.upM (below_allocD w15 (.cells #[.int .i64 1, .int .i64 0, .string ⟨#[]⟩] 34)), M18.out.2.2.2.1.upM (below_allocD w15 (.cells #[.int .i64 1, .int .i64 0, .string ⟨#[]⟩] 34)), M18.out.2.2.2.2.1.upM (below_allocD w15 (.cells #[.int .i64 1, .int .i64 0, .string ⟨#[]⟩] 34)), M18.out.2.2.2.2.2.upM (below_allocD w15 (.cells #[.int .i64 1, .int .i64 0, .string ⟨#[]⟩] 34)), ats_one (heap_newD _ _)⟩
  clear c_n_0 c_n_1 c_n_2 c_n_3 c_n_4 c_n_5 c_n_6 c_n_7 M18 
  have c_n_0 := cell_at (o := 0) M19.out.2.1 rfl
  have c_n_1 := cell_at (o := 1) M19.out.2.1 rfl
  have c_n_2 := cell_at (o := 2) M19.out.2.1 rfl
  have c_n_3 := cell_at (o := 3) M19.out.2.1 rfl
  have c_n_4 := cell_at (o := 4) M19.out.2.1 rfl
  have c_n_5 := cell_at (o := 5) M19.out.2.1 rfl
  have c_n_6 := cell_at (o := 6) M19.out.2.1 rfl
  have c_n_7 := cell_at (o := 7) M19.out.2.1 rfl
  refine (NZ.out _ _ _ _ _ M19.out.2.2.1 M19.out.2.2.2.2.2.2).mono ?_
  rintro e w16 ⟨qn, cn, rfl, hx, hB⟩
  have M20 : Hid (Below w.heap.size w w16 ∧ Ats w16 (· < w16.heap.size) (some ⟨w7.heap.size, 0, none⟩) [⟨1, a, []⟩] ∧ Ats w16 (· < w16.heap.size) (some ⟨w8.heap.size, 0, none⟩) [⟨1, b, []⟩] ∧ Ats w16 (· < w16.heap.size) qu [⟨1, a.tdiv b, []⟩] ∧ Ats w16 (· < w16.heap.size) qw [⟨1, a.tmod b, []⟩]) := ⟨M19.out.1.trans (hB.mono M19.out.1.size), M19.out.2.2.1.upM hB, M19.out.2.2.2.1.upM hB, M19.out.2.2.2.2.1.upM hB, M19.out.2.2.2.2.2.1.upM hB⟩
  clear c_n_0 c_n_1 c_n_2 c_n_3 c_n_4 c_n_5 c_n_6 c_n_7 M19 hB hx NZ
  obtain ⟨bu, ou, rfl, cu1⟩ := one_ats (M20.out.2.2.2.1)
  obtain ⟨bw, ow, rfl, cw1⟩ := one_ats (M20.out.2.2.2.2)
  have co1 : w16.cell? ⟨w7.heap.size, 1, none⟩ = some (.int .i64 a) := by obtain ⟨bo, oo, e, co⟩ := one_ats (M20.out.2.1); simp only [Option.some.injEq, Addr.mk.injEq, and_true] at e; obtain ⟨rfl, rfl⟩ := e; simpa using co
  have cb1 : w16.cell? ⟨w8.heap.size, 1, none⟩ = some (.int .i64 b) := by obtain ⟨bo, oo, e, co⟩ := one_ats (M20.out.2.2.1); simp only [Option.some.injEq, Addr.mk.injEq, and_true] at e; obtain ⟨rfl, rfl⟩ := e; simpa using co
  dsimp only at cu1 cw1
  have HBB := Lib.hid (And.intro M20.out.1 M20.out.1.drew)
  obtain ⟨u, eu⟩ : ∃ u, u = a.tdiv b := ⟨_, rfl⟩
  obtain ⟨r, er⟩ : ∃ r, r = a.tmod b := ⟨_, rfl⟩
  rw [← eu] at cu1 HQ
  rw [← er] at cw1 HQ
  obtain ⟨m, em⟩ : ∃ m, m = u * b := ⟨_, rfl⟩
  rw [← em] at HQ
  have hq := HQ.out
  have fm : IntKind.i64.wrap (u * b) = m := by rw [← em, IntKind.wrap_i64]; omega
  have fr : IntKind.i64.wrap (m + r) = a := by rw [IntKind.wrap_i64]; omega
  clear hq HQ em eu er HA HB M20 fab
  go_wp2_with fail
  go_region
  go_wp2_with fail
  go_ret
  exact ⟨rfl, by first | exact HBB.out.2 | exact HBB.out.1⟩
end Go.Proofs.Ytfoimmnfpheoiaa
