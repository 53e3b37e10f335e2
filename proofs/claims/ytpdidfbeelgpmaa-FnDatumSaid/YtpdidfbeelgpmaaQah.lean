import Derived.Test.YtpdidfbeelgpmaaQaf
import Derived.Test.YtpdidfbeelgpmaaQag
import Derived.Test.YtpdidfbeelgpmaaProg
import Derived.ProofKit
import Derived.OpenShut
import Derived.Deep.Slices
namespace Go.Proofs.Ytpdidfbeelgpmaa
open Go.RowKit
set_option linter.unusedSimpArgs false
theorem Ats.upD {W W' : World} {q : Option Addr} {L : List At} (h : Ats W (· < W.heap.size) q L) (hB : Below W.heap.size W W') : Ats W' (· < W'.heap.size) q L := h.same (fun b hb => hB.block b hb) (fun _ hb => Nat.lt_of_lt_of_le hb hB.size)
theorem Byts.upD {w W : World} {q : Option Addr} {l : List UInt8} (h : Byts w (· < w.heap.size) q l) (hB : Below w.heap.size w W) : Byts W (· < w.heap.size) q l := h.same (fun b hb => hB.block b hb) (fun _ h => h)
theorem AAns2.twoD {W w' : World} {L : List At} {c : Int} {e : Ending} (h : AAns2 W L c e w') : ∃ q cp, e = .returned (.tuple #[.slice q L.length cp, .int .i64 c]) ∧ Ats w' (· < w'.heap.size) q L ∧ Below W.heap.size W w' := by
  obtain ⟨q, cp, e, ho, hb⟩ := h
  exact ⟨q, cp, e, ho.ats.same (fun _ _ => rfl) (fun _ hb => hb.2), hb⟩
/-- atoms of one kind, all right -/
def Dwn (k : Nat) (L : List At) : Prop := ∀ x ∈ L, x.k = (k : Int) ∧ atOK x = true
theorem Dwn.text {k : Nat} {L : List At} (h : Dwn k L) : ∀ x ∈ L, x.t.length ≤ maxLen := fun x hx => by
  have := atOK_text (h x hx).2
  unfold maxLen
  omega
theorem Dwn.of {k : Nat} {L : List At} (h : Dwn k L) (hl : L.length ≤ 6) : ofC L = 0 ∧ ofR L = joinL [] L := by
  have he : errOf L = 0 := by
    rw [errOf_zero]
    intro j hj
    rw [errAt_zero, at_getD hj, at_getD (by omega)]
    have h1 := h _ (List.getElem_mem hj)
    have h2 := h _ (List.getElem_mem (show 0 < L.length by omega))
    exact ⟨h1.2, by rw [h1.1, h2.1]⟩
  have hj := join_len [] L
  have h8 : ¬ 8 < (joinL [] L).length := by simp at hj; omega
  refine ⟨?_, ?_⟩
  · unfold ofC; rw [if_neg (by omega), if_pos he, if_neg h8]
  · unfold ofR; rw [if_pos ⟨by omega, he, h8⟩]
theorem Dwn.join {k : Nat} {L : List At} (h : Dwn k L) : Dwn k (joinL [] L) := fun x hx => by
  rcases mem_join.1 hx with hx | hx
  · exact absurd hx List.not_mem_nil
  · exact h x hx
theorem Dwn.drn {k : Nat} {L : List At} (h : Dwn k L) : Drn k (joinL [] L) := ⟨rise_join rise_nil L, h.join⟩
theorem cmp_neg (a b : At) : cmpA a b = - cmpA b a := by
  by_cases e : a = b
  · subst e; rw [cmp_0 rfl rfl rfl]; rfl
  · have hv : ∀ x y : At, cmpA x y = -1 ∨ cmpA x y = 0 ∨ cmpA x y = 1 := fun x y => by
      unfold cmpA
      repeat' split
      all_goals simp
    by_cases h : cmpA a b < 0
    · have h2 := cmp_gt h
      rcases hv a b with q | q | q <;> rcases hv b a with r | r | r <;> omega
    · have h1 := cmp_tri e h
      have h2 := cmp_gt h1
      rcases hv a b with q | q | q <;> rcases hv b a with r | r | r <;> omega
theorem cmp_ne {a b : At} (h : a ≠ b) : cmpA a b ≠ 0 := by
  by_cases h1 : cmpA a b < 0
  · omega
  · have := cmp_gt (cmp_tri h h1)
    omega
theorem cmp_rng (x y : At) : -1 ≤ cmpA x y ∧ cmpA x y ≤ 1 := by
  unfold cmpA
  repeat' split
  all_goals omega
/-- an answer: a list in memory and the code 0 -/
def OAns (W : World) (L : List At) (e : Ending) (w' : World) : Prop := ∃ q cp, e = .returned (.tuple #[.slice q L.length cp, .int .i64 0]) ∧ Ats w' (· < w'.heap.size) q L ∧ Below W.heap.size W w'
set_option maxRecDepth 100000 in
set_option maxHeartbeats 6400000 in
theorem lawFnDatum (l1 l2 : List UInt8) (pa pb : Option Addr) (ca cb : Nat) (w : World) (h1 : Byts w (· < w.heap.size) pa l1) (h2 : Byts w (· < w.heap.size) pb l2) :
    Calls Try.prog 3 #[.slice pa l1.length ca, .slice pb l2.length cb] w fun e w' => e = .returned (.bool true) ∧ Below w.heap.size w w' := by
  by_cases g1 : 1048576 < l1.length
  · have d1 : decide (1048576 < (l1.length : Int)) = true := decide_eq_true (by omega)
    have d2 : decide (1048576 < l1.length) = true := decide_eq_true g1
    go_enter Try.func3, Try.ntmps3
    go_wp2_with fail
    go_ret
    exact ⟨rfl, Below.refl _ _⟩
  have d1 : decide (1048576 < (l1.length : Int)) = false := decide_eq_false (by omega)
  have d2 : decide (1048576 < l1.length) = false := decide_eq_false g1
  by_cases g2 : 1048576 < l2.length
  · have d3 : decide (1048576 < (l2.length : Int)) = true := decide_eq_true (by omega)
    have d4 : decide (1048576 < l2.length) = true := decide_eq_true g2
    go_enter Try.func3, Try.ntmps3
    go_wp2_with fail
    go_ret
    exact ⟨rfl, Below.refl _ _⟩
  have d3 : decide (1048576 < (l2.length : Int)) = false := decide_eq_false (by omega)
  have d4 : decide (1048576 < l2.length) = false := decide_eq_false g2
  have AT : Hid (Calls Try.prog 5 #[.slice pb l2.length cb, .int .i64 0, .int .i64 4] w fun e W' => ∃ k : Nat, e = .returned (.int .i64 (k : Int)) ∧ k < 4 ∧ Below w.heap.size w W') := atS l2 pb cb 4 _ w h2 (by omega) (by omega) (by omega)
  have H1 := Lib.hid h1
  clear h1 h2 g1 g2
  go_enter Try.func3, Try.ntmps3
  go_wp2_with fail
  refine AT.out.mono ?_
  rintro e w1 ⟨k0, rfl, hk0, hB1⟩
  obtain ⟨k, hk⟩ : ∃ k : Nat, k = 1 + k0 := ⟨_, rfl⟩
  have f1 : IntKind.i64.wrap (1 + (k0 : Int)) = (k : Int) := by rw [IntKind.wrap_i64]; omega
  have HB1 := Lib.hid hB1
  have DA := Lib.hid (atomsOfS l1 pa ca k w.heap.size w1 hB1.size (H1.out.upD hB1) (by omega) (by omega))
  clear hk hk0 hB1 AT
  go_wp2_with fail
  refine DA.out.mono ?_
  rintro e w2 ⟨g, cg, L, rfl, hL6, hLd, hLt, hB2⟩
  have HD : Hid (Dwn k L) := hLd
  have hll : L.length ≤ 6 := hL6
  have M2 : Hid (Below w.heap.size w w2 ∧ Ats w2 (· < w2.heap.size) (some ⟨g, 0, none⟩) L) := ⟨HB1.out.trans (hB2.mono HB1.out.size), hLt⟩
  clear hL6 hLd hLt hB2 DA HB1
  have A0 := Lib.hid (AI.first w2)
  have fl : IntKind.i64.wrap ((L.length : Int) - 1) = (L.length : Int) - 1 := by rw [IntKind.wrap_i64]; omega
  go_wp2_with fail
  go_loopw [6, 7] (fun o i wr => ∃ m : Nat, ∃ vo, m ≤ L.length ∧ i = .int .i64 ((m : Int) - 1) ∧ vo = o ∧ Hid (AI w2 w2.heap.size wr vo (L.drop m).reverse)) (fun _ i _ => (intOf i + 1).toNat)
  case atStart => exact ⟨L.length, _, Nat.le_refl _, rfl, rfl, by show AI _ _ _ _ _; exact A0.out.cast (by simp)⟩
  case round =>
    obtain ⟨m, vo, hm, rfl, rfl, HI⟩ := hrel
    by_cases hm0 : m = 0
    case neg =>
      obtain ⟨j, rfl⟩ : ∃ j, m = j + 1 := ⟨m - 1, by omega⟩
      have hlt : j < L.length := by omega
      have ej : ((j + 1 : Nat) : Int) - 1 = (j : Int) := by omega
      rw [ej]
      obtain ⟨b1, o1, e1, -, c0, c1, c2⟩ := (M2.out.2.later HI.out.bel).item j hlt
      injection e1 with e1
      injection e1 with e1 e2
      subst e1 e2
      simp only [Nat.zero_add] at c0 c1 c2
      have HN : Hid ((L.drop j).reverse = (L.drop (j + 1)).reverse ++ [L[j]]) := by show _ = _; rw [List.drop_eq_getElem_cons hlt]; simp
      have HM : Hid ((L.drop (j + 1)).reverse.length ≤ 6) := by show _ ≤ _; simp; omega
      have hji : (j : Int) < (L.length : Int) := by omega
      have hj0 : decide ((j : Int) ≥ 0) = true := decide_eq_true (by omega)
      have fj : IntKind.i64.wrap ((j : Int) - 1) = (j : Int) - 1 := by rw [IntKind.wrap_i64]; omega
      clear ej hm0 hm
      generalize (L.drop (j + 1)).reverse = lr at *
      generalize L[j] = x at *
      go_wp2_with (at_builtin; refine wpList_apush rfl (.tmp 42) (.tmp 47) rfl w2.heap.size vo lr [x] ⟨wr.heap.size, 0, none⟩ 1 1 rfl rfl rfl (HI.out.buf.on ((Below.refl _ _).alloc (Nat.le_refl _) _)) (by have := HI.out.le; simp; omega) (by have := HM.out; simp; omega) HI.out.no (news_one _ _ _) ?_; intro v2 w4 hb2 ha2 hn2; have H2 : Hid (AI w2 w2.heap.size w4 v2 (lr ++ [x])) := (HI.out.on ((Below.refl _ _).alloc (Nat.le_refl _) _)).push hb2 ha2 hn2; clear hb2 ha2 hn2)
      go_roundw
      case rel => exact ⟨j, v2, by omega, rfl, rfl, by show AI _ _ _ _ _; rw [HN.out]; exact H2.out⟩
      case measure => simp [intOf]
    subst hm0
    have e0 : ((0 : Nat) : Int) - 1 = -1 := rfl
    rw [e0]
    have HI' : AI w2 w2.heap.size wr vo L.reverse := HI.out.cast (by simp)
    obtain ⟨gb, cbk, rfl, -, hbt, -, hbl⟩ := HI'.place
    obtain ⟨D, hD⟩ : ∃ D, D = joinL [] L := ⟨_, rfl⟩
    have hd0 : Dwn k D := by rw [hD]; exact HD.out.join
    have hdl : D.length ≤ L.length := by rw [hD]; have := join_len [] L; simpa using this
    have hdr : Drn k D := by rw [hD]; exact HD.out.drn
    have hrev : Dwn k L.reverse := fun x hx => HD.out x (List.mem_reverse.1 hx)
    have OF1 : Hid (∀ W q cp, Ats W (· < W.heap.size) q L → Calls Try.prog 6 #[.slice q L.length cp] W (OAns W D)) := fun W q cp h =>
      (datumOfO L q cp W.heap.size W (by omega) HD.out.text (Nat.le_refl _) h).mono (fun e w' hh => by rw [(HD.out.of hll).1, (HD.out.of hll).2, ← hD] at hh; exact hh.twoD)
    have OF2 : Hid (∀ W q cp, Ats W (· < W.heap.size) q L.reverse → Calls Try.prog 6 #[.slice q L.reverse.length cp] W (OAns W D)) := fun W q cp h =>
      (datumOfO L.reverse q cp W.heap.size W (by simp; omega) hrev.text (Nat.le_refl _) h).mono (fun e w' hh => by rw [(hrev.of (by simpa using hll)).1, (hrev.of (by simpa using hll)).2, of_back, ← hD] at hh; exact hh.twoD)
    have OF3 : Hid (∀ W q cp, Ats W (· < W.heap.size) q D → Calls Try.prog 6 #[.slice q D.length cp] W (OAns W D)) := fun W q cp h =>
      (datumOfO D q cp W.heap.size W (by omega) hd0.text (Nat.le_refl _) h).mono (fun e w' hh => by
        have e : joinL [] D = D := by rw [hD]; exact of_again L
        rw [(hd0.of (by omega)).1, (hd0.of (by omega)).2, e] at hh; exact hh.twoD)
    have SD : Hid (∀ W q q' c c', Ats W (· < W.heap.size) q D → Ats W (· < W.heap.size) q' D → Calls Try.prog 7 #[.slice q D.length c, .slice q' D.length c'] W fun e w' => e = .returned (.bool true) ∧ Below W.heap.size W w') := fun W q q' c c' h h' => sameDatumS _ q q' c c' _ _ W (by omega) h h'
    have DK : Hid (∀ W q cp, Ats W (· < W.heap.size) q D → Calls Try.prog 8 #[.slice q D.length cp] W fun e w' => e = .returned (.bool true) ∧ Below W.heap.size W w') := fun W q cp h =>
      (datumOKi D q cp W.heap.size W (by unfold maxLen; omega) hd0.text (Nat.le_refl _) h).mono (fun e w' ⟨he, hB⟩ => ⟨by rw [he, hdr.datum (by omega)], hB⟩)
    have HS : Hid (∀ x ∈ L, ∀ W q cp, Ats W (· < W.heap.size) q D → Calls Try.prog 9 #[.slice q D.length cp, .agg #[.int .i64 x.k, .int .i64 x.n, .string ⟨x.t.toArray⟩]] W fun e w' => e = .returned (.tuple #[.bool true, .int .i64 0]) ∧ Below W.heap.size W w') := fun x hx W q cp h =>
      (datumHasI D x q cp W.heap.size W (by unfold maxLen; omega) hd0.text (HD.out.text x hx) (Nat.le_refl _) h).mono (fun e w' ⟨he, hB⟩ => ⟨by
        have hb : hasB D x = true := hasB_iff.2 (by rw [hD]; exact mem_join.2 (.inr hx))
        have a1 : hasR D x = true := by unfold hasR; rw [if_pos ⟨by omega, hdr.datum (by omega), (HD.out x hx).2⟩, hb]
        have a2 : hasC D x = 0 := by unfold hasC; rw [if_neg (by omega), if_pos ⟨hdr.datum (by omega), (HD.out x hx).2⟩]
        rw [he, a1, a2], hB⟩)
    have OR : Hid (∀ x ∈ L, ∀ y ∈ L, ∀ W, Calls Try.prog 10 #[.agg #[.int .i64 x.k, .int .i64 x.n, .string ⟨x.t.toArray⟩], .agg #[.int .i64 y.k, .int .i64 y.n, .string ⟨y.t.toArray⟩]] W fun e w' => e = .returned (.tuple #[.int .i64 (cmpA x y), .int .i64 0]) ∧ Below W.heap.size W w') := fun x hx y hy W =>
      (ordI x y W (HD.out.text x hx) (HD.out.text y hy)).mono (fun e w' ⟨he, hB⟩ => ⟨by
        have a1 : ordR x y = cmpA x y := by unfold ordR; rw [if_pos ⟨(HD.out x hx).2, (HD.out y hy).2⟩]
        have a2 : ordC x y = 0 := by unfold ordC; rw [if_pos ⟨(HD.out x hx).2, (HD.out y hy).2⟩]
        rw [he, a1, a2], hB⟩)
    have HKK : Hid (∀ x ∈ L, x.k = (k : Int)) := fun x hx => (HD.out x hx).1
    have HDL : Hid (D.length ≤ L.length) := hdl
    have M3 : Hid (Below w.heap.size w wr ∧ Ats wr (· < wr.heap.size) (some ⟨g, 0, none⟩) L ∧ Ats wr (· < wr.heap.size) (some ⟨gb, 0, none⟩) L.reverse) := ⟨M2.out.1.trans (HI'.bel.mono M2.out.1.size), M2.out.2.upD HI'.bel, hbt.same (fun _ _ => rfl) (fun b hb => by rw [hb]; exact hbl)⟩
    clear hd0 hdl hdr hrev hD HI HI' hbt hbl M2 A0 e0 HD
    generalize L.reverse = LR at *
    go_wp2_with fail
    refine (OF1.out _ _ _ M3.out.2.1).mono ?_
    rintro e w4 ⟨qd, cd, rfl, hx, hB4⟩
    have M4 : Hid (Below w.heap.size w w4 ∧ Ats w4 (· < w4.heap.size) (some ⟨g, 0, none⟩) L ∧ Ats w4 (· < w4.heap.size) (some ⟨gb, 0, none⟩) LR ∧ Ats w4 (· < w4.heap.size) qd D) := ⟨M3.out.1.trans (hB4.mono M3.out.1.size), M3.out.2.1.upD hB4, M3.out.2.2.upD hB4, hx⟩
    clear hx hB4 M3
    go_wp2_with fail
    refine (OF2.out _ _ _ M4.out.2.2.1).mono ?_
    rintro e w5 ⟨qe, ce, rfl, hx, hB5⟩
    have M5 : Hid (Below w.heap.size w w5 ∧ Ats w5 (· < w5.heap.size) (some ⟨g, 0, none⟩) L ∧ Ats w5 (· < w5.heap.size) qd D ∧ Ats w5 (· < w5.heap.size) qe D) := ⟨M4.out.1.trans (hB5.mono M4.out.1.size), M4.out.2.1.upD hB5, M4.out.2.2.2.upD hB5, hx⟩
    clear hx hB5 M4
    go_wp2_with fail
    refine (OF3.out _ _ _ M5.out.2.2.1).mono ?_
    rintro e w6 ⟨qa, ca', rfl, hx, hB6⟩
    have M6 : Hid (Below w.heap.size w w6 ∧ Ats w6 (· < w6.heap.size) (some ⟨g, 0, none⟩) L ∧ Ats w6 (· < w6.heap.size) qd D ∧ Ats w6 (· < w6.heap.size) qe D ∧ Ats w6 (· < w6.heap.size) qa D) := ⟨M5.out.1.trans (hB6.mono M5.out.1.size), M5.out.2.1.upD hB6, M5.out.2.2.1.upD hB6, M5.out.2.2.2.upD hB6, hx⟩
    clear hx hB6 M5
    go_wp2_with fail
    refine (SD.out _ _ _ _ _ M6.out.2.2.1 M6.out.2.2.2.1).mono ?_
    rintro e w7 ⟨rfl, hB7⟩
    have M7 : Hid (Below w.heap.size w w7 ∧ Ats w7 (· < w7.heap.size) (some ⟨g, 0, none⟩) L ∧ Ats w7 (· < w7.heap.size) qd D ∧ Ats w7 (· < w7.heap.size) qa D) := ⟨M6.out.1.trans (hB7.mono M6.out.1.size), M6.out.2.1.upD hB7, M6.out.2.2.1.upD hB7, M6.out.2.2.2.2.upD hB7⟩
    clear hB7 M6
    go_wp2_with fail
    refine (SD.out _ _ _ _ _ M7.out.2.2.1 M7.out.2.2.2).mono ?_
    rintro e w8 ⟨rfl, hB8⟩
    have M8 : Hid (Below w.heap.size w w8 ∧ Ats w8 (· < w8.heap.size) (some ⟨g, 0, none⟩) L ∧ Ats w8 (· < w8.heap.size) qd D) := ⟨M7.out.1.trans (hB8.mono M7.out.1.size), M7.out.2.1.upD hB8, M7.out.2.2.1.upD hB8⟩
    clear hB8 M7
    go_wp2_with fail
    refine (DK.out _ _ _ M8.out.2.2).mono ?_
    rintro e w9 ⟨rfl, hB9⟩
    have M9 : Hid (Below w.heap.size w w9 ∧ Ats w9 (· < w9.heap.size) (some ⟨g, 0, none⟩) L ∧ Ats w9 (· < w9.heap.size) qd D) := ⟨M8.out.1.trans (hB9.mono M8.out.1.size), M8.out.2.1.upD hB9, M8.out.2.2.upD hB9⟩
    clear hB9 M8 OF1 OF2 OF3 SD DK
    go_wp2_with fail
    go_loopw [14] (fun i wx => ∃ m : Nat, m ≤ L.length ∧ i = .int .i64 m ∧ Hid (Below w.heap.size w wx ∧ Ats wx (· < wx.heap.size) (some ⟨g, 0, none⟩) L ∧ Ats wx (· < wx.heap.size) qd D)) (fun i _ => L.length - (intOf i).toNat)
    case atStart => exact ⟨0, Nat.zero_le _, rfl, M9⟩
    case round =>
      obtain ⟨m, hm, rfl, HW⟩ := hrel
      by_cases hlt : m < L.length
      case neg =>
        have hmi : decide ((m : Int) < (L.length : Int)) = false := by simp; omega
        have hfin : decide ((D.length : Int) ≤ (L.length : Int)) = true := decide_eq_true (by have := HDL.out; omega)
        have hfin2 : decide (D.length ≤ L.length) = true := decide_eq_true HDL.out
        go_wp2_with fail
        go_ret
        exact ⟨rfl, HW.out.1⟩
      have hln : 0 < L.length := by omega
      have hmi : (m : Int) < (L.length : Int) := by omega
      have hmi0 : (0 : Int) < (L.length : Int) := by omega
      have CE : Hid (∀ W, Ats W (· < W.heap.size) (some ⟨g, 0, none⟩) L → W.cell? ⟨g, m * 3, none⟩ = some (.int .i64 L[m].k) ∧ W.cell? ⟨g, m * 3 + 1, none⟩ = some (.int .i64 L[m].n) ∧ W.cell? ⟨g, m * 3 + 2, none⟩ = some (.string ⟨L[m].t.toArray⟩) ∧ W.cell? ⟨g, 0, none⟩ = some (.int .i64 L[0].k) ∧ W.cell? ⟨g, 1, none⟩ = some (.int .i64 L[0].n) ∧ W.cell? ⟨g, 2, none⟩ = some (.string ⟨L[0].t.toArray⟩)) := fun W h => by
        have f := h.three m hlt
        have f0 := h.three 0 hln
        simp only [Nat.zero_add, Nat.zero_mul] at f f0
        exact ⟨f.1, f.2.1, f.2.2, f0.1, f0.2.1, f0.2.2⟩
      have HSX := Lib.hid (HS.out L[m] (List.getElem_mem hlt))
      have ORA := Lib.hid (OR.out L[0] (List.getElem_mem hln) L[m] (List.getElem_mem hlt))
      have ORB := Lib.hid (OR.out L[m] (List.getElem_mem hlt) L[0] (List.getElem_mem hln))
      have hkk : L[0].k = L[m].k := by rw [HKK.out _ (List.getElem_mem hln), HKK.out _ (List.getElem_mem hlt)]
      have HUP : Hid (∀ W W', (Below w.heap.size w W ∧ Ats W (· < W.heap.size) (some ⟨g, 0, none⟩) L ∧ Ats W (· < W.heap.size) qd D) → Below W.heap.size W W' → (Below w.heap.size w W' ∧ Ats W' (· < W'.heap.size) (some ⟨g, 0, none⟩) L ∧ Ats W' (· < W'.heap.size) qd D)) := fun W W' h hB => ⟨h.1.trans (hB.mono h.1.size), h.2.1.upD hB, h.2.2.upD hB⟩
      have HDR : Hid (∀ W, (Below w.heap.size w W ∧ Ats W (· < W.heap.size) (some ⟨g, 0, none⟩) L ∧ Ats W (· < W.heap.size) qd D) → (Below w.heap.size w W.drew ∧ Ats W.drew (· < W.drew.heap.size) (some ⟨g, 0, none⟩) L ∧ Ats W.drew (· < W.drew.heap.size) qd D)) := fun W h => HUP.out W W.drew h (Below.refl _ _).drew
      have HDN : Hid (∀ W n, (Below w.heap.size w W ∧ Ats W (· < W.heap.size) (some ⟨g, 0, none⟩) L ∧ Ats W (· < W.heap.size) qd D) → (Below w.heap.size w (W.drewN n) ∧ Ats (W.drewN n) (· < (W.drewN n).heap.size) (some ⟨g, 0, none⟩) L ∧ Ats (W.drewN n) (· < (W.drewN n).heap.size) qd D)) := fun W n h => HUP.out W _ h (below_drewN (Below.refl _ _) n)
      obtain ⟨q, hq⟩ : ∃ q, q = cmpA L[m] L[0] := ⟨_, rfl⟩
      have hq2 : cmpA L[0] L[m] = -q := by rw [hq]; exact cmp_neg _ _
      have hqr : -1 ≤ q ∧ q ≤ 1 := by rw [hq]; exact cmp_rng _ _
      have hqe : L[0] = L[m] ∨ (L[0] ≠ L[m] ∧ q ≠ 0) := by
        by_cases e : L[0] = L[m]
        · exact .inl e
        · exact .inr ⟨e, by rw [hq]; exact cmp_ne (fun h => e h.symm)⟩
      have hq0 : L[0] = L[m] → q = 0 := fun e => by rw [hq, e]; exact cmp_0 rfl rfl rfl
      rw [← hq] at ORB
      rw [hq2] at ORA
      clear hq hq2
      generalize L[m] = x at *
      generalize L[0] = z at *
      have HKZ := Lib.hid hkk
      have HQE := Lib.hid hqe
      have HQ0 := Lib.hid hq0
      clear hkk hqe hq0
      have fq : IntKind.i64.wrap (-q) = -q := by rw [IntKind.wrap_i64]; omega
      have hnq : ((-q) != (-q)) = false := by simp
      have c0 := (CE.out _ HW.out.2.1).1
      have c1 := (CE.out _ HW.out.2.1).2.1
      have c2 := (CE.out _ HW.out.2.1).2.2.1
      have b0 := (CE.out _ HW.out.2.1).2.2.2.1
      have b1 := (CE.out _ HW.out.2.1).2.2.2.2.1
      have b2 := (CE.out _ HW.out.2.1).2.2.2.2.2
      go_wp2_with fail
      refine (HSX.out _ _ _ HW.out.2.2).mono ?_
      rintro e w10 ⟨rfl, hB10⟩
      have M10 := Lib.hid (HUP.out _ _ HW.out hB10)
      clear hB10 c0 c1 c2 b0 b1 b2 HW
      go_wp2_with fail
      refine wp_region_held_drew (S := (fun W => W.cell? ⟨g, m * 3, none⟩ = some (.int .i64 x.k) ∧ W.cell? ⟨g, m * 3 + 1, none⟩ = some (.int .i64 x.n) ∧ W.cell? ⟨g, m * 3 + 2, none⟩ = some (.string ⟨x.t.toArray⟩) ∧ W.cell? ⟨g, 0, none⟩ = some (.int .i64 z.k) ∧ W.cell? ⟨g, 1, none⟩ = some (.int .i64 z.n) ∧ W.cell? ⟨g, 2, none⟩ = some (.string ⟨z.t.toArray⟩))) (by kernel_rfl) ?_ (fun hHeld => ?_)
      · (first | exact CE.out _ M10.out.2.1 | exact CE.out _ (HDR.out _ M10.out).2.1)
      refine wpAnyH_take (i := 0) (v := ?_) rfl (by kernel_rfl) (by kernel_rfl) (by kernel_rfl) (fun _ _ _ h => h) (Or.inl ⟨by kernel_rfl, ?_⟩) (by assumption) ?_
      rotate_left
      · (intro wS hSw; (try dsimp only at hSw); go_simp <;> with_reducible rfl)
      try simp only [Act.put, List.getElem_toArray, List.getElem_cons_succ, List.getElem_cons_zero, List.setIfInBounds_toArray, List.set_cons_zero, List.set_cons_succ]
      refine wpAnyH_take (i := 1) (v := ?_) rfl (by kernel_rfl) (by kernel_rfl) (by kernel_rfl) (fun _ _ _ h => h) (Or.inl ⟨by kernel_rfl, ?_⟩) (by assumption) ?_
      rotate_left
      · (intro wS hSw; (try dsimp only at hSw); go_simp <;> with_reducible rfl)
      try simp only [Act.put, List.getElem_toArray, List.getElem_cons_succ, List.getElem_cons_zero, List.setIfInBounds_toArray, List.set_cons_zero, List.set_cons_succ]
      refine wpAnyH_take (i := 2) (v := ?_) rfl (by kernel_rfl) (by kernel_rfl) (by kernel_rfl) (fun _ _ _ h => h) (Or.inl ⟨by kernel_rfl, ?_⟩) (by assumption) ?_
      rotate_left
      · (intro wS hSw; (try dsimp only at hSw); go_simp <;> with_reducible rfl)
      try simp only [Act.put, List.getElem_toArray, List.getElem_cons_succ, List.getElem_cons_zero, List.setIfInBounds_toArray, List.set_cons_zero, List.set_cons_succ]
      refine wpAnyH_take (i := 3) (v := ?_) rfl (by kernel_rfl) (by kernel_rfl) (by kernel_rfl) (fun _ _ _ h => h) (Or.inl ⟨by kernel_rfl, ?_⟩) (by assumption) ?_
      rotate_left
      · (intro wS hSw; (try dsimp only at hSw); go_simp <;> with_reducible rfl)
      try simp only [Act.put, List.getElem_toArray, List.getElem_cons_succ, List.getElem_cons_zero, List.setIfInBounds_toArray, List.set_cons_zero, List.set_cons_succ]
      refine wpAnyH_take (i := 4) (v := ?_) rfl (by kernel_rfl) (by kernel_rfl) (by kernel_rfl) (fun _ _ _ h => h) (Or.inl ⟨by kernel_rfl, ?_⟩) (by assumption) ?_
      rotate_left
      · (intro wS hSw; (try dsimp only at hSw); go_simp <;> with_reducible rfl)
      try simp only [Act.put, List.getElem_toArray, List.getElem_cons_succ, List.getElem_cons_zero, List.setIfInBounds_toArray, List.set_cons_zero, List.set_cons_succ]
      refine wpAnyH_take (i := 5) (v := ?_) rfl (by kernel_rfl) (by kernel_rfl) (by kernel_rfl) (fun _ _ _ h => h) (Or.inl ⟨by kernel_rfl, ?_⟩) (by assumption) ?_
      rotate_left
      · (intro wS hSw; (try dsimp only at hSw); go_simp <;> with_reducible rfl)
      try simp only [Act.put, List.getElem_toArray, List.getElem_cons_succ, List.getElem_cons_zero, List.setIfInBounds_toArray, List.set_cons_zero, List.set_cons_succ]
      refine wpAnyH_take (i := 6) (v := ?_) rfl (by kernel_rfl) (by kernel_rfl) (by kernel_rfl) (fun _ _ _ h => h) (Or.inl ⟨by kernel_rfl, ?_⟩) (by assumption) ?_
      rotate_left
      · (intro wS hSw; (try dsimp only at hSw); go_simp <;> with_reducible rfl)
      try simp only [Act.put, List.getElem_toArray, List.getElem_cons_succ, List.getElem_cons_zero, List.setIfInBounds_toArray, List.set_cons_zero, List.set_cons_succ]
      refine wpAnyH_ready (rs := [7]) (by kernel_rfl) (by simp) (AllReadyH.cons rfl (fun K hK => ?_) AllReadyH.nil)
      go_simp
      (go_at_call 10; (with_reducible refine (ORA.out _).mono ?_); rintro e w' ⟨rfl, hB⟩; have M11 := Lib.hid (HUP.out _ _ (by first | exact M10.out | exact HDR.out _ M10.out) hB); clear hB)
      refine hK.out _ _ ?_ (fun hHeld => ?_)
      · (first | exact CE.out _ M11.out.2.1 | exact CE.out _ (HDR.out _ M11.out).2.1 | exact CE.out _ M10.out.2.1 | exact CE.out _ (HDR.out _ M10.out).2.1)
      clear hK K
      try simp only [Act.put, List.getElem_toArray, List.getElem_cons_succ, List.getElem_cons_zero, List.setIfInBounds_toArray, List.set_cons_zero, List.set_cons_succ]
      refine wpAnyH_take (i := 8) (v := ?_) rfl (by kernel_rfl) (by kernel_rfl) (by kernel_rfl) (fun _ _ _ h => h) (Or.inl ⟨by kernel_rfl, ?_⟩) (by assumption) ?_
      rotate_left
      · (intro wS hSw; (try dsimp only at hSw); go_simp <;> with_reducible rfl)
      try simp only [Act.put, List.getElem_toArray, List.getElem_cons_succ, List.getElem_cons_zero, List.setIfInBounds_toArray, List.set_cons_zero, List.set_cons_succ]
      refine wpAnyH_take (i := 9) (v := ?_) rfl (by kernel_rfl) (by kernel_rfl) (by kernel_rfl) (fun _ _ _ h => h) (Or.inl ⟨by kernel_rfl, ?_⟩) (by assumption) ?_
      rotate_left
      · (intro wS hSw; (try dsimp only at hSw); go_simp <;> with_reducible rfl)
      try simp only [Act.put, List.getElem_toArray, List.getElem_cons_succ, List.getElem_cons_zero, List.setIfInBounds_toArray, List.set_cons_zero, List.set_cons_succ]
      refine wpAnyH_take (i := 10) (v := ?_) rfl (by kernel_rfl) (by kernel_rfl) (by kernel_rfl) (fun _ _ _ h => h) (Or.inl ⟨by kernel_rfl, ?_⟩) (by assumption) ?_
      rotate_left
      · (intro wS hSw; (try dsimp only at hSw); go_simp <;> with_reducible rfl)
      try simp only [Act.put, List.getElem_toArray, List.getElem_cons_succ, List.getElem_cons_zero, List.setIfInBounds_toArray, List.set_cons_zero, List.set_cons_succ]
      refine wpAnyH_take (i := 11) (v := ?_) rfl (by kernel_rfl) (by kernel_rfl) (by kernel_rfl) (fun _ _ _ h => h) (Or.inl ⟨by kernel_rfl, ?_⟩) (by assumption) ?_
      rotate_left
      · (intro wS hSw; (try dsimp only at hSw); go_simp <;> with_reducible rfl)
      try simp only [Act.put, List.getElem_toArray, List.getElem_cons_succ, List.getElem_cons_zero, List.setIfInBounds_toArray, List.set_cons_zero, List.set_cons_succ]
      refine wpAnyH_take (i := 12) (v := ?_) rfl (by kernel_rfl) (by kernel_rfl) (by kernel_rfl) (fun _ _ _ h => h) (Or.inl ⟨by kernel_rfl, ?_⟩) (by assumption) ?_
      rotate_left
      · (intro wS hSw; (try dsimp only at hSw); go_simp <;> with_reducible rfl)
      try simp only [Act.put, List.getElem_toArray, List.getElem_cons_succ, List.getElem_cons_zero, List.setIfInBounds_toArray, List.set_cons_zero, List.set_cons_succ]
      refine wpAnyH_done (by kernel_rfl) ?_ _
      go_wp2_with fail
      refine wp_region_held_drew (S := (fun W => W.cell? ⟨g, m * 3, none⟩ = some (.int .i64 x.k) ∧ W.cell? ⟨g, m * 3 + 1, none⟩ = some (.int .i64 x.n) ∧ W.cell? ⟨g, m * 3 + 2, none⟩ = some (.string ⟨x.t.toArray⟩) ∧ W.cell? ⟨g, 0, none⟩ = some (.int .i64 z.k) ∧ W.cell? ⟨g, 1, none⟩ = some (.int .i64 z.n) ∧ W.cell? ⟨g, 2, none⟩ = some (.string ⟨z.t.toArray⟩))) (by kernel_rfl) ?_ (fun hHeld => ?_)
      · (first | exact CE.out _ M11.out.2.1 | exact CE.out _ (HDR.out _ M11.out).2.1)
      refine wpAnyH_take (i := 0) (v := ?_) rfl (by kernel_rfl) (by kernel_rfl) (by kernel_rfl) (fun _ _ _ h => h) (Or.inl ⟨by kernel_rfl, ?_⟩) (by assumption) ?_
      rotate_left
      · (intro wS hSw; (try dsimp only at hSw); go_simp <;> with_reducible rfl)
      try simp only [Act.put, List.getElem_toArray, List.getElem_cons_succ, List.getElem_cons_zero, List.setIfInBounds_toArray, List.set_cons_zero, List.set_cons_succ]
      refine wpAnyH_take (i := 1) (v := ?_) rfl (by kernel_rfl) (by kernel_rfl) (by kernel_rfl) (fun _ _ _ h => h) (Or.inl ⟨by kernel_rfl, ?_⟩) (by assumption) ?_
      rotate_left
      · (intro wS hSw; (try dsimp only at hSw); go_simp <;> with_reducible rfl)
      try simp only [Act.put, List.getElem_toArray, List.getElem_cons_succ, List.getElem_cons_zero, List.setIfInBounds_toArray, List.set_cons_zero, List.set_cons_succ]
      refine wpAnyH_take (i := 2) (v := ?_) rfl (by kernel_rfl) (by kernel_rfl) (by kernel_rfl) (fun _ _ _ h => h) (Or.inl ⟨by kernel_rfl, ?_⟩) (by assumption) ?_
      rotate_left
      · (intro wS hSw; (try dsimp only at hSw); go_simp <;> with_reducible rfl)
      try simp only [Act.put, List.getElem_toArray, List.getElem_cons_succ, List.getElem_cons_zero, List.setIfInBounds_toArray, List.set_cons_zero, List.set_cons_succ]
      refine wpAnyH_take (i := 3) (v := ?_) rfl (by kernel_rfl) (by kernel_rfl) (by kernel_rfl) (fun _ _ _ h => h) (Or.inl ⟨by kernel_rfl, ?_⟩) (by assumption) ?_
      rotate_left
      · (intro wS hSw; (try dsimp only at hSw); go_simp <;> with_reducible rfl)
      try simp only [Act.put, List.getElem_toArray, List.getElem_cons_succ, List.getElem_cons_zero, List.setIfInBounds_toArray, List.set_cons_zero, List.set_cons_succ]
      refine wpAnyH_take (i := 4) (v := ?_) rfl (by kernel_rfl) (by kernel_rfl) (by kernel_rfl) (fun _ _ _ h => h) (Or.inl ⟨by kernel_rfl, ?_⟩) (by assumption) ?_
      rotate_left
      · (intro wS hSw; (try dsimp only at hSw); go_simp <;> with_reducible rfl)
      try simp only [Act.put, List.getElem_toArray, List.getElem_cons_succ, List.getElem_cons_zero, List.setIfInBounds_toArray, List.set_cons_zero, List.set_cons_succ]
      refine wpAnyH_take (i := 5) (v := ?_) rfl (by kernel_rfl) (by kernel_rfl) (by kernel_rfl) (fun _ _ _ h => h) (Or.inl ⟨by kernel_rfl, ?_⟩) (by assumption) ?_
      rotate_left
      · (intro wS hSw; (try dsimp only at hSw); go_simp <;> with_reducible rfl)
      try simp only [Act.put, List.getElem_toArray, List.getElem_cons_succ, List.getElem_cons_zero, List.setIfInBounds_toArray, List.set_cons_zero, List.set_cons_succ]
      refine wpAnyH_take (i := 6) (v := ?_) rfl (by kernel_rfl) (by kernel_rfl) (by kernel_rfl) (fun _ _ _ h => h) (Or.inl ⟨by kernel_rfl, ?_⟩) (by assumption) ?_
      rotate_left
      · (intro wS hSw; (try dsimp only at hSw); go_simp <;> with_reducible rfl)
      try simp only [Act.put, List.getElem_toArray, List.getElem_cons_succ, List.getElem_cons_zero, List.setIfInBounds_toArray, List.set_cons_zero, List.set_cons_succ]
      refine wpAnyH_ready (rs := [7]) (by kernel_rfl) (by simp) (AllReadyH.cons rfl (fun K hK => ?_) AllReadyH.nil)
      go_simp
      (go_at_call 10; (with_reducible refine (ORB.out _).mono ?_); rintro e w' ⟨rfl, hB⟩; have M12 := Lib.hid (HUP.out _ _ (by first | exact M11.out | exact HDR.out _ M11.out) hB); clear hB)
      refine hK.out _ _ ?_ (fun hHeld => ?_)
      · (first | exact CE.out _ M12.out.2.1 | exact CE.out _ (HDR.out _ M12.out).2.1 | exact CE.out _ M11.out.2.1 | exact CE.out _ (HDR.out _ M11.out).2.1)
      clear hK K
      try simp only [Act.put, List.getElem_toArray, List.getElem_cons_succ, List.getElem_cons_zero, List.setIfInBounds_toArray, List.set_cons_zero, List.set_cons_succ]
      refine wpAnyH_take (i := 8) (v := ?_) rfl (by kernel_rfl) (by kernel_rfl) (by kernel_rfl) (fun _ _ _ h => h) (Or.inl ⟨by kernel_rfl, ?_⟩) (by assumption) ?_
      rotate_left
      · (intro wS hSw; (try dsimp only at hSw); go_simp <;> with_reducible rfl)
      try simp only [Act.put, List.getElem_toArray, List.getElem_cons_succ, List.getElem_cons_zero, List.setIfInBounds_toArray, List.set_cons_zero, List.set_cons_succ]
      refine wpAnyH_take (i := 9) (v := ?_) rfl (by kernel_rfl) (by kernel_rfl) (by kernel_rfl) (fun _ _ _ h => h) (Or.inl ⟨by kernel_rfl, ?_⟩) (by assumption) ?_
      rotate_left
      · (intro wS hSw; (try dsimp only at hSw); go_simp <;> with_reducible rfl)
      try simp only [Act.put, List.getElem_toArray, List.getElem_cons_succ, List.getElem_cons_zero, List.setIfInBounds_toArray, List.set_cons_zero, List.set_cons_succ]
      refine wpAnyH_take (i := 10) (v := ?_) rfl (by kernel_rfl) (by kernel_rfl) (by kernel_rfl) (fun _ _ _ h => h) (Or.inl ⟨by kernel_rfl, ?_⟩) (by assumption) ?_
      rotate_left
      · (intro wS hSw; (try dsimp only at hSw); go_simp <;> with_reducible rfl)
      try simp only [Act.put, List.getElem_toArray, List.getElem_cons_succ, List.getElem_cons_zero, List.setIfInBounds_toArray, List.set_cons_zero, List.set_cons_succ]
      refine wpAnyH_take (i := 11) (v := ?_) rfl (by kernel_rfl) (by kernel_rfl) (by kernel_rfl) (fun _ _ _ h => h) (Or.inl ⟨by kernel_rfl, ?_⟩) (by assumption) ?_
      rotate_left
      · (intro wS hSw; (try dsimp only at hSw); go_simp <;> with_reducible rfl)
      try simp only [Act.put, List.getElem_toArray, List.getElem_cons_succ, List.getElem_cons_zero, List.setIfInBounds_toArray, List.set_cons_zero, List.set_cons_succ]
      refine wpAnyH_take (i := 12) (v := ?_) rfl (by kernel_rfl) (by kernel_rfl) (by kernel_rfl) (fun _ _ _ h => h) (Or.inl ⟨by kernel_rfl, ?_⟩) (by assumption) ?_
      rotate_left
      · (intro wS hSw; (try dsimp only at hSw); go_simp <;> with_reducible rfl)
      try simp only [Act.put, List.getElem_toArray, List.getElem_cons_succ, List.getElem_cons_zero, List.setIfInBounds_toArray, List.set_cons_zero, List.set_cons_succ]
      refine wpAnyH_done (by kernel_rfl) ?_ _
      clear M10 M11
      have c0 := (CE.out _ M12.out.2.1).1
      have c1 := (CE.out _ M12.out.2.1).2.1
      have c2 := (CE.out _ M12.out.2.1).2.2.1
      have b0 := (CE.out _ M12.out.2.1).2.2.2.1
      have b1 := (CE.out _ M12.out.2.1).2.2.2.2.1
      have b2 := (CE.out _ M12.out.2.1).2.2.2.2.2
      rcases HQE.out with he | ⟨hne, hqn⟩
      · have hq1 := HQ0.out he
        clear HQE HQ0 HKZ
        subst he
        subst hq1
        go_wp2_with fail
        go_quiet (fail)
        go_wp2_with fail
        go_roundw
        case rel => exact ⟨m + 1, by omega, by go_num, by first | exact M12.out | exact HDR.out _ M12.out | exact HDN.out _ _ M12.out⟩
        case measure => simp [intOf]; omega
      · have hqz : ((-q) == 0) = false := by simp; omega
        rcases differ hne with hd | ⟨hd, hd2⟩ | ⟨hd, hd2, hd3⟩
        · exact absurd HKZ.out hd
        · rw [hd] at b0
          clear hd hne hqn HKZ HQ0 HQE
          go_wp2_with fail
          go_quiet (fail)
          go_wp2_with fail
          go_roundw
          case rel => exact ⟨m + 1, by omega, by go_num, by first | exact M12.out | exact HDR.out _ M12.out | exact HDN.out _ _ M12.out⟩
          case measure => simp [intOf]; omega
        · rw [hd] at b0
          rw [hd2] at b1
          clear hd hd2 hne hqn HKZ HQ0 HQE
          go_wp2_with fail
          go_quiet (fail)
          go_wp2_with fail
          go_roundw
          case rel => exact ⟨m + 1, by omega, by go_num, by first | exact M12.out | exact HDR.out _ M12.out | exact HDN.out _ _ M12.out⟩
          case measure => simp [intOf]; omega
end Go.Proofs.Ytpdidfbeelgpmaa
namespace Go.Proofs.Ytpdidfbeelgpmaa
open Go.RowKit Go.Deep
theorem cells5 : Try.prog.cellsOf 5 = 1 := by kernel_rfl
section
variable {H : Type} {enc : TypeId × Value → H} {W : World} {sp : Nat → Bool} {held : Bool}
theorem addr_spotB {a : Addr} {v : Value} (h : W.cell? (a.add 0) = some v) : a = ⟨a.block, a.off, none⟩ := by
  obtain ⟨b, off, spot⟩ := a
  have : spot = none := by
    cases spot with
    | none => rfl
    | some s => have := World.cell?_spot h; simp [Addr.add] at this
  rw [this]
/-- bytes, one a place, as one list -/
theorem bytes_of (a : Addr) : ∀ len, (∀ i, i < len → ∃ n : Int, W.cell? (a.add i) = some (.int .u8 n) ∧ 0 ≤ n ∧ n ≤ 255) →
    ∃ l : List UInt8, l.length = len ∧ ∀ i (h : i < l.length), W.cell? (a.add i) = some (.int .u8 (l[i].toNat : Nat))
  | 0, _ => ⟨[], rfl, fun i h => absurd h (by simp)⟩
  | len + 1, hel => by
    obtain ⟨ks, hk, hks⟩ := bytes_of a len (fun i hi => hel i (by omega))
    obtain ⟨n, h1, h2, h3⟩ := hel len (by omega)
    refine ⟨ks ++ [UInt8.ofNat n.toNat], by simp [hk], fun i hi => ?_⟩
    by_cases e : i < ks.length
    · rw [List.getElem_append_left e]; exact hks i e
    · have e2 : i = ks.length := by simp at hi; omega
      subst e2
      rw [List.getElem_append_right (by omega)]
      simp only [Nat.sub_self, List.getElem_cons_zero]
      rw [hk, h1]
      have : ((UInt8.ofNat n.toNat).toNat : Int) = n := by
        rw [UInt8.toNat_ofNat']
        omega
      rw [this]
theorem readByts {fuel : Nat} {cs : List Value} {x : DataW H × List MemPlace} (h : DataW.trod enc Try.prog W 0 sp held fuel 22 cs = some x) :
    ∃ a c l, cs = [.slice a (List.length l) c] ∧ Byts W (· < W.heap.size) a l := by
  rcases open_slice Try.underlying22 h with ⟨rfl, -⟩ | ⟨a, len, cap, m, n, D, Pl, rfl, -, hl, hc, hm, -, hall⟩
  · exact ⟨none, 0, [], rfl, .inl rfl⟩
  · have hlm : len ≤ m := by rw [hm]; split <;> omega
    have hel : ∀ i, i < len → ∃ n : Int, W.cell? (a.add i) = some (.int .u8 n) ∧ 0 ≤ n ∧ n ≤ 255 := fun i hi => by
      obtain ⟨cs', h1, h2⟩ := hall i (by omega)
      rw [cells5, Nat.mul_one] at h1
      obtain ⟨n, rfl, -, hs⟩ := DataW.trod_int Try.underlying5 h2
      obtain ⟨-, -, h3⟩ := World.cells?_some h1
      have h4 := h3 0 (by omega)
      rw [show (a.add i).add 0 = a.add i by unfold Addr.add; split <;> simp_all] at h4
      simp only [Lit.wf, Bool.and_eq_true, decide_eq_true_eq] at hs
      exact ⟨n, by simpa using h4, hs.1, hs.2⟩
    obtain ⟨l, hk, hkeys⟩ := bytes_of a len hel
    refine ⟨some a, cap, l, by rw [hk], ?_⟩
    by_cases h0 : l.length = 0
    · exact .inl h0
    · have h1 := hkeys 0 (by omega)
      have ha := addr_spotB h1
      refine .inr ⟨a.block, a.off, by rw [← ha], ?_, fun i hi => ?_⟩
      · have := World.block_lt_of_cell? _ _ h1
        rw [ha] at this
        simpa [Addr.add] using this
      · have := hkeys i hi
        rw [ha, Addr.add_mid] at this
        exact this
end
end Go.Proofs.Ytpdidfbeelgpmaa
