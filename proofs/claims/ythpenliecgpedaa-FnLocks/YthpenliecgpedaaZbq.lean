import Derived.Test.YthpenliecgpedaaZbn
import Derived.Test.YthpenliecgpedaaZbp
namespace Go.Proofs.Ythpenliecgpedaa
open Go.RowKit Go.MuLone
set_option linter.unusedSimpArgs false
variable {w W W' : World} {p S : Nat} {a : Option Addr} {l : List UInt8} {c m s : Nat}
def rowThr : Obj := .cells #[.string ⟨#[108, 111, 99, 107]⟩, .string ⟨#[111, 116, 104, 101, 114]⟩, .string ⟨#[116, 104, 105, 114, 100]⟩] 9
def NameV (W : World) (p S : Nat) (a : Option Addr) (l : List UInt8) (c m : Nat) (e : Ending) (W' : World) : Prop := ∃ t s', e = .returned (.string ⟨t.toArray⟩) ∧ Thr t ∧ Src W' p S a l c (m + 1) s' ∧ Frm (· = p) W W'
set_option maxRecDepth 100000 in
set_option maxHeartbeats 3200000 in
theorem srcLockName (h : Src W p S a l c m s) (hm : m < 1000000) :
    Calls Try.prog 22 #[.pointer (some ⟨p, 0, none⟩)] W (NameV W p S a l c m) := by
  have HP : Hid (p < W.heap.size) := (Array.getElem?_eq_some_iff.1 h.box).1
  have hA : Below W.heap.size W (W.alloc rowThr) := (Below.refl _ _).alloc (Nat.le_refl _) _
  have hrow : (W.alloc rowThr).heap[W.heap.size]? = some rowThr := heap_newD _ _
  have hst : Strs (W.alloc rowThr) (· = W.heap.size) (some ⟨W.heap.size, 0, none⟩) [lockP, otherP, thirdP] := by
    refine .inr ⟨_, 0, rfl, rfl, fun i hi => ?_⟩
    match i, hi with
    | 0, _ => exact cell_at (o := 0) hrow rfl
    | 1, _ => exact cell_at (o := 1) hrow rfl
    | 2, _ => exact cell_at (o := 2) hrow rfl
  have PK : Hid (Calls Try.prog 40 #[.pointer (some ⟨p, 0, none⟩), .slice (some ⟨W.heap.size, 0, none⟩) 3 3] (W.alloc rowThr) (PickAns (W.alloc rowThr) p S a l c m [lockP, otherP, thirdP])) :=
    srcPick (h.on hA) hm [lockP, otherP, thirdP] (· = W.heap.size) _ 3 hst (fun b hb => by have := HP.out; simp; omega) (by decide) (by decide)
  have HA := Lib.hid hA
  clear h hm hA hrow hst
  go_enter Try.func22, Try.ntmps22
  go_wp2_with fail
  refine PK.out.mono ?_
  rintro e w1 ⟨t, s', rfl, ht, hS, hF⟩
  have HS := Lib.hid hS
  have HF := Lib.hid hF
  have HT := Lib.hid ht
  clear hS hF ht PK
  go_wp2_with fail
  go_ret
  exact ⟨t, s', rfl, HT.out, HS.out, (Frm.of_below HA.out).trans HF.out⟩
structure Lcs (w : World) (p S : Nat) (a : Option Addr) (l : List UInt8) (c m : Nat) (W : World) (L : List LkV) (v : Value) : Prop where
  bel : Below w.heap.size w W
  pos : w.heap.size ≤ p
  src : ∃ s, Src W p S a l c m s
  rd : Rd W (fun b => b ≠ p ∧ b < W.heap.size) (dLockS L) v
  th : ThL L
theorem Lcs.pl {L : List LkV} {v : Value} (h : Lcs w p S a l c m W L v) : p < W.heap.size := by
  obtain ⟨s, hs⟩ := h.src
  exact (Array.getElem?_eq_some_iff.1 hs.box).1
theorem Lcs.draw {L : List LkV} {v : Value} (h : Lcs w p S a l c m W L v) (hF : Frm (· = p) W W') {s' : Nat} (hS : Src W' p S a l c (m + 1) s') : Lcs w p S a l c (m + 1) W' L v := by
  have hp := h.pos
  exact ⟨h.bel.trans (hF.below h.bel.size (fun b hb => by omega)), hp, ⟨s', hS⟩, (h.rd.frm hF (fun b hb => hb.1)).mono (fun b hb => ⟨hb.1, Nat.lt_of_lt_of_le hb.2 hF.size⟩), h.th⟩
theorem Lcs.keep {L : List LkV} {v : Value} (h : Lcs w p S a l c m W L v) (hB : Below W.heap.size W W') : Lcs w p S a l c m W' L v := by
  obtain ⟨s, hs⟩ := h.src
  exact ⟨h.bel.trans (hB.mono h.bel.size), h.pos, ⟨s, hs.on hB⟩, (h.rd.later hB).mono (fun b hb => ⟨hb.1, Nat.lt_of_lt_of_le hb.2 hB.size⟩), h.th⟩
theorem Lcs.made {L L' : List LkV} {v : Value} (h : Lcs w p S a l c m W L v) {es : List LE} {ra : Option Addr} {rc : Nat} (he : lks es = L') (hT : LTab W.heap.size W' es (.slice ra L'.length rc)) (hB : Below W.heap.size W W') (ht : ThL L') : Lcs w p S a l c m W' L' (.slice ra L'.length rc) := by
  obtain ⟨s, hs⟩ := h.src
  have hp := h.pl
  have hr := hT.own.rd'
  rw [he] at hr
  exact ⟨h.bel.trans (hB.mono h.bel.size), h.pos, ⟨s, hs.on hB⟩, hr.mono (fun b hb => ⟨by omega, hb.2⟩), ht⟩
theorem Lcs.start (h : Src W p S a l c m s) (hB : Below w.heap.size w W) (hp : w.heap.size ≤ p) (g : Nat) : Lcs w p S a l c m W [] (.slice (some ⟨g, 0, none⟩) 0 0) :=
  ⟨hB, hp, ⟨s, h⟩, ⟨_, 0, rfl, Nat.le_refl _, .inl rfl⟩, ThL.nil⟩
def LocksV (w : World) (e : Ending) (W' : World) : Prop := ∃ (L : List LkV) (va : Option Addr) (vc : Nat), e = .returned (.slice va L.length vc) ∧ ThL L ∧ Rd W' (· < W'.heap.size) (dLockS L) (.slice va L.length vc) ∧ Below w.heap.size w W'
theorem ses_nat {n : Nat} (h : n < 3) : sesB (n : Int) = true := by unfold sesB inB; simp; omega
set_option maxRecDepth 100000 in
set_option maxHeartbeats 6400000 in
theorem srcLocks (w W : World) {s : Nat} (h : Src W p S a l c 0 s) (hp : w.heap.size ≤ p) (hB : Below w.heap.size w W) :
    Calls Try.prog 21 #[.pointer (some ⟨p, 0, none⟩)] W (LocksV w) := by
  have hA : Below W.heap.size W (W.alloc (.cells #[] 54)) := below_allocD _ _
  have H0 := Lib.hid (Lcs.start (h.on hA) (hB.trans (hA.mono hB.size)) hp W.heap.size)
  have NX : Hid (∀ (W2 : World) (L : List LkV) (v : Value) (m n : Nat), Lcs w p S a l c m W2 L v → m < 1000000 → 1 < n → n ≤ 256 → Calls Try.prog 39 #[.pointer (some ⟨p, 0, none⟩), .int .i64 (n : Int)] W2 fun e W3 => ∃ r : Nat, e = .returned (.int .i64 (r : Int)) ∧ r < n ∧ Lcs w p S a l c (m + 1) W3 L v) := fun W2 L v m n hL hm h1 h2 => by
    obtain ⟨s, hs⟩ := hL.src
    exact (srcNext hs hm n h1 h2).mono (fun e W3 ⟨r, s', he, hr, hS, hF⟩ => ⟨r, he, hr, hL.draw hF hS⟩)
  have NM : Hid (∀ (W2 : World) (L : List LkV) (v : Value) (m : Nat), Lcs w p S a l c m W2 L v → m < 1000000 → Calls Try.prog 22 #[.pointer (some ⟨p, 0, none⟩)] W2 fun e W3 => ∃ t : List UInt8, e = .returned (.string ⟨t.toArray⟩) ∧ Thr t ∧ Lcs w p S a l c (m + 1) W3 L v) := fun W2 L v m hL hm => by
    obtain ⟨s, hs⟩ := hL.src
    exact (srcLockName hs hm).mono (fun e W3 ⟨t, s', he, ht, hS, hF⟩ => ⟨t, he, ht, hL.draw hF hS⟩)
  have CL : Hid (∀ (W2 : World) (L : List LkV) (va : Option Addr) (vc m n : Nat) (t : List UInt8), Lcs w p S a l c m W2 L (.slice va L.length vc) → n < 3 → Thr t → Calls Try.prog 32 #[.slice va L.length vc, .int .i64 (n : Int), .string ⟨t.toArray⟩] W2 fun e W3 => ∃ (L' : List LkV) (ra : Option Addr) (rc : Nat) (tv : Value) (cd : Int), e = .returned (.tuple #[.slice ra L'.length rc, tv, .int .i64 cd]) ∧ Lcs w p S a l c m W3 L' (.slice ra L'.length rc)) := fun W2 L va vc m n t hL hn ht =>
    (leaveS L (n : Int) t va vc _ W2 hL.th.ok hL.rd).mono (fun e W3 ⟨es, ra, rc, ta, tc, he, hes, hT, _, hB⟩ => ⟨leaveL L (n : Int) t, ra, rc, _, _, he, hL.made hes hT hB (hL.th.leave _ _)⟩)
  have CS : Hid (∀ (W2 : World) (L : List LkV) (va : Option Addr) (vc m n : Nat) (t : List UInt8), Lcs w p S a l c m W2 L (.slice va L.length vc) → n < 3 → Thr t → Calls Try.prog 30 #[.slice va L.length vc, .int .i64 (n : Int), .string ⟨t.toArray⟩] W2 fun e W3 => ∃ (L' : List LkV) (ra : Option Addr) (rc : Nat) (tv : Value) (cd : Int), e = .returned (.tuple #[.slice ra L'.length rc, tv, .int .i64 cd]) ∧ Lcs w p S a l c m W3 L' (.slice ra L'.length rc)) := fun W2 L va vc m n t hL hn ht =>
    (stealS L (n : Int) t va vc _ W2 hL.th.ok hL.rd).mono (fun e W3 ⟨es, ra, rc, ta, tc, he, hes, hT, _, hB⟩ => ⟨stealL L (n : Int) t, ra, rc, _, _, he, hL.made hes hT hB (hL.th.steal (ses_nat hn) ht)⟩)
  have CT : Hid (∀ (W2 : World) (L : List LkV) (va : Option Addr) (vc m n : Nat) (t : List UInt8), Lcs w p S a l c m W2 L (.slice va L.length vc) → n < 3 → Thr t → Calls Try.prog 28 #[.slice va L.length vc, .int .i64 (n : Int), .string ⟨t.toArray⟩] W2 fun e W3 => ∃ (L' : List LkV) (ra : Option Addr) (rc : Nat) (tb : Bool) (cd : Int), e = .returned (.tuple #[.slice ra L'.length rc, .bool tb, .int .i64 cd]) ∧ Lcs w p S a l c m W3 L' (.slice ra L'.length rc) ∧ Lcs w p S a l c m W3 L (.slice va L.length vc)) := fun W2 L va vc m n t hL hn ht =>
    (takeS L (n : Int) t va vc _ W2 hL.th.ok.len (lks_que hL.th.ok) hL.rd).mono (fun e W3 ⟨es, ra, rc, he, hes, hT, hB⟩ => ⟨takeL L (n : Int) t, ra, rc, _, _, he, hL.made hes hT hB (hL.th.take (ses_nat hn) ht), hL.keep hB⟩)
  have N10 := Lib.hid (NX.out _ _ _ _ 10 H0.out (by omega) (by omega) (by omega))
  clear h hB hA hp H0
  go_enter Try.func21, Try.ntmps21
  go_wp2_with fail
  refine N10.out.mono ?_
  rintro e w1 ⟨r, rfl, hr, hL⟩
  have D1 := Lib.hid hL
  have HR := Lib.hid hr
  clear hL hr N10
  go_wp2_with fail
  go_loopw [3, 4] (fun o i wr => ∃ (i' j : Nat) (L : List LkV) (va : Option Addr) (vc : Nat), i' + j = r ∧ i = .int .i64 ((i' : Nat) : Int) ∧ o = .slice va L.length vc ∧ Hid (Lcs w p S a l c (3 * j + 1) wr L (.slice va L.length vc))) (fun _ i _ => (intOf i).toNat)
  case atStart => exact ⟨r, 0, [], _, _, rfl, rfl, rfl, D1⟩
  case round =>
    obtain ⟨i', j, L, va, vc, hij, rfl, rfl, HD⟩ := hrel
    have hj10 : j ≤ 10 := by have := HR.out; omega
    by_cases hi : i' = 0
    · subst hi
      clear hij hj10
      go_wp2_with fail
      go_ret
      exact ⟨L, va, vc, rfl, HD.out.th, HD.out.rd.mono (fun b hb => hb.2), HD.out.bel⟩
    · obtain ⟨q, rfl⟩ : ∃ q, i' = q + 1 := ⟨i' - 1, by omega⟩
      obtain ⟨i2, hi2⟩ : ∃ i2, i2 = q + 1 := ⟨_, rfl⟩
      have d1 : decide (0 < (i2 : Int)) = true := decide_eq_true (by omega)
      have d2 : decide (0 < i2) = true := decide_eq_true (by omega)
      have hq : i2 ≤ 10 := by have := HR.out; omega
      have f1 : IntKind.i64.wrap ((i2 : Int) - 1) = (q : Int) := by rw [IntKind.wrap_i64]; omega
      have HQ : Hid (q + (j + 1) = r) := by show _ = _; omega
      have HI : Hid (i2 = q + 1) := hi2
      have HJ : Hid (3 * j + 10 < 1000000) := by show _ < _; omega
      have N4 := Lib.hid (NX.out _ _ _ _ 4 HD.out (by omega) (by omega) (by omega))
      rw [← hi2]
      clear hij hj10 hi hi2 hq
      go_wp2_with fail
      refine N4.out.mono ?_
      rintro e w2 ⟨k, rfl, hk, hL2⟩
      have N3 := Lib.hid (NX.out _ _ _ _ 3 hL2 (by have := HJ.out; omega) (by omega) (by omega))
      clear hL2 N4
      rcases (by omega : k = 0 ∨ k = 1 ∨ k = 2 ∨ k = 3) with rfl | rfl | rfl | rfl
      · go_wp2_with fail
        refine N3.out.mono ?_
        rintro e w3 ⟨n, rfl, hn, hL3⟩
        have NN := Lib.hid (NM.out _ _ _ _ hL3 (by have := HJ.out; omega))
        have HN := Lib.hid hn
        clear hL3 hn N3
        go_wp2_with fail
        refine NN.out.mono ?_
        rintro e w4 ⟨t, rfl, ht, hL4⟩
        have CC := Lib.hid (CL.out _ _ _ _ _ n t hL4 HN.out ht)
        clear hL4 ht NN
        go_wp2_with fail
        refine CC.out.mono ?_
        rintro e w5 ⟨L', ra, rc, tv, cd, rfl, hL5⟩
        have HL := Lib.hid hL5
        clear hL5 CC
        generalize hl' : L'.length = ll' at *
        go_wp2_with fail
        go_roundw
        case rel => exact ⟨q, j + 1, L', _, _, HQ.out, rfl, by rw [hl'], by show Lcs w p S a l c (3 * j + 1 + 1 + 1 + 1) _ _ _; rw [hl']; exact HL.out⟩
        case measure => have := HI.out; simp [intOf]; omega
      · go_wp2_with fail
        refine N3.out.mono ?_
        rintro e w3 ⟨n, rfl, hn, hL3⟩
        have NN := Lib.hid (NM.out _ _ _ _ hL3 (by have := HJ.out; omega))
        have HN := Lib.hid hn
        clear hL3 hn N3
        go_wp2_with fail
        refine NN.out.mono ?_
        rintro e w4 ⟨t, rfl, ht, hL4⟩
        have CC := Lib.hid (CS.out _ _ _ _ _ n t hL4 HN.out ht)
        clear hL4 ht NN
        go_wp2_with fail
        refine CC.out.mono ?_
        rintro e w5 ⟨L', ra, rc, tv, cd, rfl, hL5⟩
        have HL := Lib.hid hL5
        clear hL5 CC
        generalize hl' : L'.length = ll' at *
        go_wp2_with fail
        go_roundw
        case rel => exact ⟨q, j + 1, L', _, _, HQ.out, rfl, by rw [hl'], by show Lcs w p S a l c (3 * j + 1 + 1 + 1 + 1) _ _ _; rw [hl']; exact HL.out⟩
        case measure => have := HI.out; simp [intOf]; omega
      · go_wp2_with fail
        refine N3.out.mono ?_
        rintro e w3 ⟨n, rfl, hn, hL3⟩
        have NN := Lib.hid (NM.out _ _ _ _ hL3 (by have := HJ.out; omega))
        have HN := Lib.hid hn
        clear hL3 hn N3
        go_wp2_with fail
        refine NN.out.mono ?_
        rintro e w4 ⟨t, rfl, ht, hL4⟩
        have CC := Lib.hid (CT.out _ _ _ _ _ n t hL4 HN.out ht)
        clear hL4 ht NN
        go_wp2_with fail
        refine CC.out.mono ?_
        rintro e w5 ⟨L', ra, rc, tv, cd, rfl, hL5, hL6⟩
        have HL := Lib.hid (And.intro hL5 hL6)
        clear hL5 hL6 CC
        generalize hl' : L'.length = ll' at *
        by_cases h0 : cd = 0
        · have c1 : (cd == 0) = true := by simpa using h0
          go_wp2_with fail
          go_roundw
          case rel => exact ⟨q, j + 1, L', _, _, HQ.out, rfl, by rw [hl'], by show Lcs w p S a l c (3 * j + 1 + 1 + 1 + 1) _ _ _; rw [hl']; exact HL.out.1⟩
          case measure => have := HI.out; simp [intOf]; omega
        · have c1 : (cd == 0) = false := by simpa using h0
          go_wp2_with fail
          go_roundw
          case rel => exact ⟨q, j + 1, L, _, _, HQ.out, rfl, rfl, by show Lcs w p S a l c (3 * j + 1 + 1 + 1 + 1) _ _ _; exact HL.out.2⟩
          case measure => have := HI.out; simp [intOf]; omega
      · go_wp2_with fail
        refine N3.out.mono ?_
        rintro e w3 ⟨n, rfl, hn, hL3⟩
        have NN := Lib.hid (NM.out _ _ _ _ hL3 (by have := HJ.out; omega))
        have HN := Lib.hid hn
        clear hL3 hn N3
        go_wp2_with fail
        refine NN.out.mono ?_
        rintro e w4 ⟨t, rfl, ht, hL4⟩
        have CC := Lib.hid (CT.out _ _ _ _ _ n t hL4 HN.out ht)
        clear hL4 ht NN
        go_wp2_with fail
        refine CC.out.mono ?_
        rintro e w5 ⟨L', ra, rc, tv, cd, rfl, hL5, hL6⟩
        have HL := Lib.hid (And.intro hL5 hL6)
        clear hL5 hL6 CC
        generalize hl' : L'.length = ll' at *
        by_cases h0 : cd = 0
        · have c1 : (cd == 0) = true := by simpa using h0
          go_wp2_with fail
          go_roundw
          case rel => exact ⟨q, j + 1, L', _, _, HQ.out, rfl, by rw [hl'], by show Lcs w p S a l c (3 * j + 1 + 1 + 1 + 1) _ _ _; rw [hl']; exact HL.out.1⟩
          case measure => have := HI.out; simp [intOf]; omega
        · have c1 : (cd == 0) = false := by simpa using h0
          go_wp2_with fail
          go_roundw
          case rel => exact ⟨q, j + 1, L, _, _, HQ.out, rfl, rfl, by show Lcs w p S a l c (3 * j + 1 + 1 + 1 + 1) _ _ _; exact HL.out.2⟩
          case measure => have := HI.out; simp [intOf]; omega
theorem locksOfS (l : List UInt8) (a : Option Addr) (c : Nat) (w : World) (hb : Byts w (· < w.heap.size) a l) :
    Calls Try.prog 5 #[.slice a l.length c] w (LocksV w) := by
  have NW := Lib.hid (srcNew (c := c) w (Nat.le_refl _) hb)
  clear hb
  go_enter Try.func5, Try.ntmps5
  go_wp2_with fail
  refine NW.out.mono ?_
  rintro e w1 ⟨s, rfl, hs, hB⟩
  have DR := Lib.hid (srcLocks w w1 hs (Nat.le_refl _) hB)
  clear hs hB NW
  go_wp2_with fail
  refine DR.out.mono ?_
  rintro e w2 ⟨L, va, vc, rfl, hd⟩
  have HD := Lib.hid hd
  clear hd DR
  go_wp2_with fail
  go_ret
  exact ⟨L, va, vc, rfl, HD.out⟩
theorem lockNameOfS (l : List UInt8) (a : Option Addr) (c : Nat) (w : World) (hb : Byts w (· < w.heap.size) a l) :
    Calls Try.prog 6 #[.slice a l.length c] w fun e w' => ∃ t : List UInt8, e = .returned (.string ⟨t.toArray⟩) ∧ Thr t ∧ Below w.heap.size w w' := by
  have NW := Lib.hid (srcNew (c := c) w (Nat.le_refl _) hb)
  clear hb
  go_enter Try.func6, Try.ntmps6
  go_wp2_with fail
  refine NW.out.mono ?_
  rintro e w1 ⟨s, rfl, hs, hB⟩
  have DR := Lib.hid (srcLockName hs (by omega))
  have HB := Lib.hid hB
  clear hs hB NW
  go_wp2_with fail
  refine DR.out.mono ?_
  rintro e w2 ⟨t, s', rfl, ht, -, hF⟩
  have HT := Lib.hid ht
  have HF := Lib.hid hF
  clear ht hF DR
  go_wp2_with fail
  go_ret
  exact ⟨t, rfl, HT.out, HB.out.trans (HF.out.below HB.out.size (fun b hb => by omega))⟩
end Go.Proofs.Ythpenliecgpedaa
