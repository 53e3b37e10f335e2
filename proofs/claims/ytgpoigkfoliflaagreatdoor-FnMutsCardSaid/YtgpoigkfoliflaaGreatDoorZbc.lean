import Derived.Test.YtgpoigkfoliflaaGreatDoorZbb
namespace Go.Proofs.YtgpoigkfoliflaaGreatDoor
open Go.RowKit
set_option linter.unusedSimpArgs false
noncomputable def mcR (t : Tb) (c : MutV) : Int := if tabB t = true ∧ mutB c = true then mutC t c else 0
noncomputable def mcC (t : Tb) (c : MutV) : Int := if tabB t = true ∧ mutB c = true then 0 else 1
set_option maxRecDepth 100000 in
set_option maxHeartbeats 6400000 in
theorem mutCodeS (t : Tb) (c : MutV) (ca : Option Addr) (cc : Nat) (ua : Option Addr) (uc : Nat) (va : Option Addr) (vc : Nat) (B : Nat → Prop) (S : Nat) (w : World) (ho : t.ok) (hl : c.val.length ≤ maxLen) (hT : t.Has w B ca ua) (hw : S ≤ w.heap.size) (hA : Ats w (· < S) va c.val) :
    Calls Tryz.prog 36 #[.agg #[.string ⟨t.nm.toArray⟩, .slice ca t.cols.length cc, .slice ua t.uq.length uc, .bool t.rt], .agg #[.string ⟨c.col.toArray⟩, .int .i64 c.fn, .slice va c.val.length vc]] w fun e w' => e = .returned (.int .i64 (mutC t c)) ∧ Below w.heap.size w w' := by
  have PL : Hid (∀ W, BoxE 27 49 w W #[.string ⟨t.nm.toArray⟩, .slice ca t.cols.length cc, .slice ua t.uq.length uc, .bool t.rt] #[.string ⟨c.col.toArray⟩, .int .i64 c.fn, .slice va c.val.length vc] → Calls Tryz.prog 50 #[.agg #[.string ⟨t.nm.toArray⟩, .slice ca t.cols.length cc, .slice ua t.uq.length uc, .bool t.rt], .string ⟨c.col.toArray⟩] W fun e w' => e = .returned (.int .i64 (placeC t.cols c.col)) ∧ BoxE 27 49 w w' #[.string ⟨t.nm.toArray⟩, .slice ca t.cols.length cc, .slice ua t.uq.length uc, .bool t.rt] #[.string ⟨c.col.toArray⟩, .int .i64 c.fn, .slice va c.val.length vc]) := fun W h => (placeS t c.col ca cc ua uc B W ho.2.1 (hT.later h.bel)).mono (fun e w' ⟨he, hB⟩ => ⟨he, h.later hB⟩)
  have CL : Hid (∀ W, Below w.heap.size w W → Cols W B ca t.cols) := fun W h => hT.1.later h
  have HH := Lib.hid hA.head
  have HW := Lib.hid hw
  have hb := boxE 27 49 w #[.string ⟨t.nm.toArray⟩, .slice ca t.cols.length cc, .slice ua t.uq.length uc, .bool t.rt] #[.string ⟨c.col.toArray⟩, .int .i64 c.fn, .slice va c.val.length vc]
  have x0 := cell_at (o := 0) hb.a rfl
  have x1 := cell_at (o := 1) hb.a rfl
  have x2 := cell_at (o := 2) hb.a rfl
  have x3 := cell_at (o := 3) hb.a rfl
  have y0 := cell_at (o := 0) hb.b rfl
  have y1 := cell_at (o := 1) hb.b rfl
  have y2 := cell_at (o := 2) hb.b rfl
  have HB := Lib.hid hb
  have hcl := ho.2.1
  unfold maxLen at hl hcl
  clear ho hT hw hA hb
  rcases place_cases t.cols c.col with hp | ⟨k, hk, hp⟩
  · have HC : Hid (mutC t c = 11) := mut_none hp
    rw [hp] at PL
    clear hp HH
    go_enter Tryz.func36, Tryz.ntmps36
    go_wp2_with fail
    refine (PL.out _ HB.out).mono ?_
    rintro e w1 ⟨rfl, hb⟩
    clear x0 x1 x2 x3 y0 y1 y2
    have x1 := cell_at (o := 1) hb.a rfl
    have y0 := cell_at (o := 0) hb.b rfl
    have y1 := cell_at (o := 1) hb.b rfl
    have y2 := cell_at (o := 2) hb.b rfl
    have HB1 := Lib.hid hb.bel
    clear hb
    go_wp2_with fail
    go_ret
    exact ⟨ret_i HC.out.symm, HB1.out⟩
  have HE := Lib.hid (mut_at hk hp)
  have hk1 : (k : Int) < (t.cols.length : Int) := by omega
  have hk0 : decide ((0 : Int) ≤ (k : Int)) = true := decide_eq_true (by omega)
  have hk2 : decide ((k : Int) < 0) = false := decide_eq_false (by omega)
  obtain ⟨b1, off1, rfl, -, -⟩ := (CL.out _ (Below.refl _ _)).at k hk
  rw [hp] at PL
  clear hp
  rcases HH.out with h0 | ⟨b, off, q, h0, rfl, hkn, hf⟩
  · have hd : decide (0 < c.val.length) = false := decide_eq_false (by omega)
    have H0 := Lib.hid h0
    clear h0
    have HK := Lib.hid (kindNo_nil (kd := t.cols[k].k) H0.out)
    by_cases hF : c.fn ≤ 5
    case neg =>
      have HC : Hid (mutC t c = 0) := HE.out.trans (mutK_ok HK.out hF)
      have gF : decide (c.fn ≤ 5) = false := decide_eq_false hF
      clear hF HE
      go_enter Tryz.func36, Tryz.ntmps36
      go_wp2_with fail
      refine (PL.out _ HB.out).mono ?_
      rintro e w1 ⟨rfl, hb⟩
      clear x0 x1 x2 x3 y0 y1 y2
      have x1 := cell_at (o := 1) hb.a rfl
      have y0 := cell_at (o := 0) hb.b rfl
      have y1 := cell_at (o := 1) hb.b rfl
      have y2 := cell_at (o := 2) hb.b rfl
      obtain ⟨b2, off2, e2, -, hc2⟩ := (CL.out _ hb.bel).at k hk
      simp only [Option.some.injEq, Addr.mk.injEq, and_true] at e2
      obtain ⟨rfl, rfl⟩ := e2
      have c1 := (hc2 k hk).2.1
      clear hc2
      have HB1 := Lib.hid hb.bel
      clear hb
      generalize t.cols[k] = x at *
      go_wp2_with fail
      go_ret
      exact ⟨ret_i HC.out.symm, HB1.out⟩
    have gF : decide (c.fn ≤ 5) = true := decide_eq_true hF
    by_cases h1 : t.cols[k].k = 1
    case neg =>
      have HC : Hid (mutC t c = 9) := HE.out.trans (mutK_no HK.out hF (.inl h1))
      have g1 : (t.cols[k].k != 1) = true := by simpa using h1
      clear h1
      clear hF HE
      go_enter Tryz.func36, Tryz.ntmps36
      go_wp2_with fail
      refine (PL.out _ HB.out).mono ?_
      rintro e w1 ⟨rfl, hb⟩
      clear x0 x1 x2 x3 y0 y1 y2
      have x1 := cell_at (o := 1) hb.a rfl
      have y0 := cell_at (o := 0) hb.b rfl
      have y1 := cell_at (o := 1) hb.b rfl
      have y2 := cell_at (o := 2) hb.b rfl
      obtain ⟨b2, off2, e2, -, hc2⟩ := (CL.out _ hb.bel).at k hk
      simp only [Option.some.injEq, Addr.mk.injEq, and_true] at e2
      obtain ⟨rfl, rfl⟩ := e2
      have c1 := (hc2 k hk).2.1
      clear hc2
      have HB1 := Lib.hid hb.bel
      clear hb
      generalize t.cols[k] = x at *
      go_wp2_with fail
      go_ret
      exact ⟨ret_i HC.out.symm, HB1.out⟩
    have g1 : (t.cols[k].k != 1) = false := by simpa using h1
    have h3 : ¬ c.val.length = 1 := by have := H0.out; omega
    have HC : Hid (mutC t c = 9) := HE.out.trans (mutK_no HK.out hF (.inr h3))
    have g3 : ((c.val.length : Int) != 1) = true := by simpa [bne_iff_ne] using (by omega : ¬ (c.val.length : Int) = 1)
    clear h1 h3
    clear hF HE
    go_enter Tryz.func36, Tryz.ntmps36
    go_wp2_with fail
    refine (PL.out _ HB.out).mono ?_
    rintro e w1 ⟨rfl, hb⟩
    clear x0 x1 x2 x3 y0 y1 y2
    have x1 := cell_at (o := 1) hb.a rfl
    have y0 := cell_at (o := 0) hb.b rfl
    have y1 := cell_at (o := 1) hb.b rfl
    have y2 := cell_at (o := 2) hb.b rfl
    obtain ⟨b2, off2, e2, -, hc2⟩ := (CL.out _ hb.bel).at k hk
    simp only [Option.some.injEq, Addr.mk.injEq, and_true] at e2
    obtain ⟨rfl, rfl⟩ := e2
    have c1 := (hc2 k hk).2.1
    clear hc2
    have HB1 := Lib.hid hb.bel
    clear hb
    generalize t.cols[k] = x at *
    go_wp2_with fail
    go_ret
    exact ⟨ret_i HC.out.symm, HB1.out⟩
  · have HF := Lib.hid hf
    have hd : decide (0 < c.val.length) = true := decide_eq_true (by omega)
    have hd0 : (0 : Int) < (c.val.length : Int) := by omega
    have hkn1 := hkn (t.cols[k].k)
    clear hf hkn
    cases hq : (q != t.cols[k].k)
    case true =>
      have HC : Hid (mutC t c = 9) := HE.out.trans (mutK_kind (by rw [hkn1, hq]))
      clear HE hkn1
      go_enter Tryz.func36, Tryz.ntmps36
      go_wp2_with fail
      refine (PL.out _ HB.out).mono ?_
      rintro e w1 ⟨rfl, hb⟩
      clear x0 x1 x2 x3 y0 y1 y2
      have x1 := cell_at (o := 1) hb.a rfl
      have y0 := cell_at (o := 0) hb.b rfl
      have y1 := cell_at (o := 1) hb.b rfl
      have y2 := cell_at (o := 2) hb.b rfl
      obtain ⟨b2, off2, e2, -, hc2⟩ := (CL.out _ hb.bel).at k hk
      simp only [Option.some.injEq, Addr.mk.injEq, and_true] at e2
      obtain ⟨rfl, rfl⟩ := e2
      have c1 := (hc2 k hk).2.1
      clear hc2
      have f0 := HF.out _ (hb.bel.mono HW.out)
      have HB1 := Lib.hid hb.bel
      clear hb
      generalize t.cols[k] = x at *
      go_wp2_with fail
      go_ret
      exact ⟨ret_i HC.out.symm, HB1.out⟩
    have HK := Lib.hid (hkn1.trans hq)
    by_cases hF : c.fn ≤ 5
    case neg =>
      have HC : Hid (mutC t c = 0) := HE.out.trans (mutK_ok HK.out hF)
      have gF : decide (c.fn ≤ 5) = false := decide_eq_false hF
      clear hF HE
      go_enter Tryz.func36, Tryz.ntmps36
      go_wp2_with fail
      refine (PL.out _ HB.out).mono ?_
      rintro e w1 ⟨rfl, hb⟩
      clear x0 x1 x2 x3 y0 y1 y2
      have x1 := cell_at (o := 1) hb.a rfl
      have y0 := cell_at (o := 0) hb.b rfl
      have y1 := cell_at (o := 1) hb.b rfl
      have y2 := cell_at (o := 2) hb.b rfl
      obtain ⟨b2, off2, e2, -, hc2⟩ := (CL.out _ hb.bel).at k hk
      simp only [Option.some.injEq, Addr.mk.injEq, and_true] at e2
      obtain ⟨rfl, rfl⟩ := e2
      have c1 := (hc2 k hk).2.1
      clear hc2
      have f0 := HF.out _ (hb.bel.mono HW.out)
      have HB1 := Lib.hid hb.bel
      clear hb
      generalize t.cols[k] = x at *
      go_wp2_with fail
      go_ret
      exact ⟨ret_i HC.out.symm, HB1.out⟩
    have gF : decide (c.fn ≤ 5) = true := decide_eq_true hF
    by_cases h1 : t.cols[k].k = 1
    case neg =>
      have HC : Hid (mutC t c = 9) := HE.out.trans (mutK_no HK.out hF (.inl h1))
      have g1 : (t.cols[k].k != 1) = true := by simpa using h1
      clear h1
      clear hF HE
      go_enter Tryz.func36, Tryz.ntmps36
      go_wp2_with fail
      refine (PL.out _ HB.out).mono ?_
      rintro e w1 ⟨rfl, hb⟩
      clear x0 x1 x2 x3 y0 y1 y2
      have x1 := cell_at (o := 1) hb.a rfl
      have y0 := cell_at (o := 0) hb.b rfl
      have y1 := cell_at (o := 1) hb.b rfl
      have y2 := cell_at (o := 2) hb.b rfl
      obtain ⟨b2, off2, e2, -, hc2⟩ := (CL.out _ hb.bel).at k hk
      simp only [Option.some.injEq, Addr.mk.injEq, and_true] at e2
      obtain ⟨rfl, rfl⟩ := e2
      have c1 := (hc2 k hk).2.1
      clear hc2
      have f0 := HF.out _ (hb.bel.mono HW.out)
      have HB1 := Lib.hid hb.bel
      clear hb
      generalize t.cols[k] = x at *
      go_wp2_with fail
      go_ret
      exact ⟨ret_i HC.out.symm, HB1.out⟩
    have g1 : (t.cols[k].k != 1) = false := by simpa using h1
    by_cases h3 : c.val.length = 1
    case pos =>
      have HC : Hid (mutC t c = 0) := HE.out.trans (mutK_yes HK.out h1 h3)
      have g3 : ((c.val.length : Int) != 1) = false := by rw [h3]; rfl
      clear h1 h3
      clear hF HE
      go_enter Tryz.func36, Tryz.ntmps36
      go_wp2_with fail
      refine (PL.out _ HB.out).mono ?_
      rintro e w1 ⟨rfl, hb⟩
      clear x0 x1 x2 x3 y0 y1 y2
      have x1 := cell_at (o := 1) hb.a rfl
      have y0 := cell_at (o := 0) hb.b rfl
      have y1 := cell_at (o := 1) hb.b rfl
      have y2 := cell_at (o := 2) hb.b rfl
      obtain ⟨b2, off2, e2, -, hc2⟩ := (CL.out _ hb.bel).at k hk
      simp only [Option.some.injEq, Addr.mk.injEq, and_true] at e2
      obtain ⟨rfl, rfl⟩ := e2
      have c1 := (hc2 k hk).2.1
      clear hc2
      have f0 := HF.out _ (hb.bel.mono HW.out)
      have HB1 := Lib.hid hb.bel
      clear hb
      generalize t.cols[k] = x at *
      go_wp2_with fail
      go_ret
      exact ⟨ret_i HC.out.symm, HB1.out⟩
    have HC : Hid (mutC t c = 9) := HE.out.trans (mutK_no HK.out hF (.inr h3))
    have g3 : ((c.val.length : Int) != 1) = true := by simpa [bne_iff_ne] using (by omega : ¬ (c.val.length : Int) = 1)
    clear h1 h3
    clear hF HE
    go_enter Tryz.func36, Tryz.ntmps36
    go_wp2_with fail
    refine (PL.out _ HB.out).mono ?_
    rintro e w1 ⟨rfl, hb⟩
    clear x0 x1 x2 x3 y0 y1 y2
    have x1 := cell_at (o := 1) hb.a rfl
    have y0 := cell_at (o := 0) hb.b rfl
    have y1 := cell_at (o := 1) hb.b rfl
    have y2 := cell_at (o := 2) hb.b rfl
    obtain ⟨b2, off2, e2, -, hc2⟩ := (CL.out _ hb.bel).at k hk
    simp only [Option.some.injEq, Addr.mk.injEq, and_true] at e2
    obtain ⟨rfl, rfl⟩ := e2
    have c1 := (hc2 k hk).2.1
    clear hc2
    have f0 := HF.out _ (hb.bel.mono HW.out)
    have HB1 := Lib.hid hb.bel
    clear hb
    generalize t.cols[k] = x at *
    go_wp2_with fail
    go_ret
    exact ⟨ret_i HC.out.symm, HB1.out⟩
set_option maxRecDepth 100000 in
set_option maxHeartbeats 6400000 in
theorem mutCodeOfS (t : Tb) (c : MutV) (ca : Option Addr) (cc : Nat) (ua : Option Addr) (uc : Nat) (va : Option Addr) (vc : Nat) (B : Nat → Prop) (S : Nat) (w : World) (ho : t.ok) (hn : c.col.length ≤ maxLen) (hl : c.val.length ≤ maxLen) (hx : ∀ x ∈ c.val, x.t.length ≤ maxLen) (hT : t.Has w B ca ua) (hw : S ≤ w.heap.size) (hA : Ats w (· < S) va c.val) :
    Calls Tryz.prog 13 #[.agg #[.string ⟨t.nm.toArray⟩, .slice ca t.cols.length cc, .slice ua t.uq.length uc, .bool t.rt], .agg #[.string ⟨c.col.toArray⟩, .int .i64 c.fn, .slice va c.val.length vc]] w fun e w' => e = .returned (.tuple #[.int .i64 (mcR t c), .int .i64 (mcC t c)]) ∧ Below w.heap.size w w' := by
  have TO : Hid (∀ W, BoxE 27 49 w W #[.string ⟨t.nm.toArray⟩, .slice ca t.cols.length cc, .slice ua t.uq.length uc, .bool t.rt] #[.string ⟨c.col.toArray⟩, .int .i64 c.fn, .slice va c.val.length vc] → Calls Tryz.prog 34 #[.agg #[.string ⟨t.nm.toArray⟩, .slice ca t.cols.length cc, .slice ua t.uq.length uc, .bool t.rt]] W fun e w' => e = .returned (.bool (tabB t)) ∧ BoxE 27 49 w w' #[.string ⟨t.nm.toArray⟩, .slice ca t.cols.length cc, .slice ua t.uq.length uc, .bool t.rt] #[.string ⟨c.col.toArray⟩, .int .i64 c.fn, .slice va c.val.length vc]) := fun W h => (tableS t ca cc ua uc B W ho (hT.later h.bel)).mono (fun e w' ⟨he, hB⟩ => ⟨he, h.later hB⟩)
  have CO : Hid (∀ W, BoxE 27 49 w W #[.string ⟨t.nm.toArray⟩, .slice ca t.cols.length cc, .slice ua t.uq.length uc, .bool t.rt] #[.string ⟨c.col.toArray⟩, .int .i64 c.fn, .slice va c.val.length vc] → Calls Tryz.prog 35 #[.agg #[.string ⟨c.col.toArray⟩, .int .i64 c.fn, .slice va c.val.length vc]] W fun e w' => e = .returned (.bool (mutB c)) ∧ BoxE 27 49 w w' #[.string ⟨t.nm.toArray⟩, .slice ca t.cols.length cc, .slice ua t.uq.length uc, .bool t.rt] #[.string ⟨c.col.toArray⟩, .int .i64 c.fn, .slice va c.val.length vc]) := fun W h => (mutOKs c va vc S W hn hl hx (Nat.le_trans hw h.bel.size) (hA.below (h.bel.mono hw))).mono (fun e w' ⟨he, hB⟩ => ⟨he, h.later hB⟩)
  have CC : Hid (∀ W, BoxE 27 49 w W #[.string ⟨t.nm.toArray⟩, .slice ca t.cols.length cc, .slice ua t.uq.length uc, .bool t.rt] #[.string ⟨c.col.toArray⟩, .int .i64 c.fn, .slice va c.val.length vc] → Calls Tryz.prog 36 #[.agg #[.string ⟨t.nm.toArray⟩, .slice ca t.cols.length cc, .slice ua t.uq.length uc, .bool t.rt], .agg #[.string ⟨c.col.toArray⟩, .int .i64 c.fn, .slice va c.val.length vc]] W fun e w' => e = .returned (.int .i64 (mutC t c)) ∧ BoxE 27 49 w w' #[.string ⟨t.nm.toArray⟩, .slice ca t.cols.length cc, .slice ua t.uq.length uc, .bool t.rt] #[.string ⟨c.col.toArray⟩, .int .i64 c.fn, .slice va c.val.length vc]) := fun W h => (mutCodeS t c ca cc ua uc va vc B S W ho hl (hT.later h.bel) (Nat.le_trans hw h.bel.size) (hA.below (h.bel.mono hw))).mono (fun e w' ⟨he, hB⟩ => ⟨he, h.later hB⟩)
  have hb := boxE 27 49 w #[.string ⟨t.nm.toArray⟩, .slice ca t.cols.length cc, .slice ua t.uq.length uc, .bool t.rt] #[.string ⟨c.col.toArray⟩, .int .i64 c.fn, .slice va c.val.length vc]
  have HB := Lib.hid hb
  have x0 := cell_at (o := 0) hb.a rfl
  have x1 := cell_at (o := 1) hb.a rfl
  have x2 := cell_at (o := 2) hb.a rfl
  have x3 := cell_at (o := 3) hb.a rfl
  have y0 := cell_at (o := 0) hb.b rfl
  have y1 := cell_at (o := 1) hb.b rfl
  have y2 := cell_at (o := 2) hb.b rfl
  have HR : Hid (mcR t c = if tabB t = true ∧ mutB c = true then mutC t c else 0) := rfl
  have HC : Hid (mcC t c = if tabB t = true ∧ mutB c = true then 0 else 1) := rfl
  clear hn hl hx hw hA ho hT hb
  cases ht : tabB t
  case false =>
    have HR1 : Hid (mcR t c = 0) := by show mcR t c = 0; rw [HR.out, ht]; simp
    have HC1 : Hid (mcC t c = 1) := by show mcC t c = 1; rw [HC.out, ht]; simp
    rw [ht] at TO
    clear ht HR HC
    go_enter Tryz.func13, Tryz.ntmps13
    go_wp2_with fail
    refine (TO.out _ HB.out).mono ?_
    rintro e w1 ⟨rfl, hb⟩
    have HB1 := Lib.hid hb
    clear x0 x1 x2 x3 y0 y1 y2
    have x0 := cell_at (o := 0) hb.a rfl
    have x1 := cell_at (o := 1) hb.a rfl
    have x2 := cell_at (o := 2) hb.a rfl
    have x3 := cell_at (o := 3) hb.a rfl
    have y0 := cell_at (o := 0) hb.b rfl
    have y1 := cell_at (o := 1) hb.b rfl
    have y2 := cell_at (o := 2) hb.b rfl
    clear hb
    go_wp2_with fail
    go_ret2
    exact ⟨ret_ii HR1.out.symm HC1.out.symm, HB1.out.bel⟩
  cases hc : mutB c
  case false =>
    have HR1 : Hid (mcR t c = 0) := by show mcR t c = 0; rw [HR.out, hc]; simp
    have HC1 : Hid (mcC t c = 1) := by show mcC t c = 1; rw [HC.out, hc]; simp
    rw [ht] at TO
    rw [hc] at CO
    clear ht hc HR HC
    go_enter Tryz.func13, Tryz.ntmps13
    go_wp2_with fail
    refine (TO.out _ HB.out).mono ?_
    rintro e w1 ⟨rfl, hb⟩
    have HB1 := Lib.hid hb
    clear x0 x1 x2 x3 y0 y1 y2
    have x0 := cell_at (o := 0) hb.a rfl
    have x1 := cell_at (o := 1) hb.a rfl
    have x2 := cell_at (o := 2) hb.a rfl
    have x3 := cell_at (o := 3) hb.a rfl
    have y0 := cell_at (o := 0) hb.b rfl
    have y1 := cell_at (o := 1) hb.b rfl
    have y2 := cell_at (o := 2) hb.b rfl
    clear hb
    go_wp2_with fail
    refine (CO.out _ HB1.out).mono ?_
    rintro e w2 ⟨rfl, hb⟩
    have HB2 := Lib.hid hb
    clear x0 x1 x2 x3 y0 y1 y2
    have x0 := cell_at (o := 0) hb.a rfl
    have x1 := cell_at (o := 1) hb.a rfl
    have x2 := cell_at (o := 2) hb.a rfl
    have x3 := cell_at (o := 3) hb.a rfl
    have y0 := cell_at (o := 0) hb.b rfl
    have y1 := cell_at (o := 1) hb.b rfl
    have y2 := cell_at (o := 2) hb.b rfl
    clear hb
    go_wp2_with fail
    go_ret2
    exact ⟨ret_ii HR1.out.symm HC1.out.symm, HB2.out.bel⟩
  have HR1 : Hid (mcR t c = mutC t c) := by show mcR t c = _; rw [HR.out, ht, hc]; simp
  have HC1 : Hid (mcC t c = 0) := by show mcC t c = 0; rw [HC.out, ht, hc]; simp
  rw [ht] at TO
  rw [hc] at CO
  clear ht hc HR HC
  go_enter Tryz.func13, Tryz.ntmps13
  go_wp2_with fail
  refine (TO.out _ HB.out).mono ?_
  rintro e w1 ⟨rfl, hb⟩
  have HB1 := Lib.hid hb
  clear x0 x1 x2 x3 y0 y1 y2
  have x0 := cell_at (o := 0) hb.a rfl
  have x1 := cell_at (o := 1) hb.a rfl
  have x2 := cell_at (o := 2) hb.a rfl
  have x3 := cell_at (o := 3) hb.a rfl
  have y0 := cell_at (o := 0) hb.b rfl
  have y1 := cell_at (o := 1) hb.b rfl
  have y2 := cell_at (o := 2) hb.b rfl
  clear hb
  go_wp2_with fail
  refine (CO.out _ HB1.out).mono ?_
  rintro e w2 ⟨rfl, hb⟩
  have HB2 := Lib.hid hb
  clear x0 x1 x2 x3 y0 y1 y2
  have x0 := cell_at (o := 0) hb.a rfl
  have x1 := cell_at (o := 1) hb.a rfl
  have x2 := cell_at (o := 2) hb.a rfl
  have x3 := cell_at (o := 3) hb.a rfl
  have y0 := cell_at (o := 0) hb.b rfl
  have y1 := cell_at (o := 1) hb.b rfl
  have y2 := cell_at (o := 2) hb.b rfl
  clear hb
  go_wp2_with fail
  refine (CC.out _ HB2.out).mono ?_
  rintro e w3 ⟨rfl, hb⟩
  have HB3 := Lib.hid hb
  clear x0 x1 x2 x3 y0 y1 y2
  clear hb
  go_wp2_with fail
  go_ret2
  exact ⟨ret_ii HR1.out.symm HC1.out.symm, HB3.out.bel⟩
end Go.Proofs.YtgpoigkfoliflaaGreatDoor
