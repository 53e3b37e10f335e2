import Derived.Test.YthpenliecgpedaaYbv
namespace Go.Proofs.Ythpenliecgpedaa
open Go.RowKit Go.MuLone
set_option linter.unusedSimpArgs false
theorem LTab.own3 {base : Nat} {W : World} {es : List LE} {v : Value} (h : LTab base W es v) : Own W (dLockS (lks es)) (fun b => OwnB es v b) v := by
  rcases h.ow.2 with ⟨rfl, h0⟩ | ⟨g, cap, cur, rfl, hg, hh, r1, r2, r3, r4⟩
  · exact ⟨none, 0, by rw [lks_len, h0], by rw [lks_len]; omega, .inl (by rw [lks_len, h0])⟩
  refine ⟨_, _, by rw [lks_len], by rw [lks_len]; exact r1, ?_⟩
  by_cases h0 : (lks es).length = 0
  · exact .inl h0
  refine .inr ⟨g, 0, fun i j c => j = 1 ∧ ∃ hi : i < es.length, es[i].u.ownBlock = some c, rfl, .inl rfl, by omega, fun i j c hc => ?_, fun i j i' j' c hc hc' => ?_, fun i j hi hj => ?_⟩
  · obtain ⟨-, hi, hc⟩ := hc
    exact ⟨.inr ⟨i, hi, hc⟩, fun e => h.dv i hi c hc (by rw [e]; rfl)⟩
  · obtain ⟨h1, hi, h2⟩ := hc
    obtain ⟨h3, hi', h4⟩ := hc'
    exact ⟨h.el.dd i hi i' hi' c h2 h4, by omega⟩
  · have hi2 : i < es.length := by rw [← lks_len]; exact hi
    obtain ⟨g', c', e', -, c0, c1, z0, z1⟩ := h.at hi2
    simp only [Value.slice.injEq, Option.some.injEq, Addr.mk.injEq, and_true, true_and] at e'
    obtain ⟨rfl, rfl⟩ := e'
    rw [lsF_at hi, lks_at]
    rcases (by omega : j = 0 ∨ j = 1) with rfl | rfl
    · exact ⟨_, by rw [Nat.zero_add, Nat.add_zero]; exact c0, by rw [Nat.zero_add, Nat.add_zero]; exact z0, rfl⟩
    · exact ⟨_, by rw [Nat.zero_add]; exact c1, by rw [Nat.zero_add]; exact z1, (h.el.qs i hi2).own.mono (fun c hc => ⟨rfl, hi2, hc⟩)⟩
structure LB (w1 : World) (pb g : Nat) (l : List LkV) (n : Int) (k : Nat) (tv : Value) (es : List LE) (c : Nat) (wr : World) : Prop where
  tw : TW w1.heap.size pb w1 wr 0 es (.slice (some ⟨g, 0, none⟩) (laK l n k).1.length c)
  nm : lks es = (laK l n k).1
  td : TdG w1.heap.size wr (laK l n k).2 tv
  ap : ∀ b, tv.ownBlock = some b → b ≠ pb ∧ ¬ OwnB es (.slice (some ⟨g, 0, none⟩) (laK l n k).1.length c) b
set_option maxRecDepth 100000 in
set_option maxHeartbeats 6400000 in
theorem leaveAllI (l : List LkV) (n : Int) (a : Option Addr) (c : Nat) (B : Nat → Prop) (w : World) (ho : (dLockS l).le maxLen) (hS : Rd w B (dLockS l) (.slice a l.length c)) :
    Calls Try.prog 18 #[.slice a l.length c, .int .i64 n] w fun e w' => ∃ (ra : Option Addr) (rc : Nat) (ta : Option Addr) (tc : Nat) (G0 G1 : Nat → Prop), e = .returned (.tuple #[.slice ra (laoR l n).length rc, .slice ta (laoT l n).length tc, .int .i64 (obC l n)]) ∧ Own w' (dLockS (laoR l n)) G0 (.slice ra (laoR l n).length rc) ∧ Own w' (dToldS (laoT l n)) G1 (.slice ta (laoT l n).length tc) ∧ (∀ b, G0 b ∨ G1 b → w.heap.size ≤ b ∧ b < w'.heap.size) ∧ (∀ b, G0 b → ¬ G1 b) ∧ Below w.heap.size w w' := by
  have CA : Hid (Calls Try.prog 23 #[.slice a l.length c, .int .i64 n, .slice none 0 0] w fun e w' => e = .returned (.int .i64 (obC l n)) ∧ Below w.heap.size w w') := by
    have h1 := askI l n [] a c none 0 0 B w ho (by unfold maxLen; decide) hS (.inl rfl)
    rw [ask_none] at h1
    exact h1
  by_cases h0 : obC l n = 0
  case neg =>
    obtain ⟨r1, r2⟩ := la_no h0
    rw [r1, r2]
    have hne : (obC l n != 0) = true := by simpa using h0
    clear hS ho h0 r1 r2
    generalize obC l n = r at *
    go_enter Try.func18, Try.ntmps18
    go_wp2_with (go_at_call 23; refine CA.out.mono ?_; rintro e w1 ⟨rfl, hB⟩)
    go_ret3
    exact ⟨none, 0, none, 0, fun _ => False, fun _ => False, rfl, ⟨none, 0, rfl, Nat.le_refl _, .inl rfl⟩, told_nil _ _ _ _, fun b h => h.elim False.elim False.elim, fun b h => h.elim, hB⟩
  have hp := (ask_zero h0).1
  obtain ⟨r1, r2⟩ := la_ok h0
  rw [r1, r2]
  have CO : Hid (∀ W, Below w.heap.size w W → Calls Try.prog 24 #[.slice a l.length c] W fun e w' => ∃ pb es, e = .returned (.pointer (some ⟨pb, 0, none⟩)) ∧ lks es = l ∧ TW W.heap.size pb W w' 0 es (.slice (some ⟨W.heap.size, 0, none⟩) l.length l.length)) := fun W h => tabOfI l a c B W hp.len (lks_que hp) (Rd.later hS h)
  have HP := Lib.hid hp
  have HS : Hid (∀ W, Below w.heap.size w W → Rd W B (dLockS l) (.slice a l.length c)) := fun W h => Rd.later hS h
  have hl6 : l.length ≤ 6 := hp.len
  rw [h0] at CA ⊢
  clear hS ho h0 r1 r2 hp
  go_enter Try.func18, Try.ntmps18
  go_wp2_with (first | (go_at_call 23; refine CA.out.mono ?_; rintro e w1 ⟨rfl, hB⟩; have HB := Lib.hid hB; clear hB) | (go_at_call 24; refine (CO.out _ HB.out).mono ?_; rintro e w2 ⟨pb, es, rfl, hes, hT⟩; have HES := Lib.hid hes; have HT := Lib.hid hT; clear hes hT))
  have H0 : Hid (LB w1 pb w1.heap.size l n 0 (.slice none 0 0) es l.length w2) := ⟨HT.out, HES.out, TdG.nil _ _, fun b hb => by cases hb⟩
  clear HT HES CO CA
  go_loopw [9, 23] (fun tv iv wr => ∃ (k : Nat) (es : List LE) (c : Nat), k ≤ l.length ∧ iv = .int .i64 k ∧ Hid (LB w1 pb w1.heap.size l n k tv es c wr)) (fun _ iv _ => l.length - (intOf iv).toNat)
  case atStart => exact ⟨0, es, l.length, Nat.zero_le _, rfl, H0.out⟩
  case round =>
    clear H0 es
    obtain ⟨k, es, c2, hk, rfl, HW⟩ := hrel
    obtain ⟨ta, tc, rfl⟩ := HW.out.td.shape
    by_cases hlt : k < l.length
    case neg =>
      have hkk : k = l.length := by omega
      subst hkk
      have hki : decide ((l.length : Int) < (l.length : Int)) = false := by simp
      go_wp2_with fail
      refine (allI2 w1.heap.size pb w1 wr es (.slice (some ⟨w1.heap.size, 0, none⟩) (laK l n l.length).1.length c2) ⟨_, _, _, rfl⟩ HW.out.tw).mono ?_
      rintro e w4 ⟨rfl, hw4⟩
      have HT4 : Hid (TW w1.heap.size pb w1 w4 0 es (.slice (some ⟨w1.heap.size, 0, none⟩) (laK l n l.length).1.length c2) ∧ w4.heap.size = wr.heap.size ∧ ∀ b, b ≠ pb → w4.heap[b]? = wr.heap[b]?) := by
        subst hw4
        exact ⟨(HW.out.tw.st 1).st 0, by simp [World.setCell], fun b hb => by rw [Below.heap_setCell _ ⟨pb, 0, none⟩ _ _ (by show b ≠ pb; exact hb), Below.heap_setCell _ ⟨pb, 0, none⟩ _ _ (by show b ≠ pb; exact hb)]⟩
      clear hw4
      go_wp2_with fail
      go_ret3
      have hb0 := HB.out.size
      have hs4 := HT4.out.2.1
      refine ⟨some ⟨w1.heap.size, 0, none⟩, c2, ta, tc, fun b => OwnB es (.slice (some ⟨w1.heap.size, 0, none⟩) (laK l n l.length).1.length c2) b, fun b => Value.ownBlock (.slice ta (laK l n l.length).2.length tc) = some b, rfl, ?_, ?_, fun b h => ?_, fun b h1 h2 => (HW.out.ap b h2).2 h1, HB.out.trans (HT4.out.1.bel.mono HB.out.size)⟩
      · have h9 := HT4.out.1.tb.own3
        rw [HW.out.nm] at h9
        exact h9
      · exact (HW.out.td.same (fun b hb => HT4.out.2.2 b (HW.out.ap b hb).1)).own
      · rcases h with h | h
        · have := HT4.out.1.tb.low h; omega
        · have := HW.out.td.low h; omega
    have hki : (k : Int) < (l.length : Int) := by omega
    have hk0 : (0 : Int) ≤ (k : Int) := by omega
    obtain ⟨b, off, qa, qc, rfl, -, hqr, hc⟩ := lockAt (HS.out _ (Below.refl _ _)) hlt
    have c0 := (hc _ (HB.out.trans (HW.out.tw.bel.mono HB.out.size))).1
    have CL := Lib.hid (leaveJ w1.heap.size pb w1 wr es (laK l n k).1 w1.heap.size c2 n l[k].nm HW.out.nm (laK_ok HP.out n k hk).1 HW.out.tw HW.out.tw.bel.size (Nat.le_refl _))
    have HSU := Lib.hid (laK_succ (n := n) hlt)
    have HLN : Hid ((laK l n (k + 1)).2.length ≤ 6) := Nat.le_trans (laK_ok HP.out n (k + 1) hlt).2 (by omega)
    clear hqr hc
    generalize l[k].nm = s at *
    go_wp2_with fail
    refine CL.out.mono ?_
    rintro e w2 ⟨es', c', ma, mc, rfl, hes', hT', hTO, hF, hsub⟩
    have hT1 : TdG w1.heap.size w2 (laK l n k).2 (.slice ta (laK l n k).2.length tc) := HW.out.td.same (fun b hb => hF.block b (HW.out.td.low hb).2 (fun e => e.elim (HW.out.ap b hb).1 (HW.out.ap b hb).2))
    obtain ⟨M, m1, m2, m3, m4, m5⟩ := hTO
    obtain ⟨a', c3, W3, r3, h3, f3, n3⟩ := hT1.app (leaveT (laK l n k).1 n s) m5.rd' hT'.bel.size (by
      have h1 := HLN.out
      rw [HSU.out] at h1
      simp only [List.length_append] at h1
      omega)
    have RUN := Lib.hid r3
    have hap : ∀ b, Value.ownBlock (.slice ta (laK l n k).2.length tc) = some b → b ≠ pb ∧ ¬ OwnB es' (.slice (some ⟨w1.heap.size, 0, none⟩) (leaveL (laK l n k).1 n s).length c') b := fun b hb => ⟨(HW.out.ap b hb).1, fun e => (HW.out.ap b hb).2 (hsub b e)⟩
    have hpb2 := (Array.getElem?_eq_some_iff.1 hT'.bx).1
    have HN : Hid (LB w1 pb w1.heap.size l n (k + 1) (.slice a' ((laK l n k).2.length + (leaveT (laK l n k).1 n s).length) c3) es' c' W3) := by
      refine ⟨?_, by rw [HSU.out]; exact hes', by rw [HSU.out]; exact h3, fun b hb => ?_⟩
      · rw [HSU.out]
        exact ⟨(f3.block pb hpb2 (fun e => (hap pb e).1 rfl)).trans hT'.bx, hT'.tb.same (fun y hy => f3.block y (hT'.tb.low hy).2 (fun e => (hap y e).2 hy)), hT'.nb, hT'.lo, below_frm hT'.bel f3 (fun b hb => (hT1.low hb).1) (Nat.le_refl _)⟩
      · rw [HSU.out]
        rcases n3 b hb with h4 | h4
        · exact hap b h4
        · exact ⟨by omega, fun e => by have := (hT'.tb.low e).2; omega⟩
    clear hes' hT' hF hsub hT1 m1 m2 m3 m4 m5 r3 h3 f3 n3 hap hpb2 CL HW
    go_wp2_with (at_builtin; go_must (refine wpList_appIs rfl (.tmp 37) (.tmp 38) 29 rfl _ _ rfl rfl _ _ RUN.out ?_))
    go_roundw
    case rel => exact ⟨k + 1, es', c', by omega, by go_num, HN.out⟩
    case measure => simp [intOf]; omega
end Go.Proofs.Ythpenliecgpedaa
