import Derived.Test.YthpenliecgpedaaZbi
namespace Go.Proofs.Ythpenliecgpedaa
open Go.RowKit Go.MuLone
set_option linter.unusedSimpArgs false
def LvI (base pb : Nat) (w : World) (L : List LkV) (T : List ToV) (C : Int) (e : Ending) (w' : World) : Prop := ∃ es a c ta tc, e = .returned (.tuple #[.slice ta T.length tc, .int .i64 C]) ∧ lks es = L ∧ TW base pb w w' 0 es (.slice a L.length c) ∧ TOw base pb w' es (.slice a L.length c) T (.slice ta T.length tc)
set_option maxRecDepth 100000 in
set_option maxHeartbeats 12800000 in
theorem leaveI (base pb : Nat) (w W : World) (es : List LE) (l : List LkV) (g c : Nat) (n : Int) (s : List UInt8) (hes : lks es = l) (hp : LksP l) (h : TW base pb w W 0 es (.slice (some ⟨g, 0, none⟩) l.length c)) (hbw : base ≤ W.heap.size) (hbb : base ≤ w.heap.size) :
    Calls Try.prog 31 #[.pointer (some ⟨pb, 0, none⟩), .int .i64 n, .string ⟨s.toArray⟩] W (LvI base pb w (leaveL l n s) (leaveT l n s) (leaveC l n s)) := by
  have hel : l.length = es.length := by rw [← hes, lks_len]
  have H1 := Lib.hid (h.st 1)
  have h0 := h.c0
  have f0 := h.z0 0
  have hs1 : (W.setCell ⟨pb, 0, none⟩ (.int .i32 1)).heap.size = W.heap.size := by simp [World.setCell]
  have CP : Hid (Calls Try.prog 48 #[.pointer (some ⟨pb, 0, none⟩), .string ⟨s.toArray⟩] (W.setCell ⟨pb, 0, none⟩ (.int .i32 1)) (BinL l s (W.setCell ⟨pb, 0, none⟩ (.int .i32 1)))) := by
    have h2 := placeLkI base pb w _ 1 es (some ⟨g, 0, none⟩) c s (by rw [hes]; exact H1.out) (by rw [hes]; have := hp.len; omega) (by rw [hes]; exact hp.up)
    rw [hes] at h2
    exact h2
  have HES := Lib.hid hes
  have HEL := Lib.hid hel
  have HP := Lib.hid hp
  have HBW : Hid (base ≤ (W.setCell ⟨pb, 0, none⟩ (.int .i32 1)).heap.size) := by show _ ≤ _; rw [hs1]; exact hbw
  clear h hs1 hes hel hp
  obtain ⟨r, hr⟩ : ∃ r, r = LvI base pb w (leaveL l n s) (leaveT l n s) (leaveC l n s) := ⟨_, rfl⟩
  have HR := Lib.hid hr
  rw [← hr]
  clear hr
  go_enter_defers Try.func31, Try.ntmps31
  go_wp2_with (go_at_call 46; refine (lock_free muLib ⟨pb, 0, none⟩ _ h0 f0).mono ?_; rintro e w' ⟨rfl, rfl⟩)
  refine CP.out.mono ?_
  rintro e w1 ⟨p, f, rfl, hpl, hlo, hhi, hft, hff, hB⟩
  have H2 := Lib.hid (H1.out.later hB HBW.out)
  have HB1 : Hid (base ≤ w1.heap.size) := Nat.le_trans HBW.out hB.size
  clear CP hB h0 f0
  cases f
  case false =>
    have hfk : fk l s = l.length := fk_none (hff rfl)
    obtain ⟨t1, t2, t3⟩ := leave_no (l := l) (n := n) (s := s) (by unfold lvIn; rw [decide_eq_false (by omega)]; rfl)
    have HX : Hid (TW base pb w w1 1 es (.slice (some ⟨g, 0, none⟩) l.length c)) := H2.out
    have FIN : Hid (r (.returned (.tuple #[.slice none 0 0, .int .i64 5])) (w1.setCell ⟨pb, 0, none⟩ (.int .i32 0))) := by
      show r _ _
      rw [HR.out, t1, t2, t3]
      exact ⟨es, some ⟨g, 0, none⟩, c, none, 0, rfl, HES.out, HX.out.st 0, TOw.none (HX.out.st 0) _ _⟩
    clear hft hff hlo hhi hfk t1 t2 t3 hpl
    go_wp2_with fail
    refine leaves_cons (f := 47) (args := #[.pointer (some ⟨pb, 0, none⟩)]) (by simp) (by simp [go_sem]) ?_
    refine (unlock_deferred muLib ⟨pb, 0, none⟩ .returning _ HX.out.c0 (HX.out.z0 0)).mono ?_
    rintro e u' w'' ⟨rfl, rfl, rfl⟩
    refine ⟨_, results_tmp2 rfl _ _ _, ?_⟩
    exact FIN.out
  case true =>
    obtain ⟨hpp, hsp⟩ := hft rfl
    have hfk := place_there hlo hpp hsp
    have hpe : p < es.length := by rw [← HEL.out]; exact hpp
    have hX : lvX l s = l[p] := by unfold lvX; rw [hfk]; exact atL_at hpp
    have hxe : (es[p]'hpe).x = l[p] := by have h9 := lks_at es (k := p) (by rw [lks_len]; exact hpe); simp only [HES.out] at h9; exact h9.symm
    have hTW : TW base pb w w1 1 es (.slice (some ⟨g, 0, none⟩) es.length c) := by have h9 := H2.out; rw [HEL.out] at h9; exact h9
    obtain ⟨g', c3, ev, -, -, e1, -, -⟩ := hTW.tb.at hpe
    simp only [Value.slice.injEq, Option.some.injEq, Addr.mk.injEq, and_true, true_and] at ev
    obtain ⟨rfl, rfl⟩ := ev
    have HPE := Lib.hid hpe
    obtain ⟨q, hq⟩ : ∃ q, q = (lvX l s).qu := ⟨_, rfl⟩
    have hqo : QOw base w1 q (es[p]'(HPE.out)).u := by have h9 := hTW.tb.el.qs p hpe; rw [hxe, ← hX, ← hq] at h9; exact h9
    obtain ⟨ua, uc, eu⟩ := hqo.shape
    have hqp : QuP q := by rw [hq, hX]; exact HP.out.que p hpp
    have hq3 := hqp.len
    have hin : lvIn l n s = inK q q.length n := by unfold lvIn; rw [hfk, decide_eq_true hpp, ← hq]; rfl
    obtain ⟨fi, hfi0⟩ : ∃ fi, fi = fqI q n := ⟨_, rfl⟩
    have CC : Hid (Calls Try.prog 59 #[.slice ua q.length uc, .int .i64 n] w1 fun e w' => e = .returned (.int .i64 fi) ∧ w' = w1) := by rw [hfi0]; exact indexQ q n ua uc _ w1 (by unfold maxLen; omega) (by have h9 := hqo.own.rd'; rw [eu] at h9; exact h9)
    have HFI := Lib.hid hfi0
    have x2 := H2.out.c2
    have q2 := e1
    rw [eu] at q2
    have hpi : (p : Int) < (l.length : Int) := by omega
    have hp0 : (0 : Int) ≤ (p : Int) := by omega
    have HTW := Lib.hid hTW
    have HQO := Lib.hid hqo
    have HXE : Hid ((es[p]'(HPE.out)).x = lvX l s) := hxe.trans hX.symm
    have HEU := Lib.hid eu
    have HIN := Lib.hid hin
    have HQQ := Lib.hid hq
    have HFK := Lib.hid hfk
    have HQP := Lib.hid hqp
    clear hft hff hlo hhi hpl hsp hX hxe hTW e1 hqo eu hin hq3 hqp hfk hfi0 hq
    go_wp2_with fail
    refine CC.out.mono ?_
    rintro e w2 ⟨rfl, hw2⟩
    rw [hw2]
    clear hw2 w2 CC
    by_cases hfq : fq q n < q.length
    case neg =>
      obtain rfl : fi = -1 := by rw [HFI.out]; unfold fqI; rw [if_neg hfq]
      obtain ⟨t1, t2, t3⟩ := leave_no (l := l) (n := n) (s := s) (by rw [HIN.out, fq_in]; exact decide_eq_false hfq)
      have HX : Hid (TW base pb w w1 1 es (.slice (some ⟨g, 0, none⟩) l.length c)) := H2.out
      have FIN : Hid (r (.returned (.tuple #[.slice none 0 0, .int .i64 5])) (w1.setCell ⟨pb, 0, none⟩ (.int .i32 0))) := by
        show r _ _
        rw [HR.out, t1, t2, t3]
        exact ⟨es, some ⟨g, 0, none⟩, c, none, 0, rfl, HES.out, HX.out.st 0, TOw.none (HX.out.st 0) _ _⟩
      clear t1 t2 t3 HIN hfq HFI
      go_wp2_with fail
      refine leaves_cons (f := 47) (args := #[.pointer (some ⟨pb, 0, none⟩)]) (by simp) (by simp [go_sem]) ?_
      refine (unlock_deferred muLib ⟨pb, 0, none⟩ .returning _ HX.out.c0 (HX.out.z0 0)).mono ?_
      rintro e u' w'' ⟨rfl, rfl, rfl⟩
      refine ⟨_, results_tmp2 rfl _ _ _, ?_⟩
      exact FIN.out
    obtain rfl : fi = (fq q n : Int) := by rw [HFI.out]; unfold fqI; rw [if_pos hfq]
    obtain ⟨i, hi⟩ : ∃ i, i = fq q n := ⟨_, rfl⟩
    rw [← hi] at hfq HFI ⊢
    obtain ⟨t1, t2, t3⟩ := leave_in (l := l) (n := n) (s := s) (by rw [HIN.out, fq_in, ← hi]; exact decide_eq_true hfq)
    have hlvq : lvQ l n s = q.take i ++ q.drop (i + 1) := by unfold lvQ delQ; rw [← HQQ.out, hi]
    have hhd : q.headD (-1) = n ↔ i = 0 := by
      have h3 := HQP.out.len
      have e3 : q.headD (-1) = q[0]'(by omega) := by
        clear HQQ HQP HFI HIN HQO HEU q2
        rcases q with _ | ⟨x, xs⟩
        · simp at h3
        · rfl
      rw [e3]
      constructor
      · intro e4
        rcases Nat.eq_zero_or_pos i with h5 | h5
        · exact h5
        · exact absurd e4 (fq_lt (q := q) (n := n) (m := 0) (by omega))
      · intro e4
        have h6 := fq_at (q := q) (n := n) (by omega)
        simp only [← hi, e4] at h6
        exact h6
    have hT2 : leaveT l n s = if i = 0 ∧ 0 < (lvQ l n s).length then [⟨(lvQ l n s).headD (-1), lockedN, s⟩] else [] := by
      rw [t2, ← HQQ.out]; simp only [hhd]
    have CD := Lib.hid (delQOw HQO.out hfq (by have := HQP.out.len; omega))
    have HQ := Lib.hid hlvq
    have HT1 : Hid (leaveL l n s = (if (lvQ l n s).length = 0 then l.take p ++ l.drop (p + 1) else l.set p ⟨(lvX l s).nm, lvQ l n s⟩) ∧ leaveC l n s = 0) := by rw [t1, t3, HFK.out]; exact ⟨rfl, rfl⟩
    have HT2 := Lib.hid hT2
    rw [← hlvq, HEU.out] at CD
    have hid0 : decide ((i : Int) < 0) = false := decide_eq_false (by omega)
    have hw1 : IntKind.i64.wrap ((i : Int) + 1) = (i : Int) + 1 := by rw [IntKind.wrap_i64]; have := HQP.out.len; omega
    clear t1 t2 t3 hlvq hhd hT2 HIN HFI hi
    go_wp2_with fail
    refine CD.out.mono ?_
    rintro e w2 ⟨va, vc, rfl, hu3, hF3, hn3⟩
    rw [← HEU.out] at hF3 hn3
    obtain ⟨hTS, y1, z1⟩ := HTW.out.setQ HPE.out hF3 (lvQ l n s) (.slice va (lvQ l n s).length vc) hu3 (fun b hb => .inl (hn3 b hb)) hbb
    rw [HEU.out] at y1
    have hu4 : QOw base (w2.setCell ⟨g, p * 2 + 1, none⟩ (.slice va (lvQ l n s).length vc)) (lvQ l n s) (.slice va (lvQ l n s).length vc) := by
      have h9 := hTS.tb.el.qs p (by rw [List.length_set]; exact HPE.out)
      simp only [List.getElem_set_self] at h9
      exact h9
    obtain ⟨E, hE⟩ : ∃ E, E = es.set p ⟨⟨(es[p]'(HPE.out)).x.nm, lvQ l n s⟩, .slice va (lvQ l n s).length vc⟩ := ⟨_, rfl⟩
    rw [← hE, ← HEL.out] at hTS
    have hEl : E.length = l.length := by rw [hE, List.length_set]; exact HEL.out.symm
    have hEL : lks E = l.set p ⟨(lvX l s).nm, lvQ l n s⟩ := by rw [hE, lks_set, HES.out]; exact congrArg (fun z : LkV => l.set p ⟨z.nm, lvQ l n s⟩) HXE.out
    have hED : delE E p = delE es p := by rw [hE, delE_set]
    have hTE : TW base pb w (w2.setCell ⟨g, p * 2 + 1, none⟩ (.slice va (lvQ l n s).length vc)) 1 E (.slice (some ⟨g, 0, none⟩) E.length c) := by rw [hEl]; exact hTS
    have hpE : p < E.length := by rw [hEl, HEL.out]; exact HPE.out
    have HTS := Lib.hid hTS
    have HEl := Lib.hid hEl
    have HELs := Lib.hid hEL
    have HED := Lib.hid hED
    have HTE := Lib.hid hTE
    have HPE2 : Hid (p < E.length) := hpE
    have hsz : (w2.setCell ⟨g, p * 2 + 1, none⟩ (.slice va (lvQ l n s).length vc)).heap.size = w2.heap.size := by simp [World.setCell]
    have HBS : Hid (base ≤ (w2.setCell ⟨g, p * 2 + 1, none⟩ (.slice va (lvQ l n s).length vc)).heap.size) := by show _ ≤ _; rw [hsz]; exact Nat.le_trans HB1.out hF3.size
    have HU4 := Lib.hid hu4
    have y2 : (w2.setCell ⟨g, p * 2 + 1, none⟩ (.slice va (lvQ l n s).length vc)).cell? ⟨g, p * 2 + 1, none⟩ = some (.slice va (lvQ l n s).length vc) := by
      obtain ⟨g', c3, ev, -, -, e1, -, -⟩ := hTE.tb.at hpE
      simp only [Value.slice.injEq, Option.some.injEq, Addr.mk.injEq, and_true, true_and] at ev
      obtain ⟨rfl, rfl⟩ := ev
      simp only [hE, List.getElem_set_self] at e1
      exact e1
    have y3 : (w2.setCell ⟨g, p * 2 + 1, none⟩ (.slice va (lvQ l n s).length vc)).cell? ⟨pb, 2, none⟩ = some (.slice (some ⟨g, 0, none⟩) l.length c) := hTS.c2
    clear hE hTS hEl hEL hED hTE hpE hu4 hu3 hF3 hn3
    by_cases hm0 : (lvQ l n s).length = 0
    case pos =>
      have hme : (((lvQ l n s).length : Int) == 0) = true := by rw [beq_iff_eq]; omega
      have CK := Lib.hid (delLTab HTE.out.tb HPE2.out (by rw [HEl.out]; have := HP.out.len; omega))
      rw [HEl.out] at CK
      have HL : Hid (leaveL l n s = l.take p ++ l.drop (p + 1) ∧ leaveT l n s = [] ∧ leaveC l n s = 0) := by
        refine ⟨by rw [HT1.out.1, if_pos hm0], ?_, HT1.out.2⟩
        rw [HT2.out, if_neg (fun h => by have := h.2; omega)]
      have hw2 : IntKind.i64.wrap ((p : Int) + 1) = (p : Int) + 1 := by rw [IntKind.wrap_i64]; have := HP.out.len; omega
      clear hsz HT1 HT2 CD hm0
      go_wp2_with fail
      refine CK.out.mono ?_
      rintro e w3 ⟨rfl, hT3, hF4⟩
      obtain ⟨hTD, y5, z5⟩ := HTE.out.del HPE2.out hT3 hF4 hbb
      rw [HEl.out] at y5
      have HX := Lib.hid hTD
      have FIN : Hid (r (.returned (.tuple #[.slice none 0 0, .int .i64 0])) ((w3.setCell ⟨pb, 2, none⟩ (.slice (some ⟨g, 0, none⟩) (delE E p).length c)).setCell ⟨pb, 0, none⟩ (.int .i32 0))) := by
        show r _ _
        have hlk : lks (delE E p) = l.take p ++ l.drop (p + 1) := by rw [HED.out]; exact lks_delE HES.out
        have hll : (l.take p ++ l.drop (p + 1)).length = (delE E p).length := by rw [← hlk, lks_len]
        rw [HR.out, HL.out.1, HL.out.2.1, HL.out.2.2]
        exact ⟨delE E p, some ⟨g, 0, none⟩, c, none, 0, rfl, hlk, by rw [hll]; exact HX.out.st 0, by rw [hll]; exact TOw.none (HX.out.st 0) _ _⟩
      clear hT3 hF4 hTD CK
      go_wp2_with fail
      refine leaves_cons (f := 47) (args := #[.pointer (some ⟨pb, 0, none⟩)]) (by simp) (by simp [go_sem]) ?_
      refine (unlock_deferred muLib ⟨pb, 0, none⟩ .returning _ HX.out.c0 (HX.out.z0 0)).mono ?_
      rintro e u' w'' ⟨rfl, rfl, rfl⟩
      refine ⟨_, results_tmp2 rfl _ _ _, ?_⟩
      exact FIN.out
    case neg =>
      have hm : 0 < (lvQ l n s).length := by omega
      have hme : (((lvQ l n s).length : Int) == 0) = false := by rw [beq_eq_false_iff_ne]; omega
      have hmi : (0 : Int) < ((lvQ l n s).length : Int) := by omega
      obtain ⟨vb, vc', ev, -, -, -, hcl⟩ := HU4.out.at (i := 0) hm
      simp only [Value.slice.injEq, true_and] at ev
      obtain ⟨rfl, rfl⟩ := ev
      have hhq : (lvQ l n s)[0] = (lvQ l n s).headD (-1) := by
        clear hcl
        revert hm
        rcases lvQ l n s with _ | ⟨x, xs⟩
        · intro hm; simp at hm
        · intro _; rfl
      have y6 := hcl 0 hm
      rw [hhq] at y6
      have HL : Hid (leaveL l n s = l.set p ⟨(lvX l s).nm, lvQ l n s⟩ ∧ leaveC l n s = 0) := ⟨by rw [HT1.out.1, if_neg hm0], HT1.out.2⟩
      have hll : (l.set p ⟨(lvX l s).nm, lvQ l n s⟩).length = l.length := List.length_set
      have HLL := Lib.hid hll
      by_cases hi0 : i = 0
      case pos =>
        have htl : leaveT l n s = [⟨(lvQ l n s).headD (-1), lockedN, s⟩] := by rw [HT2.out, if_pos ⟨hi0, hm⟩]
        have hig : decide ((i : Int) > 0) = false := decide_eq_false (by omega)
        have hig2 : decide (0 < (i : Int)) = false := decide_eq_false (by omega)
        have hA : Below (w2.setCell ⟨g, p * 2 + 1, none⟩ (.slice (some ⟨vb, 0, none⟩) (lvQ l n s).length vc)).heap.size (w2.setCell ⟨g, p * 2 + 1, none⟩ (.slice (some ⟨vb, 0, none⟩) (lvQ l n s).length vc)) ((w2.setCell ⟨g, p * 2 + 1, none⟩ (.slice (some ⟨vb, 0, none⟩) (lvQ l n s).length vc)).alloc (.cells #[.int .i64 ((lvQ l n s).headD (-1)), .string ⟨#[108, 111, 99, 107, 101, 100]⟩, .string ⟨s.toArray⟩] 57)) := below_allocD _ _
        have HX : Hid (TW base pb w ((w2.setCell ⟨g, p * 2 + 1, none⟩ (.slice (some ⟨vb, 0, none⟩) (lvQ l n s).length vc)).alloc (.cells #[.int .i64 ((lvQ l n s).headD (-1)), .string ⟨#[108, 111, 99, 107, 101, 100]⟩, .string ⟨s.toArray⟩] 57)) 1 E (.slice (some ⟨g, 0, none⟩) l.length c)) := HTS.out.later hA HBS.out
        have FIN : Hid (r (.returned (.tuple #[.slice (some ⟨(w2.setCell ⟨g, p * 2 + 1, none⟩ (.slice (some ⟨vb, 0, none⟩) (lvQ l n s).length vc)).heap.size, 0, none⟩) 1 1, .int .i64 0])) (((w2.setCell ⟨g, p * 2 + 1, none⟩ (.slice (some ⟨vb, 0, none⟩) (lvQ l n s).length vc)).alloc (.cells #[.int .i64 ((lvQ l n s).headD (-1)), .string ⟨#[108, 111, 99, 107, 101, 100]⟩, .string ⟨s.toArray⟩] 57)).setCell ⟨pb, 0, none⟩ (.int .i32 0))) := by
          show r _ _
          have hpb := (Array.getElem?_eq_some_iff.1 HTS.out.bx).1
          have sA : ((w2.setCell ⟨g, p * 2 + 1, none⟩ (.slice (some ⟨vb, 0, none⟩) (lvQ l n s).length vc)).alloc (.cells #[.int .i64 ((lvQ l n s).headD (-1)), .string ⟨#[108, 111, 99, 107, 101, 100]⟩, .string ⟨s.toArray⟩] 57)).heap.size = (w2.setCell ⟨g, p * 2 + 1, none⟩ (.slice (some ⟨vb, 0, none⟩) (lvQ l n s).length vc)).heap.size + 1 := size_allocD _ _
          have sB : (((w2.setCell ⟨g, p * 2 + 1, none⟩ (.slice (some ⟨vb, 0, none⟩) (lvQ l n s).length vc)).alloc (.cells #[.int .i64 ((lvQ l n s).headD (-1)), .string ⟨#[108, 111, 99, 107, 101, 100]⟩, .string ⟨s.toArray⟩] 57)).setCell ⟨pb, 0, none⟩ (.int .i32 0)).heap.size = (w2.setCell ⟨g, p * 2 + 1, none⟩ (.slice (some ⟨vb, 0, none⟩) (lvQ l n s).length vc)).heap.size + 1 := by rw [← sA]; simp [World.setCell]
          have h1 := told_own (x := ⟨(lvQ l n s).headD (-1), lockedN, s⟩) (World.ownsRow_lit (base := base) (e := 57) (size := 3) (w2.setCell ⟨g, p * 2 + 1, none⟩ (.slice (some ⟨vb, 0, none⟩) (lvQ l n s).length vc)) #[.int .i64 ((lvQ l n s).headD (-1)), .string ⟨#[108, 111, 99, 107, 101, 100]⟩, .string ⟨s.toArray⟩] 1 HBS.out (by unfold maxLen; omega) rfl)
          have hbb2 : ∀ b, Value.ownBlock (.slice (some ⟨(w2.setCell ⟨g, p * 2 + 1, none⟩ (.slice (some ⟨vb, 0, none⟩) (lvQ l n s).length vc)).heap.size, 0, none⟩) 1 1) = some b → b = (w2.setCell ⟨g, p * 2 + 1, none⟩ (.slice (some ⟨vb, 0, none⟩) (lvQ l n s).length vc)).heap.size := fun b hb => by cases hb; rfl
          have h2 : Own (((w2.setCell ⟨g, p * 2 + 1, none⟩ (.slice (some ⟨vb, 0, none⟩) (lvQ l n s).length vc)).alloc (.cells #[.int .i64 ((lvQ l n s).headD (-1)), .string ⟨#[108, 111, 99, 107, 101, 100]⟩, .string ⟨s.toArray⟩] 57)).setCell ⟨pb, 0, none⟩ (.int .i32 0)) (dToldS [⟨(lvQ l n s).headD (-1), lockedN, s⟩]) (fun b => (w2.setCell ⟨g, p * 2 + 1, none⟩ (.slice (some ⟨vb, 0, none⟩) (lvQ l n s).length vc)).heap.size ≤ b ∧ b < (((w2.setCell ⟨g, p * 2 + 1, none⟩ (.slice (some ⟨vb, 0, none⟩) (lvQ l n s).length vc)).alloc (.cells #[.int .i64 ((lvQ l n s).headD (-1)), .string ⟨#[108, 111, 99, 107, 101, 100]⟩, .string ⟨s.toArray⟩] 57)).setCell ⟨pb, 0, none⟩ (.int .i32 0)).heap.size) _ := Own.same _ _ _ _ (fun b hb => Below.heap_setCell _ ⟨pb, 0, none⟩ _ _ (by show b ≠ pb; rw [hbb2 b hb]; omega)) (fun b hb => by rw [hbb2 b hb, sB]; omega) h1
          rw [HR.out, HL.out.1, htl, HL.out.2]
          exact ⟨E, some ⟨g, 0, none⟩, c, some ⟨(w2.setCell ⟨g, p * 2 + 1, none⟩ (.slice (some ⟨vb, 0, none⟩) (lvQ l n s).length vc)).heap.size, 0, none⟩, 1, rfl, HELs.out, by rw [HLL.out]; exact HX.out.st 0, (w2.setCell ⟨g, p * 2 + 1, none⟩ (.slice (some ⟨vb, 0, none⟩) (lvQ l n s).length vc)).heap.size, HBS.out, by rw [sB]; omega, hpb, fun y hy => (HTE.out.tb.low (hy.elim (fun h => .inl h) (fun h => .inr h))).2, h2⟩
        clear htl hA HT1 HT2 CD hhq hcl hll
        rw [hsz] at FIN
        generalize (lvQ l n s).headD (-1) = hq at *
        go_wp2_with fail
        refine leaves_cons (f := 47) (args := #[.pointer (some ⟨pb, 0, none⟩)]) (by simp) (by simp [go_sem]) ?_
        refine (unlock_deferred muLib ⟨pb, 0, none⟩ .returning _ HX.out.c0 (HX.out.z0 0)).mono ?_
        rintro e u' w'' ⟨rfl, rfl, rfl⟩
        refine ⟨_, results_tmp2 rfl _ _ _, ?_⟩
        exact FIN.out
      case neg =>
        have htl : leaveT l n s = [] := by rw [HT2.out, if_neg (fun h => hi0 h.1)]
        have hig : decide ((i : Int) > 0) = true := decide_eq_true (by omega)
        have hig2 : decide (0 < (i : Int)) = true := decide_eq_true (by omega)
        have HX : Hid (TW base pb w (w2.setCell ⟨g, p * 2 + 1, none⟩ (.slice (some ⟨vb, 0, none⟩) (lvQ l n s).length vc)) 1 E (.slice (some ⟨g, 0, none⟩) l.length c)) := HTS.out
        have FIN : Hid (r (.returned (.tuple #[.slice none 0 0, .int .i64 0])) ((w2.setCell ⟨g, p * 2 + 1, none⟩ (.slice (some ⟨vb, 0, none⟩) (lvQ l n s).length vc)).setCell ⟨pb, 0, none⟩ (.int .i32 0))) := by
          show r _ _
          rw [HR.out, HL.out.1, htl, HL.out.2]
          exact ⟨E, some ⟨g, 0, none⟩, c, none, 0, rfl, HELs.out, by rw [HLL.out]; exact HX.out.st 0, by rw [HLL.out]; exact TOw.none (HX.out.st 0) _ _⟩
        clear htl HT1 HT2 CD hhq hcl hll
        go_wp2_with fail
        refine leaves_cons (f := 47) (args := #[.pointer (some ⟨pb, 0, none⟩)]) (by simp) (by simp [go_sem]) ?_
        refine (unlock_deferred muLib ⟨pb, 0, none⟩ .returning _ HX.out.c0 (HX.out.z0 0)).mono ?_
        rintro e u' w'' ⟨rfl, rfl, rfl⟩
        refine ⟨_, results_tmp2 rfl _ _ _, ?_⟩
        exact FIN.out
end Go.Proofs.Ythpenliecgpedaa
