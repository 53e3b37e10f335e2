import Derived.Test.YthpenliecgpedaaYbi
import Derived.Test.YthpenliecgpedaaYTk
namespace Go.Proofs.Ythpenliecgpedaa
open Go.RowKit Go.MuLone
set_option linter.unusedSimpArgs false
def LvAns (w : World) (l : List LkV) (n : Int) (s : List UInt8) (e : Ending) (w' : World) : Prop := ∃ es ra rc ta tc, e = .returned (.tuple #[.slice ra (leaveL l n s).length rc, .slice ta (leaveT l n s).length tc, .int .i64 (leaveC l n s)]) ∧ lks es = leaveL l n s ∧ LTab w.heap.size w' es (.slice ra (leaveL l n s).length rc) ∧ Rd w' (fun b => w.heap.size ≤ b ∧ b < w'.heap.size) (dToldS (leaveT l n s)) (.slice ta (leaveT l n s).length tc) ∧ Below w.heap.size w w'
set_option maxRecDepth 100000 in
set_option maxHeartbeats 12800000 in
theorem leaveS (l : List LkV) (n : Int) (s : List UInt8) (a : Option Addr) (c : Nat) (B : Nat → Prop) (w : World) (hp : LksP l) (hS : Rd w B (dLockS l) (.slice a l.length c)) :
    Calls Try.prog 32 #[.slice a l.length c, .int .i64 n, .string ⟨s.toArray⟩] w (LvAns w l n s) := by
  have D0 : Below w.heap.size w (w.alloc (.cells #[] 57)) := below_allocD _ _
  have s0 : (w.alloc (.cells #[] 57)).heap.size = w.heap.size + 1 := size_allocD _ _
  have CO := Lib.hid (lkOwnS l a c B (w.alloc (.cells #[] 57)) (by have := hp.len; omega) (lks_que hp) (hS.later D0))
  have HLM : Hid (l.length ≤ maxLen) := by show _ ≤ _; have := hp.len; unfold maxLen; omega
  have HP := Lib.hid hp
  have HD0 := Lib.hid (And.intro D0 s0)
  clear hS hp D0 s0
  obtain ⟨r, hr⟩ : ∃ r, r = LvAns w l n s := ⟨_, rfl⟩
  have HR := Lib.hid hr
  rw [← hr]
  clear hr
  go_enter Try.func32, Try.ntmps32
  go_wp2_with fail
  refine CO.out.mono ?_
  rintro e w1 ⟨es, ra, rc, rfl, hes, hT, hB, g, rfl⟩
  have hel := lks_len es
  rw [hes] at hel
  have HES := Lib.hid hes
  have HEL := Lib.hid hel
  have HT : Hid (LTab (w.heap.size + 1) w1 es (.slice (some ⟨g, 0, none⟩) l.length rc) ∧ w.heap.size + 1 ≤ g ∧ g < w1.heap.size) := ⟨hT.base (by rw [HD0.out.2]; omega), by have h9 := (hT.low (g := g) (.inl rfl)).1; rw [HD0.out.2] at h9; exact h9, (hT.low (g := g) (.inl rfl)).2⟩
  have HB : Hid (Below w.heap.size w w1 ∧ w.heap.size + 1 ≤ w1.heap.size) := ⟨HD0.out.1.trans (hB.mono (by rw [HD0.out.2]; omega)), by have := hB.size; rw [HD0.out.2] at this; exact this⟩
  have HTO : Hid (w1.heap[w.heap.size]? = some (.cells #[] 57)) := (hB.block w.heap.size (by rw [HD0.out.2]; omega)).trans (heap_newD _ _)
  have HRD : Hid (Rd w1 (fun b => w.heap.size ≤ b ∧ b < w1.heap.size) (dLockS l) (.slice (some ⟨g, 0, none⟩) l.length rc)) := by have h1 := HT.out.1.own.rd'; rw [hes] at h1; exact h1.mono (fun b hb => ⟨by omega, hb.2⟩)
  clear hes hel hT hB CO HD0
  go_wp2_with fail
  refine (findKS l s (some ⟨g, 0, none⟩) rc _ w1 HLM.out HRD.out).mono ?_
  rintro e w2 ⟨rfl, hw2⟩
  rw [hw2]
  clear hw2 w2
  by_cases hf : fk l s < l.length
  case neg =>
    have hfi : fkI l s = -1 := by unfold fkI; rw [if_neg hf]
    rw [hfi]
    obtain ⟨t1, t2, t3⟩ := leave_no (l := l) (n := n) (s := s) (by unfold lvIn; rw [decide_eq_false hf]; rfl)
    have FIN : Hid (r (.returned (.tuple #[.slice (some ⟨g, 0, none⟩) l.length rc, .slice (some ⟨w.heap.size, 0, none⟩) 0 0, .int .i64 5])) w1) := by
      show r _ _
      rw [HR.out]
      exact ⟨es, some ⟨g, 0, none⟩, rc, some ⟨w.heap.size, 0, none⟩, 0, by rw [t1, t2, t3]; rfl, by rw [t1]; exact HES.out, by rw [t1]; exact HT.out.1.base (by omega), by rw [t2]; exact Rd.lsNil _ _, HB.out.1⟩
    clear hf hfi t1 t2 t3
    go_wp2_with fail
    go_ret3
    exact FIN.out
  have hfi : fkI l s = (fk l s : Int) := by unfold fkI; rw [if_pos hf]
  rw [hfi]
  obtain ⟨K, hK⟩ : ∃ K, K = fk l s := ⟨_, rfl⟩
  rw [← hK] at hf ⊢
  have hKe : K < es.length := by rw [← HEL.out]; exact hf
  have hX : lvX l s = l[K] := by unfold lvX; rw [← hK]; exact atL_at hf
  have hxe : (es[K]'hKe).x = l[K] := by have h9 := lks_at es (k := K) (by rw [lks_len]; exact hKe); simp only [HES.out] at h9; exact h9.symm
  have hTE : LTab (w.heap.size + 1) w1 es (.slice (some ⟨g, 0, none⟩) es.length rc) := by have h9 := HT.out.1; rw [HEL.out] at h9; exact h9
  have hqo : QOw (w.heap.size + 1) w1 l[K].qu (es[K]'hKe).u := by have h9 := hTE.el.qs K hKe; rw [hxe] at h9; exact h9
  have hQP := HP.out.que K hf
  obtain ⟨ub, uc, eu, huc, hub1, hub2, hqc⟩ := hqo.at (i := 0) (by have := hQP.len; omega)
  obtain ⟨g', c3, ev, -, -, e1, -, -⟩ := hTE.at hKe
  simp only [Value.slice.injEq, Option.some.injEq, Addr.mk.injEq, and_true, true_and] at ev
  obtain ⟨rfl, rfl⟩ := ev
  rw [eu] at e1
  have CI := Lib.hid (queI hqo n (some ⟨ub, 0, none⟩) uc eu (by have := hQP.len; unfold maxLen; omega))
  have hin : lvIn l n s = inK l[K].qu l[K].qu.length n := by unfold lvIn; rw [hX, ← hK, decide_eq_true hf]; rfl
  have hki : (K : Int) < (l.length : Int) := by omega
  have hk0 : (0 : Int) ≤ (K : Int) := by omega
  have hkd : decide ((K : Int) < 0) = false := decide_eq_false (by omega)
  have HKE := Lib.hid hKe
  have HF := Lib.hid hf
  have HX := Lib.hid hX
  have HXE : Hid ((es[K]'(HKE.out)).x = l[K]) := hxe
  have HTE := Lib.hid hTE
  have HQP : Hid (QuP (l[K]'(HF.out)).qu) := hQP
  have HEU : Hid ((es[K]'(HKE.out)).u = .slice (some ⟨ub, 0, none⟩) (l[K]'(HF.out)).qu.length uc) := eu
  have HUB : Hid (w.heap.size + 1 ≤ ub ∧ ub < w1.heap.size) := ⟨hub1, hub2⟩
  have HQC : Hid (∀ j (hj : j < (l[K]'(HF.out)).qu.length), w1.cell? ⟨ub, j, none⟩ = some (.int .i64 (l[K]'(HF.out)).qu[j])) := hqc
  have HIN : Hid (lvIn l n s = inK (l[K]'(HF.out)).qu (l[K]'(HF.out)).qu.length n) := hin
  have HKK := Lib.hid hK
  have HE1 : Hid (w1.cell? ⟨g, K * 2 + 1, none⟩ = some (.slice (some ⟨ub, 0, none⟩) (l[K]'(HF.out)).qu.length uc)) := e1
  clear hX hxe hTE hqo hQP eu huc hub1 hub2 hqc hin hfi hK hKe
  go_wp2_with fail
  refine CI.out.mono ?_
  rintro e w2 ⟨rfl, hw2⟩
  rw [hw2, ← HIN.out]
  clear hw2 w2 CI
  cases hin : lvIn l n s
  case false =>
    obtain ⟨t1, t2, t3⟩ := leave_no hin
    have FIN : Hid (r (.returned (.tuple #[.slice (some ⟨g, 0, none⟩) l.length rc, .slice (some ⟨w.heap.size, 0, none⟩) 0 0, .int .i64 5])) w1) := by
      show r _ _
      rw [HR.out]
      exact ⟨es, some ⟨g, 0, none⟩, rc, some ⟨w.heap.size, 0, none⟩, 0, by rw [t1, t2, t3]; rfl, by rw [t1]; exact HES.out, by rw [t1]; exact HT.out.1.base (by omega), by rw [t2]; exact Rd.lsNil _ _, HB.out.1⟩
    clear t1 t2 t3
    go_wp2_with fail
    go_ret3
    exact FIN.out
  case true =>
    obtain ⟨t1, t2, t3⟩ := leave_in hin
    have hfq : fq l[K].qu n < l[K].qu.length := by
      have h1 := HIN.out
      rw [hin, fq_in] at h1
      exact of_decide_eq_true h1.symm
    have hlvq : lvQ l n s = delQ l[K].qu n := by unfold lvQ; rw [HX.out]; rfl
    have HLQ : Hid ((l[K]'(HF.out)).qu.filter (fun x => x != n) = lvQ l n s) := by show _ = _; rw [hlvq]; exact delQ_filter HQP.out hfq
    have HT1 : Hid (leaveL l n s = (if (lvQ l n s).length = 0 then l.take K ++ l.drop (K + 1) else l.set K ⟨(l[K]'(HF.out)).nm, lvQ l n s⟩) ∧ leaveT l n s = (if (l[K]'(HF.out)).qu.headD (-1) = n ∧ 0 < (lvQ l n s).length then [⟨(lvQ l n s).headD (-1), lockedN, s⟩] else []) ∧ leaveC l n s = 0) := by
      rw [t1, t2, t3, HX.out, ← HKK.out]; exact ⟨rfl, rfl, rfl⟩
    have CE : Hid (∀ W, Below w1.heap.size w1 W → W.cell? ⟨g, K * 2 + 1, none⟩ = some (.slice (some ⟨ub, 0, none⟩) (l[K]'(HF.out)).qu.length uc) ∧ ∀ j (hj : j < (l[K]'(HF.out)).qu.length), W.cell? ⟨ub, j, none⟩ = some (.int .i64 (l[K]'(HF.out)).qu[j])) := fun W hW => ⟨(hW.cell (p := ⟨g, K * 2 + 1, none⟩) HT.out.2.2).trans HE1.out, fun j hj => (hW.cell (p := ⟨ub, j, none⟩) HUB.out.2).trans (HQC.out j hj)⟩
    have H0 : Hid (Below w1.heap.size w1 (w1.alloc (.cells #[] 3)) ∧ QOw w1.heap.size (w1.alloc (.cells #[] 3)) (((l[K]'(HF.out)).qu.take 0).filter (fun x => x != n)) (.slice (some ⟨w1.heap.size, 0, none⟩) 0 0)) := ⟨below_allocD _ _, QOw.start (Nat.le_refl _) (heap_newD _ _)⟩
    have HQL : Hid ((l[K]'(HF.out)).qu.length ≤ 3 ∧ 1 ≤ (l[K]'(HF.out)).qu.length) := ⟨HQP.out.len.2, HQP.out.len.1⟩
    have hqlm : (l[K]'(HF.out)).qu.length ≤ 3 := HQP.out.len.2
    clear t1 t2 t3 hfq hlvq
    go_wp2_with fail
    go_loopw [12, 13] (fun v iv wr => ∃ k : Nat, k ≤ (l[K]'(HF.out)).qu.length ∧ iv = .int .i64 k ∧ Hid (Below w1.heap.size w1 wr ∧ QOw w1.heap.size wr (((l[K]'(HF.out)).qu.take k).filter (fun x => x != n)) v)) (fun _ iv _ => (l[K]'(HF.out)).qu.length - (intOf iv).toNat)
    case atStart => exact ⟨0, Nat.zero_le _, rfl, H0.out⟩
    case round =>
      clear H0
      obtain ⟨k, hk, rfl, HW⟩ := hrel
      have x1 := (CE.out _ HW.out.1).1
      by_cases hlt : k < (l[K]'(HF.out)).qu.length
      case pos =>
        have hki : (k : Int) < ((l[K]'(HF.out)).qu.length : Int) := by omega
        have hk9 : (0 : Int) ≤ (k : Int) := by omega
        have x2 := (CE.out _ HW.out.1).2 k hlt
        obtain ⟨va, vc, rfl⟩ := HW.out.2.shape
        have HFT := Lib.hid (filter_take (q := (l[K]'(HF.out)).qu) (n := n) hlt)
        by_cases he : (l[K]'(HF.out)).qu[k] = n
        · have hne : ((l[K]'(HF.out)).qu[k] != n) = false := by simpa using he
          have HN : Hid (Below w1.heap.size w1 wr ∧ QOw w1.heap.size wr (((l[K]'(HF.out)).qu.take (k + 1)).filter (fun x => x != n)) (.slice va (((l[K]'(HF.out)).qu.take k).filter (fun x => x != n)).length vc)) := by rw [HFT.out, if_pos he, List.append_nil]; exact HW.out
          clear he HFT HW
          generalize (l[K]'(HF.out)).qu[k] = x at *
          generalize (((l[K]'(HF.out)).qu.take k).filter (fun x => x != n)).length = m at *
          go_wp2_with fail
          go_roundw
          case rel => exact ⟨k + 1, by omega, by go_num, HN.out⟩
          case measure => simp [intOf]; omega
        · have hne : ((l[K]'(HF.out)).qu[k] != n) = true := by simpa using he
          have hV : Below wr.heap.size wr (wr.alloc (.cells #[.int .i64 (l[K]'(HF.out)).qu[k]] 3)) := below_allocD _ _
          have hq2 : QOw w1.heap.size (wr.alloc (.cells #[.int .i64 (l[K]'(HF.out)).qu[k]] 3)) _ _ := HW.out.2.same (fun y hy => hV.block y (HW.out.2.low hy).2)
          obtain ⟨a', c', W3, r3, hu3, hF3, hn3⟩ := hq2.app [(l[K]'(HF.out)).qu[k]] ⟨wr.heap.size, 0, none⟩ 1 (fun j hj => by
            obtain rfl : j = 0 := by simpa using hj
            rw [Addr.add_mid]
            exact cell_at (o := 0) (heap_newD wr (.cells #[.int .i64 (l[K]'(HF.out)).qu[k]] 3)) rfl) (Nat.le_trans HW.out.1.size hV.size) (by
            have h1 := List.length_filter_le (fun x => x != n) ((l[K]'(HF.out)).qu.take k)
            rw [List.length_take] at h1
            simp only [List.length_cons, List.length_nil]; omega)
          simp only [List.length_cons, List.length_nil, Nat.zero_add] at r3 hu3 hn3
          have RUN := Lib.hid r3
          have HN : Hid (Below w1.heap.size w1 W3 ∧ QOw w1.heap.size W3 (((l[K]'(HF.out)).qu.take (k + 1)).filter (fun x => x != n)) (.slice a' ((((l[K]'(HF.out)).qu.take k).filter (fun x => x != n)).length + 1) c')) := by
            rw [HFT.out, if_neg he]
            exact ⟨below_frm (HW.out.1.trans (hV.mono HW.out.1.size)) hF3 (fun b hb => (hq2.low hb).1) (Nat.le_refl _), hu3⟩
          clear he HFT HW hV hq2 r3 hu3 hF3 hn3
          generalize (l[K]'(HF.out)).qu[k] = x at *
          generalize (((l[K]'(HF.out)).qu.take k).filter (fun x => x != n)).length = m at *
          go_wp2_with (at_builtin; go_must (refine wpList_appIs rfl (.tmp 55) (.tmp 64) 52 rfl _ _ rfl rfl _ _ RUN.out ?_))
          go_roundw
          case rel => exact ⟨k + 1, by omega, by go_num, HN.out⟩
          case measure => simp [intOf]; omega
      case neg =>
        have hki : decide ((k : Int) < ((l[K]'(HF.out)).qu.length : Int)) = false := by simp; omega
        have hkn : ¬ (k : Int) < ((l[K]'(HF.out)).qu.length : Int) := by omega
        obtain ⟨va, vc, rfl⟩ := HW.out.2.shape
        have hfe : ((l[K]'(HF.out)).qu.take k).filter (fun x => x != n) = lvQ l n s := by rw [List.take_of_length_le (by omega)]; exact HLQ.out
        have HV : Hid (QOw w1.heap.size wr (lvQ l n s) (.slice va (lvQ l n s).length vc)) := by have h1 := HW.out.2; rw [hfe] at h1; exact h1
        have HBW : Hid (Below w1.heap.size w1 wr) := HW.out.1
        rw [hfe]
        have HSZ : Hid (w1.heap.size ≤ wr.heap.size) := HW.out.1.size
        -- the table with the queue in its place, in any world that keeps what lies there
        have HSET : Hid (∀ W : World, wr.heap.size ≤ W.heap.size → (∀ b, w.heap.size + 1 ≤ b → b < wr.heap.size → W.heap[b]? = wr.heap[b]?) → LTab (w.heap.size + 1) (W.setCell ⟨g, K * 2 + 1, none⟩ (.slice va (lvQ l n s).length vc)) (es.set K ⟨⟨(es[K]'(HKE.out)).x.nm, lvQ l n s⟩, .slice va (lvQ l n s).length vc⟩) (.slice (some ⟨g, 0, none⟩) l.length rc) ∧ W.cell? ⟨g, K * 2 + 1, none⟩ = some (.slice (some ⟨ub, 0, none⟩) (l[K]'(HF.out)).qu.length uc) ∧ W.frozen? ⟨g, K * 2 + 1, none⟩ = false) := fun W hs hk => by
          have hTW : LTab (w.heap.size + 1) wr es (.slice (some ⟨g, 0, none⟩) es.length rc) := HTE.out.later HBW.out
          have hT2 : LTab (w.heap.size + 1) W es (.slice (some ⟨g, 0, none⟩) es.length rc) := hTW.same (fun y hy => hk y (hTW.low hy).1 (hTW.low hy).2)
          have hv2 : QOw (w.heap.size + 1) W (lvQ l n s) (.slice va (lvQ l n s).length vc) := (HV.out.base HB.out.2).same (fun y hy => hk y (by have := (HV.out.low hy).1; have := HB.out.2; omega) (HV.out.low hy).2)
          obtain ⟨g', c3, ev, -, -, e1, -, f1⟩ := hT2.at HKE.out
          simp only [Value.slice.injEq, Option.some.injEq, Addr.mk.injEq, and_true, true_and] at ev
          obtain ⟨rfl, rfl⟩ := ev
          rw [HEU.out] at e1
          refine ⟨?_, e1, f1⟩
          rw [HEL.out]
          refine hT2.setQ2 HKE.out _ _ hv2 (fun b hb => ?_)
          have h7 := (HV.out.low hb).1
          refine ⟨by have := HT.out.2.2; omega, fun j hj _ h8 => ?_⟩
          have := (HTE.out.low (.inr ⟨j, hj, h8⟩)).2
          omega
        have HLS : Hid (lks (es.set K ⟨⟨(es[K]'(HKE.out)).x.nm, lvQ l n s⟩, .slice va (lvQ l n s).length vc⟩) = l.set K ⟨(l[K]'(HF.out)).nm, lvQ l n s⟩) := by
          show _ = _
          rw [lks_set, HES.out]
          exact congrArg (fun z : LkV => l.set K ⟨z.nm, lvQ l n s⟩) HXE.out
        have HQ0 : Hid (0 < (l[K]'(HF.out)).qu.length) := HQL.out.2
        have q0 := (CE.out _ HBW.out).2 0 HQ0.out
        have HHD : Hid ((l[K]'(HF.out)).qu.headD (-1) = (l[K]'(HF.out)).qu[0]'(HQ0.out)) := head_at _
        have hq0i : (0 : Int) < ((l[K]'(HF.out)).qu.length : Int) := by have := HQL.out; omega
        have HVA : Hid (0 < (lvQ l n s).length → ∃ vb, va = some ⟨vb, 0, none⟩ ∧ vb < wr.heap.size ∧ w1.heap.size ≤ vb ∧ wr.cell? ⟨vb, 0, none⟩ = some (.int .i64 ((lvQ l n s).headD (-1)))) := fun h0 => by
          obtain ⟨vb, c9, ev, -, h1, h2, h3⟩ := HV.out.at h0
          simp only [Value.slice.injEq, true_and] at ev
          exact ⟨vb, ev.1, h2, h1, by rw [head_at h0]; exact h3 0 h0⟩
        have hsc : (wr.setCell ⟨g, K * 2 + 1, none⟩ (.slice va (lvQ l n s).length vc)).heap.size = wr.heap.size := by simp [World.setCell]
        have HBX : Hid (Below w.heap.size w wr) := HB.out.1.trans (HBW.out.mono (by have := HB.out.2; omega))
        clear HW hfe hk
        generalize hh0 : (l[K]'(HF.out)).qu[0]'(HQ0.out) = h0 at *
        obtain ⟨m, hm⟩ : ∃ m, m = (lvQ l n s).length := ⟨_, rfl⟩
        have HM := Lib.hid hm
        by_cases hm0 : 0 < (lvQ l n s).length
        · obtain ⟨vb, rfl, hvb, hvb2, hvc⟩ := HVA.out hm0
          have hmd : decide (0 < (lvQ l n s).length) = true := decide_eq_true hm0
          have hmd2 : decide (0 < ((lvQ l n s).length : Int)) = true := decide_eq_true (by omega)
          have hme : (((lvQ l n s).length : Int) == 0) = false := by rw [beq_eq_false_iff_ne]; omega
          have hmi : (0 : Int) < ((lvQ l n s).length : Int) := by omega
          have hL : leaveL l n s = l.set K ⟨(l[K]'(HF.out)).nm, lvQ l n s⟩ := by rw [HT1.out.1, if_neg (by omega)]
          have HL : Hid (leaveL l n s = l.set K ⟨(l[K]'(HF.out)).nm, lvQ l n s⟩) := hL
          by_cases he : h0 = n
          · have hne : (h0 == n) = true := by simpa using he
            have htl : leaveT l n s = [⟨(lvQ l n s).headD (-1), lockedN, s⟩] := by rw [HT1.out.2.1, if_pos ⟨by rw [HHD.out]; exact he, hm0⟩]
            have HTL := Lib.hid htl
            have s5 : (wr.alloc (.cells #[.int .i64 ((lvQ l n s).headD (-1)), .string ⟨#[108, 111, 99, 107, 101, 100]⟩, .string ⟨s.toArray⟩] 57)).heap.size = wr.heap.size + 1 := size_allocD _ _
            have hT5 : (wr.alloc (.cells #[.int .i64 ((lvQ l n s).headD (-1)), .string ⟨#[108, 111, 99, 107, 101, 100]⟩, .string ⟨s.toArray⟩] 57)).heap[w.heap.size]? = some (.cells #[] 57) := heap_keptD (heap_keptD HTO.out HBW.out) (below_allocD _ _)
            obtain ⟨ta, tc, W6, r6, o6, f6, n6⟩ := told_push (base := w.heap.size) (V := wr.alloc (.cells #[.int .i64 ((lvQ l n s).headD (-1)), .string ⟨#[108, 111, 99, 107, 101, 100]⟩, .string ⟨s.toArray⟩] 57)) (v := .slice (some ⟨w.heap.size, 0, none⟩) 0 0) ⟨rfl, .inr ⟨w.heap.size, 0, #[], rfl, Nat.le_refl _, hT5, Nat.le_refl _, by unfold maxLen; omega, rfl, rfl⟩⟩ ⟨(lvQ l n s).headD (-1), lockedN, s⟩ wr.heap.size (heap_newD _ _) (by rw [s5]; have := HBX.out.size; omega)
            have RUN := Lib.hid r6
            have hk6 : ∀ b, w.heap.size + 1 ≤ b → b < wr.heap.size → W6.heap[b]? = wr.heap[b]? := fun b h1 h2 => by
              rw [f6.block b (by omega) (fun e => by have e2 : b = w.heap.size := (by cases e; rfl); omega)]
              exact (below_allocD _ _).block b h2
            obtain ⟨T7, y1, z1⟩ := HSET.out W6 (by have := f6.size; omega) hk6
            have HY := Lib.hid (And.intro y1 z1)
            have FIN : Hid (r (.returned (.tuple #[.slice (some ⟨g, 0, none⟩) l.length rc, .slice ta 1 tc, .int .i64 0])) (W6.setCell ⟨g, K * 2 + 1, none⟩ (.slice (some ⟨vb, 0, none⟩) (lvQ l n s).length vc))) := by
              show r _ _
              rw [HR.out]
              refine ⟨(es.set K ⟨⟨(es[K]'(HKE.out)).x.nm, lvQ l n s⟩, .slice (some ⟨vb, 0, none⟩) (lvQ l n s).length vc⟩), some ⟨g, 0, none⟩, rc, ta, tc, ?_, ?_, ?_, ?_, ?_⟩
              · rw [HTL.out, HT1.out.2.2, HL.out, List.length_set]; rfl
              · rw [HL.out]; exact HLS.out
              · rw [HL.out, List.length_set]; exact T7.base (by omega)
              · rw [HTL.out]
                have h1 := told_own o6
                have hgb : ∀ b, Value.ownBlock (.slice ta 1 tc) = some b → w.heap.size ≤ b ∧ b < W6.heap.size ∧ b ≠ g := fun b hb => by
                  have h3 : w.heap.size ≤ b ∧ b < W6.heap.size := by
                    rcases o6.2 with ⟨e, h9⟩ | ⟨gg, cap, cur, e, hg, hh, -⟩
                    · omega
                    · rw [e] at hb
                      have e2 : b = gg := by cases hb; rfl
                      rw [e2]; exact ⟨hg, (Array.getElem?_eq_some_iff.1 hh).1⟩
                  refine ⟨h3.1, h3.2, fun e => ?_⟩
                  rcases n6 b hb with h4 | h4
                  · have e2 : b = w.heap.size := (by cases h4; rfl)
                    have := HT.out.2.1; omega
                  · have := HT.out.2.2; omega
                have h2 : Own (W6.setCell ⟨g, K * 2 + 1, none⟩ (.slice (some ⟨vb, 0, none⟩) (lvQ l n s).length vc)) _ (fun b => w.heap.size ≤ b ∧ b < (W6.setCell ⟨g, K * 2 + 1, none⟩ (.slice (some ⟨vb, 0, none⟩) (lvQ l n s).length vc)).heap.size) _ := Own.same _ _ _ _ (fun b hb => Below.heap_setCell _ ⟨g, K * 2 + 1, none⟩ _ _ (by show b ≠ g; exact (hgb b hb).2.2)) (fun b hb => ⟨(hgb b hb).1, by have := (hgb b hb).2.1; simpa [World.setCell] using this⟩) h1
                exact h2.rd'
              · refine (below_frm (HBX.out.trans ((below_allocD _ _).mono HBX.out.size)) f6 (fun b hb => by have e2 : b = w.heap.size := (by cases hb; rfl); omega) (Nat.le_refl _)).setCell (by show w.heap.size ≤ g; have := HT.out.2.1; omega) _
            have y2 := HY.out.1
            have z2 := HY.out.2
            clear htl s5 hT5 r6 o6 f6 n6 hk6 T7 y1 z1 he hL hm hsc
            generalize (lvQ l n s).headD (-1) = hq at *
            go_wp2_with (at_builtin; go_must (refine wpList_appIs rfl (.tmp 80) (.tmp 86) 29 rfl _ _ rfl rfl _ _ RUN.out ?_))
            go_ret3
            exact FIN.out
          · have hne : (h0 == n) = false := by simpa using he
            have htl : leaveT l n s = [] := by rw [HT1.out.2.1, if_neg (fun h => he (by rw [← HHD.out]; exact h.1))]
            obtain ⟨T7, y1, z1⟩ := HSET.out wr (Nat.le_refl _) (fun _ _ _ => rfl)
            have HY := Lib.hid (And.intro y1 z1)
            have FIN : Hid (r (.returned (.tuple #[.slice (some ⟨g, 0, none⟩) l.length rc, .slice (some ⟨w.heap.size, 0, none⟩) 0 0, .int .i64 0])) (wr.setCell ⟨g, K * 2 + 1, none⟩ (.slice (some ⟨vb, 0, none⟩) (lvQ l n s).length vc))) := by
              show r _ _
              rw [HR.out]
              refine ⟨(es.set K ⟨⟨(es[K]'(HKE.out)).x.nm, lvQ l n s⟩, .slice (some ⟨vb, 0, none⟩) (lvQ l n s).length vc⟩), some ⟨g, 0, none⟩, rc, some ⟨w.heap.size, 0, none⟩, 0, ?_, ?_, ?_, ?_, ?_⟩
              · rw [htl, HT1.out.2.2, HL.out, List.length_set]; rfl
              · rw [HL.out]; exact HLS.out
              · rw [HL.out, List.length_set]; exact T7.base (by omega)
              · rw [htl]; exact Rd.lsNil _ _
              · exact HBX.out.setCell (by show w.heap.size ≤ g; have := HT.out.2.1; omega) _
            have y2 := HY.out.1
            have z2 := HY.out.2
            clear htl T7 y1 z1 he hL hm hsc
            go_wp2_with fail
            go_ret3
            exact FIN.out
        · have hmz : (lvQ l n s).length = 0 := by omega
          have htl : leaveT l n s = [] := by rw [HT1.out.2.1, if_neg (fun h => by omega)]
          have hL : leaveL l n s = l.take K ++ l.drop (K + 1) := by rw [HT1.out.1, if_pos hmz]
          have hLl : (leaveL l n s).length = l.length - 1 := by rw [hL, List.length_append, List.length_take, List.length_drop]; have := HF.out; omega
          obtain ⟨T7, y1, z1⟩ := HSET.out wr (Nat.le_refl _) (fun _ _ _ => rfl)
          have HY := Lib.hid (And.intro y1 z1)
          have hEl : l.length = (es.set K ⟨⟨(es[K]'(HKE.out)).x.nm, lvQ l n s⟩, .slice va (lvQ l n s).length vc⟩).length := by rw [List.length_set]; exact HEL.out
          have HR16 : Hid (∀ (ad : Addr) (cc : Nat), (K + 1 < l.length → ad = ⟨g, (K + 1) * 2, none⟩) → ∃ a' c' W9, (Builtin.append_ #[23, 23] 23 #[.slice (some ⟨g, 0, none⟩) K rc, .slice (some ad) (l.length - (K + 1)) cc]).run Try.prog (wr.setCell ⟨g, K * 2 + 1, none⟩ (.slice va (lvQ l n s).length vc)).drew = .ok (.slice a' (l.length - 1) c') W9 ∧ r (.returned (.tuple #[.slice a' (l.length - 1) c', .slice (some ⟨w.heap.size, 0, none⟩) 0 0, .int .i64 0])) W9) := fun ad cc had => by
            have hT8 : LTab (w.heap.size + 1) (wr.setCell ⟨g, K * 2 + 1, none⟩ (.slice va (lvQ l n s).length vc)).drew (es.set K ⟨⟨(es[K]'(HKE.out)).x.nm, lvQ l n s⟩, .slice va (lvQ l n s).length vc⟩) (.slice (some ⟨g, 0, none⟩) (es.set K ⟨⟨(es[K]'(HKE.out)).x.nm, lvQ l n s⟩, .slice va (lvQ l n s).length vc⟩).length rc) := by rw [← hEl]; exact T7.later (Below.refl _ _).drew
            have hKE2 : K ≤ (es.set K ⟨⟨(es[K]'(HKE.out)).x.nm, lvQ l n s⟩, .slice va (lvQ l n s).length vc⟩).length := by rw [← hEl]; have := HF.out; omega
            have hpre := (hT8.pre hKE2).ow
            have hkl : ((es.set K ⟨⟨(es[K]'(HKE.out)).x.nm, lvQ l n s⟩, .slice va (lvQ l n s).length vc⟩).take K).length = K := by rw [List.length_take]; omega
            rw [hkl] at hpre
            obtain ⟨i, hi, hz, hs, hby⟩ := infoLk
            have hdl : ((es.set K ⟨⟨(es[K]'(HKE.out)).x.nm, lvQ l n s⟩, .slice va (lvQ l n s).length vc⟩).drop (K + 1)).length = l.length - (K + 1) := by rw [List.length_drop, ← hEl]
            obtain ⟨v', W9, hr9, hrow, hg9, hgg⟩ := run_append_own4 (P := Try.prog) (wr.setCell ⟨g, K * 2 + 1, none⟩ (.slice va (lvQ l n s).length vc)).drew (w.heap.size + 1) 23 23 54 i _ 2 40 Try.underlying23 hi hz hs hby rfl (by omega) (.slice (some ⟨g, 0, none⟩) K rc) K _ hpre ad (l.length - (K + 1)) cc (lcs ((es.set K ⟨⟨(es[K]'(HKE.out)).x.nm, lvQ l n s⟩, .slice va (lvQ l n s).length vc⟩).drop (K + 1))) (by rw [lcs_len, hdl]) (fun j u hj => by
              have hlt : K + 1 < l.length := by
                have h1 := (List.getElem?_eq_some_iff.1 hj).1
                rw [lcs_len, hdl] at h1; omega
              rw [had hlt]
              rw [← lcs_drop, List.getElem?_drop] at hj
              have h2 := hT8.cells _ u hj
              rw [Addr.add_mid] at h2 ⊢
              rw [Nat.zero_add] at h2
              exact h2) (lcs_one (fun e he => hT8.el.one e (List.mem_of_mem_drop he))) (by have := HF.out; have := HP.out.len; unfold maxLen; omega) (by have := HF.out; have := HP.out.len; omega) (by have := HT.out.2; show w.heap.size + 1 ≤ (wr.setCell ⟨g, K * 2 + 1, none⟩ (.slice va (lvQ l n s).length vc)).heap.size; rw [hsc]; have := HSZ.out; omega)
            have hsum : K + (l.length - (K + 1)) = l.length - 1 := by have := HF.out; omega
            rw [hsum] at hrow
            obtain ⟨a', c', rfl⟩ : ∃ a' c', v' = .slice a' (l.length - 1) c' := by
              rcases hrow.2 with ⟨rfl, h0⟩ | ⟨gg, cap, cur, rfl, -⟩
              · exact ⟨none, 0, by rw [h0]⟩
              · exact ⟨_, _, rfl⟩
            have hgb : ∀ b, Value.ownBlock (.slice (some ⟨g, 0, none⟩) K rc) = some b → b = g := fun b hb => by cases hb; rfl
            have hF9 : Frm (· = g) (wr.setCell ⟨g, K * 2 + 1, none⟩ (.slice va (lvQ l n s).length vc)).drew W9 := ⟨hg9.os, hg9.tape, hg9.output, hg9.size, fun b hb' hn => hg9.block b hb' (fun e => hn (hgb b e.symm))⟩
            have hdE : (delE (es.set K ⟨⟨(es[K]'(HKE.out)).x.nm, lvQ l n s⟩, .slice va (lvQ l n s).length vc⟩) K).length = l.length - 1 := by have h1 := delE_len (es := (es.set K ⟨⟨(es[K]'(HKE.out)).x.nm, lvQ l n s⟩, .slice va (lvQ l n s).length vc⟩)) (p := K) (by rw [← hEl]; exact HF.out); omega
            refine ⟨a', c', W9, hr9, ?_⟩
            have hTD : LTab (w.heap.size + 1) W9 (delE (es.set K ⟨⟨(es[K]'(HKE.out)).x.nm, lvQ l n s⟩, .slice va (lvQ l n s).length vc⟩) K) (.slice a' (delE (es.set K ⟨⟨(es[K]'(HKE.out)).x.nm, lvQ l n s⟩, .slice va (lvQ l n s).length vc⟩) K).length c') := hT8.del (by rw [← hEl]; exact HF.out) (by
              rw [hdE]
              have h1 : lcs (delE (es.set K ⟨⟨(es[K]'(HKE.out)).x.nm, lvQ l n s⟩, .slice va (lvQ l n s).length vc⟩) K) = lcs ((es.set K ⟨⟨(es[K]'(HKE.out)).x.nm, lvQ l n s⟩, .slice va (lvQ l n s).length vc⟩).take K) ++ lcs ((es.set K ⟨⟨(es[K]'(HKE.out)).x.nm, lvQ l n s⟩, .slice va (lvQ l n s).length vc⟩).drop (K + 1)) := by unfold delE; rw [lcs_app]
              rw [h1]; exact hrow) hF9 (fun b hb => by
              rw [hdE] at hb
              rcases hgg b hb with h1 | h1
              · exact .inl (hgb b h1)
              · exact .inr h1)
            rw [hdE] at hTD
            rw [HR.out]
            refine ⟨delE (es.set K ⟨⟨(es[K]'(HKE.out)).x.nm, lvQ l n s⟩, .slice va (lvQ l n s).length vc⟩) K, a', c', some ⟨w.heap.size, 0, none⟩, 0, ?_, ?_, ?_, ?_, ?_⟩
            · rw [htl, HT1.out.2.2, hLl]; rfl
            · rw [hL, delE_set]; exact lks_delE HES.out
            · rw [hLl]; exact hTD.base (by omega)
            · rw [htl]; exact Rd.lsNil _ _
            · exact below_frm ((HBX.out.setCell (by show w.heap.size ≤ g; have := HT.out.2.1; omega) _).drew) hF9 (fun b hb => by rw [hb]; have := HT.out.2.1; omega) (Nat.le_refl _)
          have y2 := HY.out.1
          have z2 := HY.out.2
          have hmd : decide (0 < (lvQ l n s).length) = false := decide_eq_false hm0
          have hmd2 : decide (0 < ((lvQ l n s).length : Int)) = false := decide_eq_false (by omega)
          have hme : (((lvQ l n s).length : Int) == 0) = true := by rw [beq_iff_eq]; omega
          have hrcl : l.length ≤ rc := Rd.room HRD.out
          have hw1 : IntKind.i64.wrap ((K : Int) + 1) = (K : Int) + 1 := by rw [IntKind.wrap_i64]; have := HP.out.len; omega
          have hk1 : (0 : Int) ≤ (K : Int) + 1 := by omega
          have hk2 : ((K : Int) + 1).toNat = K + 1 := by omega
          have hk3 : (K : Int) + 1 ≤ (l.length : Int) := by omega
          have hk4 : (K : Int) ≤ (rc : Int) := by omega
          have hk5 : (l.length : Int) ≤ (rc : Int) := by omega
          have hk6 : K ≤ rc := by omega
          have hk8 : (K : Int) ≤ (K : Int) + 1 := by omega
          have hk9 : K ≤ K + 1 := by omega
          have hk7 : (K : Int) + 1 ≤ (rc : Int) := by omega
          have HRK : Hid (rc = K + 1 → l.length = K + 1) := fun h => by have := HF.out; omega
          have hcz : (h0 == n) = true ∨ (h0 == n) = false := by cases (h0 == n) <;> simp
          clear htl hL hLl T7 y1 z1 hm hsc hmz hEl hm0
          by_cases hrk : rc = K + 1
          · subst hrk
            rcases hcz with hne | hne
            all_goals
              obtain ⟨a', c', W9, hr9, hfin⟩ := HR16.out ⟨g, 0, none⟩ 0 (fun h => by omega)
              have hlz : l.length - (K + 1) = 0 := by have := HRK.out rfl; omega
              rw [hlz] at hr9
              have RUN16 := Lib.hid hr9
              have FIN := Lib.hid hfin
              clear hr9 hfin HR16
              go_wp2_with fail
              refine wp_region_held_drew (S := (fun _ => True)) (by kernel_rfl) ?_ (fun hHeld => ?_)
              · (trivial)
              refine tkB (i := 0) ?_
              refine tkB (i := 1) ?_
              refine tkB (i := 2) ?_
              refine tkB (i := 3) ?_
              refine tkB (i := 4) ?_
              refine tkB (i := 5) ?_
              refine tkB (i := 6) ?_
              refine tkR (i := 7) (fun K hK => ?_)
              refine step_appIs rfl (.tmp 98) (.tmp 102) 23 rfl _ _ (by rfl) (by rfl) _ _ RUN16.out ?_
              refine hK.out _ _ ?_ (fun hHeld => ?_)
              · (trivial)
              clear hK K
              try simp only [Act.put, tkS]
              refine tkB (i := 8) ?_
              refine wpAnyH_done (by kernel_rfl) ?_ _
              go_wp2_with fail
              go_ret3
              exact FIN.out
          · rcases hcz with hne | hne
            all_goals
              obtain ⟨a', c', W9, hr9, hfin⟩ := HR16.out ⟨g, (K + 1) * 2, none⟩ (rc - (K + 1)) (fun h => rfl)
              have RUN16 := Lib.hid hr9
              have FIN := Lib.hid hfin
              clear hr9 hfin HR16
              go_wp2_with fail
              refine wp_region_held_drew (S := (fun _ => True)) (by kernel_rfl) ?_ (fun hHeld => ?_)
              · (trivial)
              refine tkB (i := 0) ?_
              refine tkB (i := 1) ?_
              refine tkB (i := 2) ?_
              refine tkB (i := 3) ?_
              refine tkB (i := 4) ?_
              refine tkB (i := 5) ?_
              refine tkB (i := 6) ?_
              refine tkR (i := 7) (fun K hK => ?_)
              refine step_appIs rfl (.tmp 98) (.tmp 102) 23 rfl _ _ (by rfl) (by rfl) _ _ RUN16.out ?_
              refine hK.out _ _ ?_ (fun hHeld => ?_)
              · (trivial)
              clear hK K
              try simp only [Act.put, tkS]
              refine tkB (i := 8) ?_
              refine wpAnyH_done (by kernel_rfl) ?_ _
              go_wp2_with fail
              go_ret3
              exact FIN.out
end Go.Proofs.Ythpenliecgpedaa
