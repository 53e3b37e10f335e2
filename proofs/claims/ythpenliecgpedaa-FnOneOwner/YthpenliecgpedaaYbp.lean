import Derived.Test.YthpenliecgpedaaYbl
namespace Go.Proofs.Ythpenliecgpedaa
open Go.RowKit Go.MuLone
set_option linter.unusedSimpArgs false
def stolenN : List UInt8 := [115, 116, 111, 108, 101, 110]
def stQ (l : List LkV) (n : Int) (s : List UInt8) : List Int := n :: (tkX l s).qu.filter (fun x => x != n)
def stealL (l : List LkV) (n : Int) (s : List UInt8) : List LkV := if roomB l s then (roomL l s).set (roomK l s) ⟨(tkX l s).nm, stQ l n s⟩ else roomL l s
def stealT (l : List LkV) (n : Int) (s : List UInt8) : List ToV := if roomB l s then (if 0 < (tkX l s).qu.length ∧ (tkX l s).qu.headD (-1) ≠ n then [⟨(tkX l s).qu.headD (-1), stolenN, s⟩] else []) else []
def stealC (l : List LkV) (_n : Int) (s : List UInt8) : Int := if roomB l s then 0 else 7
theorem steal_no {l : List LkV} {n : Int} {s : List UInt8} (h : roomB l s = false) : stealL l n s = roomL l s ∧ stealT l n s = [] ∧ stealC l n s = 7 := by unfold stealL stealT stealC; simp [h]
theorem steal_ok {l : List LkV} {n : Int} {s : List UInt8} (h : roomB l s = true) : stealL l n s = (roomL l s).set (roomK l s) ⟨(tkX l s).nm, stQ l n s⟩ ∧ stealT l n s = (if 0 < (tkX l s).qu.length ∧ (tkX l s).qu.headD (-1) ≠ n then [⟨(tkX l s).qu.headD (-1), stolenN, s⟩] else []) ∧ stealC l n s = 0 := by unfold stealL stealT stealC; simp only [h, if_true]; exact ⟨trivial, trivial, trivial⟩
theorem tkX_len {l : List LkV} {s : List UInt8} (hp : LksP l) : (tkX l s).qu.length ≤ 3 ∧ (roomL l s).length ≤ 7 := by
  have hl := hp.len
  have hz : ∀ x ∈ roomL l s, x.qu.length ≤ 3 := fun x hx => by
    unfold roomL at hx
    split at hx
    · exact (hp.small x hx).2
    · split at hx
      · exact (hp.small x hx).2
      · rcases insL_mem hx with h | rfl
        · exact (hp.small x h).2
        · simp
  refine ⟨?_, ?_⟩
  · unfold tkX
    rcases atL_mem (l := roomL l s) (k := roomK l s) with h | h
    · exact hz _ h
    · rw [h]; simp
  · unfold roomL
    split
    · omega
    · split
      · omega
      · rw [insL_len]; omega
def StAns (w : World) (l : List LkV) (n : Int) (s : List UInt8) (e : Ending) (w' : World) : Prop := ∃ es ra rc ta tc, e = .returned (.tuple #[.slice ra (stealL l n s).length rc, .slice ta (stealT l n s).length tc, .int .i64 (stealC l n s)]) ∧ lks es = stealL l n s ∧ LTab w.heap.size w' es (.slice ra (stealL l n s).length rc) ∧ Rd w' (fun b => w.heap.size ≤ b ∧ b < w'.heap.size) (dToldS (stealT l n s)) (.slice ta (stealT l n s).length tc) ∧ Below w.heap.size w w'
set_option maxRecDepth 100000 in
set_option maxHeartbeats 12800000 in
theorem stealS (l : List LkV) (n : Int) (s : List UInt8) (a : Option Addr) (c : Nat) (B : Nat → Prop) (w : World) (hp : LksP l) (hS : Rd w B (dLockS l) (.slice a l.length c)) :
    Calls Try.prog 30 #[.slice a l.length c, .int .i64 n, .string ⟨s.toArray⟩] w (StAns w l n s) := by
  have D0 : Below w.heap.size w (w.alloc (.cells #[] 57)) := below_allocD _ _
  have s0 : (w.alloc (.cells #[] 57)).heap.size = w.heap.size + 1 := size_allocD _ _
  have CR := Lib.hid (roomS l s a c B (w.alloc (.cells #[] 57)) hp.len (lks_que hp) (hS.later D0))
  have HXQ : Hid ((tkX l s).qu.length ≤ 3 ∧ (roomL l s).length ≤ 7) := tkX_len hp
  have HD0 := Lib.hid (And.intro D0 s0)
  clear hS hp D0 s0
  obtain ⟨r, hr⟩ : ∃ r, r = StAns w l n s := ⟨_, rfl⟩
  have HR := Lib.hid hr
  rw [← hr]
  clear hr
  cases hb : roomB l s
  case false =>
    obtain ⟨t1, t2, t3⟩ := steal_no (n := n) hb
    have FIN : Hid (∀ es ra rc w1, lks es = roomL l s → LTab (w.alloc (.cells #[] 57)).heap.size w1 es (.slice ra (roomL l s).length rc) → Below (w.alloc (.cells #[] 57)).heap.size (w.alloc (.cells #[] 57)) w1 → r (.returned (.tuple #[.slice ra (roomL l s).length rc, .slice (some ⟨w.heap.size, 0, none⟩) 0 0, .int .i64 7])) w1) := fun es ra rc w1 h1 h2 h3 => by
      rw [HR.out]
      exact ⟨es, ra, rc, some ⟨w.heap.size, 0, none⟩, 0, by rw [t1, t2, t3]; rfl, by rw [t1]; exact h1, by rw [t1]; exact h2.base (by have := HD0.out.2; omega), by rw [t2]; exact Rd.lsNil _ _, HD0.out.1.trans (h3.mono (by have := HD0.out.2; omega))⟩
    rw [hb] at CR
    clear t1 t2 t3
    go_enter Try.func30, Try.ntmps30
    go_wp2_with fail
    refine CR.out.mono ?_
    rintro e w1 ⟨es, ra, rc, rfl, hes, hT, hB⟩
    have FIN2 := Lib.hid (FIN.out es ra rc w1 hes hT hB)
    clear hes hT hB FIN CR
    go_wp2_with fail
    go_ret3
    exact FIN2.out
  have hkl := room_in hb
  obtain ⟨t1, t2, t3⟩ := steal_ok (n := n) hb
  rw [hb] at CR
  have HX : Hid (tkX l s = (roomL l s)[roomK l s]) := atL_at hkl
  have HQD : Hid (stQ l n s = n :: (tkX l s).qu.filter (fun x => x != n)) := rfl
  have HT1 := Lib.hid (And.intro t1 (And.intro t2 t3))
  clear t1 t2 t3 hb
  generalize tkX l s = X at *
  generalize roomK l s = K at *
  generalize roomL l s = L at *
  obtain ⟨q, hq⟩ : ∃ q, q = X.qu := ⟨_, rfl⟩
  have HQQ := Lib.hid hq
  rw [← hq] at HQD HXQ HT1
  clear hq
  go_enter Try.func30, Try.ntmps30
  go_wp2_with fail
  refine CR.out.mono ?_
  rintro e w1 ⟨es, ra, rc, rfl, hes, hT, hB⟩
  have hel := lks_len es
  rw [hes] at hel
  have hKe : K < es.length := by omega
  obtain ⟨g, c2, ev, -, -, -, -, -⟩ := hT.at hKe
  simp only [Value.slice.injEq] at ev
  obtain ⟨rfl, -, rfl⟩ := ev
  have HES := Lib.hid hes
  have HEL := Lib.hid hel
  have HKE := Lib.hid hKe
  have HT : Hid (LTab (w.heap.size + 1) w1 es (.slice (some ⟨g, 0, none⟩) L.length rc) ∧ w.heap.size + 1 ≤ g ∧ g < w1.heap.size) := ⟨hT.base (by rw [HD0.out.2]; omega), by have h9 := (hT.low (g := g) (.inl rfl)).1; rw [HD0.out.2] at h9; exact h9, (hT.low (g := g) (.inl rfl)).2⟩
  have HB : Hid (Below w.heap.size w w1 ∧ w.heap.size + 1 ≤ w1.heap.size) := ⟨HD0.out.1.trans (hB.mono (by rw [HD0.out.2]; omega)), by have := hB.size; rw [HD0.out.2] at this; exact this⟩
  have HTO : Hid (w1.heap[w.heap.size]? = some (.cells #[] 57)) := (hB.block w.heap.size (by rw [HD0.out.2]; omega)).trans (heap_newD _ _)
  clear hes hT hB CR HD0
  have hxe : (es[K]'(HKE.out)).x = X := by rw [HX.out]; have h9 := lks_at es (k := K) (by rw [lks_len]; exact HKE.out); simp only [HES.out] at h9; exact h9.symm
  have hTE : LTab (w.heap.size + 1) w1 es (.slice (some ⟨g, 0, none⟩) es.length rc) := by have h9 := HT.out.1; rw [← HEL.out]; exact h9
  have hqo : QOw (w.heap.size + 1) w1 q (es[K]'(HKE.out)).u := by have h9 := hTE.el.qs K HKE.out; rw [hxe, ← HQQ.out] at h9; exact h9
  obtain ⟨g', c3, ev, -, -, e1, -, -⟩ := hTE.at HKE.out
  simp only [Value.slice.injEq, Option.some.injEq, Addr.mk.injEq, and_true, true_and] at ev
  obtain ⟨rfl, rfl⟩ := ev
  obtain ⟨ua, uc, eu⟩ := hqo.shape
  rw [eu] at e1
  have HXE := Lib.hid hxe
  have HTE := Lib.hid hTE
  have HQO := Lib.hid hqo
  have HEU := Lib.hid eu
  have HE1 := Lib.hid e1
  have hkL : (K : Int) < (L.length : Int) := by omega
  have hk0 : (0 : Int) ≤ (K : Int) := by omega
  have CE : Hid (∀ W, Below w1.heap.size w1 W → W.cell? ⟨g, K * 2 + 1, none⟩ = some (.slice ua q.length uc)) := fun W hW => (hW.cell (p := ⟨g, K * 2 + 1, none⟩) HT.out.2.2).trans HE1.out
  have CQ : Hid (∀ j (hj : j < q.length), ∃ ub, ua = some ⟨ub, 0, none⟩ ∧ ∀ W, Below w1.heap.size w1 W → W.cell? ⟨ub, j, none⟩ = some (.int .i64 q[j])) := fun j hj => by
    obtain ⟨ub, c9, ev, -, -, h2, h3⟩ := HQO.out.at hj
    rw [HEU.out] at ev
    simp only [Value.slice.injEq, true_and] at ev
    exact ⟨ub, ev.1, fun W hW => (hW.cell (p := ⟨ub, j, none⟩) h2).trans (h3 j hj)⟩
  have H0 : Hid (Below w1.heap.size w1 (w1.alloc (.cells #[.int .i64 n] 3)) ∧ QOw w1.heap.size (w1.alloc (.cells #[.int .i64 n] 3)) (n :: (q.take 0).filter (fun x => x != n)) (.slice (some ⟨w1.heap.size, 0, none⟩) 1 1)) := ⟨below_allocD _ _, World.ownsRow_lit (base := w1.heap.size) (e := 3) (size := 1) w1 #[.int .i64 n] 1 (Nat.le_refl _) (by unfold maxLen; omega) rfl⟩
  clear hel hKe hxe hTE hqo eu e1
  go_wp2_with fail
  go_loopw [13, 14] (fun v iv wr => ∃ k : Nat, k ≤ q.length ∧ iv = .int .i64 k ∧ Hid (Below w1.heap.size w1 wr ∧ QOw w1.heap.size wr (n :: (q.take k).filter (fun x => x != n)) v)) (fun _ iv _ => q.length - (intOf iv).toNat)
  case atStart => exact ⟨0, Nat.zero_le _, rfl, H0.out⟩
  case round =>
    clear H0
    obtain ⟨k, hk, rfl, HW⟩ := hrel
    have x1 := CE.out _ HW.out.1
    by_cases hlt : k < q.length
    case pos =>
      have hqlm : q.length ≤ 3 := HXQ.out.1
      have hki : (k : Int) < (q.length : Int) := by omega
      have hk9 : (0 : Int) ≤ (k : Int) := by omega
      obtain ⟨ub, rfl, hcq⟩ := CQ.out k hlt
      have x2 := hcq _ HW.out.1
      obtain ⟨va, vc, rfl⟩ := HW.out.2.shape
      have HFT := Lib.hid (filter_take (q := q) (n := n) hlt)
      by_cases he : q[k] = n
      · have hne : (q[k] != n) = false := by simpa using he
        have HN : Hid (Below w1.heap.size w1 wr ∧ QOw w1.heap.size wr (n :: (q.take (k + 1)).filter (fun x => x != n)) (.slice va (n :: (q.take k).filter (fun x => x != n)).length vc)) := by rw [HFT.out, if_pos he, List.append_nil]; exact HW.out
        clear he HFT HW hcq
        generalize q[k] = x at *
        generalize (n :: (q.take k).filter (fun x => x != n)).length = m at *
        go_wp2_with fail
        go_roundw
        case rel => exact ⟨k + 1, by omega, by go_num, HN.out⟩
        case measure => simp [intOf]; omega
      · have hne : (q[k] != n) = true := by simpa using he
        have hV : Below wr.heap.size wr (wr.alloc (.cells #[.int .i64 q[k]] 3)) := below_allocD _ _
        have hq2 : QOw w1.heap.size (wr.alloc (.cells #[.int .i64 q[k]] 3)) _ _ := HW.out.2.same (fun y hy => hV.block y (HW.out.2.low hy).2)
        obtain ⟨a', c', W3, r3, hu3, hF3, hn3⟩ := hq2.app [q[k]] ⟨wr.heap.size, 0, none⟩ 1 (fun j hj => by
          obtain rfl : j = 0 := by simpa using hj
          rw [Addr.add_mid]
          exact cell_at (o := 0) (heap_newD wr (.cells #[.int .i64 q[k]] 3)) rfl) (Nat.le_trans HW.out.1.size hV.size) (by
          have h1 := List.length_filter_le (fun x => x != n) (q.take k)
          rw [List.length_take] at h1
          have := HXQ.out.1
          simp only [List.length_cons, List.length_nil]; omega)
        have RUN := Lib.hid r3
        have HN : Hid (Below w1.heap.size w1 W3 ∧ QOw w1.heap.size W3 (n :: (q.take (k + 1)).filter (fun x => x != n)) (.slice a' ((n :: (q.take k).filter (fun x => x != n)).length + [q[k]].length) c')) := by
          rw [HFT.out, if_neg he]
          exact ⟨below_frm (HW.out.1.trans (hV.mono HW.out.1.size)) hF3 (fun b hb => (hq2.low hb).1) (Nat.le_refl _), hu3⟩
        have HRUN := RUN
        simp only [List.length_singleton] at RUN HN
        clear he HFT HW hV hq2 r3 hu3 hF3 hn3 hcq HRUN
        generalize q[k] = x at *
        generalize (n :: (q.take k).filter (fun x => x != n)).length = m at *
        go_wp2_with (at_builtin; go_must (refine wpList_appIs rfl (.tmp 49) (.tmp 58) 52 rfl _ _ rfl rfl _ _ RUN.out ?_))
        go_roundw
        case rel => exact ⟨k + 1, by omega, by go_num, HN.out⟩
        case measure => simp [intOf]; omega
    case neg =>
      have hki : decide ((k : Int) < (q.length : Int)) = false := by simp; omega
      have hkn : ¬ (k : Int) < (q.length : Int) := by omega
      obtain ⟨va, vc, rfl⟩ := HW.out.2.shape
      have hfe : (n :: (q.take k).filter (fun x => x != n)) = stQ l n s := by rw [List.take_of_length_le (by omega)]; exact HQD.out.symm
      have HV : Hid (QOw w1.heap.size wr (stQ l n s) (.slice va (stQ l n s).length vc)) := by have h1 := HW.out.2; rw [hfe] at h1; exact h1
      have HBW : Hid (Below w1.heap.size w1 wr) := HW.out.1
      rw [hfe]
      have HSZ : Hid (w1.heap.size ≤ wr.heap.size) := HW.out.1.size
      have HSET : Hid (∀ W : World, wr.heap.size ≤ W.heap.size → (∀ b, w.heap.size + 1 ≤ b → b < wr.heap.size → W.heap[b]? = wr.heap[b]?) → LTab (w.heap.size + 1) (W.setCell ⟨g, K * 2 + 1, none⟩ (.slice va (stQ l n s).length vc)) (es.set K ⟨⟨(es[K]'(HKE.out)).x.nm, stQ l n s⟩, .slice va (stQ l n s).length vc⟩) (.slice (some ⟨g, 0, none⟩) L.length rc) ∧ W.cell? ⟨g, K * 2 + 1, none⟩ = some (.slice ua q.length uc) ∧ W.frozen? ⟨g, K * 2 + 1, none⟩ = false) := fun W hs hk => by
        have hTW : LTab (w.heap.size + 1) wr es (.slice (some ⟨g, 0, none⟩) es.length rc) := HTE.out.later HBW.out
        have hT2 : LTab (w.heap.size + 1) W es (.slice (some ⟨g, 0, none⟩) es.length rc) := hTW.same (fun y hy => hk y (hTW.low hy).1 (hTW.low hy).2)
        have hv2 : QOw (w.heap.size + 1) W (stQ l n s) (.slice va (stQ l n s).length vc) := (HV.out.base HB.out.2).same (fun y hy => hk y (by have := (HV.out.low hy).1; have := HB.out.2; omega) (HV.out.low hy).2)
        obtain ⟨g', c3, ev, -, -, e1, -, f1⟩ := hT2.at HKE.out
        simp only [Value.slice.injEq, Option.some.injEq, Addr.mk.injEq, and_true, true_and] at ev
        obtain ⟨rfl, rfl⟩ := ev
        rw [HEU.out] at e1
        refine ⟨?_, e1, f1⟩
        rw [HEL.out]
        refine hT2.setQ2 HKE.out _ _ hv2 (fun b hb => ?_)
        have h7 := (HV.out.low hb).1
        refine ⟨by have := HT.out.2.2; omega, fun j hj _ h8 => ?_⟩
        have := (HTE.out.low (.inr ⟨j, hj, h8⟩)).2
        omega
      have HLS : Hid (lks (es.set K ⟨⟨(es[K]'(HKE.out)).x.nm, stQ l n s⟩, .slice va (stQ l n s).length vc⟩) = L.set K ⟨X.nm, stQ l n s⟩) := by
        show _ = _
        rw [lks_set, HES.out]
        exact congrArg (fun z : LkV => L.set K ⟨z.nm, stQ l n s⟩) HXE.out
      have HBX : Hid (Below w.heap.size w wr) := HB.out.1.trans (HBW.out.mono (by have := HB.out.2; omega))
      have FNO : Hid (stealT l n s = [] → r (.returned (.tuple #[.slice (some ⟨g, 0, none⟩) L.length rc, .slice (some ⟨w.heap.size, 0, none⟩) 0 0, .int .i64 0])) (wr.setCell ⟨g, K * 2 + 1, none⟩ (.slice va (stQ l n s).length vc))) := fun htl => by
        rw [HR.out]
        refine ⟨(es.set K ⟨⟨(es[K]'(HKE.out)).x.nm, stQ l n s⟩, .slice va (stQ l n s).length vc⟩), some ⟨g, 0, none⟩, rc, some ⟨w.heap.size, 0, none⟩, 0, ?_, ?_, ?_, ?_, ?_⟩
        · rw [htl, HT1.out.2.2, HT1.out.1, List.length_set]; rfl
        · rw [HT1.out.1]; exact HLS.out
        · rw [HT1.out.1, List.length_set]; exact (HSET.out wr (Nat.le_refl _) (fun _ _ _ => rfl)).1.base (by omega)
        · rw [htl]; exact Rd.lsNil _ _
        · exact HBX.out.setCell (by show w.heap.size ≤ g; have := HT.out.2.1; omega) _
      obtain ⟨y2, z2⟩ := (HSET.out wr (Nat.le_refl _) (fun _ _ _ => rfl)).2
      clear HW hfe hk
      by_cases h0 : 0 < q.length
      case neg =>
        have hd1 : decide (0 < (q.length : Int)) = false := decide_eq_false (by omega)
        have hd2 : decide ((q.length : Int) > 0) = false := decide_eq_false (by omega)
        have hnn : ¬ (0 : Int) < (q.length : Int) := by omega
        have FIN := Lib.hid (FNO.out (by rw [HT1.out.2.1, if_neg (fun h => h0 h.1)]))
        clear FNO
        go_wp2_with fail
        go_ret3
        exact FIN.out
      case pos =>
        have hd1 : decide (0 < (q.length : Int)) = true := decide_eq_true (by omega)
        have hd2 : decide ((q.length : Int) > 0) = true := decide_eq_true (by omega)
        have hmi : (0 : Int) < (q.length : Int) := by omega
        obtain ⟨ub, rfl, hcq⟩ := CQ.out 0 h0
        have x2 := hcq _ HBW.out
        have hhd : q.headD (-1) = q[0]'h0 := head_at _
        have HQL := Lib.hid hhd
        obtain ⟨q0, hq0⟩ : ∃ q0, q0 = q[0]'h0 := ⟨_, rfl⟩
        rw [← hq0] at x2 hhd
        clear hq0 HQL hcq
        by_cases he : q0 = n
        · have hne : (q0 != n) = false := by simpa using he
          have FIN := Lib.hid (FNO.out (by rw [HT1.out.2.1, if_neg (fun h => h.2 (by rw [hhd]; exact he))]))
          clear FNO he hhd
          go_wp2_with fail
          go_ret3
          exact FIN.out
        · have hne : (q0 != n) = true := by simpa using he
          have htl : stealT l n s = [⟨q0, stolenN, s⟩] := by rw [HT1.out.2.1, hhd, if_pos ⟨h0, he⟩]
          have s5 : (wr.alloc (.cells #[.int .i64 q0, .string ⟨#[115, 116, 111, 108, 101, 110]⟩, .string ⟨s.toArray⟩] 57)).heap.size = wr.heap.size + 1 := size_allocD _ _
          have hT5 : (wr.alloc (.cells #[.int .i64 q0, .string ⟨#[115, 116, 111, 108, 101, 110]⟩, .string ⟨s.toArray⟩] 57)).heap[w.heap.size]? = some (.cells #[] 57) := heap_keptD (heap_keptD HTO.out HBW.out) (below_allocD _ _)
          obtain ⟨ta, tc, W6, r6, o6, f6, n6⟩ := told_push (base := w.heap.size) (V := wr.alloc (.cells #[.int .i64 q0, .string ⟨#[115, 116, 111, 108, 101, 110]⟩, .string ⟨s.toArray⟩] 57)) (v := .slice (some ⟨w.heap.size, 0, none⟩) 0 0) ⟨rfl, .inr ⟨w.heap.size, 0, #[], rfl, Nat.le_refl _, hT5, Nat.le_refl _, by unfold maxLen; omega, rfl, rfl⟩⟩ ⟨q0, stolenN, s⟩ wr.heap.size (heap_newD _ _) (by rw [s5]; have := HBX.out.size; omega)
          have RUN := Lib.hid r6
          have hk6 : ∀ b, w.heap.size + 1 ≤ b → b < wr.heap.size → W6.heap[b]? = wr.heap[b]? := fun b h1 h2 => by
            rw [f6.block b (by omega) (fun e => by have e2 : b = w.heap.size := (by cases e; rfl); omega)]
            exact (below_allocD _ _).block b h2
          obtain ⟨T7, y1, z1⟩ := HSET.out W6 (by have := f6.size; omega) hk6
          have HY := Lib.hid (And.intro y1 z1)
          have FIN : Hid (r (.returned (.tuple #[.slice (some ⟨g, 0, none⟩) L.length rc, .slice ta 1 tc, .int .i64 0])) (W6.setCell ⟨g, K * 2 + 1, none⟩ (.slice va (stQ l n s).length vc))) := by
            show r _ _
            rw [HR.out]
            refine ⟨(es.set K ⟨⟨(es[K]'(HKE.out)).x.nm, stQ l n s⟩, .slice va (stQ l n s).length vc⟩), some ⟨g, 0, none⟩, rc, ta, tc, ?_, ?_, ?_, ?_, ?_⟩
            · rw [htl, HT1.out.2.2, HT1.out.1, List.length_set]; rfl
            · rw [HT1.out.1]; exact HLS.out
            · rw [HT1.out.1, List.length_set]; exact T7.base (by omega)
            · rw [htl]
              have h1 := told_own o6
              have hgb : ∀ b, Value.ownBlock (.slice ta 1 tc) = some b → w.heap.size ≤ b ∧ b < W6.heap.size ∧ b ≠ g := fun b hb => by
                have h3 : w.heap.size ≤ b ∧ b < W6.heap.size := by
                  rcases o6.2 with ⟨e, h9⟩ | ⟨gg, cap, cur, e, hg, hh, -⟩
                  · omega
                  · rw [e] at hb
                    have e2 : b = gg := by cases hb; rfl
                    rw [e2]; exact ⟨hg, (Array.getElem?_eq_some_iff.1 hh).1⟩
                refine ⟨h3.1, h3.2, fun e => ?_⟩
                rcases n6 b hb with h4 | h4
                · have e2 : b = w.heap.size := (by cases h4; rfl)
                  have := HT.out.2.1; omega
                · have := HT.out.2.2; have := HSZ.out; omega
              have h2 : Own (W6.setCell ⟨g, K * 2 + 1, none⟩ (.slice va (stQ l n s).length vc)) _ (fun b => w.heap.size ≤ b ∧ b < (W6.setCell ⟨g, K * 2 + 1, none⟩ (.slice va (stQ l n s).length vc)).heap.size) _ := Own.same _ _ _ _ (fun b hb => Below.heap_setCell _ ⟨g, K * 2 + 1, none⟩ _ _ (by show b ≠ g; exact (hgb b hb).2.2)) (fun b hb => ⟨(hgb b hb).1, by have := (hgb b hb).2.1; simpa [World.setCell] using this⟩) h1
              exact h2.rd'
            · refine (below_frm (HBX.out.trans ((below_allocD _ _).mono HBX.out.size)) f6 (fun b hb => by have e2 : b = w.heap.size := (by cases hb; rfl); omega) (Nat.le_refl _)).setCell (by show w.heap.size ≤ g; have := HT.out.2.1; omega) _
          clear htl s5 hT5 r6 o6 f6 n6 hk6 T7 y1 z1 he y2 z2 hhd FNO
          have y2 := HY.out.1
          have z2 := HY.out.2
          go_wp2_with (at_builtin; go_must (refine wpList_appIs rfl (.tmp 78) (.tmp 88) 29 rfl _ _ rfl rfl _ _ RUN.out ?_))
          go_ret3
          exact FIN.out
end Go.Proofs.Ythpenliecgpedaa
