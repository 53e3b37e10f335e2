import Derived.Test.YthpenliecgpedaaZbu
namespace Go.Proofs.Ythpenliecgpedaa
open Go.RowKit Go.MuLone
set_option linter.unusedSimpArgs false
theorem steal_own {q : List Int} {n : Int} (h : QuP q) (h0 : 0 < q.length) (e : q[0] = n) : n :: q.filter (fun x => x != n) = q := by
  have ho := h.once
  rcases q with _ | ⟨x, xs⟩
  · simp at h0
  · simp only [List.getElem_cons_zero] at e
    subst e
    have hf : xs.filter (fun y => y != x) = xs := List.filter_eq_self.2 (fun y hy => by
      obtain ⟨j, hj, rfl⟩ := List.mem_iff_getElem.1 hy
      have h2 := ho (j + 1) (by simp; omega) 0 (by omega)
      simpa using fun e => h2 (by simpa using e.symm))
    simp [hf]
theorem quP_inj {q : List Int} (h : QuP q) : ∀ i (hi : i < q.length) j (hj : j < q.length), q[i] = q[j] → i = j := fun i hi j hj e => by
  rcases Nat.lt_trichotomy i j with h1 | h1 | h1
  · exact absurd e (h.once j hj i h1)
  · exact h1
  · exact absurd e.symm (h.once i hi j h1)
set_option maxRecDepth 100000 in
set_option maxHeartbeats 12800000 in
theorem stealI (base pb : Nat) (w W : World) (es : List LE) (l : List LkV) (g c : Nat) (n : Int) (s : List UInt8) (hes : lks es = l) (hp : LksP l) (hx0 : TW base pb w W 0 es (.slice (some ⟨g, 0, none⟩) l.length c)) (hbw : base ≤ W.heap.size) (hbb : base ≤ w.heap.size) :
    Calls Try.prog 29 #[.pointer (some ⟨pb, 0, none⟩), .int .i64 n, .string ⟨s.toArray⟩] W (LvI base pb w (stealL l n s) (stealT l n s) (stealC l n s)) := by
  have hel : l.length = es.length := by rw [← hes, lks_len]
  have hpbW := (Array.getElem?_eq_some_iff.1 hx0.bx).1
  have h := hx0.later (below_allocD W (.cells #[.int .i64 n] 3)) hbw
  have sW0 : (W.alloc (.cells #[.int .i64 n] 3)).heap.size = W.heap.size + 1 := size_allocD _ _
  have H1 := Lib.hid (h.st 1)
  have h0 := h.c0
  have f0 := h.z0 0
  have hs1 : ((W.alloc (.cells #[.int .i64 n] 3)).setCell ⟨pb, 0, none⟩ (.int .i32 1)).heap.size = W.heap.size + 1 := by rw [← sW0]; simp [World.setCell]
  have hbx1 : ((W.alloc (.cells #[.int .i64 n] 3)).setCell ⟨pb, 0, none⟩ (.int .i32 1)).heap[W.heap.size]? = some (.cells #[.int .i64 n] 3) := by
    rw [Below.heap_setCell _ ⟨pb, 0, none⟩ _ _ (by show W.heap.size ≠ pb; omega)]
    exact heap_newD _ _
  have CP : Hid (Calls Try.prog 48 #[.pointer (some ⟨pb, 0, none⟩), .string ⟨s.toArray⟩] ((W.alloc (.cells #[.int .i64 n] 3)).setCell ⟨pb, 0, none⟩ (.int .i32 1)) (BinL l s ((W.alloc (.cells #[.int .i64 n] 3)).setCell ⟨pb, 0, none⟩ (.int .i32 1)))) := by
    have h2 := placeLkI base pb w _ 1 es (some ⟨g, 0, none⟩) c s (by rw [hes]; exact H1.out) (by rw [hes]; have := hp.len; omega) (by rw [hes]; exact hp.up)
    rw [hes] at h2
    exact h2
  have HES := Lib.hid hes
  have HEL := Lib.hid hel
  have HP := Lib.hid hp
  have HBW : Hid (base ≤ ((W.alloc (.cells #[.int .i64 n] 3)).setCell ⟨pb, 0, none⟩ (.int .i32 1)).heap.size ∧ W.heap.size + 1 = ((W.alloc (.cells #[.int .i64 n] 3)).setCell ⟨pb, 0, none⟩ (.int .i32 1)).heap.size ∧ pb < W.heap.size) := ⟨by rw [hs1]; omega, hs1.symm, hpbW⟩
  have HBX1 := Lib.hid hbx1
  have HLO : Hid (∀ y, (Value.ownBlock (.slice (some ⟨g, 0, none⟩) l.length c) = some y ∨ ∃ i, ∃ hi : i < es.length, es[i].u.ownBlock = some y) → y < W.heap.size) := fun y hy => (hx0.tb.low hy).2
  clear h hs1 hes hel hp hx0 hpbW sW0 hbx1
  obtain ⟨r, hr⟩ : ∃ r, r = LvI base pb w (stealL l n s) (stealT l n s) (stealC l n s) := ⟨_, rfl⟩
  have HR := Lib.hid hr
  rw [← hr]
  clear hr
  go_enter_defers Try.func29, Try.ntmps29
  go_wp2_with (go_at_call 46; refine (lock_free muLib ⟨pb, 0, none⟩ _ h0 f0).mono ?_; rintro e w' ⟨rfl, rfl⟩)
  refine CP.out.mono ?_
  rintro e w1 ⟨p, f, rfl, hpl, hlo, hhi, hft, hff, hB⟩
  have H2 := Lib.hid (H1.out.later hB HBW.out.1)
  have HB1 : Hid (base ≤ w1.heap.size ∧ W.heap.size + 1 ≤ w1.heap.size) := ⟨Nat.le_trans HBW.out.1 hB.size, by rw [HBW.out.2.1]; exact hB.size⟩
  have HBX : Hid (w1.heap[W.heap.size]? = some (.cells #[.int .i64 n] 3)) := heap_keptD HBX1.out hB
  have b1 := cell_at (o := 0) HBX.out rfl
  clear CP hB h0 f0
  cases f
  case false =>
    have hfk : fk l s = l.length := fk_none (hff rfl)
    have hpk : p = pk l s := (pk_eq hpl (fun h => hhi p h (Nat.le_refl _)) hlo).symm
    have CB := Lib.hid (beginI base pb w w1 es g c p n s (by have := HP.out.len; have := HEL.out; omega) (by rw [← HEL.out]; exact hpl) (by have h9 := H2.out; rw [HEL.out] at h9; exact h9) HB1.out.1 hbb)
    have HFK := Lib.hid hfk
    have HPK := Lib.hid hpk
    clear hft hff hlo hhi hfk hpk hpl
    go_wp2_with fail
    refine CB.out.mono ?_
    rintro e w2 (⟨h6, rfl, hw2⟩ | ⟨h6, rfl, u, a', c', hT⟩)
    · rw [hw2]
      have hb : roomB l s = false := by unfold roomB; rw [if_neg (by have := HFK.out; omega), if_pos (by have := HP.out.len; have := HEL.out; omega)]
      have hL : roomL l s = l := by unfold roomL; rw [if_neg (by have := HFK.out; omega), if_pos (by have := HP.out.len; have := HEL.out; omega)]
      obtain ⟨t1, t2, t3⟩ := steal_no (n := n) hb
      have HX : Hid (TW base pb w w1 1 es (.slice (some ⟨g, 0, none⟩) l.length c)) := H2.out
      have FIN : Hid (r (.returned (.tuple #[.slice none 0 0, .int .i64 7])) (w1.setCell ⟨pb, 0, none⟩ (.int .i32 0))) := by
        show r _ _
        rw [HR.out, t1, t2, t3, hL]
        exact ⟨es, some ⟨g, 0, none⟩, c, none, 0, rfl, HES.out, HX.out.st 0, TOw.none (HX.out.st 0) _ _⟩
      clear hw2 w2 CB t1 t2 t3 h6 hb hL
      go_wp2_with fail
      refine leaves_cons (f := 47) (args := #[.pointer (some ⟨pb, 0, none⟩)]) (by simp) (by simp [go_sem]) ?_
      refine (unlock_deferred muLib ⟨pb, 0, none⟩ .returning _ HX.out.c0 (HX.out.z0 0)).mono ?_
      rintro e u' w'' ⟨rfl, rfl, rfl⟩
      refine ⟨_, results_tmp2 rfl _ _ _, ?_⟩
      exact FIN.out
    · have hb : roomB l s = true := by unfold roomB; rw [if_neg (by have := HFK.out; omega), if_neg (by have := HEL.out; omega)]
      have hL : roomL l s = insL l s [] := by unfold roomL; rw [if_neg (by have := HFK.out; omega), if_neg (by have := HEL.out; omega)]
      have hK : roomK l s = pk l s := by unfold roomK; rw [if_neg (by have := HFK.out; omega), if_neg (by have := HEL.out; omega)]
      have hX : tkX l s = ⟨s, []⟩ := by unfold tkX; rw [hL, hK]; exact insL_at l s []
      obtain ⟨t1, t2, t3⟩ := steal_ok (n := n) hb
      have hQ : stQ l n s = [n] := by unfold stQ; rw [hX]; rfl
      have t1' : stealL l n s = insL l s [n] := by rw [t1, hL, hK, hX, hQ]; exact insL_set l s [] _
      have t2' : stealT l n s = [] := by rw [t2, hX]; simp
      have HX := Lib.hid hT
      have FIN : Hid (r (.returned (.tuple #[.slice none 0 0, .int .i64 0])) (w2.setCell ⟨pb, 0, none⟩ (.int .i32 0))) := by
        show r _ _
        have hll : (insL l s [n]).length = es.length + 1 := by rw [insL_len, HEL.out]
        rw [HR.out, t1', t2', t3]
        exact ⟨insE es p ⟨⟨s, [n]⟩, u⟩, a', c', none, 0, rfl, lks_insE HES.out HPK.out, by rw [hll]; exact HX.out.st 0, by rw [hll]; exact TOw.none (HX.out.st 0) _ _⟩
      clear CB t1 t2 t3 hT h6 hb hL hK hX hQ t1' t2'
      go_wp2_with fail
      refine leaves_cons (f := 47) (args := #[.pointer (some ⟨pb, 0, none⟩)]) (by simp) (by simp [go_sem]) ?_
      refine (unlock_deferred muLib ⟨pb, 0, none⟩ .returning _ HX.out.c0 (HX.out.z0 0)).mono ?_
      rintro e u' w'' ⟨rfl, rfl, rfl⟩
      refine ⟨_, results_tmp2 rfl _ _ _, ?_⟩
      exact FIN.out
  case true =>
    obtain ⟨hpp, hsp⟩ := hft rfl
    obtain ⟨rb1, rb2, rb3⟩ := room_there (place_there hlo hpp hsp) hpp
    have hpe : p < es.length := by rw [← HEL.out]; exact hpp
    have hX : tkX l s = l[p] := by unfold tkX; rw [rb2, rb3]; exact atL_at hpp
    have hxe : (es[p]'hpe).x = l[p] := by have h9 := lks_at es (k := p) (by rw [lks_len]; exact hpe); simp only [HES.out] at h9; exact h9.symm
    have hTW : TW base pb w w1 1 es (.slice (some ⟨g, 0, none⟩) es.length c) := by have h9 := H2.out; rw [HEL.out] at h9; exact h9
    obtain ⟨g', c3, ev, -, -, e1, -, -⟩ := hTW.tb.at hpe
    simp only [Value.slice.injEq, Option.some.injEq, Addr.mk.injEq, and_true, true_and] at ev
    obtain ⟨rfl, rfl⟩ := ev
    have HPE := Lib.hid hpe
    obtain ⟨q, hq⟩ : ∃ q, q = (tkX l s).qu := ⟨_, rfl⟩
    have hqp : QuP q := by rw [hq, hX]; exact HP.out.que p hpp
    have hq3 := hqp.len
    have hqo : QOw base w1 q (es[p]'(HPE.out)).u := by have h9 := hTW.tb.el.qs p hpe; rw [hxe, ← hX, ← hq] at h9; exact h9
    obtain ⟨ub, uc, eu, huc, hub1, hub2, hqc⟩ := hqo.at (i := 0) (by omega)
    obtain ⟨t1, t2, t3⟩ := steal_ok (n := n) rb1
    have hQ : stQ l n s = n :: q.filter (fun x => x != n) := by unfold stQ; rw [hq]
    have hq0l : 0 < q.length := by omega
    have HT1 : Hid (stealL l n s = l.set p ⟨(tkX l s).nm, stQ l n s⟩ ∧ stealT l n s = (if 0 < q.length ∧ q.headD (-1) ≠ n then [⟨q.headD (-1), stolenN, s⟩] else []) ∧ stealC l n s = 0) := by rw [t1, t2, t3, rb2, rb3, ← hq]; exact ⟨rfl, rfl, rfl⟩
    have x2 := H2.out.c2
    have q2 := e1
    rw [eu] at q2
    have hpi : (p : Int) < (l.length : Int) := by omega
    have hp0 : (0 : Int) ≤ (p : Int) := by omega
    have hqi : (0 : Int) < (q.length : Int) := by omega
    have q3 := hqc 0 hq0l
    have hhd : q.headD (-1) = q[0] := head_at _
    have hubW : ub < W.heap.size := HLO.out ub (.inr ⟨p, HPE.out, by rw [eu]; rfl⟩)
    have HTW := Lib.hid hTW
    have HXE : Hid ((es[p]'(HPE.out)).x = tkX l s) := hxe.trans hX.symm
    have HEU := Lib.hid eu
    have HQQ := Lib.hid hq
    have HQP := Lib.hid hqp
    have HQD := Lib.hid hQ
    have HSX : Hid (q[0] = n → stealL l n s = l ∧ stealT l n s = []) := fun e => by
      refine ⟨?_, by rw [HT1.out.2.1, hhd, if_neg (fun h => h.2 e)]⟩
      rw [HT1.out.1, hQ, steal_own hqp hq0l e, hq]
      have h9 : (⟨(tkX l s).nm, (tkX l s).qu⟩ : LkV) = l[p] := hX
      rw [h9, List.set_getElem_self]
    have CD : Hid (∀ W', W'.heap[ub]? = w1.heap[ub]? → W'.cell? ⟨W.heap.size, 0, none⟩ = some (.int .i64 n) → Calls Try.prog 56 #[.slice (some ⟨ub, 0, none⟩) q.length uc, .func (.func 57) #[] #[.pointer (some ⟨W.heap.size, 0, none⟩)]] W' fun e w' => e = .returned (.slice (some ⟨ub, 0, none⟩) (q.filter (fun x => x != n)).length uc) ∧ Frm (· = ub) W' w' ∧ QOw base w' (q.filter (fun x => x != n)) (.slice (some ⟨ub, 0, none⟩) (q.filter (fun x => x != n)).length uc)) := fun W' h1 h2 => delFnQ n W.heap.size (by
      have h9 := hqo
      rw [eu] at h9
      exact h9.same (fun b hb => by have e2 : b = ub := by cases hb; rfl
                                    rw [e2]; exact h1)) (by omega) (quP_inj hqp) h2 (by omega)
    obtain ⟨q0, hq0⟩ : ∃ q0, q0 = q[0] := ⟨_, rfl⟩
    rw [← hq0] at q3 hhd HSX
    have HHD := Lib.hid hhd
    have HUB : Hid (ub < W.heap.size ∧ 0 < q.length ∧ q.length ≤ 3) := ⟨hubW, hq0l, hq3.2⟩
    clear hft hff hlo hhi hpl hsp hX hxe hTW e1 hqo eu hq3 hqp hq rb1 rb2 rb3 t1 t2 t3 hQ huc hub1 hub2 hqc hhd hq0 hubW hq0l hpe
    by_cases he : q0 = n
    · have hne : (q0 == n) = true := by simpa using he
      obtain ⟨t1, t2⟩ := HSX.out he
      have HX : Hid (TW base pb w w1 1 es (.slice (some ⟨g, 0, none⟩) l.length c)) := H2.out
      have FIN : Hid (r (.returned (.tuple #[.slice none 0 0, .int .i64 0])) (w1.setCell ⟨pb, 0, none⟩ (.int .i32 0))) := by
        show r _ _
        rw [HR.out, t1, t2, HT1.out.2.2]
        exact ⟨es, some ⟨g, 0, none⟩, c, none, 0, rfl, HES.out, HX.out.st 0, TOw.none (HX.out.st 0) _ _⟩
      clear t1 t2 HSX he CD
      go_wp2_with fail
      refine leaves_cons (f := 47) (args := #[.pointer (some ⟨pb, 0, none⟩)]) (by simp) (by simp [go_sem]) ?_
      refine (unlock_deferred muLib ⟨pb, 0, none⟩ .returning _ HX.out.c0 (HX.out.z0 0)).mono ?_
      rintro e u' w'' ⟨rfl, rfl, rfl⟩
      refine ⟨_, results_tmp2 rfl _ _ _, ?_⟩
      exact FIN.out
    · have hne : (q0 == n) = false := by simpa using he
      have htl : stealT l n s = [⟨q0, stolenN, s⟩] := by rw [HT1.out.2.1, HHD.out, if_pos ⟨HUB.out.2.1, he⟩]
      have HTL := Lib.hid htl
      have CD2 := Lib.hid (CD.out w1 rfl b1)
      clear htl HSX he CD
      go_wp2_with fail
      refine CD2.out.mono ?_
      rintro e w2 ⟨rfl, hF2, hQ2⟩
      have b2 : w2.cell? ⟨W.heap.size, 0, none⟩ = some (.int .i64 n) := by
        rw [World.cell?_of_block (w := w1) (a := ⟨W.heap.size, 0, none⟩) (hF2.block W.heap.size (by have := HB1.out.2; omega) (by have := HUB.out.1; omega))]; exact b1
      obtain ⟨fl, hfl⟩ : ∃ fl, fl = q.filter (fun x => x != n) := ⟨_, rfl⟩
      rw [← hfl] at hQ2 ⊢
      have hfll : fl.length ≤ 3 := by rw [hfl]; exact Nat.le_trans (List.length_filter_le _ _) HUB.out.2.2
      have HST : Hid (stQ l n s = n :: fl) := by rw [hfl]; exact HQD.out
      have hV : Below w2.heap.size w2 (w2.alloc (.cells #[.int .i64 n] 3)) := below_allocD _ _
      have hszV : (w2.alloc (.cells #[.int .i64 n] 3)).heap.size = w2.heap.size + 1 := size_allocD _ _
      have hQV : QOw base (w2.alloc (.cells #[.int .i64 n] 3)) fl (.slice (some ⟨ub, 0, none⟩) fl.length uc) := hQ2.same (fun b hb => hV.block b (hQ2.low hb).2)
      have CI := Lib.hid (insertLN base fl.length 0 ub uc w2.heap.size (ints fl) (.int .i64 n) (w2.alloc (.cells #[.int .i64 n] 3)) (by omega) (Nat.zero_le _) hQV (by have := HB1.out.1; have := hF2.size; omega) (fun u hu => by simp only [List.mem_cons, List.not_mem_nil, or_false] at hu; rw [hu]; rfl) (heap_newD _ _) (by have := HUB.out.1; have := HB1.out.2; have := hF2.size; omega) ints_one)
      have HF2 := Lib.hid hF2
      have HV := Lib.hid (And.intro hV hszV)
      clear hF2 hQ2 hV hszV hQV hfl CD2 b1
      go_wp2_with fail
      refine CI.out.mono ?_
      rintro e w3 ⟨a', c', rfl, hO3, hF3, hn3⟩
      have hlen : fl.length + 1 = (stQ l n s).length := by rw [HST.out]; rfl
      rw [hlen] at hO3 hn3 ⊢
      have hQ3 : QOw base w3 (stQ l n s) (.slice a' (stQ l n s).length c') := by
        have h9 : insCKN (ints fl) 0 [.int .i64 n] = ints (stQ l n s) := by rw [HST.out]; unfold insCKN ints; simp
        rw [h9] at hO3
        exact hO3
      have hub : (es[p]'(HPE.out)).u.ownBlock = some ub := by rw [HEU.out]; rfl
      have hF13 : Frm (fun b => (es[p]'(HPE.out)).u.ownBlock = some b) w1 w3 := by
        have f1 : Frm (fun b => (es[p]'(HPE.out)).u.ownBlock = some b) w1 w2 := HF2.out.mono (fun b hb => by rw [hb]; exact hub)
        have f3 : Frm (fun b => (es[p]'(HPE.out)).u.ownBlock = some b) (w2.alloc (.cells #[.int .i64 n] 3)) w3 := hF3.mono (fun b hb => by rw [HEU.out]; exact hb)
        exact (f1.trans (frm_below HV.out.1)).trans f3
      obtain ⟨hTS, y1, z1⟩ := HTW.out.setQ HPE.out hF13 (stQ l n s) (.slice a' (stQ l n s).length c') hQ3 (fun b hb => by
        rcases hn3 b hb with h1 | h1
        · exact .inl (by rw [HEU.out]; exact h1)
        · exact .inr (by have := HV.out.2; have := HF2.out.size; omega)) hbb
      rw [HEU.out] at y1
      obtain ⟨E, hE⟩ : ∃ E, E = es.set p ⟨⟨(es[p]'(HPE.out)).x.nm, stQ l n s⟩, .slice a' (stQ l n s).length c'⟩ := ⟨_, rfl⟩
      rw [← hE, ← HEL.out] at hTS
      have hEL : lks E = l.set p ⟨(tkX l s).nm, stQ l n s⟩ := by rw [hE, lks_set, HES.out]; exact congrArg (fun z : LkV => l.set p ⟨z.nm, stQ l n s⟩) HXE.out
      have HTS := Lib.hid hTS
      have HELs := Lib.hid hEL
      have hsz : (w3.setCell ⟨g, p * 2 + 1, none⟩ (.slice a' (stQ l n s).length c')).heap.size = w3.heap.size := by simp [World.setCell]
      have HBS : Hid (base ≤ (w3.setCell ⟨g, p * 2 + 1, none⟩ (.slice a' (stQ l n s).length c')).heap.size) := by show _ ≤ _; rw [hsz]; exact Nat.le_trans HB1.out.1 hF13.size
      have hll : (l.set p ⟨(tkX l s).nm, stQ l n s⟩).length = l.length := List.length_set
      have HLL := Lib.hid hll
      have hA : Below (w3.setCell ⟨g, p * 2 + 1, none⟩ (.slice a' (stQ l n s).length c')).heap.size (w3.setCell ⟨g, p * 2 + 1, none⟩ (.slice a' (stQ l n s).length c')) ((w3.setCell ⟨g, p * 2 + 1, none⟩ (.slice a' (stQ l n s).length c')).alloc (.cells #[.int .i64 q0, .string ⟨#[115, 116, 111, 108, 101, 110]⟩, .string ⟨s.toArray⟩] 57)) := below_allocD _ _
      have HX : Hid (TW base pb w ((w3.setCell ⟨g, p * 2 + 1, none⟩ (.slice a' (stQ l n s).length c')).alloc (.cells #[.int .i64 q0, .string ⟨#[115, 116, 111, 108, 101, 110]⟩, .string ⟨s.toArray⟩] 57)) 1 E (.slice (some ⟨g, 0, none⟩) l.length c)) := HTS.out.later hA HBS.out
      have FIN : Hid (r (.returned (.tuple #[.slice (some ⟨(w3.setCell ⟨g, p * 2 + 1, none⟩ (.slice a' (stQ l n s).length c')).heap.size, 0, none⟩) 1 1, .int .i64 0])) (((w3.setCell ⟨g, p * 2 + 1, none⟩ (.slice a' (stQ l n s).length c')).alloc (.cells #[.int .i64 q0, .string ⟨#[115, 116, 111, 108, 101, 110]⟩, .string ⟨s.toArray⟩] 57)).setCell ⟨pb, 0, none⟩ (.int .i32 0))) := by
        show r _ _
        have hpb := (Array.getElem?_eq_some_iff.1 HTS.out.bx).1
        have sA : ((w3.setCell ⟨g, p * 2 + 1, none⟩ (.slice a' (stQ l n s).length c')).alloc (.cells #[.int .i64 q0, .string ⟨#[115, 116, 111, 108, 101, 110]⟩, .string ⟨s.toArray⟩] 57)).heap.size = (w3.setCell ⟨g, p * 2 + 1, none⟩ (.slice a' (stQ l n s).length c')).heap.size + 1 := size_allocD _ _
        have sB : (((w3.setCell ⟨g, p * 2 + 1, none⟩ (.slice a' (stQ l n s).length c')).alloc (.cells #[.int .i64 q0, .string ⟨#[115, 116, 111, 108, 101, 110]⟩, .string ⟨s.toArray⟩] 57)).setCell ⟨pb, 0, none⟩ (.int .i32 0)).heap.size = (w3.setCell ⟨g, p * 2 + 1, none⟩ (.slice a' (stQ l n s).length c')).heap.size + 1 := by rw [← sA]; simp [World.setCell]
        have h1 := told_own (x := ⟨q0, stolenN, s⟩) (World.ownsRow_lit (base := base) (e := 57) (size := 3) (w3.setCell ⟨g, p * 2 + 1, none⟩ (.slice a' (stQ l n s).length c')) #[.int .i64 q0, .string ⟨#[115, 116, 111, 108, 101, 110]⟩, .string ⟨s.toArray⟩] 1 HBS.out (by unfold maxLen; omega) rfl)
        have hbb2 : ∀ b, Value.ownBlock (.slice (some ⟨(w3.setCell ⟨g, p * 2 + 1, none⟩ (.slice a' (stQ l n s).length c')).heap.size, 0, none⟩) 1 1) = some b → b = (w3.setCell ⟨g, p * 2 + 1, none⟩ (.slice a' (stQ l n s).length c')).heap.size := fun b hb => by cases hb; rfl
        have h2 : Own (((w3.setCell ⟨g, p * 2 + 1, none⟩ (.slice a' (stQ l n s).length c')).alloc (.cells #[.int .i64 q0, .string ⟨#[115, 116, 111, 108, 101, 110]⟩, .string ⟨s.toArray⟩] 57)).setCell ⟨pb, 0, none⟩ (.int .i32 0)) (dToldS [⟨q0, stolenN, s⟩]) (fun b => (w3.setCell ⟨g, p * 2 + 1, none⟩ (.slice a' (stQ l n s).length c')).heap.size ≤ b ∧ b < (((w3.setCell ⟨g, p * 2 + 1, none⟩ (.slice a' (stQ l n s).length c')).alloc (.cells #[.int .i64 q0, .string ⟨#[115, 116, 111, 108, 101, 110]⟩, .string ⟨s.toArray⟩] 57)).setCell ⟨pb, 0, none⟩ (.int .i32 0)).heap.size) _ := Own.same _ _ _ _ (fun b hb => Below.heap_setCell _ ⟨pb, 0, none⟩ _ _ (by show b ≠ pb; rw [hbb2 b hb]; omega)) (fun b hb => by rw [hbb2 b hb, sB]; omega) h1
        rw [HR.out, HT1.out.1, HTL.out, HT1.out.2.2]
        exact ⟨E, some ⟨g, 0, none⟩, c, some ⟨(w3.setCell ⟨g, p * 2 + 1, none⟩ (.slice a' (stQ l n s).length c')).heap.size, 0, none⟩, 1, rfl, HELs.out, by rw [HLL.out]; exact HX.out.st 0, (w3.setCell ⟨g, p * 2 + 1, none⟩ (.slice a' (stQ l n s).length c')).heap.size, HBS.out, by rw [sB]; omega, hpb, fun y hy => (HTS.out.tb.low (hy.elim (fun h => .inl h) (fun h => .inr h))).2, h2⟩
      clear hA HT1 hll hTS hEL hE hQ3 hF13 hub hO3 hF3 hn3 hlen CI
      rw [hsz] at FIN
      go_wp2_with fail
      refine leaves_cons (f := 47) (args := #[.pointer (some ⟨pb, 0, none⟩)]) (by simp) (by simp [go_sem]) ?_
      refine (unlock_deferred muLib ⟨pb, 0, none⟩ .returning _ HX.out.c0 (HX.out.z0 0)).mono ?_
      rintro e u' w'' ⟨rfl, rfl, rfl⟩
      refine ⟨_, results_tmp2 rfl _ _ _, ?_⟩
      exact FIN.out
end Go.Proofs.Ythpenliecgpedaa
