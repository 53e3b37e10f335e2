import Derived.Test.YthpenliecgpedaaZbb
namespace Go.Proofs.Ythpenliecgpedaa
open Go.RowKit Go.MuLone
set_option linter.unusedSimpArgs false
theorem place_there {l : List LkV} {s : List UInt8} {p : Nat} (h1 : ∀ m (h : m < l.length), m < p → Op.bytesLess l[m].nm s = true) (hp : p < l.length) (hs : l[p].nm = s) : fk l s = p :=
  fk_eq hp hs (fun m hm hmp e => by have h2 := h1 m hm hmp; rw [e, bl_self] at h2; cases h2)
theorem room_there {l : List LkV} {s : List UInt8} {p : Nat} (hf : fk l s = p) (hp : p < l.length) : roomB l s = true ∧ roomL l s = l ∧ roomK l s = p := by
  unfold roomB roomL roomK
  rw [if_pos (by omega), if_pos (by omega), if_pos (by omega)]
  exact ⟨rfl, rfl, hf⟩
theorem insL_at (l : List LkV) (s : List UInt8) (q : List Int) : atL (insL l s q) (pk l s) = ⟨s, q⟩ := by
  have hp := pk_le l s
  rw [atL_at (by rw [insL_len]; omega)]
  unfold insL
  rw [List.getElem_append_left (by simp; omega), List.getElem_append_right (by simp; omega)]
  simp
theorem insL_set (l : List LkV) (s : List UInt8) (q q' : List Int) : (insL l s q).set (pk l s) ⟨s, q'⟩ = insL l s q' := by
  have hp := pk_le l s
  have hl : (l.take (pk l s)).length = pk l s := by rw [List.length_take]; omega
  unfold insL
  rw [List.append_assoc, List.append_assoc, List.set_append_right (h := by omega), hl, Nat.sub_self]
  rfl
theorem take_new {l : List LkV} {n : Int} {s : List UInt8} (hf : fk l s = l.length) (h6 : l.length < 6) : takeL l n s = insL l s [n] ∧ takeB l n s = true ∧ takeC l n s = 0 := by
  have hb : roomB l s = true := by unfold roomB; rw [if_neg (by omega), if_neg (by omega)]
  have hL : roomL l s = insL l s [] := by unfold roomL; rw [if_neg (by omega), if_neg (by omega)]
  have hK : roomK l s = pk l s := by unfold roomK; rw [if_neg (by omega), if_neg (by omega)]
  have hX : tkX l s = ⟨s, []⟩ := by unfold tkX; rw [hL, hK]; exact insL_at l s []
  have hi : tkIn l n s = false := by unfold tkIn; rw [hX]; exact inK_no (Nat.le_refl _) (fun m h => absurd h (by simp))
  obtain ⟨t1, t2, t3⟩ := take_ok hb hi
  rw [t1, t2, t3, hL, hK, hX]
  exact ⟨insL_set l s [] _, rfl, rfl⟩
theorem take_noroom {l : List LkV} {n : Int} {s : List UInt8} (hf : fk l s = l.length) (h6 : l.length = 6) : takeL l n s = l ∧ takeB l n s = false ∧ takeC l n s = 7 := by
  have hb : roomB l s = false := by unfold roomB; rw [if_neg (by omega), if_pos h6]
  obtain ⟨t1, t2, t3⟩ := take_full (n := n) hb
  rw [t1, t2, t3]
  refine ⟨?_, rfl, rfl⟩
  unfold roomL; rw [if_neg (by omega), if_pos h6]
theorem lks_insE {es : List LE} {l : List LkV} {s : List UInt8} {p : Nat} {q : List Int} {u : Value} (h : lks es = l) (hp : p = pk l s) : lks (insE es p ⟨⟨s, q⟩, u⟩) = insL l s q := by
  subst hp
  unfold insE insL
  rw [lks_app, lks_app, ← h]
  unfold lks
  rw [List.map_take, List.map_drop]
  rfl
theorem TW.setQ {base pb : Nat} {w V W3 : World} {st : Int} {es : List LE} {g c i : Nat} (h : TW base pb w V st es (.slice (some ⟨g, 0, none⟩) es.length c)) (hi : i < es.length) (hF : Frm (fun b => es[i].u.ownBlock = some b) V W3) (q : List Int) (u : Value) (hu : QOw base W3 q u) (hn : ∀ b, u.ownBlock = some b → es[i].u.ownBlock = some b ∨ V.heap.size ≤ b) (hbb : base ≤ w.heap.size) :
    TW base pb w (W3.setCell ⟨g, i * 2 + 1, none⟩ u) st (es.set i ⟨⟨es[i].x.nm, q⟩, u⟩) (.slice (some ⟨g, 0, none⟩) es.length c) ∧ W3.cell? ⟨g, i * 2 + 1, none⟩ = some es[i].u ∧ W3.frozen? ⟨g, i * 2 + 1, none⟩ = false := by
  have hgl := h.tb.low (g := g) (.inl rfl)
  have hgp : g ≠ pb := h.nb g (.inl rfl)
  have hgu : es[i].u.ownBlock ≠ some g := fun e => h.tb.dv i hi g e rfl
  have hpb := (Array.getElem?_eq_some_iff.1 h.bx).1
  have hup : es[i].u.ownBlock ≠ some pb := fun e => h.nb pb (.inr ⟨i, hi, e⟩) rfl
  refine ⟨⟨?_, h.tb.setQ hi hF q u hu hn, fun y hy => ?_, h.lo, ?_⟩, ?_, ?_⟩
  · rw [Below.heap_setCell _ ⟨g, i * 2 + 1, none⟩ _ _ (by show pb ≠ g; exact fun e => hgp e.symm), hF.block pb hpb hup]; exact h.bx
  · rcases hy with hy | ⟨j, hj, hy⟩
    · exact h.nb y (.inl hy)
    · rw [List.length_set] at hj
      by_cases e : i = j
      · subst e
        rw [List.getElem_set_self] at hy
        rcases hn y hy with h2 | h2
        · exact h.nb y (.inr ⟨i, hi, h2⟩)
        · omega
      · rw [List.getElem_set_ne e] at hy
        exact h.nb y (.inr ⟨j, hj, hy⟩)
  · exact (below_frm h.bel hF (fun b hb => (h.tb.low (.inr ⟨i, hi, hb⟩)).1) hbb).setCell hgl.1 _
  · obtain ⟨g', c3, ev, -, -, e1, -, f1⟩ := h.tb.at hi
    simp only [Value.slice.injEq, Option.some.injEq, Addr.mk.injEq, and_true, true_and] at ev
    obtain ⟨rfl, rfl⟩ := ev
    rw [World.cell?_of_block (a := ⟨g, i * 2 + 1, none⟩) (hF.block g hgl.2 hgu)]; exact e1
  · obtain ⟨g', c3, ev, -, -, e1, -, f1⟩ := h.tb.at hi
    simp only [Value.slice.injEq, Option.some.injEq, Addr.mk.injEq, and_true, true_and] at ev
    obtain ⟨rfl, rfl⟩ := ev
    rw [World.frozen?_of_block (a := ⟨g, i * 2 + 1, none⟩) (hF.block g hgl.2 hgu)]; exact f1
def TkAns (base pb : Nat) (w : World) (L : List LkV) (e : Ending) (r : Ending) (w' : World) : Prop := e = r ∧ ∃ es a c, lks es = L ∧ TW base pb w w' 0 es (.slice a L.length c)
set_option maxRecDepth 100000 in
set_option maxHeartbeats 12800000 in
theorem takeI (base pb : Nat) (w W : World) (es : List LE) (l : List LkV) (g c : Nat) (n : Int) (s : List UInt8) (hes : lks es = l) (hp : LksP l) (h : TW base pb w W 0 es (.slice (some ⟨g, 0, none⟩) l.length c)) (hbw : base ≤ W.heap.size) (hbb : base ≤ w.heap.size) :
    Calls Try.prog 25 #[.pointer (some ⟨pb, 0, none⟩), .int .i64 n, .string ⟨s.toArray⟩] W fun e w' => TkAns base pb w (takeL l n s) e (.returned (.tuple #[.bool (takeB l n s), .int .i64 (takeC l n s)])) w' := by
  have hel : l.length = es.length := by rw [← hes, lks_len]
  have H1 := Lib.hid (h.st 1)
  have h0 := h.c0
  have f0 := h.z0 0
  have hs1 : (W.setCell ⟨pb, 0, none⟩ (.int .i32 1)).heap.size = W.heap.size := by simp [World.setCell]
  have CP : Hid (Calls Try.prog 48 #[.pointer (some ⟨pb, 0, none⟩), .string ⟨s.toArray⟩] (W.setCell ⟨pb, 0, none⟩ (.int .i32 1)) (BinL l s (W.setCell ⟨pb, 0, none⟩ (.int .i32 1)))) := by
    have h2 := placeLkI base pb w _ 1 es (some ⟨g, 0, none⟩) c s (by rw [hes]; exact H1.out) (by rw [hes]; have := hp.len; omega) (by rw [hes]; exact hp.up)
    rw [hes] at h2
    exact h2
  have HES := Lib.hid hes
  have HEL := Lib.hid hel
  have HP := Lib.hid hp
  have HBW : Hid (base ≤ (W.setCell ⟨pb, 0, none⟩ (.int .i32 1)).heap.size) := by show _ ≤ _; rw [hs1]; exact hbw
  clear h hs1 hes hel hp
  obtain ⟨rB, hrB⟩ : ∃ r, r = takeB l n s := ⟨_, rfl⟩
  obtain ⟨rC, hrC⟩ : ∃ r, r = takeC l n s := ⟨_, rfl⟩
  rw [← hrB, ← hrC]
  have HRB := Lib.hid hrB
  have HRC := Lib.hid hrC
  clear hrB hrC
  go_enter_defers Try.func25, Try.ntmps25
  go_wp2_with (go_at_call 46; refine (lock_free muLib ⟨pb, 0, none⟩ _ h0 f0).mono ?_; rintro e w' ⟨rfl, rfl⟩)
  refine CP.out.mono ?_
  rintro e w1 ⟨p, f, rfl, hpl, hlo, hhi, hft, hff, hB⟩
  have H2 := Lib.hid (H1.out.later hB HBW.out)
  have HB1 : Hid (base ≤ w1.heap.size) := Nat.le_trans HBW.out hB.size
  clear CP hB h0 f0
  cases f
  case false =>
    have hfk : fk l s = l.length := fk_none (hff rfl)
    have hpk : p = pk l s := (pk_eq hpl (fun h => hhi p h (Nat.le_refl _)) hlo).symm
    have CB := Lib.hid (beginI base pb w w1 es g c p n s (by have := HP.out.len; have := HEL.out; omega) (by rw [← HEL.out]; exact hpl) (by have h9 := H2.out; rw [HEL.out] at h9; exact h9) HB1.out hbb)
    have HFK := Lib.hid hfk
    have HPK := Lib.hid hpk
    clear hft hff hlo hhi hfk hpk hpl
    go_wp2_with fail
    refine CB.out.mono ?_
    rintro e w2 (⟨h6, rfl, hw2⟩ | ⟨h6, rfl, u, a', c', hT⟩)
    · rw [hw2]
      obtain ⟨t1, t2, t3⟩ := take_noroom (n := n) HFK.out (by have := HP.out.len; have := HEL.out; omega)
      have HX : Hid (TW base pb w w1 1 es (.slice (some ⟨g, 0, none⟩) l.length c)) := H2.out
      have FIN : Hid (TkAns base pb w (takeL l n s) (.returned (.tuple #[.bool false, .int .i64 7])) (.returned (.tuple #[.bool rB, .int .i64 rC])) (w1.setCell ⟨pb, 0, none⟩ (.int .i32 0))) := by
        refine ⟨by rw [HRB.out, HRC.out, t2, t3], es, some ⟨g, 0, none⟩, c, by rw [t1]; exact HES.out, ?_⟩
        rw [t1]; exact HX.out.st 0
      clear hw2 w2 CB t1 t2 t3 h6
      go_wp2_with fail
      refine leaves_cons (f := 47) (args := #[.pointer (some ⟨pb, 0, none⟩)]) (by simp) (by simp [go_sem]) ?_
      refine (unlock_deferred muLib ⟨pb, 0, none⟩ .returning _ HX.out.c0 (HX.out.z0 0)).mono ?_
      rintro e u' w'' ⟨rfl, rfl, rfl⟩
      refine ⟨_, results_tmp2 rfl _ _ _, ?_⟩
      exact FIN.out
    · obtain ⟨t1, t2, t3⟩ := take_new (n := n) HFK.out (by have := HEL.out; omega)
      have HX := Lib.hid hT
      have FIN : Hid (TkAns base pb w (takeL l n s) (.returned (.tuple #[.bool true, .int .i64 0])) (.returned (.tuple #[.bool rB, .int .i64 rC])) (w2.setCell ⟨pb, 0, none⟩ (.int .i32 0))) := by
        refine ⟨by rw [HRB.out, HRC.out, t2, t3], insE es p ⟨⟨s, [n]⟩, u⟩, a', c', by rw [t1]; exact lks_insE HES.out HPK.out, ?_⟩
        rw [t1, insL_len, HEL.out]; exact HX.out.st 0
      clear CB t1 t2 t3 hT h6
      go_wp2_with fail
      refine leaves_cons (f := 47) (args := #[.pointer (some ⟨pb, 0, none⟩)]) (by simp) (by simp [go_sem]) ?_
      refine (unlock_deferred muLib ⟨pb, 0, none⟩ .returning _ HX.out.c0 (HX.out.z0 0)).mono ?_
      rintro e u' w'' ⟨rfl, rfl, rfl⟩
      refine ⟨_, results_tmp2 rfl _ _ _, ?_⟩
      exact FIN.out
  case true =>
    obtain ⟨hpp, hsp⟩ := hft rfl
    obtain ⟨b1, b2, b3⟩ := room_there (place_there hlo hpp hsp) hpp
    have hpe : p < es.length := by rw [← HEL.out]; exact hpp
    have hX : tkX l s = l[p] := by unfold tkX; rw [b2, b3]; exact atL_at hpp
    have hxe : (es[p]'hpe).x = l[p] := by have h9 := lks_at es (k := p) (by rw [lks_len]; exact hpe); simp only [HES.out] at h9; exact h9.symm
    have hTW : TW base pb w w1 1 es (.slice (some ⟨g, 0, none⟩) es.length c) := by have h9 := H2.out; rw [HEL.out] at h9; exact h9
    obtain ⟨g', c3, ev, -, -, e1, -, -⟩ := hTW.tb.at hpe
    simp only [Value.slice.injEq, Option.some.injEq, Addr.mk.injEq, and_true, true_and] at ev
    obtain ⟨rfl, rfl⟩ := ev
    have HPE := Lib.hid hpe
    have hqo : QOw base w1 l[p].qu (es[p]'(HPE.out)).u := by have h9 := hTW.tb.el.qs p hpe; rw [hxe] at h9; exact h9
    obtain ⟨ua, uc, eu⟩ := hqo.shape
    have hq3 := (HP.out.que p hpp).len
    have hin : tkIn l n s = inK l[p].qu l[p].qu.length n := by unfold tkIn; rw [hX]
    have CC := Lib.hid (containsQ l[p].qu n ua uc _ w1 (by unfold maxLen; omega) (by have h9 := hqo.own.rd'; rw [eu] at h9; exact h9))
    have x2 := H2.out.c2
    have q2 := e1
    rw [eu] at q2
    have hpi : (p : Int) < (l.length : Int) := by omega
    have hp0 : (0 : Int) ≤ (p : Int) := by omega
    have HTW := Lib.hid hTW
    have HQO := Lib.hid hqo
    have HXE : Hid ((es[p]'(HPE.out)).x = l[p]) := hxe
    have HEU := Lib.hid eu
    have HIN := Lib.hid hin
    have HXX := Lib.hid hX
    have HRM := Lib.hid (And.intro b1 (And.intro b2 b3))
    have HQ3 := Lib.hid hq3
    have HPP := Lib.hid hpp
    clear hft hff hlo hhi hpl hsp b1 b2 b3 hX hxe hTW e1 hqo eu hin hq3
    go_wp2_with fail
    refine CC.out.mono ?_
    rintro e w2 ⟨rfl, hw2⟩
    rw [hw2, ← HIN.out]
    clear hw2 w2 CC
    cases hin : tkIn l n s
    case true =>
      obtain ⟨t1, t2, t3⟩ := take_in HRM.out.1 hin
      have HX : Hid (TW base pb w w1 1 es (.slice (some ⟨g, 0, none⟩) l.length c)) := H2.out
      have FIN : Hid (TkAns base pb w (takeL l n s) (.returned (.tuple #[.bool false, .int .i64 8])) (.returned (.tuple #[.bool rB, .int .i64 rC])) (w1.setCell ⟨pb, 0, none⟩ (.int .i32 0))) := by
        refine ⟨by rw [HRB.out, HRC.out, t2, t3], es, some ⟨g, 0, none⟩, c, by rw [t1, HRM.out.2.1]; exact HES.out, ?_⟩
        rw [t1, HRM.out.2.1]; exact HX.out.st 0
      clear t1 t2 t3 HIN
      go_wp2_with fail
      refine leaves_cons (f := 47) (args := #[.pointer (some ⟨pb, 0, none⟩)]) (by simp) (by simp [go_sem]) ?_
      refine (unlock_deferred muLib ⟨pb, 0, none⟩ .returning _ HX.out.c0 (HX.out.z0 0)).mono ?_
      rintro e u' w'' ⟨rfl, rfl, rfl⟩
      refine ⟨_, results_tmp2 rfl _ _ _, ?_⟩
      exact FIN.out
    case false =>
      obtain ⟨t1, t2, t3⟩ := take_ok (n := n) HRM.out.1 hin
      have hV : Below w1.heap.size w1 (w1.alloc (.cells #[.int .i64 n] 3)) := below_allocD _ _
      have hT2 := HTW.out.later hV HB1.out
      have hq2 := hT2.tb.el.qs p HPE.out
      rw [HXE.out] at hq2
      obtain ⟨a', c', W3, r3, hu3, hF3, hn3⟩ := hq2.app [n] ⟨w1.heap.size, 0, none⟩ 1 (fun j hj => by
        obtain rfl : j = 0 := by simpa using hj
        rw [Addr.add_mid]
        exact cell_at (o := 0) (heap_newD w1 (.cells #[.int .i64 n] 3)) rfl) (Nat.le_trans HB1.out hV.size) (by have := HQ3.out; simp; omega)
      simp only [List.length_cons, List.length_nil, Nat.zero_add] at r3 hu3 hn3
      obtain ⟨hTS, y1, z1⟩ := hT2.setQ HPE.out hF3 (l[p].qu ++ [n]) (.slice a' (l[p].qu.length + 1) c') hu3 hn3 hbb
      rw [HEU.out] at r3 y1
      have RUN := Lib.hid r3
      have HX := Lib.hid hTS
      have FIN : Hid (TkAns base pb w (takeL l n s) (.returned (.tuple #[.bool false, .int .i64 0])) (.returned (.tuple #[.bool rB, .int .i64 rC])) (((W3.setCell ⟨g, p * 2 + 1, none⟩ (.slice a' (l[p].qu.length + 1) c'))).setCell ⟨pb, 0, none⟩ (.int .i32 0))) := by
        have hz : decide ((tkX l s).qu.length = 0) = false := decide_eq_false (by rw [HXX.out]; have := HQ3.out; omega)
        refine ⟨by rw [HRB.out, HRC.out, t2, t3, hz], es.set p ⟨⟨(es[p]'(HPE.out)).x.nm, l[p].qu ++ [n]⟩, .slice a' (l[p].qu.length + 1) c'⟩, some ⟨g, 0, none⟩, c, ?_, ?_⟩
        · rw [t1, HRM.out.2.1, HRM.out.2.2, HXX.out, lks_set, HES.out]
          exact congrArg (fun z : LkV => l.set p ⟨z.nm, l[p].qu ++ [n]⟩) HXE.out
        · rw [t1, HRM.out.2.1, List.length_set, HEL.out]; exact HX.out.st 0
      clear t1 t2 t3 HIN hV hT2 hq2 r3 hu3 hF3 hn3 hTS
      generalize l[p].qu.length = m at *
      go_wp2_with (at_builtin; go_must (refine wpList_appIs rfl (.tmp 51) (.tmp 53) 52 rfl _ _ rfl rfl _ _ RUN.out ?_))
      refine leaves_cons (f := 47) (args := #[.pointer (some ⟨pb, 0, none⟩)]) (by simp) (by simp [go_sem]) ?_
      refine (unlock_deferred muLib ⟨pb, 0, none⟩ .returning _ HX.out.c0 (HX.out.z0 0)).mono ?_
      rintro e u' w'' ⟨rfl, rfl, rfl⟩
      refine ⟨_, results_tmp2 rfl _ _ _, ?_⟩
      exact FIN.out
end Go.Proofs.Ythpenliecgpedaa
