import Derived.Test.YtkncpfhblciplaaYbw
namespace Go.Proofs.Ytkncpfhblciplaa
open Go.RowKit
set_option linter.unusedSimpArgs false
theorem tpA (v : Value) (w : World) : (Instr.typeAssert (.iface 31 v) 20 135 true).run Try.prog w = .ok (.tuple #[.slice none 0 0, .bool false]) w := by kernel_rfl
theorem tpR (v : Value) (w : World) : (Instr.typeAssert (.iface 137 v) 20 135 true).run Try.prog w = .ok (.tuple #[.slice none 0 0, .bool false]) w := by kernel_rfl
theorem tpL (v : Value) (w : World) : (Instr.typeAssert (.iface 135 v) 20 135 true).run Try.prog w = .ok (.tuple #[v, .bool true]) w := by kernel_rfl
theorem tpN (w : World) : (Instr.typeAssert .nilIface 20 135 true).run Try.prog w = .ok (.tuple #[.slice none 0 0, .bool false]) w := by kernel_rfl
theorem trR (v : Value) (w : World) : (Instr.typeAssert (.iface 137 v) 20 137 true).run Try.prog w = .ok (.tuple #[v, .bool true]) w := by kernel_rfl
theorem trL (v : Value) (w : World) : (Instr.typeAssert (.iface 135 v) 20 137 true).run Try.prog w = .ok (.tuple #[.string ⟨#[]⟩, .bool false]) w := by kernel_rfl
theorem trN (w : World) : (Instr.typeAssert .nilIface 20 137 true).run Try.prog w = .ok (.tuple #[.string ⟨#[]⟩, .bool false]) w := by kernel_rfl
theorem Parts.at {w W : World} {L : List J} {a : Option Addr} (h : Parts w (· < w.heap.size) L a) {k : Nat} (hk : k < L.length) (hB : Below w.heap.size w W) : ∃ b, a = some ⟨b, 0, none⟩ ∧ ∃ u, W.cell? ⟨b, k, none⟩ = some u ∧ PV1 L[k] u := by
  rcases h with h | ⟨b, e, hb, hc⟩
  · omega
  · obtain ⟨u, hu, hp⟩ := hc k hk
    exact ⟨b, e, u, cell_later hB hu, hp⟩
def RcAns (j : J) (w : World) (e : Ending) (w' : World) : Prop := ∃ (A : List At) (va : Option Addr) (vc : Nat) (na : Option Addr) (nn nc : Nat) (b : Bool), e = .returned (.tuple #[.agg #[.string ⟨#[]⟩, .slice va A.length vc, .slice na nn nc], .bool b]) ∧ OwnAts w' (fun c => w.heap.size ≤ c ∧ c < w'.heap.size) va A ∧ jdO j = (if (b && (nn == 0)) = true then some A else none) ∧ Below w.heap.size w w'
theorem RcAns.no {j : J} {w w' : World} (h : jdO j = none) (hB : Below w.heap.size w w') : RcAns j w (.returned (.tuple #[.agg #[.string ⟨#[]⟩, .slice none 0 0, .slice none 0 0], .bool false])) w' := ⟨[], none, 0, none, 0, 0, false, rfl, .inl rfl, by rw [h]; rfl, hB⟩
def RcI (L : List J) (k : Nat) (A : List At) (nn : Nat) : Prop := A.length ≤ k ∧ nn ≤ k ∧ (∀ z ∈ A, z.t.length ≤ maxLen) ∧ ((nn = 0 ∧ AllA L k A) ∨ (0 < nn ∧ ∃ i, ∃ h : i < L.length, i < k ∧ paA L[i] = none))
theorem RcI.first (L : List J) : RcI L 0 [] 0 := ⟨by simp, by simp, fun _ h => absurd h List.not_mem_nil, .inl ⟨rfl, AllA.nil L⟩⟩
theorem RcI.atom {L : List J} {k : Nat} {A : List At} {nn : Nat} {x : At} (h : RcI L k A nn) (hk : k < L.length) (hx : paA L[k] = some x) (ht : x.t.length ≤ maxLen) : RcI L (k + 1) (A ++ [x]) nn := by
  obtain ⟨h1, h2, h3, h4⟩ := h
  refine ⟨by simp; omega, by omega, fun z hz => ?_, ?_⟩
  · rcases List.mem_append.1 hz with hz | hz
    · exact h3 z hz
    · rw [List.mem_singleton.1 hz]; exact ht
  · rcases h4 with ⟨h0, ha⟩ | ⟨h0, i, hi, hik, hn⟩
    · exact .inl ⟨h0, ha.push hk hx⟩
    · exact .inr ⟨h0, i, hi, by omega, hn⟩
theorem RcI.name {L : List J} {k : Nat} {A : List At} {nn : Nat} (h : RcI L k A nn) (hk : k < L.length) (hx : paA L[k] = none) : RcI L (k + 1) A (nn + 1) := by
  obtain ⟨h1, h2, h3, h4⟩ := h
  exact ⟨by omega, by omega, h3, .inr ⟨by omega, k, hk, by omega, hx⟩⟩
theorem RcI.done {L : List J} {A : List At} {nn : Nat} (h : RcI L L.length A nn) : dO L = if ((ofC A == 0) && (nn == 0)) = true then some (ofR A) else none := by
  rcases h.2.2.2 with ⟨h0, ha⟩ | ⟨h0, i, hi, hik, hn⟩
  · subst h0
    unfold dO
    rw [ha.done]
    by_cases hc : ofC A = 0 <;> simp [hc]
  · unfold dO
    rw [atomsO_none hi hn]
    rw [show (nn == 0) = false from beq_eq_false_iff_ne.2 (by omega), Bool.and_false]
    rfl
set_option maxRecDepth 100000 in
set_option maxHeartbeats 25600000 in
theorem readCellI (j : J) (cs : List Value) (B : Nat → Prop) (w : World) (hj : Rt j) (hz : j.sz ≤ 1048576) (hr : RJ w B j cs) :
    Calls Try.prog 92 #[.agg cs.toArray] w (RcAns j w) := by
  have HJ : Hid (RJ w B j cs) := hr
  have HZ := Lib.hid hz
  have HK := Lib.hid hj
  rw [RJ_eq] at hr
  obtain ⟨ka, kc, ia, ic, rfl, -⟩ := hr
  clear hz hj
  go_enter Try.func92, Try.ntmps92
  go_upto_region 1 with fail
  have H0 : Hid (JrB w ((w.alloc (.cells #[.int .i64 j.k, .int .i64 j.n, .string ⟨j.t.toArray⟩, .slice ka j.keys.length kc, .slice ia j.items.length ic] 28)).alloc (.cells #[.string ⟨#[]⟩, .slice none 0 0, .slice none 0 0] 118)) #[.int .i64 j.k, .int .i64 j.n, .string ⟨j.t.toArray⟩, .slice ka j.keys.length kc, .slice ia j.items.length ic] #[.string ⟨#[]⟩, .slice none 0 0, .slice none 0 0] 118) := JrB.first w _ _ _
  obtain ⟨W0, hW0⟩ : ∃ W, W = ((w.alloc (.cells #[.int .i64 j.k, .int .i64 j.n, .string ⟨j.t.toArray⟩, .slice ka j.keys.length kc, .slice ia j.items.length ic] 28)).alloc (.cells #[.string ⟨#[]⟩, .slice none 0 0, .slice none 0 0] 118)) := ⟨_, rfl⟩
  rw [← hW0] at H0 ⊢
  clear hW0
  have x0 := cell_at (o := 0) H0.out.bj rfl
  have x1 := cell_at (o := 1) H0.out.bj rfl
  have x2 := cell_at (o := 2) H0.out.bj rfl
  have x3 := cell_at (o := 3) H0.out.bj rfl
  have x4 := cell_at (o := 4) H0.out.bj rfl
  go_wp2_with fail
  refine ((partsI j).1 _ B _ HZ.out (HJ.out.later H0.out.bel)).mono ?_
  rintro e w1 ⟨v, rfl, hv, hB⟩
  have H1 := Lib.hid (H0.out.later hB)
  have HV := Lib.hid hv
  clear hv hB H0 HJ x0 x1 x2 x3 x4
  have hv := HV.out; unfold PVo at hv
  have HPV : Hid (PV1 j v) := HV.out.one
  cases h3 : paL j
  case some l =>
    obtain ⟨hd, hli, hs⟩ := jdO_list h3
    rw [set_noA hs, set_noN hs, h3] at hv
    obtain ⟨pa, pc, rfl, hparts⟩ := hv
    have HP : Hid (Parts w1 (· < w1.heap.size) l pa ∧ jdO j = dO l ∧ (∀ y ∈ l, Rt y) ∧ l.length ≤ 1048576) := by
      have h2 := (pairB_yes hs.1).2.1
      have hx1 := HK.out.item (it1_mem (j := j) (by omega))
      have hsz := J.sz_item j _ (it1_mem (j := j) (by omega))
      have hsz2 := J.sz_eq (it1 j)
      refine ⟨hparts.same (fun _ _ => rfl) (fun b hb => hb.2), hd, fun y hy => hx1.item (by rw [← hli]; exact hy), ?_⟩
      rw [hli]; have := HZ.out; omega
    have HW := Lib.hid H1.out
    clear h3 hd hli hs hparts H1 HV HPV
    have t9 := tpL (.slice pa l.length pc) w1
    go_wp2_with fail
    clear t9
    have g0 := cell_at (o := 0) HW.out.br rfl
    have y0 := frozen_at 0 HW.out.br
    have g1 := cell_at (o := 1) HW.out.br rfl
    have y1 := frozen_at 1 HW.out.br
    have g2 := cell_at (o := 2) HW.out.br rfl
    have y2 := frozen_at 2 HW.out.br
    generalize l = L at *
    have HLEN : Hid (L.length = L.length) := rfl
    have hL20 := HP.out.2.2.2
    go_loopw [7, 8, 29] (fun av nv iv wr => ∃ (k : Nat) (A : List At) (ao no : Value) (nn : Nat), k ≤ L.length ∧ iv = .int .i64 (k : Int) ∧ ao = av ∧ no = nv ∧ Hid (RC2 w w1.heap.size wr ao A no nn ∧ Below w1.heap.size w1 wr ∧ RcI L k A nn)) (fun _ _ iv _ => L.length - (intOf iv).toNat)
    case atStart => exact ⟨0, [], _, _, 0, Nat.zero_le _, rfl, rfl, rfl, RC2.first HW.out.bel, Below.refl _ _, RcI.first L⟩
    case round =>
      obtain ⟨k, A, ao, no, nn, hk, rfl, rfl, rfl, HI⟩ := hrel
      by_cases hlt0 : k < L.length
      case pos =>
        have hki : (k : Int) < (L.length : Int) := by omega
        have hlt : k < L.length := by have := HLEN.out; omega
        have f1 : IntKind.i64.wrap ((k : Int) + 1) = ((k + 1 : Nat) : Int) := by rw [IntKind.wrap_i64]; omega
        obtain ⟨b, rfl, u, cu, hp⟩ := HP.out.1.at hlt HI.out.2.1
        have HLK := Lib.hid hp
        clear hp
        have hp := HLK.out; unfold PV1 at hp
        cases h1 : paA L[k]
        case some x =>
          rw [h1] at hp
          obtain rfl : u = .iface 31 (atV x) := hp
          have HX : Hid (RcI L (k + 1) (A ++ [x]) nn ∧ A.length ≤ 1048576) := ⟨HI.out.2.2.atom hlt h1 (pa_txt (HP.out.2.2.1 _ (List.getElem_mem hlt)) h1), by have := HI.out.2.2.1; omega⟩
          clear h1 HLK
          unfold atV at cu
          have t9 := taA (.agg #[.int .i64 x.k, .int .i64 x.n, .string ⟨x.t.toArray⟩]) wr
          go_upto_region 15 with fail
          obtain ⟨q3, hq3⟩ : ∃ n, n = wr.heap.size := ⟨_, rfl⟩
          have HN : Hid (RC2 w w1.heap.size (wr.alloc (.cells #[.int .i64 x.k, .int .i64 x.n, .string ⟨x.t.toArray⟩] 31)) ao A no nn ∧ Below w1.heap.size w1 (wr.alloc (.cells #[.int .i64 x.k, .int .i64 x.n, .string ⟨x.t.toArray⟩] 31)) ∧ (wr.alloc (.cells #[.int .i64 x.k, .int .i64 x.n, .string ⟨x.t.toArray⟩] 31)).heap[q3]? = some (.cells #[.int .i64 x.k, .int .i64 x.n, .string ⟨x.t.toArray⟩] 31)) := ⟨HI.out.1.on ((Below.refl _ _).alloc (Nat.le_refl _) _), HI.out.2.1.alloc HI.out.2.1.size _, heap_new' _ _ hq3⟩
          rw [← hq3]
          obtain ⟨W4, hW4⟩ : ∃ W, W = (wr.alloc (.cells #[.int .i64 x.k, .int .i64 x.n, .string ⟨x.t.toArray⟩] 31)) := ⟨_, rfl⟩
          rw [← hW4] at HN ⊢
          clear hW4 hq3 HI t9 cu
          have z0 := cell_at (o := 0) HN.out.2.2 rfl
          have z1 := cell_at (o := 1) HN.out.2.2 rfl
          have z2 := cell_at (o := 2) HN.out.2.2 rfl
          go_wp2_with (at_builtin; refine wpList_apushN rfl (.tmp 38) (.tmp 40) rfl w1.heap.size ao A [x] ⟨W4.heap.size, 0, none⟩ 1 1 rfl rfl rfl (HN.out.1.a.on ((Below.refl _ _).alloc (Nat.le_refl _) _)) (by have := HN.out.1.le; simp; omega) (by have := HX.out.2; simp; omega) (by simp) (news_one _ _ _) ?_; intro v2 w5 hb2 ha2; have H5 : Hid (RC2 w w1.heap.size w5 v2 (A ++ [x]) no nn ∧ Below w1.heap.size w1 w5) := ⟨(HN.out.1.on ((Below.refl _ _).alloc (Nat.le_refl _) _)).pushA hb2 ha2, (HN.out.2.1.alloc HN.out.2.1.size _).trans ((ha2.below (HN.out.1.a.on ((Below.refl _ _).alloc (Nat.le_refl _) _)) (by have := HN.out.1.le; simp; omega)).mono (by omega))⟩; clear hb2 ha2)
          go_roundw
          case rel => exact ⟨k + 1, A ++ [x], v2, no, nn, by omega, by go_num, rfl, rfl, H5.out.1, H5.out.2, HX.out.1⟩
          case measure => simp [intOf]; omega
        rw [h1] at hp
        cases h2 : paN L[k]
        case some t =>
          rw [h2] at hp
          obtain rfl : u = .iface 137 (.string ⟨t.toArray⟩) := hp
          have HX : Hid (RcI L (k + 1) A (nn + 1) ∧ nn ≤ 1048576) := ⟨HI.out.2.2.name hlt h1, by have := HI.out.2.2.2.1; omega⟩
          clear h1 h2 HLK
          have t9 := taR (.string ⟨t.toArray⟩) wr
          have t8 := trR (.string ⟨t.toArray⟩) wr
          obtain ⟨xs, hxs⟩ := HI.out.1.n
          obtain ⟨i9, hi9, hz9, hs9, hb9⟩ := info9'
          have hon : Below wr.heap.size wr (wr.alloc (.cells #[.string ⟨t.toArray⟩] 9)) := (Below.refl _ _).alloc (Nat.le_refl _) _
          obtain ⟨v2, w5, hrun, hown, hgr, hgg⟩ := run_append_own2 (P := Try.prog) (wr.alloc (.cells #[.string ⟨t.toArray⟩] 9)) w1.heap.size 25 25 9 i9 _ 1 16 Try.underlying25 hi9 hz9 hs9 hb9 rfl (by omega) no nn xs (owns_kept hxs (fun g hg => hon.block g (owns_lt hxs hg).2)) ⟨wr.heap.size, 0, none⟩ 1 1 [.string ⟨t.toArray⟩] rfl (fun o u hu => by
            have ho := (List.getElem?_eq_some_iff.1 hu).1
            obtain rfl : o = 0 := by simpa using ho
            cases hu; exact cell_at (o := 0) (heap_new' _ _ rfl) rfl) (fun u hu => by rw [List.mem_singleton.1 hu]; rfl) (by unfold maxLen; have := HX.out.2; omega) (by have := HX.out.2; omega) (by have := HI.out.1.le; simp; omega) (by omega)
          have HRUN := Lib.hid hrun
          have H5 : Hid (RC2 w w1.heap.size w5 ao A v2 (nn + 1) ∧ Below w1.heap.size w1 w5) := by
            refine ⟨(HI.out.1.on hon).pushN hown hgr hgg, ?_⟩
            have hb := HI.out.2.1.trans (hon.mono HI.out.2.1.size)
            exact ⟨hgr.os.trans hb.os, hgr.tape.trans hb.tape, hgr.output.trans hb.output, Nat.le_trans hb.size hgr.size, fun b hlt => (hgr.block b (Nat.lt_of_lt_of_le hlt hb.size) (fun e => by have := (owns_lt hxs e.symm).1; omega)).trans (hb.block b hlt)⟩
          clear hrun hown hgr hgg hon hxs HI hi9 hz9 hs9 hb9
          go_wp2_with (at_builtin; go_must (refine wpList_append_isW rfl (.tmp 45) (.tmp 47) 25 rfl _ _ rfl rfl _ _ HRUN.out ?_))
          go_roundw
          case rel => exact ⟨k + 1, A, ao, v2, nn + 1, by omega, by go_num, rfl, rfl, H5.out.1, H5.out.2, HX.out.1⟩
          case measure => simp [intOf]; omega
        have HNO : Hid (jdO j = none) := by show _ = _; rw [HP.out.2.1]; unfold dO; rw [atomsO_none hlt h1]
        rw [h2] at hp
        have HB9 : Hid (JrB w wr #[.int .i64 j.k, .int .i64 j.n, .string ⟨j.t.toArray⟩, .slice ka j.keys.length kc, .slice ia j.items.length ic] #[.string ⟨#[]⟩, .slice none 0 0, .slice none 0 0] 118) := HW.out.later HI.out.2.1
        clear h1 h2 HLK HI
        clear g0 g1 g2 y0 y1 y2
        have g0 := cell_at (o := 0) HB9.out.br rfl
        have y0 := frozen_at 0 HB9.out.br
        have g1 := cell_at (o := 1) HB9.out.br rfl
        have y1 := frozen_at 1 HB9.out.br
        have g2 := cell_at (o := 2) HB9.out.br rfl
        have y2 := frozen_at 2 HB9.out.br
        cases h3 : paL L[k]
        case none =>
          rw [h3] at hp
          obtain rfl : u = .nilIface := hp
          clear h3
          have t9 := taN wr
          have t8 := trN wr
          go_wp2_with fail
          exact bodyPost_ret (v := .tuple #[.agg #[.string ⟨#[]⟩, .slice none 0 0, .slice none 0 0], .bool false]) (by simp [results, Try.results92, go_sem, g0, g1, g2]) rfl (RcAns.no HNO.out (three_below HB9.out.bel (by omega) _ _ _))
        case some l =>
          rw [h3] at hp
          obtain ⟨uu, rfl⟩ : ∃ uu, u = .iface 135 uu := hp
          clear h3
          have t9 := taL uu wr
          have t8 := trL uu wr
          go_wp2_with fail
          exact bodyPost_ret (v := .tuple #[.agg #[.string ⟨#[]⟩, .slice none 0 0, .slice none 0 0], .bool false]) (by simp [results, Try.results92, go_sem, g0, g1, g2]) rfl (RcAns.no HNO.out (three_below HB9.out.bel (by omega) _ _ _))
      have hkd : decide ((k : Int) < (L.length : Int)) = false := decide_eq_false (by omega)
      have hkL : k = L.length := by have := HLEN.out; omega
      have hkd2 : decide (k < L.length) = false := decide_eq_false hlt0
      have HI3 := HI.out.2.2
      rw [hkL] at HI3
      obtain ⟨va, vc, rfl, ho⟩ := HI.out.1.a.own
      have HOA := Lib.hid ho
      obtain ⟨na, nc, rfl⟩ : ∃ na nc, no = .slice na nn nc := by
        obtain ⟨xs, hx⟩ := HI.out.1.n
        rcases hx.2 with ⟨rfl, rfl⟩ | ⟨g, cap, cur, rfl, -⟩
        · exact ⟨none, 0, rfl⟩
        · exact ⟨_, _, rfl⟩
      have HDN : Hid (jdO j = if ((ofC A == 0) && (nn == 0)) = true then some (ofR A) else none) := HP.out.2.1.trans HI3.done
      have HTX : Hid (A.length ≤ 1048576 ∧ (∀ z ∈ A, z.t.length ≤ maxLen)) := ⟨by have := HI3.1; omega, HI3.2.2.1⟩
      have HB9 : Hid (JrB w wr #[.int .i64 j.k, .int .i64 j.n, .string ⟨j.t.toArray⟩, .slice ka j.keys.length kc, .slice ia j.items.length ic] #[.string ⟨#[]⟩, .slice none 0 0, .slice none 0 0] 118) := HW.out.later HI.out.2.1
      clear ho HI HI3 hkL g0 g1 g2 y0 y1 y2 hlt0 hk
      go_wp2_with fail
      refine (datumOfIN A va vc wr.heap.size wr HTX.out.1 HTX.out.2 (Nat.le_refl _) (HOA.out.ats.same (fun _ _ => rfl) (fun b hb => hb.2))).mono ?_
      rintro e w6 ⟨pa6, ca6, rfl, ho6, hB6⟩
      have H6 : Hid (JrB w w6 #[.int .i64 j.k, .int .i64 j.n, .string ⟨j.t.toArray⟩, .slice ka j.keys.length kc, .slice ia j.items.length ic] #[.string ⟨#[]⟩, .slice none 0 0, .slice none 0 0] 118 ∧ OwnAts w6 (fun c => wr.heap.size ≤ c ∧ c < w6.heap.size) pa6 (ofR A) ∧ w.heap.size + 1 < wr.heap.size) := ⟨HB9.out.later hB6, ho6, (Array.getElem?_eq_some_iff.1 HB9.out.br).1⟩
      clear ho6 hB6 HOA HB9
      have g0 := cell_at (o := 0) H6.out.1.br rfl
      have y0 := frozen_at 0 H6.out.1.br
      have g1 := cell_at (o := 1) H6.out.1.br rfl
      have y1 := frozen_at 1 H6.out.1.br
      have g2 := cell_at (o := 2) H6.out.1.br rfl
      have y2 := frozen_at 2 H6.out.1.br
      generalize ofR A = R at *
      generalize ofC A = n at *
      go_wp2_with fail
      refine bodyPost_ret (v := .tuple #[.agg #[.string ⟨#[]⟩, .slice pa6 R.length ca6, .slice na nn nc], .bool (n == 0)]) (by simp [results, Try.results92, go_sem, g0, g1, g2]) rfl ⟨R, pa6, ca6, na, nn, nc, n == 0, rfl, ?_, HDN.out, three_below H6.out.1.bel (by omega) _ _ _⟩
      exact H6.out.2.1.same (fun b hb => three_heap _ _ _ _ _ _ (by have := H6.out.2.2; omega)) (fun b hb => ⟨by have := H6.out.2.2; omega, by rw [show (((w6.setCell _ _).setCell _ _).setCell _ _).heap.size = w6.heap.size by simp [World.setCell]]; exact hb.2⟩)
  have HD := Lib.hid (jdO_alone HK.out h3)
  rw [h3] at hv
  clear h3
  cases h1 : paA j
  case some x =>
    rw [h1] at hv
    obtain rfl : v = .iface 31 (atV x) := hv
    clear h1
    have t9 := tpA (atV x) w1
    go_upto_region 5 with fail
    have HP : Hid (Parts (w1.alloc (.cells #[.iface 31 (atV x)] 20)) (· < (w1.alloc (.cells #[.iface 31 (atV x)] 20)).heap.size) [j] (some ⟨w1.heap.size, 0, none⟩) ∧ jdO j = dO [j] ∧ (∀ y ∈ [j], Rt y) ∧ [j].length ≤ 1048576) := ⟨.inr ⟨w1.heap.size, rfl, by simp, fun i hi => ?_⟩, HD.out, fun y hy => by rw [List.mem_singleton.1 hy]; exact HK.out, by simp⟩
    rotate_left
    · obtain rfl : i = 0 := by simpa using hi
      exact ⟨_, cell_at (o := 0) (heap_new' _ _ rfl) rfl, HPV.out⟩
    have HW : Hid (JrB w (w1.alloc (.cells #[.iface 31 (atV x)] 20)) #[.int .i64 j.k, .int .i64 j.n, .string ⟨j.t.toArray⟩, .slice ka j.keys.length kc, .slice ia j.items.length ic] #[.string ⟨#[]⟩, .slice none 0 0, .slice none 0 0] 118) := H1.out.later ((Below.refl _ _).alloc (Nat.le_refl _) _)
    obtain ⟨qb, hqb⟩ : ∃ n, n = w1.heap.size := ⟨_, rfl⟩
    rw [← hqb] at HP ⊢
    obtain ⟨W2, hW2⟩ : ∃ W, W = (w1.alloc (.cells #[.iface 31 (atV x)] 20)) := ⟨_, rfl⟩
    rw [← hW2] at HP HW ⊢
    clear hW2 hqb H1 HV HD HPV t9
    obtain ⟨pa, hpa⟩ : ∃ p : Option Addr, p = some ⟨qb, 0, none⟩ := ⟨_, rfl⟩
    rw [← hpa] at HP ⊢
    clear hpa
    obtain ⟨L, hL⟩ : ∃ L, L = [j] := ⟨_, rfl⟩
    rw [← hL] at HP
    go_wp2_with fail
    have HLEN : Hid (L.length = 1) := by show _ = _; rw [hL]; rfl
    clear hL
    have g0 := cell_at (o := 0) HW.out.br rfl
    have y0 := frozen_at 0 HW.out.br
    have g1 := cell_at (o := 1) HW.out.br rfl
    have y1 := frozen_at 1 HW.out.br
    have g2 := cell_at (o := 2) HW.out.br rfl
    have y2 := frozen_at 2 HW.out.br
    have hL20 := HP.out.2.2.2
    go_loopw [7, 8, 29] (fun av nv iv wr => ∃ (k : Nat) (A : List At) (ao no : Value) (nn : Nat), k ≤ 1 ∧ iv = .int .i64 (k : Int) ∧ ao = av ∧ no = nv ∧ Hid (RC2 w W2.heap.size wr ao A no nn ∧ Below W2.heap.size W2 wr ∧ RcI L k A nn)) (fun _ _ iv _ => 1 - (intOf iv).toNat)
    case atStart => exact ⟨0, [], _, _, 0, Nat.zero_le _, rfl, rfl, rfl, RC2.first HW.out.bel, Below.refl _ _, RcI.first L⟩
    case round =>
      obtain ⟨k, A, ao, no, nn, hk, rfl, rfl, rfl, HI⟩ := hrel
      by_cases hlt0 : k < 1
      case pos =>
        have hki : (k : Int) < (1 : Int) := by omega
        have hlt : k < L.length := by have := HLEN.out; omega
        have f1 : IntKind.i64.wrap ((k : Int) + 1) = ((k + 1 : Nat) : Int) := by rw [IntKind.wrap_i64]; omega
        obtain ⟨b, rfl, u, cu, hp⟩ := HP.out.1.at hlt HI.out.2.1
        have HLK := Lib.hid hp
        clear hp
        have hp := HLK.out; unfold PV1 at hp
        cases h1 : paA L[k]
        case some x =>
          rw [h1] at hp
          obtain rfl : u = .iface 31 (atV x) := hp
          have HX : Hid (RcI L (k + 1) (A ++ [x]) nn ∧ A.length ≤ 1048576) := ⟨HI.out.2.2.atom hlt h1 (pa_txt (HP.out.2.2.1 _ (List.getElem_mem hlt)) h1), by have := HI.out.2.2.1; omega⟩
          clear h1 HLK
          unfold atV at cu
          have t9 := taA (.agg #[.int .i64 x.k, .int .i64 x.n, .string ⟨x.t.toArray⟩]) wr
          go_upto_region 15 with fail
          obtain ⟨q3, hq3⟩ : ∃ n, n = wr.heap.size := ⟨_, rfl⟩
          have HN : Hid (RC2 w W2.heap.size (wr.alloc (.cells #[.int .i64 x.k, .int .i64 x.n, .string ⟨x.t.toArray⟩] 31)) ao A no nn ∧ Below W2.heap.size W2 (wr.alloc (.cells #[.int .i64 x.k, .int .i64 x.n, .string ⟨x.t.toArray⟩] 31)) ∧ (wr.alloc (.cells #[.int .i64 x.k, .int .i64 x.n, .string ⟨x.t.toArray⟩] 31)).heap[q3]? = some (.cells #[.int .i64 x.k, .int .i64 x.n, .string ⟨x.t.toArray⟩] 31)) := ⟨HI.out.1.on ((Below.refl _ _).alloc (Nat.le_refl _) _), HI.out.2.1.alloc HI.out.2.1.size _, heap_new' _ _ hq3⟩
          rw [← hq3]
          obtain ⟨W4, hW4⟩ : ∃ W, W = (wr.alloc (.cells #[.int .i64 x.k, .int .i64 x.n, .string ⟨x.t.toArray⟩] 31)) := ⟨_, rfl⟩
          rw [← hW4] at HN ⊢
          clear hW4 hq3 HI t9 cu
          have z0 := cell_at (o := 0) HN.out.2.2 rfl
          have z1 := cell_at (o := 1) HN.out.2.2 rfl
          have z2 := cell_at (o := 2) HN.out.2.2 rfl
          go_wp2_with (at_builtin; refine wpList_apushN rfl (.tmp 38) (.tmp 40) rfl W2.heap.size ao A [x] ⟨W4.heap.size, 0, none⟩ 1 1 rfl rfl rfl (HN.out.1.a.on ((Below.refl _ _).alloc (Nat.le_refl _) _)) (by have := HN.out.1.le; simp; omega) (by have := HX.out.2; simp; omega) (by simp) (news_one _ _ _) ?_; intro v2 w5 hb2 ha2; have H5 : Hid (RC2 w W2.heap.size w5 v2 (A ++ [x]) no nn ∧ Below W2.heap.size W2 w5) := ⟨(HN.out.1.on ((Below.refl _ _).alloc (Nat.le_refl _) _)).pushA hb2 ha2, (HN.out.2.1.alloc HN.out.2.1.size _).trans ((ha2.below (HN.out.1.a.on ((Below.refl _ _).alloc (Nat.le_refl _) _)) (by have := HN.out.1.le; simp; omega)).mono (by omega))⟩; clear hb2 ha2)
          go_roundw
          case rel => exact ⟨k + 1, A ++ [x], v2, no, nn, by omega, by go_num, rfl, rfl, H5.out.1, H5.out.2, HX.out.1⟩
          case measure => simp [intOf]; omega
        rw [h1] at hp
        cases h2 : paN L[k]
        case some t =>
          rw [h2] at hp
          obtain rfl : u = .iface 137 (.string ⟨t.toArray⟩) := hp
          have HX : Hid (RcI L (k + 1) A (nn + 1) ∧ nn ≤ 1048576) := ⟨HI.out.2.2.name hlt h1, by have := HI.out.2.2.2.1; omega⟩
          clear h1 h2 HLK
          have t9 := taR (.string ⟨t.toArray⟩) wr
          have t8 := trR (.string ⟨t.toArray⟩) wr
          obtain ⟨xs, hxs⟩ := HI.out.1.n
          obtain ⟨i9, hi9, hz9, hs9, hb9⟩ := info9'
          have hon : Below wr.heap.size wr (wr.alloc (.cells #[.string ⟨t.toArray⟩] 9)) := (Below.refl _ _).alloc (Nat.le_refl _) _
          obtain ⟨v2, w5, hrun, hown, hgr, hgg⟩ := run_append_own2 (P := Try.prog) (wr.alloc (.cells #[.string ⟨t.toArray⟩] 9)) W2.heap.size 25 25 9 i9 _ 1 16 Try.underlying25 hi9 hz9 hs9 hb9 rfl (by omega) no nn xs (owns_kept hxs (fun g hg => hon.block g (owns_lt hxs hg).2)) ⟨wr.heap.size, 0, none⟩ 1 1 [.string ⟨t.toArray⟩] rfl (fun o u hu => by
            have ho := (List.getElem?_eq_some_iff.1 hu).1
            obtain rfl : o = 0 := by simpa using ho
            cases hu; exact cell_at (o := 0) (heap_new' _ _ rfl) rfl) (fun u hu => by rw [List.mem_singleton.1 hu]; rfl) (by unfold maxLen; have := HX.out.2; omega) (by have := HX.out.2; omega) (by have := HI.out.1.le; simp; omega) (by omega)
          have HRUN := Lib.hid hrun
          have H5 : Hid (RC2 w W2.heap.size w5 ao A v2 (nn + 1) ∧ Below W2.heap.size W2 w5) := by
            refine ⟨(HI.out.1.on hon).pushN hown hgr hgg, ?_⟩
            have hb := HI.out.2.1.trans (hon.mono HI.out.2.1.size)
            exact ⟨hgr.os.trans hb.os, hgr.tape.trans hb.tape, hgr.output.trans hb.output, Nat.le_trans hb.size hgr.size, fun b hlt => (hgr.block b (Nat.lt_of_lt_of_le hlt hb.size) (fun e => by have := (owns_lt hxs e.symm).1; omega)).trans (hb.block b hlt)⟩
          clear hrun hown hgr hgg hon hxs HI hi9 hz9 hs9 hb9
          go_wp2_with (at_builtin; go_must (refine wpList_append_isW rfl (.tmp 45) (.tmp 47) 25 rfl _ _ rfl rfl _ _ HRUN.out ?_))
          go_roundw
          case rel => exact ⟨k + 1, A, ao, v2, nn + 1, by omega, by go_num, rfl, rfl, H5.out.1, H5.out.2, HX.out.1⟩
          case measure => simp [intOf]; omega
        have HNO : Hid (jdO j = none) := by show _ = _; rw [HP.out.2.1]; unfold dO; rw [atomsO_none hlt h1]
        rw [h2] at hp
        have HB9 : Hid (JrB w wr #[.int .i64 j.k, .int .i64 j.n, .string ⟨j.t.toArray⟩, .slice ka j.keys.length kc, .slice ia j.items.length ic] #[.string ⟨#[]⟩, .slice none 0 0, .slice none 0 0] 118) := HW.out.later HI.out.2.1
        clear h1 h2 HLK HI
        clear g0 g1 g2 y0 y1 y2
        have g0 := cell_at (o := 0) HB9.out.br rfl
        have y0 := frozen_at 0 HB9.out.br
        have g1 := cell_at (o := 1) HB9.out.br rfl
        have y1 := frozen_at 1 HB9.out.br
        have g2 := cell_at (o := 2) HB9.out.br rfl
        have y2 := frozen_at 2 HB9.out.br
        cases h3 : paL L[k]
        case none =>
          rw [h3] at hp
          obtain rfl : u = .nilIface := hp
          clear h3
          have t9 := taN wr
          have t8 := trN wr
          go_wp2_with fail
          exact bodyPost_ret (v := .tuple #[.agg #[.string ⟨#[]⟩, .slice none 0 0, .slice none 0 0], .bool false]) (by simp [results, Try.results92, go_sem, g0, g1, g2]) rfl (RcAns.no HNO.out (three_below HB9.out.bel (by omega) _ _ _))
        case some l =>
          rw [h3] at hp
          obtain ⟨uu, rfl⟩ : ∃ uu, u = .iface 135 uu := hp
          clear h3
          have t9 := taL uu wr
          have t8 := trL uu wr
          go_wp2_with fail
          exact bodyPost_ret (v := .tuple #[.agg #[.string ⟨#[]⟩, .slice none 0 0, .slice none 0 0], .bool false]) (by simp [results, Try.results92, go_sem, g0, g1, g2]) rfl (RcAns.no HNO.out (three_below HB9.out.bel (by omega) _ _ _))
      have hkd : decide ((k : Int) < (1 : Int)) = false := decide_eq_false (by omega)
      have hkL : k = L.length := by have := HLEN.out; omega
      have hkd2 : decide (k < 1) = false := decide_eq_false hlt0
      have HI3 := HI.out.2.2
      rw [hkL] at HI3
      obtain ⟨va, vc, rfl, ho⟩ := HI.out.1.a.own
      have HOA := Lib.hid ho
      obtain ⟨na, nc, rfl⟩ : ∃ na nc, no = .slice na nn nc := by
        obtain ⟨xs, hx⟩ := HI.out.1.n
        rcases hx.2 with ⟨rfl, rfl⟩ | ⟨g, cap, cur, rfl, -⟩
        · exact ⟨none, 0, rfl⟩
        · exact ⟨_, _, rfl⟩
      have HDN : Hid (jdO j = if ((ofC A == 0) && (nn == 0)) = true then some (ofR A) else none) := HP.out.2.1.trans HI3.done
      have HTX : Hid (A.length ≤ 1048576 ∧ (∀ z ∈ A, z.t.length ≤ maxLen)) := ⟨by have := HI3.1; omega, HI3.2.2.1⟩
      have HB9 : Hid (JrB w wr #[.int .i64 j.k, .int .i64 j.n, .string ⟨j.t.toArray⟩, .slice ka j.keys.length kc, .slice ia j.items.length ic] #[.string ⟨#[]⟩, .slice none 0 0, .slice none 0 0] 118) := HW.out.later HI.out.2.1
      clear ho HI HI3 hkL g0 g1 g2 y0 y1 y2 hlt0 hk
      go_wp2_with fail
      refine (datumOfIN A va vc wr.heap.size wr HTX.out.1 HTX.out.2 (Nat.le_refl _) (HOA.out.ats.same (fun _ _ => rfl) (fun b hb => hb.2))).mono ?_
      rintro e w6 ⟨pa6, ca6, rfl, ho6, hB6⟩
      have H6 : Hid (JrB w w6 #[.int .i64 j.k, .int .i64 j.n, .string ⟨j.t.toArray⟩, .slice ka j.keys.length kc, .slice ia j.items.length ic] #[.string ⟨#[]⟩, .slice none 0 0, .slice none 0 0] 118 ∧ OwnAts w6 (fun c => wr.heap.size ≤ c ∧ c < w6.heap.size) pa6 (ofR A) ∧ w.heap.size + 1 < wr.heap.size) := ⟨HB9.out.later hB6, ho6, (Array.getElem?_eq_some_iff.1 HB9.out.br).1⟩
      clear ho6 hB6 HOA HB9
      have g0 := cell_at (o := 0) H6.out.1.br rfl
      have y0 := frozen_at 0 H6.out.1.br
      have g1 := cell_at (o := 1) H6.out.1.br rfl
      have y1 := frozen_at 1 H6.out.1.br
      have g2 := cell_at (o := 2) H6.out.1.br rfl
      have y2 := frozen_at 2 H6.out.1.br
      generalize ofR A = R at *
      generalize ofC A = n at *
      go_wp2_with fail
      refine bodyPost_ret (v := .tuple #[.agg #[.string ⟨#[]⟩, .slice pa6 R.length ca6, .slice na nn nc], .bool (n == 0)]) (by simp [results, Try.results92, go_sem, g0, g1, g2]) rfl ⟨R, pa6, ca6, na, nn, nc, n == 0, rfl, ?_, HDN.out, three_below H6.out.1.bel (by omega) _ _ _⟩
      exact H6.out.2.1.same (fun b hb => three_heap _ _ _ _ _ _ (by have := H6.out.2.2; omega)) (fun b hb => ⟨by have := H6.out.2.2; omega, by rw [show (((w6.setCell _ _).setCell _ _).setCell _ _).heap.size = w6.heap.size by simp [World.setCell]]; exact hb.2⟩)
  rw [h1] at hv
  clear h1
  cases h2 : paN j
  case some t =>
    rw [h2] at hv
    obtain rfl : v = .iface 137 (.string ⟨t.toArray⟩) := hv
    clear h2
    have t9 := tpR (.string ⟨t.toArray⟩) w1
    go_upto_region 5 with fail
    have HP : Hid (Parts (w1.alloc (.cells #[.iface 137 (.string ⟨t.toArray⟩)] 20)) (· < (w1.alloc (.cells #[.iface 137 (.string ⟨t.toArray⟩)] 20)).heap.size) [j] (some ⟨w1.heap.size, 0, none⟩) ∧ jdO j = dO [j] ∧ (∀ y ∈ [j], Rt y) ∧ [j].length ≤ 1048576) := ⟨.inr ⟨w1.heap.size, rfl, by simp, fun i hi => ?_⟩, HD.out, fun y hy => by rw [List.mem_singleton.1 hy]; exact HK.out, by simp⟩
    rotate_left
    · obtain rfl : i = 0 := by simpa using hi
      exact ⟨_, cell_at (o := 0) (heap_new' _ _ rfl) rfl, HPV.out⟩
    have HW : Hid (JrB w (w1.alloc (.cells #[.iface 137 (.string ⟨t.toArray⟩)] 20)) #[.int .i64 j.k, .int .i64 j.n, .string ⟨j.t.toArray⟩, .slice ka j.keys.length kc, .slice ia j.items.length ic] #[.string ⟨#[]⟩, .slice none 0 0, .slice none 0 0] 118) := H1.out.later ((Below.refl _ _).alloc (Nat.le_refl _) _)
    obtain ⟨qb, hqb⟩ : ∃ n, n = w1.heap.size := ⟨_, rfl⟩
    rw [← hqb] at HP ⊢
    obtain ⟨W2, hW2⟩ : ∃ W, W = (w1.alloc (.cells #[.iface 137 (.string ⟨t.toArray⟩)] 20)) := ⟨_, rfl⟩
    rw [← hW2] at HP HW ⊢
    clear hW2 hqb H1 HV HD HPV t9
    obtain ⟨pa, hpa⟩ : ∃ p : Option Addr, p = some ⟨qb, 0, none⟩ := ⟨_, rfl⟩
    rw [← hpa] at HP ⊢
    clear hpa
    obtain ⟨L, hL⟩ : ∃ L, L = [j] := ⟨_, rfl⟩
    rw [← hL] at HP
    go_wp2_with fail
    have HLEN : Hid (L.length = 1) := by show _ = _; rw [hL]; rfl
    clear hL
    have g0 := cell_at (o := 0) HW.out.br rfl
    have y0 := frozen_at 0 HW.out.br
    have g1 := cell_at (o := 1) HW.out.br rfl
    have y1 := frozen_at 1 HW.out.br
    have g2 := cell_at (o := 2) HW.out.br rfl
    have y2 := frozen_at 2 HW.out.br
    have hL20 := HP.out.2.2.2
    go_loopw [7, 8, 29] (fun av nv iv wr => ∃ (k : Nat) (A : List At) (ao no : Value) (nn : Nat), k ≤ 1 ∧ iv = .int .i64 (k : Int) ∧ ao = av ∧ no = nv ∧ Hid (RC2 w W2.heap.size wr ao A no nn ∧ Below W2.heap.size W2 wr ∧ RcI L k A nn)) (fun _ _ iv _ => 1 - (intOf iv).toNat)
    case atStart => exact ⟨0, [], _, _, 0, Nat.zero_le _, rfl, rfl, rfl, RC2.first HW.out.bel, Below.refl _ _, RcI.first L⟩
    case round =>
      obtain ⟨k, A, ao, no, nn, hk, rfl, rfl, rfl, HI⟩ := hrel
      by_cases hlt0 : k < 1
      case pos =>
        have hki : (k : Int) < (1 : Int) := by omega
        have hlt : k < L.length := by have := HLEN.out; omega
        have f1 : IntKind.i64.wrap ((k : Int) + 1) = ((k + 1 : Nat) : Int) := by rw [IntKind.wrap_i64]; omega
        obtain ⟨b, rfl, u, cu, hp⟩ := HP.out.1.at hlt HI.out.2.1
        have HLK := Lib.hid hp
        clear hp
        have hp := HLK.out; unfold PV1 at hp
        cases h1 : paA L[k]
        case some x =>
          rw [h1] at hp
          obtain rfl : u = .iface 31 (atV x) := hp
          have HX : Hid (RcI L (k + 1) (A ++ [x]) nn ∧ A.length ≤ 1048576) := ⟨HI.out.2.2.atom hlt h1 (pa_txt (HP.out.2.2.1 _ (List.getElem_mem hlt)) h1), by have := HI.out.2.2.1; omega⟩
          clear h1 HLK
          unfold atV at cu
          have t9 := taA (.agg #[.int .i64 x.k, .int .i64 x.n, .string ⟨x.t.toArray⟩]) wr
          go_upto_region 15 with fail
          obtain ⟨q3, hq3⟩ : ∃ n, n = wr.heap.size := ⟨_, rfl⟩
          have HN : Hid (RC2 w W2.heap.size (wr.alloc (.cells #[.int .i64 x.k, .int .i64 x.n, .string ⟨x.t.toArray⟩] 31)) ao A no nn ∧ Below W2.heap.size W2 (wr.alloc (.cells #[.int .i64 x.k, .int .i64 x.n, .string ⟨x.t.toArray⟩] 31)) ∧ (wr.alloc (.cells #[.int .i64 x.k, .int .i64 x.n, .string ⟨x.t.toArray⟩] 31)).heap[q3]? = some (.cells #[.int .i64 x.k, .int .i64 x.n, .string ⟨x.t.toArray⟩] 31)) := ⟨HI.out.1.on ((Below.refl _ _).alloc (Nat.le_refl _) _), HI.out.2.1.alloc HI.out.2.1.size _, heap_new' _ _ hq3⟩
          rw [← hq3]
          obtain ⟨W4, hW4⟩ : ∃ W, W = (wr.alloc (.cells #[.int .i64 x.k, .int .i64 x.n, .string ⟨x.t.toArray⟩] 31)) := ⟨_, rfl⟩
          rw [← hW4] at HN ⊢
          clear hW4 hq3 HI t9 cu
          have z0 := cell_at (o := 0) HN.out.2.2 rfl
          have z1 := cell_at (o := 1) HN.out.2.2 rfl
          have z2 := cell_at (o := 2) HN.out.2.2 rfl
          go_wp2_with (at_builtin; refine wpList_apushN rfl (.tmp 38) (.tmp 40) rfl W2.heap.size ao A [x] ⟨W4.heap.size, 0, none⟩ 1 1 rfl rfl rfl (HN.out.1.a.on ((Below.refl _ _).alloc (Nat.le_refl _) _)) (by have := HN.out.1.le; simp; omega) (by have := HX.out.2; simp; omega) (by simp) (news_one _ _ _) ?_; intro v2 w5 hb2 ha2; have H5 : Hid (RC2 w W2.heap.size w5 v2 (A ++ [x]) no nn ∧ Below W2.heap.size W2 w5) := ⟨(HN.out.1.on ((Below.refl _ _).alloc (Nat.le_refl _) _)).pushA hb2 ha2, (HN.out.2.1.alloc HN.out.2.1.size _).trans ((ha2.below (HN.out.1.a.on ((Below.refl _ _).alloc (Nat.le_refl _) _)) (by have := HN.out.1.le; simp; omega)).mono (by omega))⟩; clear hb2 ha2)
          go_roundw
          case rel => exact ⟨k + 1, A ++ [x], v2, no, nn, by omega, by go_num, rfl, rfl, H5.out.1, H5.out.2, HX.out.1⟩
          case measure => simp [intOf]; omega
        rw [h1] at hp
        cases h2 : paN L[k]
        case some t =>
          rw [h2] at hp
          obtain rfl : u = .iface 137 (.string ⟨t.toArray⟩) := hp
          have HX : Hid (RcI L (k + 1) A (nn + 1) ∧ nn ≤ 1048576) := ⟨HI.out.2.2.name hlt h1, by have := HI.out.2.2.2.1; omega⟩
          clear h1 h2 HLK
          have t9 := taR (.string ⟨t.toArray⟩) wr
          have t8 := trR (.string ⟨t.toArray⟩) wr
          obtain ⟨xs, hxs⟩ := HI.out.1.n
          obtain ⟨i9, hi9, hz9, hs9, hb9⟩ := info9'
          have hon : Below wr.heap.size wr (wr.alloc (.cells #[.string ⟨t.toArray⟩] 9)) := (Below.refl _ _).alloc (Nat.le_refl _) _
          obtain ⟨v2, w5, hrun, hown, hgr, hgg⟩ := run_append_own2 (P := Try.prog) (wr.alloc (.cells #[.string ⟨t.toArray⟩] 9)) W2.heap.size 25 25 9 i9 _ 1 16 Try.underlying25 hi9 hz9 hs9 hb9 rfl (by omega) no nn xs (owns_kept hxs (fun g hg => hon.block g (owns_lt hxs hg).2)) ⟨wr.heap.size, 0, none⟩ 1 1 [.string ⟨t.toArray⟩] rfl (fun o u hu => by
            have ho := (List.getElem?_eq_some_iff.1 hu).1
            obtain rfl : o = 0 := by simpa using ho
            cases hu; exact cell_at (o := 0) (heap_new' _ _ rfl) rfl) (fun u hu => by rw [List.mem_singleton.1 hu]; rfl) (by unfold maxLen; have := HX.out.2; omega) (by have := HX.out.2; omega) (by have := HI.out.1.le; simp; omega) (by omega)
          have HRUN := Lib.hid hrun
          have H5 : Hid (RC2 w W2.heap.size w5 ao A v2 (nn + 1) ∧ Below W2.heap.size W2 w5) := by
            refine ⟨(HI.out.1.on hon).pushN hown hgr hgg, ?_⟩
            have hb := HI.out.2.1.trans (hon.mono HI.out.2.1.size)
            exact ⟨hgr.os.trans hb.os, hgr.tape.trans hb.tape, hgr.output.trans hb.output, Nat.le_trans hb.size hgr.size, fun b hlt => (hgr.block b (Nat.lt_of_lt_of_le hlt hb.size) (fun e => by have := (owns_lt hxs e.symm).1; omega)).trans (hb.block b hlt)⟩
          clear hrun hown hgr hgg hon hxs HI hi9 hz9 hs9 hb9
          go_wp2_with (at_builtin; go_must (refine wpList_append_isW rfl (.tmp 45) (.tmp 47) 25 rfl _ _ rfl rfl _ _ HRUN.out ?_))
          go_roundw
          case rel => exact ⟨k + 1, A, ao, v2, nn + 1, by omega, by go_num, rfl, rfl, H5.out.1, H5.out.2, HX.out.1⟩
          case measure => simp [intOf]; omega
        have HNO : Hid (jdO j = none) := by show _ = _; rw [HP.out.2.1]; unfold dO; rw [atomsO_none hlt h1]
        rw [h2] at hp
        have HB9 : Hid (JrB w wr #[.int .i64 j.k, .int .i64 j.n, .string ⟨j.t.toArray⟩, .slice ka j.keys.length kc, .slice ia j.items.length ic] #[.string ⟨#[]⟩, .slice none 0 0, .slice none 0 0] 118) := HW.out.later HI.out.2.1
        clear h1 h2 HLK HI
        clear g0 g1 g2 y0 y1 y2
        have g0 := cell_at (o := 0) HB9.out.br rfl
        have y0 := frozen_at 0 HB9.out.br
        have g1 := cell_at (o := 1) HB9.out.br rfl
        have y1 := frozen_at 1 HB9.out.br
        have g2 := cell_at (o := 2) HB9.out.br rfl
        have y2 := frozen_at 2 HB9.out.br
        cases h3 : paL L[k]
        case none =>
          rw [h3] at hp
          obtain rfl : u = .nilIface := hp
          clear h3
          have t9 := taN wr
          have t8 := trN wr
          go_wp2_with fail
          exact bodyPost_ret (v := .tuple #[.agg #[.string ⟨#[]⟩, .slice none 0 0, .slice none 0 0], .bool false]) (by simp [results, Try.results92, go_sem, g0, g1, g2]) rfl (RcAns.no HNO.out (three_below HB9.out.bel (by omega) _ _ _))
        case some l =>
          rw [h3] at hp
          obtain ⟨uu, rfl⟩ : ∃ uu, u = .iface 135 uu := hp
          clear h3
          have t9 := taL uu wr
          have t8 := trL uu wr
          go_wp2_with fail
          exact bodyPost_ret (v := .tuple #[.agg #[.string ⟨#[]⟩, .slice none 0 0, .slice none 0 0], .bool false]) (by simp [results, Try.results92, go_sem, g0, g1, g2]) rfl (RcAns.no HNO.out (three_below HB9.out.bel (by omega) _ _ _))
      have hkd : decide ((k : Int) < (1 : Int)) = false := decide_eq_false (by omega)
      have hkL : k = L.length := by have := HLEN.out; omega
      have hkd2 : decide (k < 1) = false := decide_eq_false hlt0
      have HI3 := HI.out.2.2
      rw [hkL] at HI3
      obtain ⟨va, vc, rfl, ho⟩ := HI.out.1.a.own
      have HOA := Lib.hid ho
      obtain ⟨na, nc, rfl⟩ : ∃ na nc, no = .slice na nn nc := by
        obtain ⟨xs, hx⟩ := HI.out.1.n
        rcases hx.2 with ⟨rfl, rfl⟩ | ⟨g, cap, cur, rfl, -⟩
        · exact ⟨none, 0, rfl⟩
        · exact ⟨_, _, rfl⟩
      have HDN : Hid (jdO j = if ((ofC A == 0) && (nn == 0)) = true then some (ofR A) else none) := HP.out.2.1.trans HI3.done
      have HTX : Hid (A.length ≤ 1048576 ∧ (∀ z ∈ A, z.t.length ≤ maxLen)) := ⟨by have := HI3.1; omega, HI3.2.2.1⟩
      have HB9 : Hid (JrB w wr #[.int .i64 j.k, .int .i64 j.n, .string ⟨j.t.toArray⟩, .slice ka j.keys.length kc, .slice ia j.items.length ic] #[.string ⟨#[]⟩, .slice none 0 0, .slice none 0 0] 118) := HW.out.later HI.out.2.1
      clear ho HI HI3 hkL g0 g1 g2 y0 y1 y2 hlt0 hk
      go_wp2_with fail
      refine (datumOfIN A va vc wr.heap.size wr HTX.out.1 HTX.out.2 (Nat.le_refl _) (HOA.out.ats.same (fun _ _ => rfl) (fun b hb => hb.2))).mono ?_
      rintro e w6 ⟨pa6, ca6, rfl, ho6, hB6⟩
      have H6 : Hid (JrB w w6 #[.int .i64 j.k, .int .i64 j.n, .string ⟨j.t.toArray⟩, .slice ka j.keys.length kc, .slice ia j.items.length ic] #[.string ⟨#[]⟩, .slice none 0 0, .slice none 0 0] 118 ∧ OwnAts w6 (fun c => wr.heap.size ≤ c ∧ c < w6.heap.size) pa6 (ofR A) ∧ w.heap.size + 1 < wr.heap.size) := ⟨HB9.out.later hB6, ho6, (Array.getElem?_eq_some_iff.1 HB9.out.br).1⟩
      clear ho6 hB6 HOA HB9
      have g0 := cell_at (o := 0) H6.out.1.br rfl
      have y0 := frozen_at 0 H6.out.1.br
      have g1 := cell_at (o := 1) H6.out.1.br rfl
      have y1 := frozen_at 1 H6.out.1.br
      have g2 := cell_at (o := 2) H6.out.1.br rfl
      have y2 := frozen_at 2 H6.out.1.br
      generalize ofR A = R at *
      generalize ofC A = n at *
      go_wp2_with fail
      refine bodyPost_ret (v := .tuple #[.agg #[.string ⟨#[]⟩, .slice pa6 R.length ca6, .slice na nn nc], .bool (n == 0)]) (by simp [results, Try.results92, go_sem, g0, g1, g2]) rfl ⟨R, pa6, ca6, na, nn, nc, n == 0, rfl, ?_, HDN.out, three_below H6.out.1.bel (by omega) _ _ _⟩
      exact H6.out.2.1.same (fun b hb => three_heap _ _ _ _ _ _ (by have := H6.out.2.2; omega)) (fun b hb => ⟨by have := H6.out.2.2; omega, by rw [show (((w6.setCell _ _).setCell _ _).setCell _ _).heap.size = w6.heap.size by simp [World.setCell]]; exact hb.2⟩)
  rw [h2] at hv
  obtain rfl : v = .nilIface := hv
  clear h2
  have t9 := tpN w1
  go_upto_region 5 with fail
  have HP : Hid (Parts (w1.alloc (.cells #[.nilIface] 20)) (· < (w1.alloc (.cells #[.nilIface] 20)).heap.size) [j] (some ⟨w1.heap.size, 0, none⟩) ∧ jdO j = dO [j] ∧ (∀ y ∈ [j], Rt y) ∧ [j].length ≤ 1048576) := ⟨.inr ⟨w1.heap.size, rfl, by simp, fun i hi => ?_⟩, HD.out, fun y hy => by rw [List.mem_singleton.1 hy]; exact HK.out, by simp⟩
  rotate_left
  · obtain rfl : i = 0 := by simpa using hi
    exact ⟨_, cell_at (o := 0) (heap_new' _ _ rfl) rfl, HPV.out⟩
  have HW : Hid (JrB w (w1.alloc (.cells #[.nilIface] 20)) #[.int .i64 j.k, .int .i64 j.n, .string ⟨j.t.toArray⟩, .slice ka j.keys.length kc, .slice ia j.items.length ic] #[.string ⟨#[]⟩, .slice none 0 0, .slice none 0 0] 118) := H1.out.later ((Below.refl _ _).alloc (Nat.le_refl _) _)
  obtain ⟨qb, hqb⟩ : ∃ n, n = w1.heap.size := ⟨_, rfl⟩
  rw [← hqb] at HP ⊢
  obtain ⟨W2, hW2⟩ : ∃ W, W = (w1.alloc (.cells #[.nilIface] 20)) := ⟨_, rfl⟩
  rw [← hW2] at HP HW ⊢
  clear hW2 hqb H1 HV HD HPV t9
  obtain ⟨pa, hpa⟩ : ∃ p : Option Addr, p = some ⟨qb, 0, none⟩ := ⟨_, rfl⟩
  rw [← hpa] at HP ⊢
  clear hpa
  obtain ⟨L, hL⟩ : ∃ L, L = [j] := ⟨_, rfl⟩
  rw [← hL] at HP
  go_wp2_with fail
  have HLEN : Hid (L.length = 1) := by show _ = _; rw [hL]; rfl
  clear hL
  have g0 := cell_at (o := 0) HW.out.br rfl
  have y0 := frozen_at 0 HW.out.br
  have g1 := cell_at (o := 1) HW.out.br rfl
  have y1 := frozen_at 1 HW.out.br
  have g2 := cell_at (o := 2) HW.out.br rfl
  have y2 := frozen_at 2 HW.out.br
  have hL20 := HP.out.2.2.2
  go_loopw [7, 8, 29] (fun av nv iv wr => ∃ (k : Nat) (A : List At) (ao no : Value) (nn : Nat), k ≤ 1 ∧ iv = .int .i64 (k : Int) ∧ ao = av ∧ no = nv ∧ Hid (RC2 w W2.heap.size wr ao A no nn ∧ Below W2.heap.size W2 wr ∧ RcI L k A nn)) (fun _ _ iv _ => 1 - (intOf iv).toNat)
  case atStart => exact ⟨0, [], _, _, 0, Nat.zero_le _, rfl, rfl, rfl, RC2.first HW.out.bel, Below.refl _ _, RcI.first L⟩
  case round =>
    obtain ⟨k, A, ao, no, nn, hk, rfl, rfl, rfl, HI⟩ := hrel
    by_cases hlt0 : k < 1
    case pos =>
      have hki : (k : Int) < (1 : Int) := by omega
      have hlt : k < L.length := by have := HLEN.out; omega
      have f1 : IntKind.i64.wrap ((k : Int) + 1) = ((k + 1 : Nat) : Int) := by rw [IntKind.wrap_i64]; omega
      obtain ⟨b, rfl, u, cu, hp⟩ := HP.out.1.at hlt HI.out.2.1
      have HLK := Lib.hid hp
      clear hp
      have hp := HLK.out; unfold PV1 at hp
      cases h1 : paA L[k]
      case some x =>
        rw [h1] at hp
        obtain rfl : u = .iface 31 (atV x) := hp
        have HX : Hid (RcI L (k + 1) (A ++ [x]) nn ∧ A.length ≤ 1048576) := ⟨HI.out.2.2.atom hlt h1 (pa_txt (HP.out.2.2.1 _ (List.getElem_mem hlt)) h1), by have := HI.out.2.2.1; omega⟩
        clear h1 HLK
        unfold atV at cu
        have t9 := taA (.agg #[.int .i64 x.k, .int .i64 x.n, .string ⟨x.t.toArray⟩]) wr
        go_upto_region 15 with fail
        obtain ⟨q3, hq3⟩ : ∃ n, n = wr.heap.size := ⟨_, rfl⟩
        have HN : Hid (RC2 w W2.heap.size (wr.alloc (.cells #[.int .i64 x.k, .int .i64 x.n, .string ⟨x.t.toArray⟩] 31)) ao A no nn ∧ Below W2.heap.size W2 (wr.alloc (.cells #[.int .i64 x.k, .int .i64 x.n, .string ⟨x.t.toArray⟩] 31)) ∧ (wr.alloc (.cells #[.int .i64 x.k, .int .i64 x.n, .string ⟨x.t.toArray⟩] 31)).heap[q3]? = some (.cells #[.int .i64 x.k, .int .i64 x.n, .string ⟨x.t.toArray⟩] 31)) := ⟨HI.out.1.on ((Below.refl _ _).alloc (Nat.le_refl _) _), HI.out.2.1.alloc HI.out.2.1.size _, heap_new' _ _ hq3⟩
        rw [← hq3]
        obtain ⟨W4, hW4⟩ : ∃ W, W = (wr.alloc (.cells #[.int .i64 x.k, .int .i64 x.n, .string ⟨x.t.toArray⟩] 31)) := ⟨_, rfl⟩
        rw [← hW4] at HN ⊢
        clear hW4 hq3 HI t9 cu
        have z0 := cell_at (o := 0) HN.out.2.2 rfl
        have z1 := cell_at (o := 1) HN.out.2.2 rfl
        have z2 := cell_at (o := 2) HN.out.2.2 rfl
        go_wp2_with (at_builtin; refine wpList_apushN rfl (.tmp 38) (.tmp 40) rfl W2.heap.size ao A [x] ⟨W4.heap.size, 0, none⟩ 1 1 rfl rfl rfl (HN.out.1.a.on ((Below.refl _ _).alloc (Nat.le_refl _) _)) (by have := HN.out.1.le; simp; omega) (by have := HX.out.2; simp; omega) (by simp) (news_one _ _ _) ?_; intro v2 w5 hb2 ha2; have H5 : Hid (RC2 w W2.heap.size w5 v2 (A ++ [x]) no nn ∧ Below W2.heap.size W2 w5) := ⟨(HN.out.1.on ((Below.refl _ _).alloc (Nat.le_refl _) _)).pushA hb2 ha2, (HN.out.2.1.alloc HN.out.2.1.size _).trans ((ha2.below (HN.out.1.a.on ((Below.refl _ _).alloc (Nat.le_refl _) _)) (by have := HN.out.1.le; simp; omega)).mono (by omega))⟩; clear hb2 ha2)
        go_roundw
        case rel => exact ⟨k + 1, A ++ [x], v2, no, nn, by omega, by go_num, rfl, rfl, H5.out.1, H5.out.2, HX.out.1⟩
        case measure => simp [intOf]; omega
      rw [h1] at hp
      cases h2 : paN L[k]
      case some t =>
        rw [h2] at hp
        obtain rfl : u = .iface 137 (.string ⟨t.toArray⟩) := hp
        have HX : Hid (RcI L (k + 1) A (nn + 1) ∧ nn ≤ 1048576) := ⟨HI.out.2.2.name hlt h1, by have := HI.out.2.2.2.1; omega⟩
        clear h1 h2 HLK
        have t9 := taR (.string ⟨t.toArray⟩) wr
        have t8 := trR (.string ⟨t.toArray⟩) wr
        obtain ⟨xs, hxs⟩ := HI.out.1.n
        obtain ⟨i9, hi9, hz9, hs9, hb9⟩ := info9'
        have hon : Below wr.heap.size wr (wr.alloc (.cells #[.string ⟨t.toArray⟩] 9)) := (Below.refl _ _).alloc (Nat.le_refl _) _
        obtain ⟨v2, w5, hrun, hown, hgr, hgg⟩ := run_append_own2 (P := Try.prog) (wr.alloc (.cells #[.string ⟨t.toArray⟩] 9)) W2.heap.size 25 25 9 i9 _ 1 16 Try.underlying25 hi9 hz9 hs9 hb9 rfl (by omega) no nn xs (owns_kept hxs (fun g hg => hon.block g (owns_lt hxs hg).2)) ⟨wr.heap.size, 0, none⟩ 1 1 [.string ⟨t.toArray⟩] rfl (fun o u hu => by
          have ho := (List.getElem?_eq_some_iff.1 hu).1
          obtain rfl : o = 0 := by simpa using ho
          cases hu; exact cell_at (o := 0) (heap_new' _ _ rfl) rfl) (fun u hu => by rw [List.mem_singleton.1 hu]; rfl) (by unfold maxLen; have := HX.out.2; omega) (by have := HX.out.2; omega) (by have := HI.out.1.le; simp; omega) (by omega)
        have HRUN := Lib.hid hrun
        have H5 : Hid (RC2 w W2.heap.size w5 ao A v2 (nn + 1) ∧ Below W2.heap.size W2 w5) := by
          refine ⟨(HI.out.1.on hon).pushN hown hgr hgg, ?_⟩
          have hb := HI.out.2.1.trans (hon.mono HI.out.2.1.size)
          exact ⟨hgr.os.trans hb.os, hgr.tape.trans hb.tape, hgr.output.trans hb.output, Nat.le_trans hb.size hgr.size, fun b hlt => (hgr.block b (Nat.lt_of_lt_of_le hlt hb.size) (fun e => by have := (owns_lt hxs e.symm).1; omega)).trans (hb.block b hlt)⟩
        clear hrun hown hgr hgg hon hxs HI hi9 hz9 hs9 hb9
        go_wp2_with (at_builtin; go_must (refine wpList_append_isW rfl (.tmp 45) (.tmp 47) 25 rfl _ _ rfl rfl _ _ HRUN.out ?_))
        go_roundw
        case rel => exact ⟨k + 1, A, ao, v2, nn + 1, by omega, by go_num, rfl, rfl, H5.out.1, H5.out.2, HX.out.1⟩
        case measure => simp [intOf]; omega
      have HNO : Hid (jdO j = none) := by show _ = _; rw [HP.out.2.1]; unfold dO; rw [atomsO_none hlt h1]
      rw [h2] at hp
      have HB9 : Hid (JrB w wr #[.int .i64 j.k, .int .i64 j.n, .string ⟨j.t.toArray⟩, .slice ka j.keys.length kc, .slice ia j.items.length ic] #[.string ⟨#[]⟩, .slice none 0 0, .slice none 0 0] 118) := HW.out.later HI.out.2.1
      clear h1 h2 HLK HI
      clear g0 g1 g2 y0 y1 y2
      have g0 := cell_at (o := 0) HB9.out.br rfl
      have y0 := frozen_at 0 HB9.out.br
      have g1 := cell_at (o := 1) HB9.out.br rfl
      have y1 := frozen_at 1 HB9.out.br
      have g2 := cell_at (o := 2) HB9.out.br rfl
      have y2 := frozen_at 2 HB9.out.br
      cases h3 : paL L[k]
      case none =>
        rw [h3] at hp
        obtain rfl : u = .nilIface := hp
        clear h3
        have t9 := taN wr
        have t8 := trN wr
        go_wp2_with fail
        exact bodyPost_ret (v := .tuple #[.agg #[.string ⟨#[]⟩, .slice none 0 0, .slice none 0 0], .bool false]) (by simp [results, Try.results92, go_sem, g0, g1, g2]) rfl (RcAns.no HNO.out (three_below HB9.out.bel (by omega) _ _ _))
      case some l =>
        rw [h3] at hp
        obtain ⟨uu, rfl⟩ : ∃ uu, u = .iface 135 uu := hp
        clear h3
        have t9 := taL uu wr
        have t8 := trL uu wr
        go_wp2_with fail
        exact bodyPost_ret (v := .tuple #[.agg #[.string ⟨#[]⟩, .slice none 0 0, .slice none 0 0], .bool false]) (by simp [results, Try.results92, go_sem, g0, g1, g2]) rfl (RcAns.no HNO.out (three_below HB9.out.bel (by omega) _ _ _))
    have hkd : decide ((k : Int) < (1 : Int)) = false := decide_eq_false (by omega)
    have hkL : k = L.length := by have := HLEN.out; omega
    have hkd2 : decide (k < 1) = false := decide_eq_false hlt0
    have HI3 := HI.out.2.2
    rw [hkL] at HI3
    obtain ⟨va, vc, rfl, ho⟩ := HI.out.1.a.own
    have HOA := Lib.hid ho
    obtain ⟨na, nc, rfl⟩ : ∃ na nc, no = .slice na nn nc := by
      obtain ⟨xs, hx⟩ := HI.out.1.n
      rcases hx.2 with ⟨rfl, rfl⟩ | ⟨g, cap, cur, rfl, -⟩
      · exact ⟨none, 0, rfl⟩
      · exact ⟨_, _, rfl⟩
    have HDN : Hid (jdO j = if ((ofC A == 0) && (nn == 0)) = true then some (ofR A) else none) := HP.out.2.1.trans HI3.done
    have HTX : Hid (A.length ≤ 1048576 ∧ (∀ z ∈ A, z.t.length ≤ maxLen)) := ⟨by have := HI3.1; omega, HI3.2.2.1⟩
    have HB9 : Hid (JrB w wr #[.int .i64 j.k, .int .i64 j.n, .string ⟨j.t.toArray⟩, .slice ka j.keys.length kc, .slice ia j.items.length ic] #[.string ⟨#[]⟩, .slice none 0 0, .slice none 0 0] 118) := HW.out.later HI.out.2.1
    clear ho HI HI3 hkL g0 g1 g2 y0 y1 y2 hlt0 hk
    go_wp2_with fail
    refine (datumOfIN A va vc wr.heap.size wr HTX.out.1 HTX.out.2 (Nat.le_refl _) (HOA.out.ats.same (fun _ _ => rfl) (fun b hb => hb.2))).mono ?_
    rintro e w6 ⟨pa6, ca6, rfl, ho6, hB6⟩
    have H6 : Hid (JrB w w6 #[.int .i64 j.k, .int .i64 j.n, .string ⟨j.t.toArray⟩, .slice ka j.keys.length kc, .slice ia j.items.length ic] #[.string ⟨#[]⟩, .slice none 0 0, .slice none 0 0] 118 ∧ OwnAts w6 (fun c => wr.heap.size ≤ c ∧ c < w6.heap.size) pa6 (ofR A) ∧ w.heap.size + 1 < wr.heap.size) := ⟨HB9.out.later hB6, ho6, (Array.getElem?_eq_some_iff.1 HB9.out.br).1⟩
    clear ho6 hB6 HOA HB9
    have g0 := cell_at (o := 0) H6.out.1.br rfl
    have y0 := frozen_at 0 H6.out.1.br
    have g1 := cell_at (o := 1) H6.out.1.br rfl
    have y1 := frozen_at 1 H6.out.1.br
    have g2 := cell_at (o := 2) H6.out.1.br rfl
    have y2 := frozen_at 2 H6.out.1.br
    generalize ofR A = R at *
    generalize ofC A = n at *
    go_wp2_with fail
    refine bodyPost_ret (v := .tuple #[.agg #[.string ⟨#[]⟩, .slice pa6 R.length ca6, .slice na nn nc], .bool (n == 0)]) (by simp [results, Try.results92, go_sem, g0, g1, g2]) rfl ⟨R, pa6, ca6, na, nn, nc, n == 0, rfl, ?_, HDN.out, three_below H6.out.1.bel (by omega) _ _ _⟩
    exact H6.out.2.1.same (fun b hb => three_heap _ _ _ _ _ _ (by have := H6.out.2.2; omega)) (fun b hb => ⟨by have := H6.out.2.2; omega, by rw [show (((w6.setCell _ _).setCell _ _).setCell _ _).heap.size = w6.heap.size by simp [World.setCell]]; exact hb.2⟩)
end Go.Proofs.Ytkncpfhblciplaa
