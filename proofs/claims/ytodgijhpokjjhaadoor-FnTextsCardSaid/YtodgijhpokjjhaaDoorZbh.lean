import Derived.Test.YtodgijhpokjjhaaDoorZbg
namespace Go.Proofs.YtodgijhpokjjhaaDoor
open Go.RowKit
set_option linter.unusedSimpArgs false
theorem wpList_pushS {ops : Array Oper} {rest : List Oper} {o : Oper} {a : Act} {Q : Exit → Act → World → Prop} {w W : World} {v0 vv : Value} {B S : Nat} {box : Obj} {l : List UInt8} (hst : St w v0 B S box W vv l) (hgd : o.guard = none) (s x : Operand)
    (ho : o.op = .call { callee := .builtin .append, args := #[s, x], argTypes := #[22, 22] }) (c : UInt8) (y : Int) (hy : y = (c.toNat : Int)) (hs : a.eval s = vv) (hx : a.eval x = .slice (some ⟨W.heap.size, 0, none⟩) 1 1)
    (hl : l.length + 1 ≤ 70368744177664) (h : ∀ v' w', St w v0 B S box w' v' (l ++ [c]) → wpList Tryd.prog ops Q rest (a.put o.dst v') w') : wpList Tryd.prog ops Q (o :: rest) a (W.alloc (.cells #[.int .u8 y] 5)) := by
  subst hy
  exact wpList_push hgd s x ho B vv l c W.heap.size hs hx (hst.buf.alloc _) (by have := hst.le; simp; omega) hl (cell_at (o := 0) (heap_new0 _ _) rfl) (fun v' w' hb ha => h v' w' (hst.push hb (((App.refl _ _).alloc _).trans ha)))
theorem keepB {w W : World} {B : Nat} {p : Addr} {u : Value} (hb : Below B w W) (hp : p.block < B) (h : w.cell? p = some u) : W.cell? p = some u := (hb.cell hp).trans h
def PISaid (j : J) : Prop := ∀ (cs : List Value) (B : Nat) (v : Value) (bs : List UInt8) (w : World), Good j → j.sz ≤ 1048576 → RJ w (· < B) j cs → Buf w B v bs → B ≤ w.heap.size → bs.length + (pr j).length ≤ 900000000000 → Tab w B →
    Calls Tryd.prog 9 #[v, .agg cs.toArray] w fun e w' => ∃ v', e = .returned v' ∧ Buf w' B v' (bs ++ pr j) ∧ App w v w' v'
theorem outM_le {j : J} (h4 : 4 ≤ j.k) (m : Nat) : (outM j m).length + 1 ≤ (pr j).length := by
  have h2 := joinF_take_le true (pieces j.k j.keys (j.items.map pr)) m
  rw [pr_eq, if_neg (by omega), if_neg (by omega), if_neg (by omega), if_neg (by omega)]
  unfold outM
  simp only [List.length_cons, List.length_append, List.length_nil]
  omega
set_option maxRecDepth 100000 in
set_option maxHeartbeats 6400000 in
theorem appItems (j : J) (ih : ∀ x ∈ j.items, PISaid x) (cs : List Value) (B : Nat) (v : Value) (bs : List UInt8) (w : World) (hg : Good j) (h4 : 4 ≤ j.k) (hz : j.sz ≤ 1048576) (hr : RJ w (· < B) j cs) (hb : Buf w B v (bs ++ outM j 0)) (hB : B ≤ w.heap.size) (hl : bs.length + (pr j).length ≤ 900000000000) (hT : Tab w B) :
    Calls Tryd.prog 18 #[v, .agg cs.toArray] w fun e w' => ∃ v', e = .returned v' ∧ Buf w' B v' (bs ++ outM j j.items.length) ∧ App w v w' v' := by
  have hk := hg.kind
  have hp := hg.part
  rw [RJ_eq] at hr
  obtain ⟨ka, kc, ia, ic, rfl, ht, hkl, hil, hkx, hks, hjs⟩ := hr
  have HI : Hid (Jsons w (· < B) ia j.items) := hjs
  have HK : Hid (Strs w (· < B) ka j.keys) := hks
  have hsz := J.sz_eq j
  have HT : Hid (Tab w B) := hT
  have HOL : Hid (∀ m, bs.length + (outM j m).length + 1 ≤ 900000000000) := fun m => by have := outM_le h4 m; omega
  have H0 : Hid (St w v B w.heap.size (.cells #[.int .i64 j.k, .int .i64 j.n, .string ⟨j.t.toArray⟩, .slice ka j.keys.length kc, .slice ia j.items.length ic] 28) (w.alloc (.cells #[.int .i64 j.k, .int .i64 j.n, .string ⟨j.t.toArray⟩, .slice ka j.keys.length kc, .slice ia j.items.length ic] 28)) v (bs ++ outM j 0)) := St.first hb hB _
  have HLEN' : j.k = 5 → j.keys.length = j.items.length := fun k5 => by
    rw [part5 k5] at hp
    simp at hp
    omega
  have IH : Hid (∀ x ∈ j.items, PISaid x) := ih
  have HGI : Hid (∀ x ∈ j.items, Good x ∧ x.sz ≤ 1048576) := fun x hx => ⟨hg.item x hx, Nat.le_trans (J.sz_item j x hx) hz⟩
  have HKY : Hid (∀ m, m < j.keys.length → (j.keys.getD m []).length ≤ 1048576) := fun m hm => by
    have h1 := mem_le_sum List.length j.keys (j.keys.getD m []) (by rw [List.getD_eq_getElem?_getD, List.getElem?_eq_getElem hm]; exact List.getElem_mem hm)
    unfold szK at hsz; omega
  have hcell : ∃ b off, (0 < j.keys.length → ka = some ⟨b, off, none⟩ ∧ b < B) ∧ ∀ i, i < j.keys.length → w.cell? ⟨b, off + i, none⟩ = some (.string ⟨(j.keys.getD i []).toArray⟩) := by
    rcases HK.out with h | ⟨b, off, ha, hbb, hc⟩
    · exact ⟨0, 0, fun h' => absurd h (by omega), fun i hi => absurd h (by omega)⟩
    · exact ⟨b, off, fun _ => ⟨ha, hbb⟩, fun i hi => by rw [List.getD_eq_getElem?_getD, List.getElem?_eq_getElem hi]; exact hc i hi⟩
  obtain ⟨bk, ok, ha, hc⟩ := hcell
  have HA : Hid (0 < j.keys.length → ka = some ⟨bk, ok, none⟩ ∧ bk < B) := ha
  have HC : Hid (∀ i, i < j.keys.length → w.cell? ⟨bk, ok + i, none⟩ = some (.string ⟨(j.keys.getD i []).toArray⟩)) := hc
  have hi20 : j.items.length ≤ 1048576 := by omega
  have hk20 : j.keys.length ≤ 1048576 := by unfold szK at hsz; omega
  have HSUC : Hid (∀ m (h : m < j.items.length), outM j (m + 1) = outM j m ++ ((if m = 0 then [] else [44]) ++ ((if j.k = 5 then quo (j.keys.getD m []) ++ [58] else []) ++ pr j.items[m]))) := fun m h => outM_succ HLEN' m h
  clear ha hc hp hsz hz hkx ht ih hjs hks hkl hil hb hl hT hg
  by_cases k5 : j.k = 5
  · have HLEN : Hid (j.keys.length = j.items.length) := HLEN' k5
    rw [k5] at H0 HSUC ⊢
    clear HLEN' k5 hk h4
    go_enter Tryd.func18, Tryd.ntmps18
    go_wp2_with fail
    go_loopw [0, 9] (fun o i wr => ∃ m : Nat, ∃ vo, m ≤ j.items.length ∧ i = .int .i64 m ∧ vo = o ∧ Hid (St w v B w.heap.size (.cells #[.int .i64 5, .int .i64 j.n, .string ⟨j.t.toArray⟩, .slice ka j.keys.length kc, .slice ia j.items.length ic] 28) wr vo (bs ++ outM j m))) (fun _ i _ => j.items.length - (intOf i).toNat)
    case atStart => exact ⟨0, v, Nat.zero_le _, rfl, rfl, H0.out⟩
    case round =>
      obtain ⟨m, vo, hm, rfl, rfl, HS⟩ := hrel
      by_cases hlt : m < j.items.length
      · obtain ⟨b, off, kx, kcx, ix, icx, rfl, hbB, c0, c1, c2, c3, c4, hr⟩ := HI.out.item m hlt
        have HBB : Hid (b < B) := hbB
        have HG := HGI.out _ (List.getElem_mem hlt)
        have HX0 := IH.out _ (List.getElem_mem hlt)
        have HX : Hid (∀ W vv l, St w v B w.heap.size (.cells #[.int .i64 5, .int .i64 j.n, .string ⟨j.t.toArray⟩, .slice ka j.keys.length kc, .slice (some ⟨b, off, none⟩) j.items.length ic] 28) W vv l → l.length + (pr j.items[m]).length ≤ 900000000000 → Calls Tryd.prog 9 #[vv, .agg #[.int .i64 j.items[m].k, .int .i64 j.items[m].n, .string ⟨j.items[m].t.toArray⟩, .slice kx j.items[m].keys.length kcx, .slice ix j.items[m].items.length icx]] W fun e w' => ∃ v', e = .returned v' ∧ St w v B w.heap.size (.cells #[.int .i64 5, .int .i64 j.n, .string ⟨j.t.toArray⟩, .slice ka j.keys.length kc, .slice (some ⟨b, off, none⟩) j.items.length ic] 28) w' v' (l ++ pr j.items[m])) := fun W vv l hst hll =>
          (HX0 _ B vv l W HG.1 HG.2 (hr.below hst.bel) hst.buf hst.le hll (HT.out.on hst.bel)).mono (fun e w' ⟨v', he, hb', ha'⟩ => ⟨v', he, hst.push hb' ha'⟩)
        have HSm : Hid (outM j (m + 1) = _) := HSUC.out m hlt
        have HLO : Hid (bs.length + (outM j (m + 1)).length + 1 ≤ 900000000000) := HOL.out (m + 1)
        clear hr HG HX0 hbB
        have hkm : m < j.keys.length := by have := HLEN.out; omega
        obtain ⟨rfl, hbk⟩ := HA.out (by omega)
        have HBK : Hid (bk < B) := hbk
        have hkc := HC.out m hkm
        have hkm' : (m : Int) < (j.keys.length : Int) := by omega
        have HQ : Hid (∀ W vv l, St w v B w.heap.size (.cells #[.int .i64 5, .int .i64 j.n, .string ⟨j.t.toArray⟩, .slice (some ⟨bk, ok, none⟩) j.keys.length kc, .slice (some ⟨b, off, none⟩) j.items.length ic] 28) W vv l → l.length ≤ 900000000000 → Calls Tryd.prog 17 #[vv, .string ⟨(j.keys.getD m []).toArray⟩] W fun e w' => ∃ v', e = .returned v' ∧ St w v B w.heap.size (.cells #[.int .i64 5, .int .i64 j.n, .string ⟨j.t.toArray⟩, .slice (some ⟨bk, ok, none⟩) j.keys.length kc, .slice (some ⟨b, off, none⟩) j.items.length ic] 28) w' v' (l ++ quo (j.keys.getD m []))) := fun W vv l hst hll => by
          have := appQ ⟨(j.keys.getD m []).toArray⟩ B vv l W (by show (j.keys.getD m []).toArray.size ≤ _; simpa using HKY.out m hkm) hst.buf hst.le hll
          exact this.mono (fun e w' ⟨v', he, hb', ha'⟩ => ⟨v', he, hst.push hb' ha'⟩)
        clear hkm hbk
        generalize j.keys.getD m [] = key at *
        generalize quo key = qk at *
        have hmi : (m : Int) < (j.items.length : Int) := by omega
        generalize j.items[m] = x at *
        obtain ⟨o', ho'⟩ : ∃ o', o' = outM j (m + 1) := ⟨_, rfl⟩
        rw [← ho'] at HSm HLO
        have HO : Hid (o' = outM j (m + 1)) := ho'
        clear ho'
        generalize outM j m = o at *
        generalize pr x = px at *
        by_cases h0 : m = 0
        · have hd : decide (0 < m) = false := by simp; omega
          have HF : Hid (o' = o ++ ([] ++ ((qk ++ [58]) ++ px))) := by
            have := HSm.out
            rw [if_pos h0, if_pos trivial] at this
            exact this
          clear HSm h0
          have x0 := cell_at (o := 0) HS.out.at_ rfl
          have x3 := cell_at (o := 3) HS.out.at_ rfl
          have x4 := cell_at (o := 4) HS.out.at_ rfl
          have d0 := keepB HS.out.bel HBB.out c0
          have d1 := keepB HS.out.bel HBB.out c1
          have d2 := keepB HS.out.bel HBB.out c2
          have d3 := keepB HS.out.bel HBB.out c3
          have d4 := keepB HS.out.bel HBB.out c4
          have dk := keepB HS.out.bel HBK.out hkc
          go_wp2_with (first
            | (go_at_call 17; refine (HQ.out _ vo (bs ++ o) HS.out (by have h1 := HLO.out; have h2 := congrArg List.length HF.out; simp only [List.length_append, List.length_cons, List.length_nil] at h1 h2 ⊢; omega)).mono ?_; rintro e w1 ⟨v1, rfl, hst⟩; have H1 : Hid (St w v B w.heap.size (.cells #[.int .i64 5, .int .i64 j.n, .string ⟨j.t.toArray⟩, .slice (some ⟨bk, ok, none⟩) j.keys.length kc, .slice (some ⟨b, off, none⟩) j.items.length ic] 28) w1 v1 ((bs ++ o) ++ qk)) := hst; clear hst; have x0 := cell_at (o := 0) H1.out.at_ rfl; have x3 := cell_at (o := 3) H1.out.at_ rfl; have x4 := cell_at (o := 4) H1.out.at_ rfl; have d0 := keepB H1.out.bel HBB.out c0; have d1 := keepB H1.out.bel HBB.out c1; have d2 := keepB H1.out.bel HBB.out c2; have d3 := keepB H1.out.bel HBB.out c3; have d4 := keepB H1.out.bel HBB.out c4; have dk := keepB H1.out.bel HBK.out hkc)
            | (at_builtin; (refine wpList_pushS H1.out rfl (.tmp 26) (.tmp 27) rfl 58 58 rfl rfl rfl (by have h1 := HLO.out; have h2 := congrArg List.length HF.out; simp only [List.length_append, List.length_cons, List.length_nil] at h1 h2 ⊢; omega) ?_; intro v2 w2 hst; have H2 : Hid (St w v B w.heap.size (.cells #[.int .i64 5, .int .i64 j.n, .string ⟨j.t.toArray⟩, .slice (some ⟨bk, ok, none⟩) j.keys.length kc, .slice (some ⟨b, off, none⟩) j.items.length ic] 28) w2 v2 (((bs ++ o) ++ qk) ++ [58])) := hst; clear hst; have x0 := cell_at (o := 0) H2.out.at_ rfl; have x3 := cell_at (o := 3) H2.out.at_ rfl; have x4 := cell_at (o := 4) H2.out.at_ rfl; have d0 := keepB H2.out.bel HBB.out c0; have d1 := keepB H2.out.bel HBB.out c1; have d2 := keepB H2.out.bel HBB.out c2; have d3 := keepB H2.out.bel HBB.out c3; have d4 := keepB H2.out.bel HBB.out c4; have dk := keepB H2.out.bel HBK.out hkc))
            | (go_at_call 9; refine (HX.out _ v2 (((bs ++ o) ++ qk) ++ [58]) H2.out (by have h1 := HLO.out; have h2 := congrArg List.length HF.out; simp only [List.length_append, List.length_cons, List.length_nil] at h1 h2 ⊢; omega)).mono ?_; rintro e w3 ⟨v3, rfl, hst⟩; have H3 : Hid (St w v B w.heap.size (.cells #[.int .i64 5, .int .i64 j.n, .string ⟨j.t.toArray⟩, .slice (some ⟨bk, ok, none⟩) j.keys.length kc, .slice (some ⟨b, off, none⟩) j.items.length ic] 28) w3 v3 ((((bs ++ o) ++ qk) ++ [58]) ++ px)) := hst; clear hst))
          go_roundw
          case rel => exact ⟨m + 1, v3, by omega, by go_num, rfl, by show St _ _ _ _ _ _ _ _; have h := H3.out; rw [← HO.out, HF.out]; simpa [List.append_assoc] using h⟩
          case measure => simp [intOf]; omega
        · have hd : decide (0 < m) = true := by simp; omega
          have HF : Hid (o' = o ++ ([44] ++ ((qk ++ [58]) ++ px))) := by
            have := HSm.out
            rw [if_neg h0, if_pos trivial] at this
            exact this
          clear HSm h0
          have x0 := cell_at (o := 0) HS.out.at_ rfl
          have x3 := cell_at (o := 3) HS.out.at_ rfl
          have x4 := cell_at (o := 4) HS.out.at_ rfl
          have d0 := keepB HS.out.bel HBB.out c0
          have d1 := keepB HS.out.bel HBB.out c1
          have d2 := keepB HS.out.bel HBB.out c2
          have d3 := keepB HS.out.bel HBB.out c3
          have d4 := keepB HS.out.bel HBB.out c4
          have dk := keepB HS.out.bel HBK.out hkc
          go_wp2_with (first
            | (at_builtin; (refine wpList_pushS HS.out rfl (.tmp 14) (.tmp 15) rfl 44 44 rfl rfl rfl (by have h1 := HLO.out; have h2 := congrArg List.length HF.out; simp only [List.length_append, List.length_cons, List.length_nil] at h1 h2 ⊢; omega) ?_; intro v1 w1 hst; have H1 : Hid (St w v B w.heap.size (.cells #[.int .i64 5, .int .i64 j.n, .string ⟨j.t.toArray⟩, .slice (some ⟨bk, ok, none⟩) j.keys.length kc, .slice (some ⟨b, off, none⟩) j.items.length ic] 28) w1 v1 ((bs ++ o) ++ [44])) := hst; clear hst; have x0 := cell_at (o := 0) H1.out.at_ rfl; have x3 := cell_at (o := 3) H1.out.at_ rfl; have x4 := cell_at (o := 4) H1.out.at_ rfl; have d0 := keepB H1.out.bel HBB.out c0; have d1 := keepB H1.out.bel HBB.out c1; have d2 := keepB H1.out.bel HBB.out c2; have d3 := keepB H1.out.bel HBB.out c3; have d4 := keepB H1.out.bel HBB.out c4; have dk := keepB H1.out.bel HBK.out hkc))
            | (go_at_call 17; refine (HQ.out _ v1 ((bs ++ o) ++ [44]) H1.out (by have h1 := HLO.out; have h2 := congrArg List.length HF.out; simp only [List.length_append, List.length_cons, List.length_nil] at h1 h2 ⊢; omega)).mono ?_; rintro e w2 ⟨v2, rfl, hst⟩; have H2 : Hid (St w v B w.heap.size (.cells #[.int .i64 5, .int .i64 j.n, .string ⟨j.t.toArray⟩, .slice (some ⟨bk, ok, none⟩) j.keys.length kc, .slice (some ⟨b, off, none⟩) j.items.length ic] 28) w2 v2 (((bs ++ o) ++ [44]) ++ qk)) := hst; clear hst; have x0 := cell_at (o := 0) H2.out.at_ rfl; have x3 := cell_at (o := 3) H2.out.at_ rfl; have x4 := cell_at (o := 4) H2.out.at_ rfl; have d0 := keepB H2.out.bel HBB.out c0; have d1 := keepB H2.out.bel HBB.out c1; have d2 := keepB H2.out.bel HBB.out c2; have d3 := keepB H2.out.bel HBB.out c3; have d4 := keepB H2.out.bel HBB.out c4; have dk := keepB H2.out.bel HBK.out hkc)
            | (at_builtin; (refine wpList_pushS H2.out rfl (.tmp 26) (.tmp 27) rfl 58 58 rfl rfl rfl (by have h1 := HLO.out; have h2 := congrArg List.length HF.out; simp only [List.length_append, List.length_cons, List.length_nil] at h1 h2 ⊢; omega) ?_; intro v3 w3 hst; have H3 : Hid (St w v B w.heap.size (.cells #[.int .i64 5, .int .i64 j.n, .string ⟨j.t.toArray⟩, .slice (some ⟨bk, ok, none⟩) j.keys.length kc, .slice (some ⟨b, off, none⟩) j.items.length ic] 28) w3 v3 ((((bs ++ o) ++ [44]) ++ qk) ++ [58])) := hst; clear hst; have x0 := cell_at (o := 0) H3.out.at_ rfl; have x3 := cell_at (o := 3) H3.out.at_ rfl; have x4 := cell_at (o := 4) H3.out.at_ rfl; have d0 := keepB H3.out.bel HBB.out c0; have d1 := keepB H3.out.bel HBB.out c1; have d2 := keepB H3.out.bel HBB.out c2; have d3 := keepB H3.out.bel HBB.out c3; have d4 := keepB H3.out.bel HBB.out c4; have dk := keepB H3.out.bel HBK.out hkc))
            | (go_at_call 9; refine (HX.out _ v3 ((((bs ++ o) ++ [44]) ++ qk) ++ [58]) H3.out (by have h1 := HLO.out; have h2 := congrArg List.length HF.out; simp only [List.length_append, List.length_cons, List.length_nil] at h1 h2 ⊢; omega)).mono ?_; rintro e w4 ⟨v4, rfl, hst⟩; have H4 : Hid (St w v B w.heap.size (.cells #[.int .i64 5, .int .i64 j.n, .string ⟨j.t.toArray⟩, .slice (some ⟨bk, ok, none⟩) j.keys.length kc, .slice (some ⟨b, off, none⟩) j.items.length ic] 28) w4 v4 (((((bs ++ o) ++ [44]) ++ qk) ++ [58]) ++ px)) := hst; clear hst))
          go_roundw
          case rel => exact ⟨m + 1, v4, by omega, by go_num, rfl, by show St _ _ _ _ _ _ _ _; have h := H4.out; rw [← HO.out, HF.out]; simpa [List.append_assoc] using h⟩
          case measure => simp [intOf]; omega
      · have hmn : m = j.items.length := by omega
        have HF : Hid (outM j m = outM j j.items.length) := by show outM j m = _; rw [hmn]
        have hki : decide ((m : Int) < (j.items.length : Int)) = false := by simp; omega
        clear hmn
        go_wp2_with fail
        go_ret
        exact ⟨vo, rfl, by have h := HS.out.buf; rw [HF.out] at h; exact h, HS.out.app⟩
  · have hkK : j.k = 4 := by omega
    rw [hkK] at H0 HSUC ⊢
    clear HLEN' k5 hkK hk h4
    go_enter Tryd.func18, Tryd.ntmps18
    go_wp2_with fail
    go_loopw [0, 9] (fun o i wr => ∃ m : Nat, ∃ vo, m ≤ j.items.length ∧ i = .int .i64 m ∧ vo = o ∧ Hid (St w v B w.heap.size (.cells #[.int .i64 4, .int .i64 j.n, .string ⟨j.t.toArray⟩, .slice ka j.keys.length kc, .slice ia j.items.length ic] 28) wr vo (bs ++ outM j m))) (fun _ i _ => j.items.length - (intOf i).toNat)
    case atStart => exact ⟨0, v, Nat.zero_le _, rfl, rfl, H0.out⟩
    case round =>
      obtain ⟨m, vo, hm, rfl, rfl, HS⟩ := hrel
      by_cases hlt : m < j.items.length
      · obtain ⟨b, off, kx, kcx, ix, icx, rfl, hbB, c0, c1, c2, c3, c4, hr⟩ := HI.out.item m hlt
        have HBB : Hid (b < B) := hbB
        have HG := HGI.out _ (List.getElem_mem hlt)
        have HX0 := IH.out _ (List.getElem_mem hlt)
        have HX : Hid (∀ W vv l, St w v B w.heap.size (.cells #[.int .i64 4, .int .i64 j.n, .string ⟨j.t.toArray⟩, .slice ka j.keys.length kc, .slice (some ⟨b, off, none⟩) j.items.length ic] 28) W vv l → l.length + (pr j.items[m]).length ≤ 900000000000 → Calls Tryd.prog 9 #[vv, .agg #[.int .i64 j.items[m].k, .int .i64 j.items[m].n, .string ⟨j.items[m].t.toArray⟩, .slice kx j.items[m].keys.length kcx, .slice ix j.items[m].items.length icx]] W fun e w' => ∃ v', e = .returned v' ∧ St w v B w.heap.size (.cells #[.int .i64 4, .int .i64 j.n, .string ⟨j.t.toArray⟩, .slice ka j.keys.length kc, .slice (some ⟨b, off, none⟩) j.items.length ic] 28) w' v' (l ++ pr j.items[m])) := fun W vv l hst hll =>
          (HX0 _ B vv l W HG.1 HG.2 (hr.below hst.bel) hst.buf hst.le hll (HT.out.on hst.bel)).mono (fun e w' ⟨v', he, hb', ha'⟩ => ⟨v', he, hst.push hb' ha'⟩)
        have HSm : Hid (outM j (m + 1) = _) := HSUC.out m hlt
        have HLO : Hid (bs.length + (outM j (m + 1)).length + 1 ≤ 900000000000) := HOL.out (m + 1)
        clear hr HG HX0 hbB
        have hmi : (m : Int) < (j.items.length : Int) := by omega
        generalize j.items[m] = x at *
        obtain ⟨o', ho'⟩ : ∃ o', o' = outM j (m + 1) := ⟨_, rfl⟩
        rw [← ho'] at HSm HLO
        have HO : Hid (o' = outM j (m + 1)) := ho'
        clear ho'
        generalize outM j m = o at *
        generalize pr x = px at *
        by_cases h0 : m = 0
        · have hd : decide (0 < m) = false := by simp; omega
          have HF : Hid (o' = o ++ ([] ++ ([] ++ px))) := by
            have := HSm.out
            rw [if_pos h0, if_neg (by omega)] at this
            exact this
          clear HSm h0
          have x0 := cell_at (o := 0) HS.out.at_ rfl
          have x3 := cell_at (o := 3) HS.out.at_ rfl
          have x4 := cell_at (o := 4) HS.out.at_ rfl
          have d0 := keepB HS.out.bel HBB.out c0
          have d1 := keepB HS.out.bel HBB.out c1
          have d2 := keepB HS.out.bel HBB.out c2
          have d3 := keepB HS.out.bel HBB.out c3
          have d4 := keepB HS.out.bel HBB.out c4
          go_wp2_with (first
            | (go_at_call 9; refine (HX.out _ vo (bs ++ o) HS.out (by have h1 := HLO.out; have h2 := congrArg List.length HF.out; simp only [List.length_append, List.length_cons, List.length_nil] at h1 h2 ⊢; omega)).mono ?_; rintro e w1 ⟨v1, rfl, hst⟩; have H1 : Hid (St w v B w.heap.size (.cells #[.int .i64 4, .int .i64 j.n, .string ⟨j.t.toArray⟩, .slice ka j.keys.length kc, .slice (some ⟨b, off, none⟩) j.items.length ic] 28) w1 v1 ((bs ++ o) ++ px)) := hst; clear hst))
          go_roundw
          case rel => exact ⟨m + 1, v1, by omega, by go_num, rfl, by show St _ _ _ _ _ _ _ _; have h := H1.out; rw [← HO.out, HF.out]; simpa [List.append_assoc] using h⟩
          case measure => simp [intOf]; omega
        · have hd : decide (0 < m) = true := by simp; omega
          have HF : Hid (o' = o ++ ([44] ++ ([] ++ px))) := by
            have := HSm.out
            rw [if_neg h0, if_neg (by omega)] at this
            exact this
          clear HSm h0
          have x0 := cell_at (o := 0) HS.out.at_ rfl
          have x3 := cell_at (o := 3) HS.out.at_ rfl
          have x4 := cell_at (o := 4) HS.out.at_ rfl
          have d0 := keepB HS.out.bel HBB.out c0
          have d1 := keepB HS.out.bel HBB.out c1
          have d2 := keepB HS.out.bel HBB.out c2
          have d3 := keepB HS.out.bel HBB.out c3
          have d4 := keepB HS.out.bel HBB.out c4
          go_wp2_with (first
            | (at_builtin; (refine wpList_pushS HS.out rfl (.tmp 14) (.tmp 15) rfl 44 44 rfl rfl rfl (by have h1 := HLO.out; have h2 := congrArg List.length HF.out; simp only [List.length_append, List.length_cons, List.length_nil] at h1 h2 ⊢; omega) ?_; intro v1 w1 hst; have H1 : Hid (St w v B w.heap.size (.cells #[.int .i64 4, .int .i64 j.n, .string ⟨j.t.toArray⟩, .slice ka j.keys.length kc, .slice (some ⟨b, off, none⟩) j.items.length ic] 28) w1 v1 ((bs ++ o) ++ [44])) := hst; clear hst; have x0 := cell_at (o := 0) H1.out.at_ rfl; have x3 := cell_at (o := 3) H1.out.at_ rfl; have x4 := cell_at (o := 4) H1.out.at_ rfl; have d0 := keepB H1.out.bel HBB.out c0; have d1 := keepB H1.out.bel HBB.out c1; have d2 := keepB H1.out.bel HBB.out c2; have d3 := keepB H1.out.bel HBB.out c3; have d4 := keepB H1.out.bel HBB.out c4))
            | (go_at_call 9; refine (HX.out _ v1 ((bs ++ o) ++ [44]) H1.out (by have h1 := HLO.out; have h2 := congrArg List.length HF.out; simp only [List.length_append, List.length_cons, List.length_nil] at h1 h2 ⊢; omega)).mono ?_; rintro e w2 ⟨v2, rfl, hst⟩; have H2 : Hid (St w v B w.heap.size (.cells #[.int .i64 4, .int .i64 j.n, .string ⟨j.t.toArray⟩, .slice ka j.keys.length kc, .slice (some ⟨b, off, none⟩) j.items.length ic] 28) w2 v2 (((bs ++ o) ++ [44]) ++ px)) := hst; clear hst))
          go_roundw
          case rel => exact ⟨m + 1, v2, by omega, by go_num, rfl, by show St _ _ _ _ _ _ _ _; have h := H2.out; rw [← HO.out, HF.out]; simpa [List.append_assoc] using h⟩
          case measure => simp [intOf]; omega
      · have hmn : m = j.items.length := by omega
        have HF : Hid (outM j m = outM j j.items.length) := by show outM j m = _; rw [hmn]
        have hki : decide ((m : Int) < (j.items.length : Int)) = false := by simp; omega
        clear hmn
        go_wp2_with fail
        go_ret
        exact ⟨vo, rfl, by have h := HS.out.buf; rw [HF.out] at h; exact h, HS.out.app⟩
end Go.Proofs.YtodgijhpokjjhaaDoor
