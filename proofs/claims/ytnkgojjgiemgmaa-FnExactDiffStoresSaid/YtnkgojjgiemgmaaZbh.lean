import Derived.Test.YtnkgojjgiemgmaaZbb
import Derived.Test.YtnkgojjgiemgmaaZbe
import Derived.Test.YtnkgojjgiemgmaaZbg
import Derived.Deep.CutRange
import Derived.Test.YtnkgojjgiemgmaaZTk
namespace Go.Proofs.Ytnkgojjgiemgmaa
open Go.RowKit
set_option linter.unusedSimpArgs false
def foldI (l : List RowV) (I : List Int) : List Int := l.foldl (fun I r => putI I r.id) I
def idsOf (la lb : List RowV) : List Int := foldI lb (foldI la [])
def chV (t id : Int) (o n : RowV) : ChV := ⟨t, id, o.id, o.cells, n.id, n.cells⟩
noncomputable def chg (t : Int) (la lb : List RowV) (id : Int) : List ChV := if eqB (rowD la id) (rowD lb id) = true then [] else [chV t id (rowD la id) (rowD lb id)]
noncomputable def diffT (t : Int) (la lb : List RowV) : List ChV := (idsOf la lb).flatMap (chg t la lb)
noncomputable def preT (ta tb : List (List RowV)) (k : Nat) : List ChV := (List.range k).flatMap (fun t : Nat => diffT t (ta.getD t []) (tb.getD t []))
theorem preT_zero (ta tb : List (List RowV)) : preT ta tb 0 = [] := rfl
theorem getD_tbl {l : List (List RowV)} {i : Nat} (h : i < l.length) : l.getD i [] = l[i] := by rw [List.getD_eq_getElem?_getD, List.getElem?_eq_getElem h]; rfl
theorem preT_succ {ta tb : List (List RowV)} {k : Nat} (ha : k < ta.length) (hb : k < tb.length) : preT ta tb (k + 1) = preT ta tb k ++ diffT k ta[k] tb[k] := by
  unfold preT
  rw [List.range_succ, List.flatMap_append]
  simp [List.getElem?_eq_getElem ha, List.getElem?_eq_getElem hb]
theorem foldI_take {l : List RowV} {I : List Int} {k : Nat} (h : k < l.length) : foldI (l.take (k + 1)) I = putI (foldI (l.take k) I) l[k].id := by
  unfold foldI
  rw [List.take_succ_eq_append_getElem h, List.foldl_append]; rfl
theorem putI_len (F : List Int) (n : Int) : (putI F n).length ≤ F.length + 1 := by
  unfold putI
  split
  · omega
  · simp; omega
theorem foldI_len : ∀ (l : List RowV) (I : List Int), (foldI l I).length ≤ I.length + l.length
  | [], I => Nat.le_refl _
  | r :: l, I => by
    have h1 := foldI_len l (putI I r.id)
    have h2 := putI_len I r.id
    show (foldI l (putI I r.id)).length ≤ I.length + (l.length + 1)
    omega
theorem flat_take {α β : Type} {l : List α} {f : α → List β} {k : Nat} (h : k < l.length) : (l.take (k + 1)).flatMap f = (l.take k).flatMap f ++ f l[k] := by
  rw [List.take_succ_eq_append_getElem h, List.flatMap_append]; simp
theorem chg_no {t : Int} {la lb : List RowV} {id : Int} (h : eqB (rowD la id) (rowD lb id) = true) : chg t la lb id = [] := by unfold chg; rw [if_pos h]
theorem chg_yes {t : Int} {la lb : List RowV} {id : Int} (h : eqB (rowD la id) (rowD lb id) = false) : chg t la lb id = [chV t id (rowD la id) (rowD lb id)] := by unfold chg; rw [if_neg (by simp [h])]
theorem chg_len (t : Int) (la lb : List RowV) (id : Int) : (chg t la lb id).length ≤ 1 := by unfold chg; split <;> simp
theorem flat_pre {α β : Type} {f : α → List β} (l : List α) (k : Nat) : ((l.take k).flatMap f).length ≤ (l.flatMap f).length := by
  have h : l.flatMap f = (l.take k).flatMap f ++ (l.drop k).flatMap f := by rw [← List.flatMap_append, List.take_append_drop]
  rw [h, List.length_append]; omega
theorem infoCh : ∃ i, Try.prog.info? 56 = some i ∧ i.zero = some (.agg #[.int .i64 0, .int .i64 0, .int .i64 0, .slice none 0 0, .int .i64 0, .slice none 0 0]) ∧ i.size = 6 ∧ i.bytes = 80 := by
  have h : (Try.prog.info? 56).map (fun i => (i.zero, i.size, i.bytes)) = some (some (.agg #[.int .i64 0, .int .i64 0, .int .i64 0, .slice none 0 0, .int .i64 0, .slice none 0 0]), 6, 80) := by kernel_rfl
  obtain ⟨i, hi, hzz⟩ := Option.map_eq_some_iff.1 h
  simp only [Prod.mk.injEq] at hzz
  exact ⟨i, hi, hzz⟩
theorem rowD_le {rows : List RowV} (h : (dRowS rows).le 1048576) (id : Int) : (dAtomSS (rowD rows id).cells).le maxLen := by
  rcases rpl_cases rows id with ⟨hp, -⟩ | ⟨k, hk, hp, -⟩
  · rw [rowD_none hp]; exact Ls_le.2 ⟨by omega, Nat.zero_le _, fun i hi => absurd hi (by simp [rowZ])⟩
  · rw [rowD_at hk hp]; exact D.le.mono (by unfold maxLen; omega) _ ((Ls_le.1 h).2.2 k hk 1 (by omega))
structure DfB (w W : World) (av bv : Value) (an bn : Int) (P : List ChV) (v : Value) : Prop where
  a : W.heap[w.heap.size]? = some (.cells #[av, .int .i64 an] 31)
  b : W.heap[w.heap.size + 1]? = some (.cells #[bv, .int .i64 bn] 31)
  gr : SG W (w.heap.size + 1 + 1) (fun d => w.heap.size ≤ d) 56 6 (lsF dChange P) P.length v
  bel : Below w.heap.size w W
theorem DfB.later {w W W' : World} {av bv : Value} {an bn : Int} {P : List ChV} {v : Value} (h : DfB w W av bv an bn P v) (hB : Below W.heap.size W W') : DfB w W' av bv an bn P v := ⟨heap_keptD h.a hB, heap_keptD h.b hB, h.gr.later hB, h.bel.trans (hB.mono h.bel.size)⟩
theorem DfB.first (w : World) (av bv : Value) (an bn : Int) : DfB w (((w.alloc (.cells #[av, .int .i64 an] 31)).alloc (.cells #[bv, .int .i64 bn] 31)).alloc (.cells #[] 56)) av bv an bn [] (.slice (some ⟨w.heap.size + 1 + 1, 0, none⟩) 0 0) := by
  have s1 := size_allocD w (.cells #[av, .int .i64 an] 31)
  have e1 := heap_newD (w.alloc (.cells #[av, .int .i64 an] 31)) (.cells #[bv, .int .i64 bn] 31)
  have s2 := size_allocD (w.alloc (.cells #[av, .int .i64 an] 31)) (.cells #[bv, .int .i64 bn] 31)
  have e2 := heap_newD ((w.alloc (.cells #[av, .int .i64 an] 31)).alloc (.cells #[bv, .int .i64 bn] 31)) (.cells #[] 56)
  rw [s1] at e1 s2
  rw [s2] at e2
  exact ⟨heap_keptD (heap_keptD (heap_newD _ _) (below_allocD _ _)) (below_allocD _ _), heap_keptD e1 (below_allocD _ _), SG.start (Nat.le_refl _) e2, (((Below.refl _ _).alloc (Nat.le_refl _) _).alloc (by simp) _).alloc (by simp; omega) _⟩
theorem DfB.push {w W w3 : World} {av bv : Value} {an bn : Int} {P P' : List ChV} {v v' : Value} (h : DfB w W av bv an bn P v) (hs : SG w3 (w.heap.size + 1 + 1) (fun d => w.heap.size ≤ d) 56 6 (lsF dChange P') P'.length v') (hg : W.grownBy w3 v.ownBlock) : DfB w w3 av bv an bn P' v' := by
  have hn : ∀ b, b < w.heap.size + 1 + 1 → some b ≠ v.ownBlock := fun b hb e => by have := (h.gr.low e.symm).1; omega
  refine ⟨?_, ?_, hs, h.bel.trans ⟨hg.os, hg.tape, hg.output, hg.size, fun b hb => hg.block b (Nat.lt_of_lt_of_le hb h.bel.size) (hn b (by omega))⟩⟩
  · rw [hg.block _ (Array.getElem?_eq_some_iff.1 h.a).1 (hn _ (by omega))]; exact h.a
  · rw [hg.block _ (Array.getElem?_eq_some_iff.1 h.b).1 (hn _ (by omega))]; exact h.b
def IdS (W : World) (v : Value) (I : List Int) (ib io ic : Nat) : Prop := Rd W (fun d => v.ownBlock ≠ some d) (dIntS I) (.slice (some ⟨ib, io, none⟩) I.length ic) ∧ I.length ≤ ic
theorem IdS.later {W W' : World} {v : Value} {I : List Int} {ib io ic : Nat} (h : IdS W v I ib io ic) (hB : Below W.heap.size W W') : IdS W' v I ib io ic := ⟨h.1.later hB, h.2⟩
theorem IdS.grown {W w3 : World} {v v' : Value} {I : List Int} {ib io ic : Nat} (h : IdS W v I ib io ic) (hg : W.grownBy w3 v.ownBlock) (hv : ∃ g, v'.ownBlock = some g ∧ (v.ownBlock = some g ∨ W.heap.size ≤ g)) : IdS w3 v' I ib io ic := by
  refine ⟨?_, h.2⟩
  refine Rd.same (B := fun d => v.ownBlock ≠ some d ∧ d < W.heap.size) (fun b hb => hg.block b hb.2 (fun e => hb.1 e.symm)) (fun b hb => ?_) _ _ (Rd.inside _ _ h.1)
  obtain ⟨g, e, hg⟩ := hv
  intro e2
  rw [e] at e2
  cases e2
  rcases hg with hg | hg
  · exact hb.1 hg
  · omega
theorem lsC_app {P : List ChV} {c : ChV} {i : Nat} (h : i < P.length) (j : Nat) : lsF dChange (P ++ [c]) i j = lsF dChange P i j := by
  rw [lsF_at (by simp; omega), lsF_at h, List.getElem_append_left h]
theorem lsC_last {P : List ChV} {c : ChV} : lsF dChange (P ++ [c]) P.length = dChange c := by
  rw [lsF_at (by simp)]; simp
set_option maxRecDepth 100000 in
set_option maxHeartbeats 25600000 in
theorem diffS (x y : StV) (xa : Option Addr) (xc : Nat) (A : Nat → Prop) (ya : Option Addr) (yc : Nat) (B : Nat → Prop) (w : World) (hx : (dRowSS x.tables).le 1048576) (hy : (dRowSS y.tables).le 1048576) (hlen : x.tables.length = y.tables.length) (hN : ∀ k, k ≤ x.tables.length → (preT x.tables y.tables k).length ≤ 4000000) (rx : Rd w A (dRowSS x.tables) (.slice xa x.tables.length xc)) (ry : Rd w B (dRowSS y.tables) (.slice ya y.tables.length yc)) :
    Calls Try.prog 15 #[.agg #[.slice xa x.tables.length xc, .int .i64 x.next], .agg #[.slice ya y.tables.length yc, .int .i64 y.next]] w fun e w' => ∃ a c, e = .returned (.slice a (preT x.tables y.tables x.tables.length).length c) ∧ Rd w' (fun d => w.heap.size ≤ d ∧ d < w'.heap.size) (dChangeS (preT x.tables y.tables x.tables.length)) (.slice a (preT x.tables y.tables x.tables.length).length c) ∧ Below w.heap.size w w' := by
  have HX : Hid (∀ W, Below w.heap.size w W → Rd W A (Ls 1 cRowS x.tables) (.slice xa x.tables.length xc)) := fun W h => Rd.later rx h
  have HY : Hid (∀ W, Below w.heap.size w W → Rd W B (Ls 1 cRowS y.tables) (.slice ya y.tables.length yc)) := fun W h => Rd.later ry h
  have HO : Hid ((∀ k (h : k < x.tables.length), (dRowS x.tables[k]).le 1048576) ∧ ∀ k (h : k < y.tables.length), (dRowS y.tables[k]).le 1048576) := ⟨fun k h => (Ls_le.1 hx).2.2 k h 0 (by omega), fun k h => (Ls_le.1 hy).2.2 k h 0 (by omega)⟩
  have hxl : x.tables.length ≤ 1048576 := (Ls_le.1 hx).2.1
  have HLE := Lib.hid hlen
  have HN := Lib.hid hN
  obtain ⟨iC, hiC⟩ := infoCh
  have HIC := Lib.hid hiC
  have H0 := Lib.hid (DfB.first w (.slice xa x.tables.length xc) (.slice ya y.tables.length yc) x.next y.next)
  clear hx hy hlen hN rx ry hiC
  go_enter Try.func15, Try.ntmps15
  go_wp2_with fail
  go_loopw [5, 6] (fun v i wr => ∃ k : Nat, k ≤ x.tables.length ∧ i = .int .i64 k ∧ ∃ (P : List ChV) (va : Option Addr) (vq : Nat), v = .slice va P.length vq ∧ Hid (P = preT x.tables y.tables k ∧ DfB w wr (.slice xa x.tables.length xc) (.slice ya y.tables.length yc) x.next y.next P (.slice va P.length vq))) (fun _ i _ => x.tables.length - (intOf i).toNat)
  case atStart => exact ⟨0, Nat.zero_le _, rfl, [], _, _, rfl, (preT_zero _ _).symm, H0.out⟩
  case round =>
    obtain ⟨k, hk, rfl, P, va, vq, rfl, HW⟩ := hrel
    have x0 := cell_at (o := 0) HW.out.2.a rfl
    by_cases hlt : k < x.tables.length
    case neg =>
      have hki : decide ((k : Int) < (x.tables.length : Int)) = false := by simp; omega
      have HE : Hid (P = preT x.tables y.tables x.tables.length) := by
        have := HW.out.1
        rw [show k = x.tables.length by omega] at this
        exact this
      go_wp2_with fail
      go_ret
      rw [← HE.out]
      exact ⟨va, vq, rfl, (HW.out.2.gr.rd (by omega) (fun g hg => by have := (HW.out.2.gr.low hg).1; omega)), HW.out.2.bel⟩
    have hki : (k : Int) < (x.tables.length : Int) := by omega
    have hlt2 : k < y.tables.length := by have := HLE.out; omega
    have hki2 : (k : Int) < (y.tables.length : Int) := by omega
    obtain ⟨ab, ao, rfl, -, ca⟩ := (HX.out w (Below.refl _ _)).things k hlt
    obtain ⟨u0, t0, q0⟩ := ca 0 (by omega)
    replace q0 : Rd w A (dRowS x.tables[k]) u0 := q0
    obtain ⟨ra, rc, rfl⟩ := q0.lsSlice
    rw [Nat.mul_one, Nat.add_zero] at t0
    obtain ⟨bb, bo, rfl, -, cb⟩ := (HY.out w (Below.refl _ _)).things k hlt2
    obtain ⟨u1, t1, q1⟩ := cb 0 (by omega)
    replace q1 : Rd w B (dRowS y.tables[k]) u1 := q1
    obtain ⟨rb, rd, rfl⟩ := q1.lsSlice
    rw [Nat.mul_one, Nat.add_zero] at t1
    have TC : Hid (∀ W, Below w.heap.size w W → W.cell? ⟨ab, ao + k, none⟩ = some (.slice ra x.tables[k].length rc) ∧ W.cell? ⟨bb, bo + k, none⟩ = some (.slice rb y.tables[k].length rd)) := fun W h => ⟨(h.cell (p := ⟨ab, ao + k, none⟩) (World.block_lt_of_cell? _ _ t0)).trans t0, (h.cell (p := ⟨bb, bo + k, none⟩) (World.block_lt_of_cell? _ _ t1)).trans t1⟩
    have RA : Hid (∀ W, Below w.heap.size w W → Rd W A (Ls 2 dRow x.tables[k]) (.slice ra x.tables[k].length rc)) := fun W h => Rd.later q0 h
    have RB : Hid (∀ W, Below w.heap.size w W → Rd W B (Ls 2 dRow y.tables[k]) (.slice rb y.tables[k].length rd)) := fun W h => Rd.later q1 h
    have HLA := Lib.hid (HO.out.1 k hlt)
    have HLB := Lib.hid (HO.out.2 k hlt2)
    have HST : Hid (preT x.tables y.tables (k + 1) = P ++ diffT k x.tables[k] y.tables[k] ∧ (P ++ diffT k x.tables[k] y.tables[k]).length ≤ 4000000) := by
      have h := preT_succ hlt hlt2
      rw [← HW.out.1] at h
      exact ⟨h, by rw [← h]; exact HN.out _ (by omega)⟩
    have hla : x.tables[k].length ≤ 1048576 := (Ls_le.1 HLA.out).2.1
    have hlb : y.tables[k].length ≤ 1048576 := (Ls_le.1 HLB.out).2.1
    clear ca cb t0 t1 q0 q1 x0
    generalize x.tables[k] = la at *
    generalize y.tables[k] = lb at *
    have x0 := cell_at (o := 0) HW.out.2.a rfl
    generalize wr = wo at *
    have HW0 := Lib.hid (HW.out.2.later (below_allocD wo (.cells #[] 3)))
    have HI0 : Hid (IdS (wo.alloc (.cells #[] 3)) (.slice va P.length vq) [] wo.heap.size 0 0) := ⟨Rd.lsNil _ _, Nat.le_refl _⟩
    go_wp2_with fail
    clear x0
    go_loopw [7, 8] (fun ids i wr => ∃ k2 : Nat, k2 ≤ la.length ∧ i = .int .i64 k2 ∧ ∃ (I : List Int) (ib io ic : Nat), ids = .slice (some ⟨ib, io, none⟩) I.length ic ∧ Hid (I = foldI (la.take k2) [] ∧ IdS wr (.slice va P.length vq) I ib io ic ∧ DfB w wr (.slice (some ⟨ab, ao, none⟩) x.tables.length xc) (.slice (some ⟨bb, bo, none⟩) y.tables.length yc) x.next y.next P (.slice va P.length vq))) (fun _ i _ => la.length - (intOf i).toNat)
    case atStart => exact ⟨0, Nat.zero_le _, rfl, [], wo.heap.size, 0, 0, rfl, rfl, HI0.out, HW0.out⟩
    case round =>
      obtain ⟨k2, hk2, rfl, I, ib, io, ic, rfl, HV⟩ := hrel
      have x0 := cell_at (o := 0) HV.out.2.2.a rfl
      obtain ⟨t0, t1⟩ := TC.out _ HV.out.2.2.bel
      by_cases hlk2 : k2 < la.length
      case pos =>
        have hik2 : (k2 : Int) < (la.length : Int) := by omega
        obtain ⟨b, off, rfl, -, hc⟩ := (RA.out _ HV.out.2.2.bel).things k2 hlk2
        obtain ⟨u0, c0, r0⟩ := hc 0 (by omega)
        obtain rfl : u0 = .int .i64 la[k2].id := r0
        rw [Nat.add_zero] at c0
        clear hc
        have HS2 := Lib.hid (foldI_take (I := []) hlk2)
        have HIL : Hid (I.length ≤ 4000000) := by
          have h1 := foldI_len (la.take k2) []
          have h2 : (la.take k2).length ≤ la.length := List.length_take_le' _ _
          rw [← HV.out.1] at h1
          show I.length ≤ 4000000
          simp at h1; omega
        have PU : Hid (Calls Try.prog 29 #[.slice (some ⟨ib, io, none⟩) I.length ic, .int .i64 la[k2].id] wr (PutIns wr (fun d => Value.ownBlock (.slice va P.length vq) ≠ some d) (putI I la[k2].id))) := putIs I la[k2].id ib io ic _ wr HIL.out HV.out.2.1.1 HV.out.2.1.2
        have HS3 : Hid (putI I la[k2].id = foldI (la.take (k2 + 1)) []) := by show putI I _ = _; rw [HS2.out, HV.out.1]
        clear HS2
        generalize la[k2].id = rid at *
        go_wp2_with fail
        refine PU.out.mono ?_
        rintro e w1 ⟨jb, jo, jc, rfl, hrd, hcp, hB⟩
        have HID : Hid (IdS w1 (.slice va P.length vq) (putI I rid) jb jo jc) := ⟨hrd.mono (fun d hd => by
          rcases hd with h | h
          · exact h
          · intro e; have := (HV.out.2.2.gr.low e).2; omega), hcp⟩
        have HDF := Lib.hid (HV.out.2.2.later hB)
        clear hrd hcp hB PU x0 t0 t1 c0
        generalize putI I rid = I2 at *
        go_wp2_with fail
        go_roundw
        case rel => exact ⟨k2 + 1, by omega, by go_num, I2, jb, jo, jc, rfl, HS3.out, HID.out, HDF.out⟩
        case measure => simp [intOf]; omega
      have hik2 : decide ((k2 : Int) < (la.length : Int)) = false := by simp; omega
      have hjk2 : ¬ (k2 : Int) < (la.length : Int) := by omega
      have HI2 : Hid (I = foldI la []) := by have h := HV.out.1; rw [List.take_of_length_le (by omega)] at h; exact h
      go_wp2_with fail
      clear x0 t0 t1 hik2 hjk2
      generalize wr = wp at *
      have HI3 : Hid (I = foldI (lb.take 0) (foldI la [])) := HI2.out
      go_loopw [7, 9] (fun ids i wr => ∃ k3 : Nat, k3 ≤ lb.length ∧ i = .int .i64 k3 ∧ ∃ (I : List Int) (ib io ic : Nat), ids = .slice (some ⟨ib, io, none⟩) I.length ic ∧ Hid (I = foldI (lb.take k3) (foldI la []) ∧ IdS wr (.slice va P.length vq) I ib io ic ∧ DfB w wr (.slice (some ⟨ab, ao, none⟩) x.tables.length xc) (.slice (some ⟨bb, bo, none⟩) y.tables.length yc) x.next y.next P (.slice va P.length vq))) (fun _ i _ => lb.length - (intOf i).toNat)
      case atStart => exact ⟨0, Nat.zero_le _, rfl, I, ib, io, ic, rfl, HI3.out, HV.out.2.1, HV.out.2.2⟩
      case round =>
        obtain ⟨k3, hk3, rfl, I, ib, io, ic, rfl, HV⟩ := hrel
        have x0 := cell_at (o := 0) HV.out.2.2.b rfl
        obtain ⟨t0, t1⟩ := TC.out _ HV.out.2.2.bel
        by_cases hlk3 : k3 < lb.length
        case pos =>
          have hik3 : (k3 : Int) < (lb.length : Int) := by omega
          obtain ⟨b, off, rfl, -, hc⟩ := (RB.out _ HV.out.2.2.bel).things k3 hlk3
          obtain ⟨u0, c0, r0⟩ := hc 0 (by omega)
          obtain rfl : u0 = .int .i64 lb[k3].id := r0
          rw [Nat.add_zero] at c0
          clear hc
          have HS2 := Lib.hid (foldI_take (I := (foldI la [])) hlk3)
          have HIL : Hid (I.length ≤ 4000000) := by
            have h1 := foldI_len (lb.take k3) (foldI la [])
            have h2 : (lb.take k3).length ≤ lb.length := List.length_take_le' _ _
            have h3 := foldI_len la []
            rw [← HV.out.1] at h1
            show I.length ≤ 4000000
            simp at h1 h3; omega
          have PU : Hid (Calls Try.prog 29 #[.slice (some ⟨ib, io, none⟩) I.length ic, .int .i64 lb[k3].id] wr (PutIns wr (fun d => Value.ownBlock (.slice va P.length vq) ≠ some d) (putI I lb[k3].id))) := putIs I lb[k3].id ib io ic _ wr HIL.out HV.out.2.1.1 HV.out.2.1.2
          have HS3 : Hid (putI I lb[k3].id = foldI (lb.take (k3 + 1)) (foldI la [])) := by show putI I _ = _; rw [HS2.out, HV.out.1]
          clear HS2
          generalize lb[k3].id = rid at *
          go_wp2_with fail
          refine PU.out.mono ?_
          rintro e w1 ⟨jb, jo, jc, rfl, hrd, hcp, hB⟩
          have HID : Hid (IdS w1 (.slice va P.length vq) (putI I rid) jb jo jc) := ⟨hrd.mono (fun d hd => by
            rcases hd with h | h
            · exact h
            · intro e; have := (HV.out.2.2.gr.low e).2; omega), hcp⟩
          have HDF := Lib.hid (HV.out.2.2.later hB)
          clear hrd hcp hB PU x0 t0 t1 c0
          generalize putI I rid = I2 at *
          go_wp2_with fail
          go_roundw
          case rel => exact ⟨k3 + 1, by omega, by go_num, I2, jb, jo, jc, rfl, HS3.out, HID.out, HDF.out⟩
          case measure => simp [intOf]; omega
        have hik3 : decide ((k3 : Int) < (lb.length : Int)) = false := by simp; omega
        have hjk3 : ¬ (k3 : Int) < (lb.length : Int) := by omega
        have HI4 : Hid (I = idsOf la lb) := by have h := HV.out.1; rw [List.take_of_length_le (by omega)] at h; exact h
        go_wp2_with fail
        clear x0 t0 t1 hik3 hjk3
        generalize wr = wq at *
        have HDT : Hid (diffT k la lb = I.flatMap (chg k la lb)) := by show diffT _ _ _ = _; unfold diffT; rw [HI4.out]
        have HILn : Hid (I.length ≤ 4000000) := by
          have h1 := foldI_len la []
          have h2 := foldI_len lb (foldI la [])
          have h3 : I.length = (foldI lb (foldI la [])).length := by rw [HI4.out]; rfl
          show I.length ≤ 4000000
          simp at h1; omega
        have HDQ : Hid (DfB w wq (.slice (some ⟨ab, ao, none⟩) x.tables.length xc) (.slice (some ⟨bb, bo, none⟩) y.tables.length yc) x.next y.next P (.slice va P.length vq)) := HV.out.2.2
        have HIQ := Lib.hid HV.out.2.1
        go_loopw [5, 10] (fun v i wr => ∃ k4 : Nat, k4 ≤ I.length ∧ i = .int .i64 k4 ∧ ∃ (Q : List ChV) (va2 : Option Addr) (vq2 : Nat), v = .slice va2 Q.length vq2 ∧ Hid (Q = P ++ (I.take k4).flatMap (chg k la lb) ∧ IdS wr (.slice va2 Q.length vq2) I ib io ic ∧ DfB w wr (.slice (some ⟨ab, ao, none⟩) x.tables.length xc) (.slice (some ⟨bb, bo, none⟩) y.tables.length yc) x.next y.next Q (.slice va2 Q.length vq2))) (fun _ i _ => I.length - (intOf i).toNat)
        case atStart => exact ⟨0, Nat.zero_le _, rfl, P, va, vq, rfl, by simp, HIQ.out, HDQ.out⟩
        case round =>
          obtain ⟨k4, hk4, rfl, Q, va2, vq2, rfl, HU⟩ := hrel
          by_cases hl4 : k4 < I.length
          case neg =>
            have hi4 : decide ((k4 : Int) < (I.length : Int)) = false := by simp; omega
            have hj4 : ¬ (k4 : Int) < (I.length : Int) := by omega
            have HE : Hid (Q = preT x.tables y.tables (k + 1)) := by have h := HU.out.1; rw [List.take_of_length_le (by omega), ← HDT.out, ← HST.out.1] at h; exact h
            go_wp2_with fail
            go_roundw
            case rel => exact ⟨k + 1, by omega, by go_num, Q, va2, vq2, rfl, HE.out, HU.out.2.2⟩
            case measure => simp [intOf]; omega
          have hi4 : (k4 : Int) < (I.length : Int) := by omega
          have HL4 := Lib.hid hl4
          have hIl := HILn.out
          have HFT : Hid ((I.take (k4 + 1)).flatMap (chg k la lb) = (I.take k4).flatMap (chg k la lb) ++ chg k la lb I[k4]) := flat_take hl4
          have HQL : Hid (Q.length ≤ 4000000) := by
            have h1 := flat_pre (f := chg k la lb) I k4
            have h2 := HST.out.2
            rw [HDT.out, List.length_append] at h2
            have h3 : Q.length = P.length + ((I.take k4).flatMap (chg k la lb)).length := by rw [HU.out.1, List.length_append]
            show Q.length ≤ 4000000
            omega
          have CI : Hid (∀ W, Below wr.heap.size wr W → W.cell? ⟨ib, io + k4, none⟩ = some (.int .i64 I[k4])) := fun W h => by
            obtain ⟨u, e, r⟩ := (HU.out.2.1.1.later h).spotT (d := cInt) (n := 1) hl4 (j := 0) (by omega)
            obtain rfl : u = .int .i64 I[k4] := r
            rw [Nat.mul_one, Nat.add_zero] at e
            exact e
          have L1 : Hid (∀ W, Below wr.heap.size wr W → Calls Try.prog 30 #[.slice ra la.length rc, .int .i64 I[k4]] W (RowNew W (rowD la I[k4]))) := fun W h => l10RowS la I[k4] ra rc _ W HLA.out (RA.out W (HU.out.2.2.bel.trans (h.mono HU.out.2.2.bel.size)))
          have L2 : Hid (∀ W, Below wr.heap.size wr W → Calls Try.prog 30 #[.slice rb lb.length rd, .int .i64 I[k4]] W (RowNew W (rowD lb I[k4]))) := fun W h => l10RowS lb I[k4] rb rd _ W HLB.out (RB.out W (HU.out.2.2.bel.trans (h.mono HU.out.2.2.bel.size)))
          have HCN : Hid (eqB (rowD la I[k4]) (rowD lb I[k4]) = true → Q = P ++ (I.take (k4 + 1)).flatMap (chg k la lb)) := fun h => by rw [HFT.out, chg_no h, List.append_nil]; exact HU.out.1
          have HCY : Hid (eqB (rowD la I[k4]) (rowD lb I[k4]) = false → Q ++ [chV k I[k4] (rowD la I[k4]) (rowD lb I[k4])] = P ++ (I.take (k4 + 1)).flatMap (chg k la lb)) := fun h => by rw [HFT.out, chg_yes h, ← List.append_assoc, ← HU.out.1]
          have HOL : Hid ((dAtomSS (rowD la I[k4]).cells).le maxLen ∧ (dAtomSS (rowD lb I[k4]).cells).le maxLen) := ⟨rowD_le HLA.out _, rowD_le HLB.out _⟩
          generalize rowD la I[k4] = o at *
          generalize rowD lb I[k4] = n at *
          generalize I[k4] = id at *
          have CE : Hid (∀ W, Below wr.heap.size wr W → W.cell? ⟨w.heap.size, 0, none⟩ = some (.slice (some ⟨ab, ao, none⟩) x.tables.length xc) ∧ W.cell? ⟨w.heap.size + 1, 0, none⟩ = some (.slice (some ⟨bb, bo, none⟩) y.tables.length yc) ∧ W.cell? ⟨ab, ao + k, none⟩ = some (.slice ra la.length rc) ∧ W.cell? ⟨bb, bo + k, none⟩ = some (.slice rb lb.length rd) ∧ W.cell? ⟨ib, io + k4, none⟩ = some (.int .i64 id)) := fun W h => by
            have hd := HU.out.2.2.later h
            have ht := TC.out _ hd.bel
            exact ⟨cell_at (o := 0) hd.a rfl, cell_at (o := 0) hd.b rfl, ht.1, ht.2, CI.out _ h⟩
          go_upto_region 17 with fail
          go_cut [11] from 69 to 94 (fun s wx => ∃ (qc : Nat) (oa : Option Addr) (oc : Nat) (na : Option Addr) (nc : Nat), s = .pointer (some ⟨qc, 0, none⟩) ∧ Hid (Below wr.heap.size wr wx ∧ wx.heap[qc]? = some (.cells #[.int .i64 k, .int .i64 id, .int .i64 o.id, .slice oa o.cells.length oc, .int .i64 n.id, .slice na n.cells.length nc] 56) ∧ wr.heap.size ≤ qc ∧ Rd wx (fun d => wr.heap.size ≤ d) (dAtomSS o.cells) (.slice oa o.cells.length oc) ∧ Rd wx (fun d => wr.heap.size ≤ d) (dAtomSS n.cells) (.slice na n.cells.length nc)))
          case first =>
            have B0 : Hid (Below wr.heap.size wr wr.drew) := (Below.refl _ _).drew
            refine wp_region_held_drew (S := (fun W => W.cell? ⟨w.heap.size, 0, none⟩ = some (.slice (some ⟨ab, ao, none⟩) x.tables.length xc) ∧ W.cell? ⟨w.heap.size + 1, 0, none⟩ = some (.slice (some ⟨bb, bo, none⟩) y.tables.length yc) ∧ W.cell? ⟨ab, ao + k, none⟩ = some (.slice ra la.length rc) ∧ W.cell? ⟨bb, bo + k, none⟩ = some (.slice rb lb.length rd) ∧ W.cell? ⟨ib, io + k4, none⟩ = some (.int .i64 id))) (by kernel_rfl) ?_ (fun hHeld => ?_)
            · (exact CE.out _ (by first | exact B9.out | exact B3.out | exact B2.out | exact B1.out | exact B0.out))
            refine wpAnyH_take (i := 0) (v := ?_) rfl (by kernel_rfl) (by kernel_rfl) (by kernel_rfl) (fun _ _ _ h => h) (Or.inl ⟨by kernel_rfl, ?_⟩) (by assumption) ?_
            rotate_left
            · (intro wS hSw; (try dsimp only at hSw); go_simp <;> with_reducible rfl)
            try simp only [Act.put, tkS]
            refine wpAnyH_take (i := 1) (v := ?_) rfl (by kernel_rfl) (by kernel_rfl) (by kernel_rfl) (fun _ _ _ h => h) (Or.inl ⟨by kernel_rfl, ?_⟩) (by assumption) ?_
            rotate_left
            · (intro wS hSw; (try dsimp only at hSw); go_simp <;> with_reducible rfl)
            try simp only [Act.put, tkS]
            refine wpAnyH_take (i := 2) (v := ?_) rfl (by kernel_rfl) (by kernel_rfl) (by kernel_rfl) (fun _ _ _ h => h) (Or.inl ⟨by kernel_rfl, ?_⟩) (by assumption) ?_
            rotate_left
            · (intro wS hSw; (try dsimp only at hSw); go_simp <;> with_reducible rfl)
            try simp only [Act.put, tkS]
            refine wpAnyH_take (i := 3) (v := ?_) rfl (by kernel_rfl) (by kernel_rfl) (by kernel_rfl) (fun _ _ _ h => h) (Or.inl ⟨by kernel_rfl, ?_⟩) (by assumption) ?_
            rotate_left
            · (intro wS hSw; (try dsimp only at hSw); go_simp <;> with_reducible rfl)
            try simp only [Act.put, tkS]
            refine wpAnyH_take (i := 4) (v := ?_) rfl (by kernel_rfl) (by kernel_rfl) (by kernel_rfl) (fun _ _ _ h => h) (Or.inl ⟨by kernel_rfl, ?_⟩) (by assumption) ?_
            rotate_left
            · (intro wS hSw; (try dsimp only at hSw); go_simp <;> with_reducible rfl)
            try simp only [Act.put, tkS]
            refine wpAnyH_take (i := 5) (v := ?_) rfl (by kernel_rfl) (by kernel_rfl) (by kernel_rfl) (fun _ _ _ h => h) (Or.inl ⟨by kernel_rfl, ?_⟩) (by assumption) ?_
            rotate_left
            · (intro wS hSw; (try dsimp only at hSw); go_simp <;> with_reducible rfl)
            try simp only [Act.put, tkS]
            refine wpAnyH_take (i := 6) (v := ?_) rfl (by kernel_rfl) (by kernel_rfl) (by kernel_rfl) (fun _ _ _ h => h) (Or.inl ⟨by kernel_rfl, ?_⟩) (by assumption) ?_
            rotate_left
            · (intro wS hSw; (try dsimp only at hSw); go_simp <;> with_reducible rfl)
            try simp only [Act.put, tkS]
            refine wpAnyH_take (i := 7) (v := ?_) rfl (by kernel_rfl) (by kernel_rfl) (by kernel_rfl) (fun _ _ _ h => h) (Or.inl ⟨by kernel_rfl, ?_⟩) (by assumption) ?_
            rotate_left
            · (intro wS hSw; (try dsimp only at hSw); go_simp <;> with_reducible rfl)
            try simp only [Act.put, tkS]
            refine wpAnyH_take (i := 8) (v := ?_) rfl (by kernel_rfl) (by kernel_rfl) (by kernel_rfl) (fun _ _ _ h => h) (Or.inl ⟨by kernel_rfl, ?_⟩) (by assumption) ?_
            rotate_left
            · (intro wS hSw; (try dsimp only at hSw); go_simp <;> with_reducible rfl)
            try simp only [Act.put, tkS]
            refine wpAnyH_take (i := 9) (v := ?_) rfl (by kernel_rfl) (by kernel_rfl) (by kernel_rfl) (fun _ _ _ h => h) (Or.inl ⟨by kernel_rfl, ?_⟩) (by assumption) ?_
            rotate_left
            · (intro wS hSw; (try dsimp only at hSw); go_simp <;> with_reducible rfl)
            try simp only [Act.put, tkS]
            refine wpAnyH_take (i := 10) (v := ?_) rfl (by kernel_rfl) (by kernel_rfl) (by kernel_rfl) (fun _ _ _ h => h) (Or.inl ⟨by kernel_rfl, ?_⟩) (by assumption) ?_
            rotate_left
            · (intro wS hSw; (try dsimp only at hSw); go_simp <;> with_reducible rfl)
            try simp only [Act.put, tkS]
            refine wpAnyH_take (i := 11) (v := ?_) rfl (by kernel_rfl) (by kernel_rfl) (by kernel_rfl) (fun _ _ _ h => h) (Or.inl ⟨by kernel_rfl, ?_⟩) (by assumption) ?_
            rotate_left
            · (intro wS hSw; (try dsimp only at hSw); go_simp <;> with_reducible rfl)
            try simp only [Act.put, tkS]
            refine wpAnyH_take (i := 12) (v := ?_) rfl (by kernel_rfl) (by kernel_rfl) (by kernel_rfl) (fun _ _ _ h => h) (Or.inl ⟨by kernel_rfl, ?_⟩) (by assumption) ?_
            rotate_left
            · (intro wS hSw; (try dsimp only at hSw); go_simp <;> with_reducible rfl)
            try simp only [Act.put, tkS]
            refine wpAnyH_take (i := 13) (v := ?_) rfl (by kernel_rfl) (by kernel_rfl) (by kernel_rfl) (fun _ _ _ h => h) (Or.inl ⟨by kernel_rfl, ?_⟩) (by assumption) ?_
            rotate_left
            · (intro wS hSw; (try dsimp only at hSw); go_simp <;> with_reducible rfl)
            try simp only [Act.put, tkS]
            refine wpAnyH_take (i := 15) (v := ?_) rfl (by kernel_rfl) (by kernel_rfl) (by kernel_rfl) (fun _ _ _ h => h) (Or.inl ⟨by kernel_rfl, ?_⟩) (by assumption) ?_
            rotate_left
            · (intro wS hSw; (try dsimp only at hSw); go_simp <;> with_reducible rfl)
            try simp only [Act.put, tkS]
            refine wpAnyH_take (i := 16) (v := ?_) rfl (by kernel_rfl) (by kernel_rfl) (by kernel_rfl) (fun _ _ _ h => h) (Or.inl ⟨by kernel_rfl, ?_⟩) (by assumption) ?_
            rotate_left
            · (intro wS hSw; (try dsimp only at hSw); go_simp <;> with_reducible rfl)
            try simp only [Act.put, tkS]
            refine wpAnyH_take (i := 17) (v := ?_) rfl (by kernel_rfl) (by kernel_rfl) (by kernel_rfl) (fun _ _ _ h => h) (Or.inl ⟨by kernel_rfl, ?_⟩) (by assumption) ?_
            rotate_left
            · (intro wS hSw; (try dsimp only at hSw); go_simp <;> with_reducible rfl)
            try simp only [Act.put, tkS]
            refine wpAnyH_take (i := 18) (v := ?_) rfl (by kernel_rfl) (by kernel_rfl) (by kernel_rfl) (fun _ _ _ h => h) (Or.inl ⟨by kernel_rfl, ?_⟩) (by assumption) ?_
            rotate_left
            · (intro wS hSw; (try dsimp only at hSw); go_simp <;> with_reducible rfl)
            try simp only [Act.put, tkS]
            refine wpAnyH_take (i := 19) (v := ?_) rfl (by kernel_rfl) (by kernel_rfl) (by kernel_rfl) (fun _ _ _ h => h) (Or.inl ⟨by kernel_rfl, ?_⟩) (by assumption) ?_
            rotate_left
            · (intro wS hSw; (try dsimp only at hSw); go_simp <;> with_reducible rfl)
            try simp only [Act.put, tkS]
            refine wpAnyH_take (i := 20) (v := ?_) rfl (by kernel_rfl) (by kernel_rfl) (by kernel_rfl) (fun _ _ _ h => h) (Or.inl ⟨by kernel_rfl, ?_⟩) (by assumption) ?_
            rotate_left
            · (intro wS hSw; (try dsimp only at hSw); go_simp <;> with_reducible rfl)
            try simp only [Act.put, tkS]
            refine wpAnyH_take (i := 21) (v := ?_) rfl (by kernel_rfl) (by kernel_rfl) (by kernel_rfl) (fun _ _ _ h => h) (Or.inl ⟨by kernel_rfl, ?_⟩) (by assumption) ?_
            rotate_left
            · (intro wS hSw; (try dsimp only at hSw); go_simp <;> with_reducible rfl)
            try simp only [Act.put, tkS]
            refine wpAnyH_take (i := 22) (v := ?_) rfl (by kernel_rfl) (by kernel_rfl) (by kernel_rfl) (fun _ _ _ h => h) (Or.inl ⟨by kernel_rfl, ?_⟩) (by assumption) ?_
            rotate_left
            · (intro wS hSw; (try dsimp only at hSw); go_simp <;> with_reducible rfl)
            try simp only [Act.put, tkS]
            refine wpAnyH_take (i := 23) (v := ?_) rfl (by kernel_rfl) (by kernel_rfl) (by kernel_rfl) (fun _ _ _ h => h) (Or.inl ⟨by kernel_rfl, ?_⟩) (by assumption) ?_
            rotate_left
            · (intro wS hSw; (try dsimp only at hSw); go_simp <;> with_reducible rfl)
            try simp only [Act.put, tkS]
            refine wpAnyH_ready (rs := [14, 26]) (by kernel_rfl) (by simp) (AllReadyH.cons rfl (fun K hK => ?_) (AllReadyH.cons rfl (fun K hK => ?_) AllReadyH.nil))
            ·
              go_simp
              go_at_call 30
              refine (L1.out _ B0.out).mono ?_
              rintro e w4 ⟨oa, oc, rfl, hr4, hB4⟩
              have B1 : Hid (Below wr.heap.size wr w4) := B0.out.trans (hB4.mono B0.out.size)
              have HO1 : Hid (Rd w4 (fun d => d < w4.heap.size ∧ wr.heap.size ≤ d) (dAtomSS o.cells) (.slice oa o.cells.length oc)) := hr4.mono (fun d hd => ⟨hd.2, hd.1⟩)
              clear hr4 hB4
              refine hK.out _ _ ?_ (fun hHeld => ?_)
              · (exact CE.out _ (by first | exact B9.out | exact B3.out | exact B2.out | exact B1.out | exact B0.out))
              clear hK K
              try simp only [Act.put, tkS]
              refine wpAnyH_ready (rs := [24, 26]) (by kernel_rfl) (by simp) (AllReadyH.cons rfl (fun K hK => ?_) (AllReadyH.cons rfl (fun K hK => ?_) AllReadyH.nil))
              ·
                go_simp
                go_at_call 30
                refine (L2.out _ B1.out).mono ?_
                rintro e w5 ⟨na, nc, rfl, hr5, hB5⟩
                have B2 : Hid (Below wr.heap.size wr w5) := B1.out.trans (hB5.mono B1.out.size)
                have HO2 : Hid (Rd w5 (fun d => wr.heap.size ≤ d) (dAtomSS o.cells) (.slice oa o.cells.length oc)) := (HO1.out.later hB5).mono (fun d hd => hd.2)
                have HN2 : Hid (Rd w5 (fun d => wr.heap.size ≤ d) (dAtomSS n.cells) (.slice na n.cells.length nc)) := hr5.mono (fun d hd => by have h1 := hd.1; have h3 := B1.out.size; omega)
                clear hr5 hB5
                refine hK.out _ _ ?_ (fun hHeld => ?_)
                · (exact CE.out _ (by first | exact B9.out | exact B3.out | exact B2.out | exact B1.out | exact B0.out))
                clear hK K
                try simp only [Act.put, tkS]
                refine wpAnyH_take (i := 25) (v := ?_) rfl (by kernel_rfl) (by kernel_rfl) (by kernel_rfl) (fun _ _ _ h => h) (Or.inl ⟨by kernel_rfl, ?_⟩) (by assumption) ?_
                rotate_left
                · (intro wS hSw; (try dsimp only at hSw); go_simp <;> with_reducible rfl)
                try simp only [Act.put, tkS]
                refine wpAnyH_ready (rs := [26]) (by kernel_rfl) (by simp) (AllReadyH.cons rfl (fun K hK => ?_) AllReadyH.nil)
                go_simp
                have B3 : Hid (Below wr.heap.size wr (w5.alloc (.cells #[.int .i64 0, .int .i64 0, .int .i64 0, .slice none 0 0, .int .i64 0, .slice none 0 0] 56))) := B2.out.alloc B2.out.size _
                refine hK.out _ _ ?_ (fun hHeld => ?_)
                · (exact CE.out _ (by first | exact B9.out | exact B3.out | exact B2.out | exact B1.out | exact B0.out))
                clear hK K
                try simp only [Act.put, tkS]
                refine wpAnyH_ready (rs := [27]) (by kernel_rfl) (by simp) (AllReadyH.cons rfl (fun K hK => ?_) AllReadyH.nil)
                have HX : Hid (Below wr.heap.size wr (w5.alloc (.cells #[.int .i64 k, .int .i64 id, .int .i64 o.id, .slice oa o.cells.length oc, .int .i64 n.id, .slice na n.cells.length nc] 56)) ∧ (w5.alloc (.cells #[.int .i64 k, .int .i64 id, .int .i64 o.id, .slice oa o.cells.length oc, .int .i64 n.id, .slice na n.cells.length nc] 56)).heap[w5.heap.size]? = some (.cells #[.int .i64 k, .int .i64 id, .int .i64 o.id, .slice oa o.cells.length oc, .int .i64 n.id, .slice na n.cells.length nc] 56) ∧ wr.heap.size ≤ w5.heap.size ∧ Rd (w5.alloc (.cells #[.int .i64 k, .int .i64 id, .int .i64 o.id, .slice oa o.cells.length oc, .int .i64 n.id, .slice na n.cells.length nc] 56)) (fun d => wr.heap.size ≤ d) (dAtomSS o.cells) (.slice oa o.cells.length oc) ∧ Rd (w5.alloc (.cells #[.int .i64 k, .int .i64 id, .int .i64 o.id, .slice oa o.cells.length oc, .int .i64 n.id, .slice na n.cells.length nc] 56)) (fun d => wr.heap.size ≤ d) (dAtomSS n.cells) (.slice na n.cells.length nc)) := ⟨B2.out.alloc B2.out.size _, heap_newD _ _, B2.out.size, HO2.out.later (below_allocD _ _), HN2.out.later (below_allocD _ _)⟩
                have B9 := Lib.hid HX.out.1
                go_simp
                refine hK.out _ _ ?_ (fun hHeld => ?_)
                · (exact CE.out _ (by first | exact B9.out | exact B3.out | exact B2.out | exact B1.out | exact B0.out))
                clear hK K
                try simp only [Act.put, tkS]
                refine wpAnyH_done (by kernel_rfl) ?_ _
                go_wp2_with fail
                go_meet
                exact ⟨_, _, _, _, _, rfl, HX⟩
              ·
                go_simp
                have B2 : Hid (Below wr.heap.size wr (w4.alloc (.cells #[.int .i64 0, .int .i64 0, .int .i64 0, .slice none 0 0, .int .i64 0, .slice none 0 0] 56))) := B1.out.alloc B1.out.size _
                refine hK.out _ _ ?_ (fun hHeld => ?_)
                · (exact CE.out _ (by first | exact B9.out | exact B3.out | exact B2.out | exact B1.out | exact B0.out))
                clear hK K
                try simp only [Act.put, tkS]
                refine wpAnyH_ready (rs := [24]) (by kernel_rfl) (by simp) (AllReadyH.cons rfl (fun K hK => ?_) AllReadyH.nil)
                go_simp
                go_at_call 30
                refine (L2.out _ B2.out).mono ?_
                rintro e w5 ⟨na, nc, rfl, hr5, hB5⟩
                have B3 : Hid (Below wr.heap.size wr w5) := B2.out.trans (hB5.mono B2.out.size)
                have HZ2 : Hid (w5.heap[w4.heap.size]? = some (.cells #[.int .i64 0, .int .i64 0, .int .i64 0, .slice none 0 0, .int .i64 0, .slice none 0 0] 56)) := heap_keptD (heap_newD _ _) hB5
                have h2 : (w4.alloc (.cells #[.int .i64 0, .int .i64 0, .int .i64 0, .slice none 0 0, .int .i64 0, .slice none 0 0] 56)).heap.size = w4.heap.size + 1 := size_allocD _ _
                have HO2 : Hid (Rd w5 (fun d => d ≠ w4.heap.size ∧ wr.heap.size ≤ d) (dAtomSS o.cells) (.slice oa o.cells.length oc)) := (HO1.out.later ((below_allocD w4 (.cells #[.int .i64 0, .int .i64 0, .int .i64 0, .slice none 0 0, .int .i64 0, .slice none 0 0] 56)).trans (hB5.mono (by omega)))).mono (fun d hd => ⟨by have := hd.1; omega, hd.2⟩)
                have HN2 : Hid (Rd w5 (fun d => d ≠ w4.heap.size ∧ wr.heap.size ≤ d) (dAtomSS n.cells) (.slice na n.cells.length nc)) := hr5.mono (fun d hd => by have h1 := hd.1; have h3 := B1.out.size; omega)
                clear h2
                clear hr5 hB5
                refine hK.out _ _ ?_ (fun hHeld => ?_)
                · (exact CE.out _ (by first | exact B9.out | exact B3.out | exact B2.out | exact B1.out | exact B0.out))
                clear hK K
                try simp only [Act.put, tkS]
                refine wpAnyH_take (i := 25) (v := ?_) rfl (by kernel_rfl) (by kernel_rfl) (by kernel_rfl) (fun _ _ _ h => h) (Or.inl ⟨by kernel_rfl, ?_⟩) (by assumption) ?_
                rotate_left
                · (intro wS hSw; (try dsimp only at hSw); go_simp <;> with_reducible rfl)
                try simp only [Act.put, tkS]
                refine wpAnyH_ready (rs := [27]) (by kernel_rfl) (by simp) (AllReadyH.cons rfl (fun K hK => ?_) AllReadyH.nil)
                have zc0 := cell_at (o := 0) HZ2.out rfl
                have zf0 := frozen_at 0 HZ2.out
                have zc1 := cell_at (o := 1) HZ2.out rfl
                have zf1 := frozen_at 1 HZ2.out
                have zc2 := cell_at (o := 2) HZ2.out rfl
                have zf2 := frozen_at 2 HZ2.out
                have zc3 := cell_at (o := 3) HZ2.out rfl
                have zf3 := frozen_at 3 HZ2.out
                have zc4 := cell_at (o := 4) HZ2.out rfl
                have zf4 := frozen_at 4 HZ2.out
                have zc5 := cell_at (o := 5) HZ2.out rfl
                have zf5 := frozen_at 5 HZ2.out
                have HX : Hid (Below wr.heap.size wr ((((((w5.setCell ⟨w4.heap.size, 0, none⟩ (.int .i64 k)).setCell ⟨w4.heap.size, 1, none⟩ (.int .i64 id)).setCell ⟨w4.heap.size, 2, none⟩ (.int .i64 o.id)).setCell ⟨w4.heap.size, 3, none⟩ (.slice oa o.cells.length oc)).setCell ⟨w4.heap.size, 4, none⟩ (.int .i64 n.id)).setCell ⟨w4.heap.size, 5, none⟩ (.slice na n.cells.length nc)) ∧ ((((((w5.setCell ⟨w4.heap.size, 0, none⟩ (.int .i64 k)).setCell ⟨w4.heap.size, 1, none⟩ (.int .i64 id)).setCell ⟨w4.heap.size, 2, none⟩ (.int .i64 o.id)).setCell ⟨w4.heap.size, 3, none⟩ (.slice oa o.cells.length oc)).setCell ⟨w4.heap.size, 4, none⟩ (.int .i64 n.id)).setCell ⟨w4.heap.size, 5, none⟩ (.slice na n.cells.length nc)).heap[w4.heap.size]? = some (.cells #[.int .i64 k, .int .i64 id, .int .i64 o.id, .slice oa o.cells.length oc, .int .i64 n.id, .slice na n.cells.length nc] 56) ∧ wr.heap.size ≤ w4.heap.size ∧ Rd ((((((w5.setCell ⟨w4.heap.size, 0, none⟩ (.int .i64 k)).setCell ⟨w4.heap.size, 1, none⟩ (.int .i64 id)).setCell ⟨w4.heap.size, 2, none⟩ (.int .i64 o.id)).setCell ⟨w4.heap.size, 3, none⟩ (.slice oa o.cells.length oc)).setCell ⟨w4.heap.size, 4, none⟩ (.int .i64 n.id)).setCell ⟨w4.heap.size, 5, none⟩ (.slice na n.cells.length nc)) (fun d => wr.heap.size ≤ d) (dAtomSS o.cells) (.slice oa o.cells.length oc) ∧ Rd ((((((w5.setCell ⟨w4.heap.size, 0, none⟩ (.int .i64 k)).setCell ⟨w4.heap.size, 1, none⟩ (.int .i64 id)).setCell ⟨w4.heap.size, 2, none⟩ (.int .i64 o.id)).setCell ⟨w4.heap.size, 3, none⟩ (.slice oa o.cells.length oc)).setCell ⟨w4.heap.size, 4, none⟩ (.int .i64 n.id)).setCell ⟨w4.heap.size, 5, none⟩ (.slice na n.cells.length nc)) (fun d => wr.heap.size ≤ d) (dAtomSS n.cells) (.slice na n.cells.length nc)) := ⟨((((((B3.out.setCell (show wr.heap.size ≤ w4.heap.size from B1.out.size) _).setCell (show wr.heap.size ≤ w4.heap.size from B1.out.size) _).setCell (show wr.heap.size ≤ w4.heap.size from B1.out.size) _).setCell (show wr.heap.size ≤ w4.heap.size from B1.out.size) _).setCell (show wr.heap.size ≤ w4.heap.size from B1.out.size) _).setCell (show wr.heap.size ≤ w4.heap.size from B1.out.size) _), by rw [(heap_set 5 _ (heap_set 4 _ (heap_set 3 _ (heap_set 2 _ (heap_set 1 _ (heap_set 0 _ HZ2.out))))))]; rfl, B1.out.size, (HO2.out.frm (F := (· = w4.heap.size)) ((((((frm_set _ _ _ _).trans (frm_set _ _ _ _)).trans (frm_set _ _ _ _)).trans (frm_set _ _ _ _)).trans (frm_set _ _ _ _)).trans (frm_set _ _ _ _)) (fun d hd e => hd.1 e)).mono (fun d hd => hd.2), (HN2.out.frm (F := (· = w4.heap.size)) ((((((frm_set _ _ _ _).trans (frm_set _ _ _ _)).trans (frm_set _ _ _ _)).trans (frm_set _ _ _ _)).trans (frm_set _ _ _ _)).trans (frm_set _ _ _ _)) (fun d hd e => hd.1 e)).mono (fun d hd => hd.2)⟩
                have B9 := Lib.hid HX.out.1
                go_simp
                clear zc0 zf0 zc1 zf1 zc2 zf2 zc3 zf3 zc4 zf4 zc5 zf5
                refine hK.out _ _ ?_ (fun hHeld => ?_)
                · (exact CE.out _ (by first | exact B9.out | exact B3.out | exact B2.out | exact B1.out | exact B0.out))
                clear hK K
                try simp only [Act.put, tkS]
                refine wpAnyH_done (by kernel_rfl) ?_ _
                go_wp2_with fail
                go_meet
                exact ⟨_, _, _, _, _, rfl, HX⟩
            ·
              go_simp
              have B1 : Hid (Below wr.heap.size wr (wr.alloc (.cells #[.int .i64 0, .int .i64 0, .int .i64 0, .slice none 0 0, .int .i64 0, .slice none 0 0] 56)).drew) := ((Below.refl _ _).alloc (Nat.le_refl _) _).drew
              refine hK.out _ _ ?_ (fun hHeld => ?_)
              · (exact CE.out _ (by first | exact B9.out | exact B3.out | exact B2.out | exact B1.out | exact B0.out))
              clear hK K
              try simp only [Act.put, tkS]
              refine wpAnyH_ready (rs := [14]) (by kernel_rfl) (by simp) (AllReadyH.cons rfl (fun K hK => ?_) AllReadyH.nil)
              go_simp
              go_at_call 30
              refine (L1.out _ B1.out).mono ?_
              rintro e w4 ⟨oa, oc, rfl, hr4, hB4⟩
              have B2 : Hid (Below wr.heap.size wr w4) := B1.out.trans (hB4.mono B1.out.size)
              have HZ : Hid (w4.heap[wr.heap.size]? = some (.cells #[.int .i64 0, .int .i64 0, .int .i64 0, .slice none 0 0, .int .i64 0, .slice none 0 0] 56)) := heap_keptD (show ((wr.alloc (.cells #[.int .i64 0, .int .i64 0, .int .i64 0, .slice none 0 0, .int .i64 0, .slice none 0 0] 56)).drew).heap[wr.heap.size]? = some (.cells #[.int .i64 0, .int .i64 0, .int .i64 0, .slice none 0 0, .int .i64 0, .slice none 0 0] 56) from heap_newD _ _) hB4
              have HO1 : Hid (Rd w4 (fun d => d ≠ wr.heap.size ∧ wr.heap.size ≤ d) (dAtomSS o.cells) (.slice oa o.cells.length oc)) := hr4.mono (fun d hd => by have h1 := hd.1; have h2 : (wr.alloc (.cells #[.int .i64 0, .int .i64 0, .int .i64 0, .slice none 0 0, .int .i64 0, .slice none 0 0] 56)).drew.heap.size = wr.heap.size + 1 := size_allocD _ _; omega)
              clear hr4 hB4
              refine hK.out _ _ ?_ (fun hHeld => ?_)
              · (exact CE.out _ (by first | exact B9.out | exact B3.out | exact B2.out | exact B1.out | exact B0.out))
              clear hK K
              try simp only [Act.put, tkS]
              refine wpAnyH_ready (rs := [24]) (by kernel_rfl) (by simp) (AllReadyH.cons rfl (fun K hK => ?_) AllReadyH.nil)
              go_simp
              go_at_call 30
              refine (L2.out _ B2.out).mono ?_
              rintro e w5 ⟨na, nc, rfl, hr5, hB5⟩
              have B3 : Hid (Below wr.heap.size wr w5) := B2.out.trans (hB5.mono B2.out.size)
              have HZ2 : Hid (w5.heap[wr.heap.size]? = some (.cells #[.int .i64 0, .int .i64 0, .int .i64 0, .slice none 0 0, .int .i64 0, .slice none 0 0] 56)) := heap_keptD HZ.out hB5
              have LZ := (Array.getElem?_eq_some_iff.1 HZ.out).1
              have HO2 : Hid (Rd w5 (fun d => d ≠ wr.heap.size ∧ wr.heap.size ≤ d) (dAtomSS o.cells) (.slice oa o.cells.length oc)) := HO1.out.later hB5
              have HN2 : Hid (Rd w5 (fun d => d ≠ wr.heap.size ∧ wr.heap.size ≤ d) (dAtomSS n.cells) (.slice na n.cells.length nc)) := hr5.mono (fun d hd => by have h1 := hd.1; omega)
              clear LZ
              clear hr5 hB5
              refine hK.out _ _ ?_ (fun hHeld => ?_)
              · (exact CE.out _ (by first | exact B9.out | exact B3.out | exact B2.out | exact B1.out | exact B0.out))
              clear hK K
              try simp only [Act.put, tkS]
              refine wpAnyH_take (i := 25) (v := ?_) rfl (by kernel_rfl) (by kernel_rfl) (by kernel_rfl) (fun _ _ _ h => h) (Or.inl ⟨by kernel_rfl, ?_⟩) (by assumption) ?_
              rotate_left
              · (intro wS hSw; (try dsimp only at hSw); go_simp <;> with_reducible rfl)
              try simp only [Act.put, tkS]
              refine wpAnyH_ready (rs := [27]) (by kernel_rfl) (by simp) (AllReadyH.cons rfl (fun K hK => ?_) AllReadyH.nil)
              have zc0 := cell_at (o := 0) HZ2.out rfl
              have zf0 := frozen_at 0 HZ2.out
              have zc1 := cell_at (o := 1) HZ2.out rfl
              have zf1 := frozen_at 1 HZ2.out
              have zc2 := cell_at (o := 2) HZ2.out rfl
              have zf2 := frozen_at 2 HZ2.out
              have zc3 := cell_at (o := 3) HZ2.out rfl
              have zf3 := frozen_at 3 HZ2.out
              have zc4 := cell_at (o := 4) HZ2.out rfl
              have zf4 := frozen_at 4 HZ2.out
              have zc5 := cell_at (o := 5) HZ2.out rfl
              have zf5 := frozen_at 5 HZ2.out
              have HX : Hid (Below wr.heap.size wr ((((((w5.setCell ⟨wr.heap.size, 0, none⟩ (.int .i64 k)).setCell ⟨wr.heap.size, 1, none⟩ (.int .i64 id)).setCell ⟨wr.heap.size, 2, none⟩ (.int .i64 o.id)).setCell ⟨wr.heap.size, 3, none⟩ (.slice oa o.cells.length oc)).setCell ⟨wr.heap.size, 4, none⟩ (.int .i64 n.id)).setCell ⟨wr.heap.size, 5, none⟩ (.slice na n.cells.length nc)) ∧ ((((((w5.setCell ⟨wr.heap.size, 0, none⟩ (.int .i64 k)).setCell ⟨wr.heap.size, 1, none⟩ (.int .i64 id)).setCell ⟨wr.heap.size, 2, none⟩ (.int .i64 o.id)).setCell ⟨wr.heap.size, 3, none⟩ (.slice oa o.cells.length oc)).setCell ⟨wr.heap.size, 4, none⟩ (.int .i64 n.id)).setCell ⟨wr.heap.size, 5, none⟩ (.slice na n.cells.length nc)).heap[wr.heap.size]? = some (.cells #[.int .i64 k, .int .i64 id, .int .i64 o.id, .slice oa o.cells.length oc, .int .i64 n.id, .slice na n.cells.length nc] 56) ∧ wr.heap.size ≤ wr.heap.size ∧ Rd ((((((w5.setCell ⟨wr.heap.size, 0, none⟩ (.int .i64 k)).setCell ⟨wr.heap.size, 1, none⟩ (.int .i64 id)).setCell ⟨wr.heap.size, 2, none⟩ (.int .i64 o.id)).setCell ⟨wr.heap.size, 3, none⟩ (.slice oa o.cells.length oc)).setCell ⟨wr.heap.size, 4, none⟩ (.int .i64 n.id)).setCell ⟨wr.heap.size, 5, none⟩ (.slice na n.cells.length nc)) (fun d => wr.heap.size ≤ d) (dAtomSS o.cells) (.slice oa o.cells.length oc) ∧ Rd ((((((w5.setCell ⟨wr.heap.size, 0, none⟩ (.int .i64 k)).setCell ⟨wr.heap.size, 1, none⟩ (.int .i64 id)).setCell ⟨wr.heap.size, 2, none⟩ (.int .i64 o.id)).setCell ⟨wr.heap.size, 3, none⟩ (.slice oa o.cells.length oc)).setCell ⟨wr.heap.size, 4, none⟩ (.int .i64 n.id)).setCell ⟨wr.heap.size, 5, none⟩ (.slice na n.cells.length nc)) (fun d => wr.heap.size ≤ d) (dAtomSS n.cells) (.slice na n.cells.length nc)) := ⟨((((((B3.out.setCell (show wr.heap.size ≤ wr.heap.size from Nat.le_refl _) _).setCell (show wr.heap.size ≤ wr.heap.size from Nat.le_refl _) _).setCell (show wr.heap.size ≤ wr.heap.size from Nat.le_refl _) _).setCell (show wr.heap.size ≤ wr.heap.size from Nat.le_refl _) _).setCell (show wr.heap.size ≤ wr.heap.size from Nat.le_refl _) _).setCell (show wr.heap.size ≤ wr.heap.size from Nat.le_refl _) _), by rw [(heap_set 5 _ (heap_set 4 _ (heap_set 3 _ (heap_set 2 _ (heap_set 1 _ (heap_set 0 _ HZ2.out))))))]; rfl, Nat.le_refl _, (HO2.out.frm (F := (· = wr.heap.size)) ((((((frm_set _ _ _ _).trans (frm_set _ _ _ _)).trans (frm_set _ _ _ _)).trans (frm_set _ _ _ _)).trans (frm_set _ _ _ _)).trans (frm_set _ _ _ _)) (fun d hd e => hd.1 e)).mono (fun d hd => hd.2), (HN2.out.frm (F := (· = wr.heap.size)) ((((((frm_set _ _ _ _).trans (frm_set _ _ _ _)).trans (frm_set _ _ _ _)).trans (frm_set _ _ _ _)).trans (frm_set _ _ _ _)).trans (frm_set _ _ _ _)) (fun d hd e => hd.1 e)).mono (fun d hd => hd.2)⟩
              have B9 := Lib.hid HX.out.1
              go_simp
              clear zc0 zf0 zc1 zf1 zc2 zf2 zc3 zf3 zc4 zf4 zc5 zf5
              refine hK.out _ _ ?_ (fun hHeld => ?_)
              · (exact CE.out _ (by first | exact B9.out | exact B3.out | exact B2.out | exact B1.out | exact B0.out))
              clear hK K
              try simp only [Act.put, tkS]
              refine wpAnyH_done (by kernel_rfl) ?_ _
              go_wp2_with fail
              go_meet
              exact ⟨_, _, _, _, _, rfl, HX⟩
          obtain ⟨qc, oa, oc, na, nc, rfl, HX⟩ := hcut
          have hIl2 := HILn.out
          generalize wc = w6 at *
          clear CE L1 L2 CI
          have y0 := cell_at (o := 0) HX.out.2.1 rfl
          have y1 := cell_at (o := 1) HX.out.2.1 rfl
          have y2 := cell_at (o := 2) HX.out.2.1 rfl
          have y3 := cell_at (o := 3) HX.out.2.1 rfl
          have y4 := cell_at (o := 4) HX.out.2.1 rfl
          have y5 := cell_at (o := 5) HX.out.2.1 rfl
          have SR : Hid (Calls Try.prog 31 #[.agg #[.int .i64 o.id, .slice oa o.cells.length oc], .agg #[.int .i64 n.id, .slice na n.cells.length nc]] w6 fun e w' => e = .returned (.bool (eqB o n)) ∧ Below w6.heap.size w6 w') := sameRowS o n oa oc na nc _ _ w6 HOL.out.1 HOL.out.2 HX.out.2.2.2.1 HX.out.2.2.2.2
          go_wp2_with fail
          refine SR.out.mono ?_
          rintro e w7 ⟨rfl, hB7⟩
          have B7 : Hid (Below wr.heap.size wr w7) := HX.out.1.trans (hB7.mono HX.out.1.size)
          have HX7 : Hid (w7.heap[qc]? = some (.cells #[.int .i64 k, .int .i64 id, .int .i64 o.id, .slice oa o.cells.length oc, .int .i64 n.id, .slice na n.cells.length nc] 56) ∧ Rd w7 (fun d => wr.heap.size ≤ d) (dAtomSS o.cells) (.slice oa o.cells.length oc) ∧ Rd w7 (fun d => wr.heap.size ≤ d) (dAtomSS n.cells) (.slice na n.cells.length nc)) := ⟨heap_keptD HX.out.2.1 hB7, HX.out.2.2.2.1.later hB7, HX.out.2.2.2.2.later hB7⟩
          clear hB7 HX SR y0 y1 y2 y3 y4 y5
          cases he : eqB o n
          case true =>
            have HN9 := Lib.hid (HCN.out he)
            clear he HCN HCY
            go_wp2_with fail
            go_roundw
            case rel => exact ⟨k4 + 1, by have := HL4.out; omega, by go_num, Q, va2, vq2, rfl, HN9.out, HU.out.2.1.later B7.out, HU.out.2.2.later B7.out⟩
            case measure => have := HL4.out; simp [intOf]; omega
          have HN9 := Lib.hid (HCY.out he)
          clear he HCN HCY
          have y0 := cell_at (o := 0) HX7.out.1 rfl
          have y1 := cell_at (o := 1) HX7.out.1 rfl
          have y2 := cell_at (o := 2) HX7.out.1 rfl
          have y3 := cell_at (o := 3) HX7.out.1 rfl
          have y4 := cell_at (o := 4) HX7.out.1 rfl
          have y5 := cell_at (o := 5) HX7.out.1 rfl
          have SG2 : Hid (SG (w7.alloc (.cells #[.int .i64 k, .int .i64 id, .int .i64 o.id, .slice oa o.cells.length oc, .int .i64 n.id, .slice na n.cells.length nc] 56)) (w.heap.size + 1 + 1) (fun d => w.heap.size ≤ d) 56 6 (lsF dChange (Q ++ [chV k id o n])) Q.length (.slice va2 Q.length vq2)) := SG.convI ((HU.out.2.2.later B7.out).gr.later (below_allocD _ _)) (fun i j hi => lsC_app hi j) (fun _ _ h => h)
          have NEW : Hid (∀ j u, [.int .i64 k, .int .i64 id, .int .i64 o.id, .slice oa o.cells.length oc, .int .i64 n.id, .slice na n.cells.length nc][j]? = some u → (w7.alloc (.cells #[.int .i64 k, .int .i64 id, .int .i64 o.id, .slice oa o.cells.length oc, .int .i64 n.id, .slice na n.cells.length nc] 56)).cell? ((⟨w7.heap.size, 0, none⟩ : Addr).add j) = some u) := fun j u hj => by
            have hlt := (List.getElem?_eq_some_iff.1 hj).1
            rw [Addr.add_mid, Nat.zero_add]
            rcases (by simpa using hlt : j < 6) |> (fun h => (by omega : j = 0 ∨ j = 1 ∨ j = 2 ∨ j = 3 ∨ j = 4 ∨ j = 5)) with rfl | rfl | rfl | rfl | rfl | rfl
            · rw [← hj]; exact cell_at (o := 0) (heap_newD _ _) rfl
            · rw [← hj]; exact cell_at (o := 1) (heap_newD _ _) rfl
            · rw [← hj]; exact cell_at (o := 2) (heap_newD _ _) rfl
            · rw [← hj]; exact cell_at (o := 3) (heap_newD _ _) rfl
            · rw [← hj]; exact cell_at (o := 4) (heap_newD _ _) rfl
            · rw [← hj]; exact cell_at (o := 5) (heap_newD _ _) rfl
          have HRD : Hid (∀ j, j < 6 → ∃ u, [.int .i64 k, .int .i64 id, .int .i64 o.id, .slice oa o.cells.length oc, .int .i64 n.id, .slice na n.cells.length nc][j]? = some u ∧ Rd (w7.alloc (.cells #[.int .i64 k, .int .i64 id, .int .i64 o.id, .slice oa o.cells.length oc, .int .i64 n.id, .slice na n.cells.length nc] 56)) (fun c => (Value.ownBlock (.slice va2 Q.length vq2) ≠ some c ∧ c < (w7.alloc (.cells #[.int .i64 k, .int .i64 id, .int .i64 o.id, .slice oa o.cells.length oc, .int .i64 n.id, .slice na n.cells.length nc] 56)).heap.size) ∧ w.heap.size ≤ c) (lsF dChange (Q ++ [chV k id o n]) Q.length j) u) := fun j hj => by
            rw [lsC_last]
            have key : ∀ {d : D} {u : Value}, Rd w7 (fun d => wr.heap.size ≤ d) d u → Rd (w7.alloc (.cells #[.int .i64 k, .int .i64 id, .int .i64 o.id, .slice oa o.cells.length oc, .int .i64 n.id, .slice na n.cells.length nc] 56)) (fun c => (Value.ownBlock (.slice va2 Q.length vq2) ≠ some c ∧ c < (w7.alloc (.cells #[.int .i64 k, .int .i64 id, .int .i64 o.id, .slice oa o.cells.length oc, .int .i64 n.id, .slice na n.cells.length nc] 56)).heap.size) ∧ w.heap.size ≤ c) d u := fun h => (Rd.inside _ _ (h.later (below_allocD _ _))).mono (fun c hc => ⟨⟨fun e => by have := (HU.out.2.2.gr.low e).2; have := hc.1; omega, hc.2⟩, by have := hc.1; have := HU.out.2.2.bel.size; omega⟩)
            rcases (by omega : j = 0 ∨ j = 1 ∨ j = 2 ∨ j = 3 ∨ j = 4 ∨ j = 5) with rfl | rfl | rfl | rfl | rfl | rfl
            · exact ⟨_, rfl, rfl⟩
            · exact ⟨_, rfl, rfl⟩
            · exact ⟨_, rfl, rfl⟩
            · exact ⟨_, rfl, key HX7.out.2.1⟩
            · exact ⟨_, rfl, rfl⟩
            · exact ⟨_, rfl, key HX7.out.2.2⟩
          go_wp2_with (at_builtin; go_must (refine wpList_grow rfl (.tmp 101) (.tmp 103) 26 rfl rfl SG2.out iC (.agg #[.int .i64 0, .int .i64 0, .int .i64 0, .slice none 0 0, .int .i64 0, .slice none 0 0]) 80 Try.underlying26 HIC.out.1 HIC.out.2.1 HIC.out.2.2.1 HIC.out.2.2.2 rfl (by omega) ⟨w7.heap.size, 0, none⟩ 1 rfl [.int .i64 k, .int .i64 id, .int .i64 o.id, .slice oa o.cells.length oc, .int .i64 n.id, .slice na n.cells.length nc] rfl NEW.out ?one ?h63 ?hby ?hba HRD.out ?go))
          case one => intro u hu; simp only [List.mem_cons, List.not_mem_nil, or_false] at hu; rcases hu with rfl | rfl | rfl | rfl | rfl | rfl <;> rfl
          case h63 => have := HQL.out; unfold maxLen; omega
          case hby => have := HQL.out; omega
          case hba => have := (Array.getElem?_eq_some_iff.1 HU.out.2.2.b).1; have := B7.out.size; simp; omega
          case go =>
            intro a' c' w8 hsg hgr gg hg1 hg2
            have HL1 : Hid (Q.length + 1 = (Q ++ [chV k id o n]).length) := by show _ = _; simp
            have HDF : Hid (DfB w w8 (.slice (some ⟨ab, ao, none⟩) x.tables.length xc) (.slice (some ⟨bb, bo, none⟩) y.tables.length yc) x.next y.next (Q ++ [chV k id o n]) (.slice a' (Q ++ [chV k id o n]).length c')) := by rw [HL1.out] at hsg; exact DfB.push ((HU.out.2.2.later B7.out).later (below_allocD _ _)) hsg hgr
            have HIS : Hid (IdS w8 (.slice a' (Q ++ [chV k id o n]).length c') I ib io ic) := by rw [HL1.out] at hg1; exact IdS.grown ((HU.out.2.1.later B7.out).later (below_allocD _ _)) hgr ⟨gg, hg1, by simpa using hg2⟩
            clear hsg hgr hg1 hg2
            rw [HL1.out]
            generalize Q ++ [chV k id o n] = Q2 at *
            go_wp2_with fail
            go_roundw
            case rel => exact ⟨k4 + 1, by have := HL4.out; omega, by go_num, Q2, a', c', rfl, HN9.out, HIS.out, HDF.out⟩
            case measure => have := HL4.out; simp [intOf]; omega
end Go.Proofs.Ytnkgojjgiemgmaa
