import Derived.Test.YtngbhifafdbpkaaGreatZbr
import Derived.Test.YtngbhifafdbpkaaGreatZbm
import Derived.Test.YtngbhifafdbpkaaGreatZTk
namespace Go.Proofs.YtngbhifafdbpkaaGreat
open Go.RowKit Go.Deep
set_option linter.unusedSimpArgs false
structure KpS (l : List Tb) (X : List (List RowV)) (i m k : Nat) (B : Nat → Prop) (q qo rc : Nat) (ra : Option Addr) (n rq : Nat) (dst : List RowV) (mb mm mn : Nat) (D : DataW Value) (rb roff : Nat) (w W : World) : Prop where
  own : Own W (dRowSS (midT l X i m k)) B (.slice (some ⟨q, qo, none⟩) X.length rc)
  map : KMap dst W mb mm mn D rb roff
  fr : Frm B w W
  qc : W.cell? ⟨q, qo + i, none⟩ = some (.slice ra n rq)
  qb : W.heap[q]? = w.heap[q]?
set_option maxRecDepth 1048576 in
set_option maxHeartbeats 12800000 in
theorem keepI (l : List Tb) (X : List (List RowV)) (i m : Nat) (hX : X.length = l.length) (hi : i < l.length) (hx : i < X.length) (hm : m < l[i].cols.length) (hc : ∀ k (h : k < X[i].length), m < X[i][k].cells.length) (hw : weakB l[i].cols[m] = true) (dst : List RowV) (hth : ∀ a, thP dst a = thB X (tplC l l[i].cols[m].rf) a)
    (hla : ∀ k (h : k < X[i].length) (h2 : m < X[i][k].cells.length), X[i][k].cells[m].length ≤ 1048576 ∧ ∀ x ∈ X[i][k].cells[m], iOK x.n) (hrl : X[i].length ≤ 1048576) (B : Nat → Prop) (q qo rc rq : Nat) (ra : Option Addr) (w : World) (hO : Own w (dRowSS (midT l X i m 0)) B (.slice (some ⟨q, qo, none⟩) X.length rc)) (hlt : ∀ d, B d → d < w.heap.size) (hqc : w.cell? ⟨q, qo + i, none⟩ = some (.slice ra X[i].length rq))
    (mm mn rb roff : Nat) (D : DataW Value) (hmap : w.ownsMap Tryz.prog 3 ptrR mm mn D) (hsh : ShM D dst rb roff dst.length) (hmB : ¬ B mm) :
    Calls Tryz.prog 48 #[.slice ra X[i].length rq, .int .i64 (m : Int), .map (some mm)] w fun e w' => e = .returned (.tuple #[]) ∧ Own w' (dRowSS (midT l X i (m + 1) 0)) B (.slice (some ⟨q, qo, none⟩) X.length rc) ∧ Frm B w w' ∧ w'.heap[q]? = w.heap[q]? := by
  have hA := below_allocD w (.cells #[.map (some mm)] 95)
  have H0 : Hid (KpS l X i m 0 B q qo rc ra X[i].length rq dst w.heap.size mm mn D rb roff w (w.alloc (.cells #[.map (some mm)] 95))) := ⟨hO.later hA, ⟨heap_newD _ _, owns_keptS hmap hA, hsh⟩, frm_below hA, (hA.cell (p := ⟨q, qo + i, none⟩) (World.block_lt_of_cell? _ _ hqc)).trans hqc, hA.block q (World.block_lt_of_cell? _ ⟨q, qo + i, none⟩ hqc)⟩
  have HLT := Lib.hid hlt
  have HMB := Lib.hid hmB
  have HEND : Hid (midT l X i m X[i].length = midT l X i (m + 1) 0) := mid_col hX hx (Nat.le_refl _)
  have HSTEP : Hid (∀ k (hk : k < X[i].length), ∃ (h1 : i < (midT l X i m k).length) (h2 : k < (midT l X i m k)[i].length) (h3 : m < (midT l X i m k)[i][k].cells.length) (h4 : m < X[i][k].cells.length), (midT l X i m k)[i].length = X[i].length ∧ (midT l X i m k)[i][k].cells[m] = X[i][k].cells[m] ∧
      (midT l X i m k).set i ((midT l X i m k)[i].set k ⟨(midT l X i m k)[i][k].id, (midT l X i m k)[i][k].cells.set m (X[i][k].cells[m].filter (thP dst))⟩) = midT l X i m (k + 1)) := fun k hk => by
    obtain ⟨h1, h2, h3, e1, e2, e3⟩ := mid_step (m := m) hX hi hx hk hm (hc k hk)
    have h4 := hc k hk
    refine ⟨h1, h2, h3, h4, e1, e2, ?_⟩
    rw [show X[i][k].cells[m].filter (thP dst) = X[i][k].cells[m].filter (thB X (tplC l l[i].cols[m].rf)) from List.filter_congr (fun x _ => hth x)]
    exact e3 hw
  have HLA : Hid (∀ k (h : k < X[i].length) (h2 : m < X[i][k].cells.length), X[i][k].cells[m].length ≤ 1048576 ∧ ∀ x ∈ X[i][k].cells[m], iOK x.n) := hla
  obtain ⟨n, hn⟩ : ∃ n, n = X[i].length := ⟨_, rfl⟩
  have HN := Lib.hid hn
  rw [← hn] at H0 HEND hrl ⊢
  have HML : Hid (∀ k, (midT l X i m k).length = X.length) := fun k => midT_len _ _ _ _ _
  clear hX hm hc hw hth hla hO hlt hqc hmap hsh hmB hA hn hi
  go_enter Tryz.func48, Tryz.ntmps48
  go_wp2_with fail
  go_loopw [9] (fun t wr => ∃ k : Nat, k ≤ n ∧ t = .int .i64 (k : Int) ∧ Hid (KpS l X i m k B q qo rc ra n rq dst w.heap.size mm mn D rb roff w wr)) (fun t _ => n - (intOf t).toNat)
  case atStart => exact ⟨0, Nat.zero_le _, rfl, H0.out⟩
  case round =>
    obtain ⟨k, hk, rfl, HR⟩ := hrel
    by_cases hkn : k < n
    case neg =>
      have hkd : decide ((k : Int) < (n : Int)) = false := by simp; omega
      have hke : k = n := by omega
      have HF : Hid (Own wr (dRowSS (midT l X i (m + 1) 0)) B (.slice (some ⟨q, qo, none⟩) X.length rc) ∧ Frm B w wr ∧ wr.heap[q]? = w.heap[q]?) := by
        have h9 := HR.out.own
        rw [hke, HEND.out] at h9
        exact ⟨h9, HR.out.fr, HR.out.qb⟩
      clear hke
      go_wp2_with fail
      exact bodyPost_end (results_none rfl _ _ _) rfl ⟨rfl, HF.out⟩
    have hki : (k : Int) < (n : Int) := by omega
    have f1 : IntKind.i64.wrap ((k : Int) + 1) = ((k + 1 : Nat) : Int) := by rw [IntKind.wrap_i64]; omega
    have hkX : k < X[i].length := by rw [← HN.out]; exact hkn
    obtain ⟨h1, h2, h3, h4, e1, e2, e3⟩ := HSTEP.out k hkX
    obtain ⟨hAl, hAi⟩ := HLA.out k hkX h4
    have ho : Own wr (dRowSS (midT l X i m k)) B (.slice (some ⟨q, qo, none⟩) (midT l X i m k).length rc) := by rw [HML.out]; exact HR.out.own
    have hltr : ∀ d, B d → d < wr.heap.size := fun d hd => Nat.lt_of_lt_of_le (HLT.out d hd) HR.out.fr.size
    obtain ⟨sb, so, scap, cb, co, ccap, la, lc, X3, u1, u2, u3, z3, ho3, hX3, hBs, hBc, hn1, hn2, hx1, hx2, hx3, hup⟩ := own_cellX ho hltr h1 h2 h3
    have hq2 := HR.out.qc
    rw [u1, e1, ← HN.out] at hq2
    simp only [Option.some.injEq, Value.slice.injEq, true_and] at hq2
    obtain ⟨rfl, rfl⟩ := hq2
    rw [e2] at u3 ho3
    have HUP : Hid (∀ w2, Own w2 (dAtomS (X[i][k].cells[m].filter (thP dst))) X3 (.slice la (X[i][k].cells[m].filter (thP dst)).length lc) → Frm X3 wr w2 → KpS l X i m (k + 1) B q qo rc (some ⟨sb, so, none⟩) n scap dst w.heap.size mm mn D rb roff w (w2.setCell ⟨cb, co + m, none⟩ (.slice la (X[i][k].cells[m].filter (thP dst)).length lc))) := fun w2 hOw hF => by
      have h9 := hup w2 _ la lc hF hOw
      rw [e3, HML.out] at h9
      have hcw := Nat.lt_of_lt_of_le (hltr cb hBc) hF.size
      have hmp := HR.out.map
      have hmbB : ¬ B w.heap.size := fun h => by have := HLT.out _ h; omega
      refine ⟨h9, (hmp.frm hF (fun h => hmbB (hX3 _ h)) (fun h => HMB.out (hX3 _ h))).frm (frm_set w2 cb (co + m) _) (fun e => hmbB (by rw [e]; exact hBc)) (fun e => HMB.out (by rw [e]; exact hBc)), ((HR.out.fr.trans (hF.mono hX3)).trans ((frm_set w2 cb (co + m) _).mono (fun d e => by rw [e]; exact hBc))), ?_, ?_⟩
      all_goals have hb := (Below.heap_setCell w2 ⟨cb, co + m, none⟩ (.slice la (X[i][k].cells[m].filter (thP dst)).length lc) q (by show q ≠ cb; exact fun e => hn1 e.symm)).trans (hF.block q (World.block_lt_of_cell? _ _ u1) hx1)
      · have hq3 := HR.out.qc
        simp only [World.cell?, hb] at hq3 ⊢
        exact hq3
      · exact hb.trans HR.out.qb
    have hD : Below wr.heap.size wr wr.drew := (Below.refl _ _).drew
    have DE : Hid (Calls Tryz.prog 79 #[.slice la X[i][k].cells[m].length lc, .func (.func 80) #[] #[.pointer (some ⟨w.heap.size, 0, none⟩)]] wr.drew (DelAns dst X[i][k].cells[m] X3 la lc wr.drew)) :=
      deleteK _ la lc X3 wr.drew hAl hAi (ho3.later hD) (HR.out.map.later hD) (fun h => by have := HLT.out _ (hX3 _ h); omega) (fun h => HMB.out (hX3 _ h))
    have CB : Hid (∀ w2, Frm X3 wr w2 → w2.heap[sb]? = wr.heap[sb]? ∧ w2.cell? ⟨cb, co + m, none⟩ = some (.slice la X[i][k].cells[m].length lc) ∧ w2.frozen? ⟨cb, co + m, none⟩ = false ∧ ∀ v, (w2.setCell ⟨cb, co + m, none⟩ v).heap[sb]? = wr.heap[sb]?) := fun w2 hF => by
      have b1 := hF.block sb (hltr sb hBs) hx2
      have b2 := hF.block cb (hltr cb hBc) hx3
      refine ⟨b1, by simp only [World.cell?, b2]; exact u3, by simp only [World.frozen?, b2]; exact z3, fun v => ?_⟩
      rw [Below.heap_setCell _ _ _ _ (by show sb ≠ cb; exact fun e => hn2 e.symm)]
      exact b1
    have FD : Hid (Frm X3 wr wr.drew) := frm_below hD
    obtain ⟨cl, hcl⟩ : ∃ cl, cl = (midT l X i m k)[i][k].cells.length := ⟨_, rfl⟩
    have hmi : (m : Int) < (cl : Int) := by have h9 := h3; rw [← hcl] at h9; omega
    rw [← hcl] at u2
    have CE : Hid (∀ W : World, W.heap[sb]? = wr.heap[sb]? → W.cell? ⟨sb, so + k * 2 + 1, none⟩ = some (.slice (some ⟨cb, co, none⟩) cl ccap)) := fun W h => by
      have h9 := u2
      simp only [World.cell?, h] at h9 ⊢
      exact h9
    have x0 := cell_at (o := 0) HR.out.map.bx rfl
    clear u1 ho3 hX3 hBs hBc hn1 hn2 hx1 hx2 hx3 hup e1 e2 e3 ho hAl hAi hcl hltr h3 hD
    generalize hAA : X[i][k].cells[m] = AA at *
    clear hAA h1 h2 h4 hkX
    go_wp2_with fail
    refine wp_region_held_drew (S := (fun W => W.cell? ⟨sb, so + k * 2 + 1, none⟩ = some (.slice (some ⟨cb, co, none⟩) cl ccap))) (by kernel_rfl) ?_ (fun hHeld => ?_)
    · (first | exact CE.out _ rfl | exact CE.out _ HB1.out | exact CE.out _ HB2.out)
    refine tkB (i := 0) ?_
    refine tkB (i := 1) ?_
    refine tkB (i := 2) ?_
    refine tkB (i := 3) ?_
    refine tkB (i := 4) ?_
    refine tkB (i := 5) ?_
    refine tkB (i := 6) ?_
    refine tkB (i := 7) ?_
    refine tkB (i := 8) ?_
    refine tkB (i := 9) ?_
    refine tkB (i := 10) ?_
    refine tkB (i := 11) ?_
    refine tkB (i := 12) ?_
    refine tkB (i := 14) ?_
    refine tkR (i := 13) (fun K hK => ?_)
    go_simp
    skip
    refine hK.out _ _ ?_ (fun hHeld => ?_)
    · (first | exact CE.out _ rfl | exact CE.out _ HB1.out | exact CE.out _ HB2.out)
    clear hK K
    try simp only [Act.put, tkS]
    refine tkR (i := 15) (fun K hK => ?_)
    go_simp
    (go_at_call 79
     refine DE.out.mono ?_
     rintro e w2 ⟨rfl, hOw, hFr⟩
     have HF2 : Hid (Frm X3 wr w2) := FD.out.trans hFr
     have HNX := Lib.hid (HUP.out w2 hOw HF2.out)
     obtain ⟨hb1, s0, z0, hb2⟩ := CB.out w2 HF2.out
     have HB1 := Lib.hid hb1
     have HB2 := Lib.hid (hb2 (.slice la (AA.filter (thP dst)).length lc))
     clear hOw hFr hb1 hb2 u3 z3)
    refine hK.out _ _ ?_ (fun hHeld => ?_)
    · (first | exact CE.out _ rfl | exact CE.out _ HB1.out | exact CE.out _ HB2.out)
    clear hK K
    try simp only [Act.put, tkS]
    refine tkB (i := 16) ?_
    refine tkR (i := 17) (fun K hK => ?_)
    go_simp
    skip
    refine hK.out _ _ ?_ (fun hHeld => ?_)
    · (first | exact CE.out _ rfl | exact CE.out _ HB1.out | exact CE.out _ HB2.out)
    clear hK K
    try simp only [Act.put, tkS]
    refine wpAnyH_done (by kernel_rfl) ?_ _
    go_wp2_with fail
    go_roundw
    case rel => exact ⟨k + 1, by omega, by go_num, HNX.out⟩
    case measure => simp [intOf]; omega
end Go.Proofs.YtngbhifafdbpkaaGreat
namespace Go.Proofs.YtngbhifafdbpkaaGreat
open Go.RowKit Go.Maps Go.WideMaps
set_option linter.unusedSimpArgs false
def AtP (D : DataW Unit) (l : List Tb) (k : Nat) : Prop := ∀ j (hj : j < l.length), j < k → D.atKey (.string l[j].nm) (.lit (.int .i64 0)) = .lit (.int .i64 j)
theorem AtP.put {D : DataW Unit} {l : List Tb} {k : Nat} (h : AtP D l k) (hs : SchP l) (hD : IsMap D) (hk : k < l.length) : AtP (D.put (.string l[k].nm) (.lit (.int .i64 k))) l (k + 1) := fun j hj hjk => by
  by_cases e : j = k
  · subst e
    rw [atKey_put_same hD (by simp [WideAt.IsKeyLit])]
  · rw [atKey_put_other (fun he => e (nm_uniqU hs hj hk (by simpa using he))), h j hj (by omega)]
def PlxAns (l : List Tb) (w : World) (e : Ending) (w' : World) : Prop := ∃ m D, e = .returned (.map (some m)) ∧ w'.ownsMap Tryz.prog 9 (plainElem (H := Unit) Tryz.prog 3) m l.length D ∧ AtP D l l.length ∧ w.heap.size ≤ m ∧ Below w.heap.size w w'
set_option maxRecDepth 100000 in
set_option maxHeartbeats 3200000 in
theorem placesX (l : List Tb) (a : Option Addr) (c : Nat) (A : Nat → Ad) (B : Nat → Prop) (w : World) (ho : TbsOk l) (hs : SchP l) (hS : Tabs w B a l A) :
    Calls Tryz.prog 47 #[.agg #[.slice a l.length c]] w (PlxAns l w) := by
  have hl := hs.len.2
  have HSP := Lib.hid hs
  have HO : Hid (∀ t ∈ l, t.nm.length ≤ maxLen) := fun t ht => (ho.2 t ht).1
  have HS : Hid (∀ W, Below w.heap.size w W → Tabs W B a l A) := fun W h => hS.later h
  have hmm := run_makeMapH (l.length : Int)
  have hx0 := boxS w a l.length c
  have hown0 := World.ownsMap_made (H := Unit) (w.alloc (.cells #[.slice a l.length c] 37)) Tryz.prog 9 (plainElem Tryz.prog 3)
  have es : (w.alloc (.cells #[.slice a l.length c] 37)).heap.size = w.heap.size + 1 := by simp
  rw [es] at hown0
  have H0 : Hid (BoxS w ((w.alloc (.cells #[.slice a l.length c] 37)).alloc (.map #[] 0)) a l.length c ∧ ∃ D, IsMap D ∧ ((w.alloc (.cells #[.slice a l.length c] 37)).alloc (.map #[] 0)).ownsMap Tryz.prog 9 (plainElem (H := Unit) Tryz.prog 3) (w.heap.size + 1) 0 D ∧ AtP D l 0) :=
    ⟨hx0.new _, _, isMap_empty, hown0, fun j hj h => absurd h (by omega)⟩
  clear ho hS hx0 hown0 es hs
  go_enter Tryz.func47, Tryz.ntmps47
  go_wp2_with fail
  clear hmm
  go_loopw [12] (fun i wr => ∃ k : Nat, k ≤ l.length ∧ i = .int .i64 k ∧ Hid (BoxS w wr a l.length c ∧ ∃ D, IsMap D ∧ wr.ownsMap Tryz.prog 9 (plainElem (H := Unit) Tryz.prog 3) (w.heap.size + 1) k D ∧ AtP D l k)) (fun i _ => l.length - (intOf i).toNat)
  case atStart => exact ⟨0, Nat.zero_le _, rfl, H0.out⟩
  case round =>
    obtain ⟨k, hk, rfl, HW⟩ := hrel
    obtain ⟨hx, D, hD, hown, hP⟩ := HW.out
    have x0 := hx.cell
    by_cases hlt : k < l.length
    · have hki : (k : Int) < (l.length : Int) := by omega
      obtain ⟨b, off, rfl, -, hc⟩ := (HS.out _ hx.2).at k hlt
      have c0 := (hc k hlt).1
      clear hc
      have hkey : keyOf Tryz.prog 9 (.string ⟨l[k].nm.toArray⟩) = some (.string l[k].nm) := keyOf_string_mk Tryz.underlying9 (by show l[k].nm.toArray.size ≤ maxLen; simpa using HO.out _ (List.getElem_mem hlt))
      have HPN : Hid (AtP (D.put (.string l[k].nm) (.lit (.int .i64 k))) l (k + 1)) := hP.put HSP.out hD hlt
      have HX := Lib.hid hx
      have HDM := Lib.hid hD
      clear HW hP hx hD
      generalize l[k].nm = x at *
      go_wp2_with (at_mapUpdate; refine wpList_mapUpdate_own _ rfl _ _ _ 91 rfl 9 3 lawK Tryz.underlying91 _ (w.heap.size + 1) k _ rfl hown (by unfold maxLen; omega) _ _ _ rfl rfl hkey _ [] (plainElem_int Tryz.underlying3 (WalkArith.wf_i64 (by omega))) ?_; intro w1 hown1 hgrow1; have R1 := Lib.hid (And.intro (HX.out.grown hgrow1 (by omega)) hown1); clear hown1 hgrow1)
      go_roundw
      case rel => exact ⟨k + 1, by omega, by go_num, R1.out.1, _, HDM.out.put _ _, R1.out.2, HPN.out⟩
      case measure => simp [intOf]; omega
    · have hk' : k = l.length := by omega
      subst hk'
      have HX := Lib.hid hx
      have HOW := Lib.hid (And.intro hown hP)
      clear HW hx hown hP hD
      go_wp2_with fail
      go_ret
      exact ⟨_, D, rfl, HOW.out.1, HOW.out.2, by omega, HX.out.2⟩
theorem lookP {w : World} {m n : Nat} {D : DataW Unit} {l : List Tb} (hown : w.ownsMap Tryz.prog 9 (plainElem (H := Unit) Tryz.prog 3) m n D) (hP : AtP D l l.length) {j : Nat} (hj : j < l.length) (hn : l[j].nm.length ≤ maxLen) : (Instr.lookup 91 (.map (some m)) (.string ⟨l[j].nm.toArray⟩) false).run Tryz.prog w = .ok (.int .i64 j) w := by
  obtain ⟨c, hrun, hat, -⟩ := hown.lookup_int (t := 91) lawK Tryz.underlying91 Tryz.underlying3 (zeroI w) (keyOf_string_mk Tryz.underlying9 (s := ⟨l[j].nm.toArray⟩) (by show l[j].nm.toArray.size ≤ maxLen; simpa using hn))
  have h2 := hP j hj hj
  have h3 : D.atKey (.string l[j].nm) (.lit (.int .i64 0)) = .lit (.int .i64 c) := by simpa using hat
  rw [h2] at h3
  simp only [DataW.lit.injEq, Lit.int.injEq, true_and] at h3
  rw [hrun, ← h3]
end Go.Proofs.YtngbhifafdbpkaaGreat
