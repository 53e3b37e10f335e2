import Derived.Test.YtngbhifafdbpkaaGreatZbs
import Derived.Test.YtngbhifafdbpkaaGreatZTk
namespace Go.Proofs.YtngbhifafdbpkaaGreat
open Go.RowKit Go.Deep Go.Maps Go.WideMaps
set_option linter.unusedSimpArgs false
theorem filt_le {K : Nat} {L : List At} {P : At → Bool} (h : (dAtomS L).le K) : (dAtomS (L.filter P)).le K := by
  obtain ⟨h1, h2, h3⟩ := Ls_le.1 h
  refine Ls_le.2 ⟨h1, Nat.le_trans (List.length_filter_le _ _) h2, fun i hi j hj => ?_⟩
  obtain ⟨k, hk, e⟩ := List.getElem_of_mem (List.mem_filter.1 (List.getElem_mem hi)).1
  rw [← e]; exact h3 k hk j hj
theorem stkR_le {K : Nat} {l : List Tb} {X : List (List RowV)} {cols : List Cl} {m : Nat} {r : RowV} (h : ∀ j, j < 2 → (dRow r j).le K) : ∀ j, j < 2 → (dRow (stkR l X cols m r) j).le K := by
  intro j hj
  rcases (by omega : j = 0 ∨ j = 1) with rfl | rfl
  · exact h 0 (by omega)
  · have h1 : (dAtomSS r.cells).le K := h 1 (by omega)
    obtain ⟨a1, a2, a3⟩ := Ls_le.1 h1
    show (dAtomSS (stkR l X cols m r).cells).le K
    have hl : (stkR l X cols m r).cells.length = r.cells.length := by unfold stkR; simp
    refine Ls_le.2 ⟨a1, by rw [hl]; exact a2, fun i hi z hz => ?_⟩
    have hi' : i < r.cells.length := by rw [← hl]; exact hi
    have h2 : (dAtomS r.cells[i]).le K := a3 i hi' 0 (by omega)
    have e : (stkR l X cols m r).cells[i] = (if i < m then (match cols[i]? with | some col => stkC l X col r.cells[i] | none => r.cells[i]) else r.cells[i]) := by
      show (r.cells.mapIdx (fun c cell => if c < m then (match cols[c]? with | some col => stkC l X col cell | none => cell) else cell))[i]'(by simpa using hi') = _
      rw [List.getElem_mapIdx]
    obtain rfl : z = 0 := by omega
    show (dAtomS (stkR l X cols m r).cells[i]).le K
    rw [e]
    split
    · split
      · unfold stkC
        split
        · exact filt_le h2
        · exact h2
      · exact h2
    · exact h2
theorem mid_le {K : Nat} {l : List Tb} {X : List (List RowV)} {i m k : Nat} (hX : X.length = l.length) (h : (dRowSS X).le K) : (dRowSS (midT l X i m k)).le K := by
  obtain ⟨h1, h2, h3⟩ := Ls_le.1 h
  refine Ls_le.2 ⟨h1, by rw [midT_len]; exact h2, fun j hj z hz => ?_⟩
  rw [midT_len] at hj
  obtain rfl : z = 0 := by omega
  show (dRowS (midT l X i m k)[j]).le K
  rw [midT_row hj (by omega)]
  obtain ⟨b1, b2, b3⟩ := Ls_le.1 (show (dRowS X[j]).le K from h3 j hj 0 (by omega))
  refine Ls_le.2 ⟨b1, by simpa using b2, fun r hr z hz => ?_⟩
  rw [List.getElem_mapIdx]
  exact stkR_le (b3 r (by simpa using hr)) z hz
structure PrK (B : Nat → Prop) (pb : Nat) (w W : World) (sv : Value) (n : Int) (Y : List (List RowV)) (q qo rc : Nat) : Prop where
  a : W.heap[w.heap.size]? = some (.cells #[sv] 37)
  b : W.heap[pb]? = some (.cells #[.slice (some ⟨q, qo, none⟩) Y.length rc, .int .i64 n] 32)
  d : Own W (dRowSS Y) B (.slice (some ⟨q, qo, none⟩) Y.length rc)
theorem PrK.later {B : Nat → Prop} {pb : Nat} {w W W' : World} {sv : Value} {n : Int} {Y : List (List RowV)} {q qo rc : Nat} (h : PrK B pb w W sv n Y q qo rc) (hB : Below W.heap.size W W') : PrK B pb w W' sv n Y q qo rc :=
  ⟨heap_keptD h.a hB, heap_keptD h.b hB, h.d.later hB⟩
theorem PrK.put {B : Nat → Prop} {pb : Nat} {w W W' : World} {sv : Value} {n : Int} {Y Y' : List (List RowV)} {q qo rc : Nat} (h : PrK B pb w W sv n Y q qo rc) (hF : Frm B W W') (h1 : ¬ B w.heap.size) (h2 : ¬ B pb) (hl : Y'.length = Y.length) (hO : Own W' (dRowSS Y') B (.slice (some ⟨q, qo, none⟩) Y.length rc)) : PrK B pb w W' sv n Y' q qo rc :=
  ⟨(hF.block _ (Array.getElem?_eq_some_iff.1 h.a).1 h1).trans h.a, by rw [hl]; exact (hF.block _ (Array.getElem?_eq_some_iff.1 h.b).1 h2).trans h.b, by rw [hl]; exact hO⟩
theorem owns_frm {H : Type} {P : Program} {k : TypeId} {R : Value → Option (DataW H × List MemPlace)} {w w' : World} {b n : Nat} {D : DataW H} {F : Nat → Prop} (h : w.ownsMap P k R b n D) (hF : Frm F w w') (hb : ¬ F b) : w'.ownsMap P k R b n D := by
  have hlt := h.lt
  obtain ⟨es, clock, hc, G, hs, hD⟩ := h
  exact ⟨es, clock, (hF.block b hlt hb).trans hc, G, hs, hD⟩
theorem frm_two {B B0 : Nat → Prop} {w w0 W : World} (h : Frm B w w0) (h0 : Frm B0 w0 W) (hb : ∀ d, d < w.heap.size → B0 d → B d) : Frm B w W :=
  ⟨h0.os.trans h.os, h0.tape.trans h.tape, h0.output.trans h.output, Nat.le_trans h.size h0.size, fun d hd hn => (h0.block d (Nat.lt_of_lt_of_le hd h.size) (fun h9 => hn (hb d hd h9))).trans (h.block d hd hn)⟩
set_option maxRecDepth 100000 in
set_option maxHeartbeats 25600000 in
theorem pruneI (l : List Tb) (sa : Option Addr) (sc : Nat) (A : Nat → Prop) (X : List (List RowV)) (n : Int) (B : Nat → Prop) (pb q qo rc : Nat) (w : World) (hlo : (dTableS l).le maxLen) (ho : (dRowSS X).le 1048576) (hs : SchP l) (hf : FormP l ⟨X, n⟩) (hT : Rd w A (dTableS l) (.slice sa l.length sc)) (hA : ∀ b, A b → b < w.heap.size ∧ ¬ B b) (hb : w.heap[pb]? = some (.cells #[.slice (some ⟨q, qo, none⟩) X.length rc, .int .i64 n] 32)) (hB : (∀ d, B d → d < w.heap.size) ∧ ¬ B pb) (hd : Own w (dRowSS X) B (.slice (some ⟨q, qo, none⟩) X.length rc)) :
    Calls Tryz.prog 24 #[.agg #[.slice sa l.length sc], .pointer (some ⟨pb, 0, none⟩)] w fun e w' => e = .returned (.tuple #[]) ∧ w'.heap[pb]? = some (.cells #[.slice (some ⟨q, qo, none⟩) (strike l (keepT (gset l X) X)).length rc, .int .i64 n] 32) ∧ Own w' (dRowSS (strike l (keepT (gset l X) X))) (fun d => B d ∨ (w.heap.size ≤ d ∧ d < w'.heap.size)) (.slice (some ⟨q, qo, none⟩) (strike l (keepT (gset l X) X)).length rc) ∧ Frm B w w' := by
  have hpl := (Array.getElem?_eq_some_iff.1 hb).1
  have hl4 : l.length ≤ 4 := hs.len.2
  have HXL : Hid (X.length = l.length) := hf.1
  have HAA := Lib.hid hA
  have HTW := Lib.hid hT
  have CD : Hid (∀ (W : World) (Y : List (List RowV)), Reach l X Y → DrS B pb w W (.slice sa l.length sc) n Y q qo rc → Calls Tryz.prog 46 #[.agg #[.slice sa l.length sc], .pointer (some ⟨pb, 0, none⟩)] W fun e w' => ∃ b Y', e = .returned (.bool b) ∧ PrD l X (totT Y) b l.length Y' ∧ DrS B pb w w' (.slice sa l.length sc) n Y' q qo rc) := fun W Y hr h => by
    have hlt := h.lt
    have hfrT : ∀ W2, Frm (fun d => B d ∨ (w.heap.size + 1 ≤ d ∧ d < W.heap.size)) W W2 → Rd W2 A (dTableS l) (.slice sa l.length sc) := fun W2 h2 => (HTW.out.frm h.fr (fun b hb => (HAA.out b hb).2)).frm h2 (fun b hb h9 => by have := (HAA.out b hb).1; rcases h9 with h9 | h9; exact (HAA.out b hb).2 h9; omega)
    refine (dropI l sa sc A X Y n _ pb q qo rc W hlo ho hs hf hr hfrT h.b ⟨fun d hd => h.dlt hd, fun h9 => by rcases h9 with h9 | h9; exact h.hB.2.1 h9; have := h.hB.2.2; omega⟩ h.d).mono ?_
    rintro e w' ⟨b, Y', he, hP, hbx, hO, hF⟩
    refine ⟨b, Y', he, hP, (hF.block _ hlt (fun h9 => by rcases h9 with h9 | h9; have := h.hB.1 _ h9; omega; omega)).trans h.a, hbx, hO.mono (fun d hd => ?_), frm_two h.fr hF (fun d hd h9 => by rcases h9 with h9 | h9; exact h9; omega), Nat.lt_of_lt_of_le hlt hF.size, h.hB⟩
    have hsz := hF.size
    rcases hd with (hd | hd) | hd
    · exact .inl hd
    · exact .inr ⟨hd.1, by omega⟩
    · exact .inr ⟨by omega, hd.2⟩
  have HB0 : Hid (DrS B pb w (w.alloc (.cells #[(.slice sa l.length sc)] 37)) (.slice sa l.length sc) n X q qo rc) := ⟨heap_newD _ _, heap_keptD hb (below_allocD _ _), (hd.later (below_allocD _ _)).mono (fun d h => .inl h), Frm.of_below (below_allocD _ _), by rw [size_allocD]; omega, hB.1, hB.2, hpl⟩
  have HEND : Hid (∀ Y R, PrD l X R false l.length Y → Y = keepT (gset l X) X) := fun Y R h => h.end hf.1
  have HRX : Hid (Reach l X (keepT (gset l X) X)) := ⟨gset l X, rfl, fun _ _ h => h⟩
  have HXF : Hid (FormP l ⟨keepT (gset l X) X, n⟩) := Reach.form HRX.out hf
  have HXO : Hid ((dRowSS (keepT (gset l X) X)).le 1048576) := Reach.le HRX.out ho
  have HLT := Lib.hid (le_tables hlo)
  have HS := Lib.hid hs
  have HC6 : Hid (∀ i (hi : i < l.length), l[i].cols.length ≤ 6) := fun i hi => (tab_ofU (hs.tab i hi)).len.2
  have HHB := Lib.hid (And.intro hB hpl)
  clear hlo ho hs hf hT hA hb hB hd hpl
  go_enter Tryz.func24, Tryz.ntmps24
  go_wp2_with fail
  go_loopg [] (totT X) (fun g wr => ∃ Y, totT Y ≤ g ∧ Hid (Reach l X Y ∧ DrS B pb w wr (.slice sa l.length sc) n Y q qo rc))
  case atStart => exact ⟨X, Nat.le_refl _, reach_first l X, HB0.out⟩
  case round =>
    obtain ⟨Y, hYg, HR⟩ := hrel
    have x0 := cell_at (o := 0) HR.out.2.a rfl
    have C1 := Lib.hid (CD.out wr Y HR.out.1 HR.out.2)
    go_wp2_with fail
    refine C1.out.mono ?_
    rintro e w0 ⟨b, Y', rfl, hP, hD⟩
    clear x0 C1
    cases b
    case true =>
      have HN : Hid (Reach l X Y' ∧ DrS B pb w w0 (.slice sa l.length sc) n Y' q qo rc) := ⟨hP.r, hD⟩
      have ht : totT Y' + 1 ≤ totT Y := hP.t
      clear hP hD
      go_wp2_with fail
      go_roundg (totT Y')
      case rel => exact ⟨Y', Nat.le_refl _, HN.out⟩
      case measure => omega
    obtain rfl : Y' = keepT (gset l X) X := HEND.out _ _ hP
    clear hP HEND HB0 hYg HR CD HRX
    have HXL2 : Hid ((keepT (gset l X) X).length = l.length) := by show _ = _; rw [keepT_len]; exact HXL.out
    obtain ⟨Z, hZ⟩ : ∃ Z, Z = keepT (gset l X) X := ⟨_, rfl⟩
    rw [← hZ] at HXL2 HXF HXO hD
    have HZ := Lib.hid hZ
    clear hZ
    obtain ⟨B0, hB0⟩ : ∃ B0 : Nat → Prop, B0 = fun d => B d ∨ (w.heap.size + 1 ≤ d ∧ d < w0.heap.size) := ⟨_, rfl⟩
    have HK0 : Hid (PrK B0 pb w w0 (.slice sa l.length sc) n (midT l Z 0 0 0) q qo rc) := by
      rw [mid_first HXL2.out, hB0]
      exact ⟨hD.a, hD.b, hD.d⟩
    have HB1 : Hid ((∀ d, B0 d → d < w0.heap.size) ∧ ¬ B0 w.heap.size ∧ ¬ B0 pb ∧ (∀ d, B0 d → B d ∨ w.heap.size + 1 ≤ d)) := by
      rw [hB0]
      refine ⟨fun d hd => hD.dlt hd, fun h9 => ?_, fun h9 => ?_, fun d hd => hd.imp id (fun h => h.1)⟩
      · rcases h9 with h9 | h9
        · have := hD.hB.1 _ h9; omega
        · omega
      · rcases h9 with h9 | h9
        · exact hD.hB.2.1 h9
        · have := hD.hB.2.2; omega
    have HF0 : Hid (Frm B w w0 ∧ w.heap.size < w0.heap.size) := ⟨hD.fr, hD.lt⟩
    have HTT : Hid (∀ W, Frm B0 w0 W → Rd W A (dTableS l) (.slice sa l.length sc)) := fun W h2 => (HTW.out.frm HF0.out.1 (fun b hb => (HAA.out b hb).2)).frm h2 (fun b hb h9 => by have := (HAA.out b hb).1; rcases HB1.out.2.2.2 b h9 with h8 | h8; exact (HAA.out b hb).2 h8; omega)
    clear hB0 hD HTW
    have x0 := cell_at (o := 0) HK0.out.a rfl
    have PX : Hid (Calls Tryz.prog 47 #[.agg #[.slice sa l.length sc]] w0 (PlxAns l w0)) := by
      obtain ⟨Ad, hA⟩ := (HTT.out w0 (Frm.refl _ _)).tabs
      exact placesX l sa sc Ad A w0 HLT.out HS.out hA
    go_wp2_with fail
    refine PX.out.mono ?_
    rintro e w1 ⟨mb, DD, rfl, hown, hP, hmb, hB1⟩
    have HK1 : Hid (PrK B0 pb w w1 (.slice sa l.length sc) n (midT l Z 0 0 0) q qo rc ∧ Frm B0 w0 w1) := ⟨HK0.out.later hB1, frm_below hB1⟩
    have HLK : Hid (∀ j (hj : j < l.length) W, Frm B0 w1 W → (Instr.lookup 91 (.map (some mb)) (.string ⟨l[j].nm.toArray⟩) false).run Tryz.prog W = .ok (.int .i64 j) W) := fun j hj W h => lookP (owns_frm hown h (fun h9 => by have := HB1.out.1 _ h9; omega)) hP hj (HLT.out.2 _ (List.getElem_mem hj)).1
    clear hown hP hmb hB1 x0 PX HK0
    have x0 := cell_at (o := 0) HK1.out.1.a rfl
    go_wp2_with fail
    clear x0
    go_loopw [17] (fun t wr => ∃ i : Nat, i ≤ l.length ∧ t = .int .i64 (i : Int) ∧ Hid (PrK B0 pb w wr (.slice sa l.length sc) n (midT l Z i 0 0) q qo rc ∧ Frm B0 w1 wr)) (fun t _ => l.length - (intOf t).toNat)
    case atStart => exact ⟨0, Nat.zero_le _, rfl, HK1.out.1, Frm.refl _ _⟩
    case round =>
      obtain ⟨i, hi, rfl, HW⟩ := hrel
      generalize wr = wo at *
      by_cases hil : i < l.length
      case neg =>
        have hki : decide ((i : Int) < (l.length : Int)) = false := by simp; omega
        have hie : i = l.length := by omega
        have HE : Hid (PrK B0 pb w wo (.slice sa l.length sc) n (strike l Z) q qo rc ∧ Frm B w wo) := by
          have h9 := HW.out.1
          rw [hie, mid_end HXL2.out] at h9
          exact ⟨h9, frm_two HF0.out.1 (HK1.out.2.trans HW.out.2) (fun d hd h8 => by rcases HB1.out.2.2.2 d h8 with h7 | h7; exact h7; omega)⟩
        have HBB : Hid (∀ d, B0 d → B d ∨ (w.heap.size ≤ d ∧ d < wo.heap.size)) := fun d h8 => by
          rcases HB1.out.2.2.2 d h8 with h7 | h7
          · exact .inl h7
          · have h6 := HB1.out.1 d h8; have h5 := HK1.out.2.size; have h4 := HW.out.2.size; exact .inr ⟨by omega, by omega⟩
        clear hie
        go_wp2_with fail
        have h9 := HE.out.1
        rw [HZ.out] at h9
        exact bodyPost_end (results_none rfl _ _ _) rfl ⟨rfl, h9.b, h9.d.mono HBB.out, HE.out.2⟩
      have hi2 : (i : Int) < (l.length : Int) := by omega
      have hcl6 := HC6.out i hil
      have HFO : Hid (Frm B0 w0 wo) := HK1.out.2.trans HW.out.2
      obtain ⟨tq, tf, ca, cc, ua, uc, hsa, hbi⟩ := tblAt (HTT.out _ HFO.out) hil
      subst hsa
      obtain ⟨t0, t1, t2, t3, hco, -⟩ := hbi _ (Below.refl _ _)
      clear hbi
      have HTC : Hid (∀ W, Frm B0 wo W → Rd W A (dColumnS l[i].cols) (.slice ca l[i].cols.length cc)) := fun W h2 => hco.frm h2 (fun b hb h9 => by have := (HAA.out b hb).1; rcases HB1.out.2.2.2 b h9 with h8 | h8; exact (HAA.out b hb).2 h8; omega)
      clear hco
      have HBT : Hid (Below wo.heap.size wo (wo.alloc (.cells #[.string ⟨l[i].nm.toArray⟩, .slice ca l[i].cols.length cc, .slice ua l[i].uq.length uc, .bool l[i].rt] 70))) := below_allocD _ _
      have HKT : Hid (PrK B0 pb w (wo.alloc (.cells #[.string ⟨l[i].nm.toArray⟩, .slice ca l[i].cols.length cc, .slice ua l[i].uq.length uc, .bool l[i].rt] 70)) (.slice (some ⟨tq, tf, none⟩) l.length sc) n (midT l Z i 0 0) q qo rc ∧ Frm B0 wo (wo.alloc (.cells #[.string ⟨l[i].nm.toArray⟩, .slice ca l[i].cols.length cc, .slice ua l[i].uq.length uc, .bool l[i].rt] 70))) := ⟨HW.out.1.later HBT.out, frm_below HBT.out⟩
      go_wp2_with fail
      clear t0 t1 t2 t3
      go_loopw [25] (fun t wr => ∃ c : Nat, c ≤ l[i].cols.length ∧ t = .int .i64 (c : Int) ∧ Hid (PrK B0 pb w wr (.slice (some ⟨tq, tf, none⟩) l.length sc) n (midT l Z i c 0) q qo rc ∧ Frm B0 wo wr)) (fun t _ => l[i].cols.length - (intOf t).toNat)
      case atStart => exact ⟨0, Nat.zero_le _, rfl, HKT.out⟩
      case round =>
        obtain ⟨c, hc, rfl, HV⟩ := hrel
        generalize wr = wm at *
        by_cases hcl : c < l[i].cols.length
        case neg =>
          have hcd : decide ((c : Int) < (l[i].cols.length : Int)) = false := by simp; omega
          have HN : Hid (PrK B0 pb w wm (.slice (some ⟨tq, tf, none⟩) l.length sc) n (midT l Z (i + 1) 0 0) q qo rc ∧ Frm B0 w1 wm) := by
            have h9 := HV.out.1
            rw [mid_tab HXL2.out hil (by omega : l[i].cols.length = c)] at h9
            exact ⟨h9, HW.out.2.trans HV.out.2⟩
          go_wp2_with fail
          go_roundw
          case rel => exact ⟨i + 1, by omega, by go_num, HN.out⟩
          case measure => simp [intOf]; omega
        have hc1 : (c : Int) < (l[i].cols.length : Int) := by omega
        obtain ⟨kb, ko, hca, hco⟩ := colsAt (HTC.out _ HV.out.2) hcl
        subst hca
        obtain ⟨c0, c1, c2, c3, c4, c5, c6, c7⟩ := hco _ (Below.refl _ _)
        have HEX : Hid (l[i].cols[c].k = 4 → ∃ j, ∃ hj : j < l.length, l[j].nm = l[i].cols[c].rf) := fun h => ref_exU HS.out hil hcl h
        have HSK : Hid (weakB l[i].cols[c] = false → ∀ W, PrK B0 pb w W (.slice (some ⟨tq, tf, none⟩) l.length sc) n (midT l Z i c 0) q qo rc → PrK B0 pb w W (.slice (some ⟨tq, tf, none⟩) l.length sc) n (midT l Z i (c + 1) 0) q qo rc) := fun hw W h => by rw [← mid_skip HXL2.out hil hcl hw]; exact h
        have f1 : IntKind.i64.wrap ((c : Int) + 1) = ((c + 1 : Nat) : Int) := by rw [IntKind.wrap_i64]; omega
        clear hco
        have hix : i < Z.length := by rw [HXL2.out]; exact hil
        have KP : Hid (∀ (j : Nat) (hj : j < l.length), l[j].nm = l[i].cols[c].rf → weakB l[i].cols[c] = true → ∃ (zi zj : Nat) (ra ja : Option Addr) (rq jq : Nat) (dst : List RowV) (rb roff : Nat), zj = dst.length ∧ (∀ W, Below wm.heap.size wm W → W.cell? ⟨q, qo + i, none⟩ = some (.slice ra zi rq) ∧ W.cell? ⟨q, qo + j, none⟩ = some (.slice ja zj jq)) ∧
        (∀ W, Below wm.heap.size wm W → Calls Tryz.prog 49 #[.slice ja zj jq] W (ShAns dst rb roff W)) ∧
        ∀ m2 mn D2 W, Below wm.heap.size wm W → wm.heap.size ≤ m2 → W.ownsMap Tryz.prog 3 ptrR m2 mn D2 → ShM D2 dst rb roff dst.length → Calls Tryz.prog 48 #[.slice ra zi rq, .int .i64 (c : Int), .map (some m2)] W fun e w' => e = .returned (.tuple #[]) ∧ Frm B0 W w' ∧ w'.heap[q]? = W.heap[q]? ∧ PrK B0 pb w w' (.slice (some ⟨tq, tf, none⟩) l.length sc) n (midT l Z i (c + 1) 0) q qo rc) := fun j hj hjn hw => by
          have hjz : j < Z.length := by rw [HXL2.out]; exact hj
          have hiy : i < (midT l Z i c 0).length := by rw [midT_len]; exact hix
          have hjy : j < (midT l Z i c 0).length := by rw [midT_len]; exact hjz
          obtain ⟨xb, xo, ra, rq, e1, hti⟩ := tabsAt HV.out.1.d.rd' hiy
          obtain ⟨xb2, xo2, ja, jq, e2, htj⟩ := tabsAt HV.out.1.d.rd' hjy
          simp only [Option.some.injEq, Addr.mk.injEq, and_true] at e1 e2
          obtain ⟨rfl, rfl⟩ := e1
          obtain ⟨rfl, rfl⟩ := e2
          have hle : (dRowSS (midT l Z i c 0)).le 1048576 := mid_le HXL2.out HXO.out
          have hlej : (dRowS (midT l Z i c 0)[j]).le maxLen := D.le.mono (by unfold maxLen; omega) _ ((Ls_le.1 hle).2.2 j hjy 0 (by omega))
          obtain ⟨rb, roff, hra⟩ : ∃ rb roff, (0 < (midT l Z i c 0)[j].length → ja = some ⟨rb, roff, none⟩) := by
            by_cases h0 : 0 < (midT l Z i c 0)[j].length
            · obtain ⟨rb, ro, -, -, h, -⟩ := rowsAt (htj _ (Below.refl _ _)).2 h0
              exact ⟨rb, ro, fun _ => h⟩
            · exact ⟨0, 0, fun h => absurd h h0⟩
          obtain ⟨hzz, hlz⟩ := mid_rows (l := l) (X := Z) (i := i) (m := c) (k := 0) HXL2.out hix
          refine ⟨Z[i].length, (midT l Z i c 0)[j].length, ra, ja, rq, jq, (midT l Z i c 0)[j], rb, roff, rfl, fun W h => ⟨by rw [← hlz]; exact (hti W h).1, (htj W h).1⟩, fun W h => shelveI _ ja jq rb roff _ W hra hlej (htj W h).2, fun m2 mn D2 W h hm2 h1 h2 => ?_⟩
          obtain ⟨hw1, hw2⟩ := weak_tpl HS.out hj hjz hjn
          have h9 := keepI l Z i c HXL2.out hil hix hcl (fun k hk => by rw [(row_ofU ((HXF.out.2.2 i hil hix).2.2 k hk).2).len]; exact hcl) hw (midT l Z i c 0)[j] (fun a => by rw [hw2 a]; unfold thP; rw [mid_there HXL2.out hjz, List.getD_eq_getElem?_getD, List.getElem?_eq_getElem hjz]; rfl)
              (fun k hk h3 => by
                have g1 := (Ls_le.1 ((Ls_le.1 HXO.out).2.2 i hix 0 (by omega))).2.2 k hk 1 (by omega)
                have g2 := (Ls_le.1 g1).2.2 c h3 0 (by omega)
                obtain ⟨-, g3, g4⟩ := Ls_le.1 (show (dAtomS Z[i][k].cells[c]).le 1048576 from g2)
                refine ⟨g3, fun x hx => ?_⟩
                obtain ⟨z, hz, rfl⟩ := List.getElem_of_mem hx
                exact g4 z hz 1 (by omega)) (Nat.le_trans (HXF.out.2.2 i hil hix).1 (by omega)) B0 q qo rc rq ra W (by
                have g1 := HV.out.1.d.later h
                rw [midT_len] at g1
                exact g1) (fun d hd => by have g1 := HB1.out.1 d hd; have g2 := HFO.out.size; have g3 := HV.out.2.size; have g4 := h.size; omega) (by rw [← hlz]; exact (hti W h).1) m2 mn rb roff D2 h1 h2 (fun h8 => by have g1 := HB1.out.1 _ h8; have g2 := HFO.out.size; have g3 := HV.out.2.size; omega)
          refine h9.mono (fun e w' ⟨he, hO, hF, hqb⟩ => ⟨he, hF, hqb, ?_⟩)
          refine (HV.out.1.later h).put hF HB1.out.2.1 HB1.out.2.2.1 (by rw [midT_len, midT_len]) ?_
          rw [midT_len]; exact hO
        have HZL : Hid ((midT l Z i c 0).length = Z.length) := midT_len _ _ _ _ _
        have hzi : (i : Int) < (Z.length : Int) := by omega
        clear hix
        generalize hy : l[i].cols[c] = y at *
        clear hy
        obtain ⟨ynm, yk, ymn, ymx, ylo, yhi, yrf, yst⟩ := y
        dsimp only at c0 c1 c2 c3 c4 c5 c6 c7 HEX KP
        by_cases h4 : yk = 4
        case neg =>
          have hne : (yk == 4) = false := by simpa using h4
          have HBA : Hid (Below wm.heap.size wm (wm.alloc (.cells #[.string ⟨ynm.toArray⟩, .int .i64 yk, .int .i64 ymn, .int .i64 ymx, .int .i64 ylo, .int .i64 yhi, .string ⟨yrf.toArray⟩, .bool yst] 72))) := below_allocD _ _
          have x1 := cell_at (o := 1) (heap_newD wm (.cells #[.string ⟨ynm.toArray⟩, .int .i64 yk, .int .i64 ymn, .int .i64 ymx, .int .i64 ylo, .int .i64 yhi, .string ⟨yrf.toArray⟩, .bool yst] 72)) rfl
          have x7 := cell_at (o := 7) (heap_newD wm (.cells #[.string ⟨ynm.toArray⟩, .int .i64 yk, .int .i64 ymn, .int .i64 ymx, .int .i64 ylo, .int .i64 yhi, .string ⟨yrf.toArray⟩, .bool yst] 72)) rfl
          have HN : Hid (PrK B0 pb w (wm.alloc (.cells #[.string ⟨ynm.toArray⟩, .int .i64 yk, .int .i64 ymn, .int .i64 ymx, .int .i64 ylo, .int .i64 yhi, .string ⟨yrf.toArray⟩, .bool yst] 72)) (.slice (some ⟨tq, tf, none⟩) l.length sc) n (midT l Z i (c + 1) 0) q qo rc ∧ Frm B0 wo (wm.alloc (.cells #[.string ⟨ynm.toArray⟩, .int .i64 yk, .int .i64 ymn, .int .i64 ymx, .int .i64 ylo, .int .i64 yhi, .string ⟨yrf.toArray⟩, .bool yst] 72))) := ⟨HSK.out (by unfold weakB; simp [h4]) _ (HV.out.1.later HBA.out), HV.out.2.trans (frm_below HBA.out)⟩
          clear HSK KP HEX HBA
          go_wp2_with fail
          go_roundw
          case rel => exact ⟨c + 1, by omega, by go_num, HN.out⟩
          case measure => simp [intOf]; omega
        subst h4
        cases yst
        case true =>
          have HBA : Hid (Below wm.heap.size wm (wm.alloc (.cells #[.string ⟨ynm.toArray⟩, .int .i64 4, .int .i64 ymn, .int .i64 ymx, .int .i64 ylo, .int .i64 yhi, .string ⟨yrf.toArray⟩, .bool true] 72))) := below_allocD _ _
          have x1 := cell_at (o := 1) (heap_newD wm (.cells #[.string ⟨ynm.toArray⟩, .int .i64 4, .int .i64 ymn, .int .i64 ymx, .int .i64 ylo, .int .i64 yhi, .string ⟨yrf.toArray⟩, .bool true] 72)) rfl
          have x7 := cell_at (o := 7) (heap_newD wm (.cells #[.string ⟨ynm.toArray⟩, .int .i64 4, .int .i64 ymn, .int .i64 ymx, .int .i64 ylo, .int .i64 yhi, .string ⟨yrf.toArray⟩, .bool true] 72)) rfl
          have HN : Hid (PrK B0 pb w (wm.alloc (.cells #[.string ⟨ynm.toArray⟩, .int .i64 4, .int .i64 ymn, .int .i64 ymx, .int .i64 ylo, .int .i64 yhi, .string ⟨yrf.toArray⟩, .bool true] 72)) (.slice (some ⟨tq, tf, none⟩) l.length sc) n (midT l Z i (c + 1) 0) q qo rc ∧ Frm B0 wo (wm.alloc (.cells #[.string ⟨ynm.toArray⟩, .int .i64 4, .int .i64 ymn, .int .i64 ymx, .int .i64 ylo, .int .i64 yhi, .string ⟨yrf.toArray⟩, .bool true] 72))) := ⟨HSK.out (rfl) _ (HV.out.1.later HBA.out), HV.out.2.trans (frm_below HBA.out)⟩
          clear HSK KP HEX HBA
          go_wp2_with fail
          go_roundw
          case rel => exact ⟨c + 1, by omega, by go_num, HN.out⟩
          case measure => simp [intOf]; omega
        case false =>
          obtain ⟨j, hjl, hjn⟩ := HEX.out rfl
          obtain ⟨zi, zj, ra, ja, rq, jq, dst, rb, roff, rfl, hcs, hsh, hkp⟩ := KP.out j hjl hjn rfl
          have hzj : (j : Int) < (Z.length : Int) := by have h9 := HXL2.out; omega
          have HSH := Lib.hid hsh
          have HKP := Lib.hid hkp
          have HCS := Lib.hid hcs
          have HBA : Hid (Below wm.heap.size wm (wm.alloc (.cells #[.string ⟨ynm.toArray⟩, .int .i64 4, .int .i64 ymn, .int .i64 ymx, .int .i64 ylo, .int .i64 yhi, .string ⟨yrf.toArray⟩, .bool false] 72))) := below_allocD _ _
          have x1 := cell_at (o := 1) (heap_newD wm (.cells #[.string ⟨ynm.toArray⟩, .int .i64 4, .int .i64 ymn, .int .i64 ymx, .int .i64 ylo, .int .i64 yhi, .string ⟨yrf.toArray⟩, .bool false] 72)) rfl
          have x7 := cell_at (o := 7) (heap_newD wm (.cells #[.string ⟨ynm.toArray⟩, .int .i64 4, .int .i64 ymn, .int .i64 ymx, .int .i64 ylo, .int .i64 yhi, .string ⟨yrf.toArray⟩, .bool false] 72)) rfl
          have HBC : Hid (∀ W, Below (wm.alloc (.cells #[.string ⟨ynm.toArray⟩, .int .i64 4, .int .i64 ymn, .int .i64 ymx, .int .i64 ylo, .int .i64 yhi, .string ⟨yrf.toArray⟩, .bool false] 72)).heap.size (wm.alloc (.cells #[.string ⟨ynm.toArray⟩, .int .i64 4, .int .i64 ymn, .int .i64 ymx, .int .i64 ylo, .int .i64 yhi, .string ⟨yrf.toArray⟩, .bool false] 72)) W → Below wm.heap.size wm W) := fun W h => HBA.out.trans (h.mono HBA.out.size)
          have HFW : Hid (∀ W, Below (wm.alloc (.cells #[.string ⟨ynm.toArray⟩, .int .i64 4, .int .i64 ymn, .int .i64 ymx, .int .i64 ylo, .int .i64 yhi, .string ⟨yrf.toArray⟩, .bool false] 72)).heap.size (wm.alloc (.cells #[.string ⟨ynm.toArray⟩, .int .i64 4, .int .i64 ymn, .int .i64 ymx, .int .i64 ylo, .int .i64 yhi, .string ⟨yrf.toArray⟩, .bool false] 72)) W → Frm B0 w1 W) := fun W h => (HW.out.2.trans HV.out.2).trans (frm_below (HBC.out W h))
          have HLJ : Hid (∀ W, Frm B0 w1 W → (Instr.lookup 91 (.map (some mb)) (.string ⟨yrf.toArray⟩) false).run Tryz.prog W = .ok (.int .i64 j) W) := fun W h => by rw [← hjn]; exact HLK.out j hjl W h
          have CX : Hid (∀ W, Below (wm.alloc (.cells #[.string ⟨ynm.toArray⟩, .int .i64 4, .int .i64 ymn, .int .i64 ymx, .int .i64 ylo, .int .i64 yhi, .string ⟨yrf.toArray⟩, .bool false] 72)).heap.size (wm.alloc (.cells #[.string ⟨ynm.toArray⟩, .int .i64 4, .int .i64 ymn, .int .i64 ymx, .int .i64 ylo, .int .i64 yhi, .string ⟨yrf.toArray⟩, .bool false] 72)) W → W.cell? ⟨pb, 0, none⟩ = some (.slice (some ⟨q, qo, none⟩) Z.length rc) ∧ W.cell? ⟨q, qo + i, none⟩ = some (.slice ra zi rq) ∧ W.cell? ⟨q, qo + j, none⟩ = some (.slice ja dst.length jq) ∧ W.cell? ⟨wm.heap.size, 6, none⟩ = some (.string ⟨yrf.toArray⟩) ∧ (Instr.lookup 91 (.map (some mb)) (.string ⟨yrf.toArray⟩) false).run Tryz.prog W = .ok (.int .i64 j) W) := fun W h => ⟨by
            have h9 := cell_at (o := 0) (HV.out.1.later (HBC.out W h)).b rfl
            rw [HZL.out] at h9; exact h9, (HCS.out W (HBC.out W h)).1, (HCS.out W (HBC.out W h)).2, cell_keptS (cell_at (o := 6) (heap_newD wm _) rfl) h, HLJ.out W (HFW.out W h)⟩
          have CF : Hid (∀ W W', Below (wm.alloc (.cells #[.string ⟨ynm.toArray⟩, .int .i64 4, .int .i64 ymn, .int .i64 ymx, .int .i64 ylo, .int .i64 yhi, .string ⟨yrf.toArray⟩, .bool false] 72)).heap.size (wm.alloc (.cells #[.string ⟨ynm.toArray⟩, .int .i64 4, .int .i64 ymn, .int .i64 ymx, .int .i64 ylo, .int .i64 yhi, .string ⟨yrf.toArray⟩, .bool false] 72)) W → Frm B0 W W' → W'.heap[q]? = W.heap[q]? → W'.cell? ⟨pb, 0, none⟩ = some (.slice (some ⟨q, qo, none⟩) Z.length rc) ∧ W'.cell? ⟨q, qo + i, none⟩ = some (.slice ra zi rq) ∧ W'.cell? ⟨q, qo + j, none⟩ = some (.slice ja dst.length jq) ∧ W'.cell? ⟨wm.heap.size, 6, none⟩ = some (.string ⟨yrf.toArray⟩) ∧ (Instr.lookup 91 (.map (some mb)) (.string ⟨yrf.toArray⟩) false).run Tryz.prog W' = .ok (.int .i64 j) W') := fun W W' h hF hq => by
            obtain ⟨a0, a1, a2, a3, -⟩ := CX.out W h
            have hpw := World.block_lt_of_cell? _ _ a0
            have hww := World.block_lt_of_cell? _ _ a3
            have b0 := hF.block pb hpw HB1.out.2.2.1
            have b3 := hF.block wm.heap.size hww (fun h8 => by have g1 := HB1.out.1 _ h8; have g2 := HFO.out.size; have g3 := HV.out.2.size; omega)
            simp only [World.cell?] at a0 a1 a2 a3 ⊢
            rw [b0, b3, hq]
            exact ⟨a0, a1, a2, a3, HLJ.out _ ((HFW.out W h).trans hF)⟩
          clear hcs hsh hkp HEX KP HSK hjn
          go_wp2_with fail
          clear c0 c1 c2 c3 c4 c5 c6 c7 x1 x7
          refine wp_region_held_drew (S := (fun W => W.cell? ⟨pb, 0, none⟩ = some (.slice (some ⟨q, qo, none⟩) Z.length rc) ∧ W.cell? ⟨q, qo + i, none⟩ = some (.slice ra zi rq) ∧ W.cell? ⟨q, qo + j, none⟩ = some (.slice ja dst.length jq) ∧ W.cell? ⟨wm.heap.size, 6, none⟩ = some (.string ⟨yrf.toArray⟩) ∧ (Instr.lookup 91 (.map (some mb)) (.string ⟨yrf.toArray⟩) false).run Tryz.prog W = .ok (.int .i64 j) W)) (by kernel_rfl) ?_ (fun hHeld => ?_)
          · (first | exact CX.out _ (Below.refl _ _) | exact CX.out _ (Below.refl _ _).drew | exact CX.out _ BW.out | exact C3.out)
          refine tkB (i := 0) ?_
          refine tkB (i := 1) ?_
          refine tkB (i := 2) ?_
          refine tkB (i := 3) ?_
          refine tkB (i := 4) ?_
          refine tkB (i := 5) ?_
          refine tkB (i := 6) ?_
          refine tkB (i := 7) ?_
          refine tkB (i := 8) ?_
          refine tkB (i := 9) ?_
          refine tkB (i := 10) ?_
          refine tkB (i := 11) ?_
          refine tkB (i := 12) ?_
          refine tkB (i := 13) ?_
          refine tkB (i := 14) ?_
          refine tkB (i := 15) ?_
          refine tkB (i := 16) ?_
          refine tkB (i := 17) ?_
          refine tkR (i := 18) (fun K hK => ?_)
          go_simp
          (go_at_call 49
           refine (HSH.out _ (HBC.out _ (Below.refl _ _).drew)).mono ?_
           rintro e w2 ⟨m2, D2, rfl, hown2, hsh2, hm2, hB⟩
           have BW : Hid (Below (wm.alloc (.cells #[.string ⟨ynm.toArray⟩, .int .i64 4, .int .i64 ymn, .int .i64 ymx, .int .i64 ylo, .int .i64 yhi, .string ⟨yrf.toArray⟩, .bool false] 72)).heap.size (wm.alloc (.cells #[.string ⟨ynm.toArray⟩, .int .i64 4, .int .i64 ymn, .int .i64 ymx, .int .i64 ylo, .int .i64 yhi, .string ⟨yrf.toArray⟩, .bool false] 72)) w2) := (Below.refl _ _).drew.trans hB
           have C2 := Lib.hid (HKP.out m2 _ D2 w2 (HBC.out _ BW.out) (Nat.le_trans (HBC.out _ (Below.refl _ _).drew).size hm2) hown2 hsh2)
           clear hB hown2 hsh2 hm2)
          refine hK.out _ _ ?_ (fun hHeld => ?_)
          · (first | exact CX.out _ (Below.refl _ _) | exact CX.out _ (Below.refl _ _).drew | exact CX.out _ BW.out | exact C3.out)
          clear hK K
          try simp only [Act.put, tkS]
          refine tkR (i := 19) (fun K hK => ?_)
          go_simp
          (go_at_call 48
           refine C2.out.mono ?_
           rintro e w3 ⟨rfl, hF, hqb, hK⟩
           have C3 := Lib.hid (CF.out w2 w3 BW.out hF hqb)
           have HK3 : Hid (PrK B0 pb w w3 (.slice (some ⟨tq, tf, none⟩) l.length sc) n (midT l Z i (c + 1) 0) q qo rc ∧ Frm B0 wo w3) := ⟨hK, (HV.out.2.trans (frm_below (HBC.out _ BW.out))).trans hF⟩
           clear hF hqb hK)
          refine hK.out _ _ ?_ (fun hHeld => ?_)
          · (first | exact CX.out _ (Below.refl _ _) | exact CX.out _ (Below.refl _ _).drew | exact CX.out _ BW.out | exact C3.out)
          clear hK K
          try simp only [Act.put, tkS]
          refine wpAnyH_done (by kernel_rfl) ?_ _
          clear CX CF C2 C3
          go_wp2_with fail
          go_roundw
          case rel => exact ⟨c + 1, by omega, by go_num, HK3.out⟩
          case measure => simp [intOf]; omega
end Go.Proofs.YtngbhifafdbpkaaGreat
