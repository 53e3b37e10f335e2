import Derived.Test.YtmebbinolkohjaaGreatZbq
import Derived.Test.YtmebbinolkohjaaGreatZTk
namespace Go.Proofs.YtmebbinolkohjaaGreat
open Go.RowKit
set_option linter.unusedSimpArgs false
noncomputable def alikeN (uq : List Int) (a b : RowV) (c : Nat) : Bool := alikeP (uq.take c) a b
theorem alikeN_succ {uq : List Int} {a b : RowV} {c : Nat} (h : c < uq.length) : alikeN uq a b (c + 1) = (alikeN uq a b c && eqB (a.cells.getD uq[c].toNat []) (b.cells.getD uq[c].toNat [])) := by
  unfold alikeN alikeP
  rw [List.take_succ_eq_append_getElem h, List.all_append]
  simp
theorem alikeN_all (uq : List Int) (a b : RowV) : alikeN uq a b uq.length = alikeP uq a b := by unfold alikeN; rw [List.take_length]
set_option maxRecDepth 100000 in
set_option maxHeartbeats 6400000 in
theorem uniqS (l : List Tb) (sa : Option Addr) (sc : Nat) (A : Nat → Prop) (x : StV) (xa : Option Addr) (xc : Nat) (B : Nat → Prop) (w : World) (ho : (dRowSS x.tables).le maxLen) (hs : SchP l) (hf : FormP l x) (hT : Rd w A (dTableS l) (.slice sa l.length sc)) (hR : Rd w B (dRowSS x.tables) (.slice xa x.tables.length xc)) :
    Calls Tryz.prog 63 #[.agg #[.slice sa l.length sc], .agg #[.slice xa x.tables.length xc, .int .i64 x.next]] w fun e w' => e = .returned (.bool (uniqB l x.tables)) ∧ Below w.heap.size w w' := by
  have HR : Hid (∀ W, Below w.heap.size w W → Rd W B (dRowSS x.tables) (.slice xa x.tables.length xc)) := fun W h => Rd.later hR h
  have HT : Hid (∀ W, Below w.heap.size w W → Rd W A (dTableS l) (.slice sa l.length sc)) := fun W h => Rd.later hT h
  have HO := Lib.hid ho
  have HLE := Lib.hid hf.1
  have hl4 : l.length ≤ 4 := hs.len.2
  have HUB : Hid (∀ i (hi : i < l.length) (hx : i < x.tables.length), l[i].uq.length ≤ 1000 ∧ x.tables[i].length ≤ 12 ∧ ∀ m (h : m < l[i].uq.length) k (hk : k < x.tables[i].length), 0 ≤ l[i].uq[m] ∧ l[i].uq[m] < (x.tables[i][k].cells.length : Int)) := fun i hi hx => uqBound hs hf hi hx
  have hxl : x.tables.length ≤ 4 := by have := hf.1; omega
  have HB := Lib.hid (boxE 37 32 w #[.slice sa l.length sc] #[.slice xa x.tables.length xc, .int .i64 x.next])
  clear ho hs hf hT hR
  go_enter Tryz.func63, Tryz.ntmps63
  go_wp2_with fail
  go_loopw [5] (fun t wr => ∃ i : Nat, i ≤ x.tables.length ∧ t = .int .i64 i ∧ Hid ((∀ m, m < l.length → m < i → uniqP l x.tables m) ∧ BoxE 37 32 w wr #[.slice sa l.length sc] #[.slice xa x.tables.length xc, .int .i64 x.next])) (fun t _ => x.tables.length - (intOf t).toNat)
  case atStart => exact ⟨0, Nat.zero_le _, rfl, fun m _ h => absurd h (by omega), HB.out⟩
  case round =>
    obtain ⟨i, hi, rfl, HW⟩ := hrel
    generalize wr = wo at *
    have x0 := cell_at (o := 0) HW.out.2.a rfl
    have y0 := cell_at (o := 0) HW.out.2.b rfl
    by_cases hix : i < x.tables.length
    case neg =>
      have hki : decide ((i : Int) < (x.tables.length : Int)) = false := by simp; omega
      have HE := Lib.hid (uniq_yes (fun m hm => HW.out.1 m hm (by have := HLE.out; omega)))
      go_wp2_with fail
      go_ret
      exact ⟨ret_b HE.out.symm, HW.out.2.bel⟩
    have hil : i < l.length := by have := HLE.out; omega
    have hi1 : (i : Int) < (x.tables.length : Int) := by omega
    have hi2 : (i : Int) < (l.length : Int) := by omega
    obtain ⟨xb, xo, ra, rq, hxa, hti⟩ := tabsAt (HR.out _ HW.out.2.bel) hix
    subst hxa
    obtain ⟨tq, tf, ca, cc, ua, uc, hsa, hbi⟩ := tblAt (HT.out _ HW.out.2.bel) hil
    subst hsa
    have HRO : Hid ((dRowS x.tables[i]).le maxLen) := (Ls_le.1 HO.out).2.2 i hix 0 (by omega)
    have HUI := Lib.hid (HUB.out i hil hix)
    have hul := HUI.out.1
    have hrl := HUI.out.2.1
    have HUQ : Hid (∀ m v, l[i].uq[m]? = some v → ∀ k (hk : k < x.tables[i].length), 0 ≤ v ∧ v < (x.tables[i][k].cells.length : Int)) := fun m v hv k hk => by
      obtain ⟨h, rfl⟩ := List.getElem?_eq_some_iff.1 hv
      exact HUI.out.2.2 m h k hk
    have t2 := (hbi _ (Below.refl _ _)).2.2.1
    have BK : Hid (∀ W, Below wo.heap.size wo W → BoxE 37 32 w W #[.slice (some ⟨tq, tf, none⟩) l.length sc] #[.slice (some ⟨xb, xo, none⟩) x.tables.length xc, .int .i64 x.next]) := fun W h => HW.out.2.later h
    have HTI := Lib.hid hti
    have HUA : Hid (∀ W, Below wo.heap.size wo W → Rd W A (dIntS l[i].uq) (.slice ua l[i].uq.length uc)) := fun W h => (hbi W h).2.2.2.2.2
    have HNX : Hid (l[i].uq.length = 0 ∨ twinB l[i].uq x.tables[i] = false → ∀ m, m < l.length → m < i + 1 → uniqP l x.tables m) := fun he m hm hmi => by
      by_cases e : m = i
      · subst e; exact fun _ _ => he
      · exact HW.out.1 m hm (by omega)
    have HNO : Hid (¬ l[i].uq.length = 0 → twinB l[i].uq x.tables[i] = true → uniqB l x.tables = false) := fun h1 h2 => uniq_no hil (fun hn => by
      rcases hn hil hix with h | h
      · exact h1 h
      · rw [h2] at h; cases h)
    clear hti hbi HUI
    generalize l[i] = z at *
    generalize x.tables[i] = rows at *
    obtain ⟨znm, zcols, uq, zrt⟩ := z
    dsimp only at *
    clear hil hix
    go_wp2_with fail
    clear x0 y0 t2
    go_loopw [7] (fun t wr => ∃ j : Nat, j ≤ rows.length ∧ t = .int .i64 j ∧ Hid ((∀ n, n < rows.length → n < j → twoP uq rows n) ∧ Below wo.heap.size wo wr)) (fun t _ => rows.length - (intOf t).toNat)
    case atStart => exact ⟨0, Nat.zero_le _, rfl, fun n _ h => absurd h (by omega), Below.refl _ _⟩
    case round =>
      obtain ⟨j, hj, rfl, HV⟩ := hrel
      generalize wr = wm at *
      have y0 := cell_at (o := 0) (BK.out _ HV.out.2).b rfl
      have c0 := (HTI.out _ HV.out.2).1
      by_cases hjr : j < rows.length
      case neg =>
        have hjd : decide ((j : Int) < (rows.length : Int)) = false := by simp; omega
        have HN := Lib.hid (HNX.out (.inr (twin_no (fun n hn => HV.out.1 n hn (by omega)))))
        have HB2 := Lib.hid (BK.out _ HV.out.2)
        clear HNX HNO
        go_wp2_with fail
        go_roundw
        case rel => exact ⟨i + 1, by omega, by go_num, HN.out, HB2.out⟩
        case measure => simp [intOf]; omega
      have hj1 : (j : Int) < (rows.length : Int) := by omega
      generalize hun : uq.length = un at *
      by_cases h0 : un = 0
      case pos =>
        clear HUQ
        subst h0
        clear hun HUA
        have HN := Lib.hid (HNX.out (.inl rfl))
        have HB2 := Lib.hid (BK.out _ HV.out.2)
        clear HNX HNO
        go_wp2_with fail
        go_roundw
        case rel => exact ⟨i + 1, by omega, by go_num, HN.out, HB2.out⟩
        case measure => simp [intOf]; omega
      have hgd : (0 : Int) < (un : Int) := by omega
      have hgd1 : (un : Int) > 0 := by omega
      have hgd2 : 0 < un := by omega
      obtain ⟨rb, ro, ja, jq, hra, hrj⟩ := rowsAt (HTI.out _ HV.out.2).2 hjr
      subst hra
      have HRJ := Lib.hid hrj
      clear hrj
      go_wp2_with fail
      clear y0 c0
      go_loopw [8] (fun t wr => ∃ k : Nat, k ≤ j ∧ t = .int .i64 k ∧ Hid ((∀ n (hn : n < j), n < k → alikeP uq (rows[n]'(by omega)) rows[j] = false) ∧ Below wm.heap.size wm wr)) (fun t _ => j - (intOf t).toNat)
      case atStart => exact ⟨0, Nat.zero_le _, rfl, fun n _ h => absurd h (by omega), Below.refl _ _⟩
      case round =>
        obtain ⟨k, hk, rfl, HU⟩ := hrel
        generalize wr = wn at *
        have HBN : Hid (Below wo.heap.size wo wn) := HV.out.2.trans (HU.out.2.mono HV.out.2.size)
        by_cases hkj : k < j
        case neg =>
          have hkd : decide ((k : Int) < (j : Int)) = false := by simp; omega
          have HN : Hid (∀ n, n < rows.length → n < j + 1 → twoP uq rows n) := fun n hn hnj => by
            by_cases e : n = j
            · subst e; exact fun _ m hm => HU.out.1 m hm (by omega)
            · exact HV.out.1 n hn (by omega)
          go_wp2_with fail
          go_roundw
          case rel => exact ⟨j + 1, by omega, by go_num, HN.out, HBN.out⟩
          case measure => simp [intOf]; omega
        have hk1 : (k : Int) < (j : Int) := by omega
        have hkr : k < rows.length := by omega
        have hkr1 : (k : Int) < (rows.length : Int) := by omega
        obtain ⟨rb2, ro2, ka, kq, e2, hrk⟩ := rowsAt (HTI.out _ HBN.out).2 hkr
        simp only [Option.some.injEq, Addr.mk.injEq, and_true] at e2
        obtain ⟨rfl, rfl⟩ := e2
        have HRK := Lib.hid hrk
        clear hrk
        have HYES : Hid (alikeP uq rows[j] rows[k] = true → uniqB l x.tables = false) := fun h => HNO.out h0 (twin_yes hjr (fun hn => by have := hn hjr k hkj; rw [alike_sym, h] at this; cases this))
        have HNK : Hid (alikeP uq rows[j] rows[k] = false → ∀ n (hn : n < j), n < k + 1 → alikeP uq (rows[n]'(by omega)) rows[j] = false) := fun he n hn hnk => by
          by_cases e : n = k
          · subst e; rw [alike_sym]; exact he
          · exact HU.out.1 n hn (by omega)
        have HBJ : Hid (∀ m (h : m < uq.length), 0 ≤ uq[m] ∧ uq[m] < (rows[j].cells.length : Int) ∧ uq[m] < (rows[k].cells.length : Int)) := fun m h => ⟨(HUQ.out m _ (List.getElem?_eq_getElem h) j hjr).1, (HUQ.out m _ (List.getElem?_eq_getElem h) j hjr).2, (HUQ.out m _ (List.getElem?_eq_getElem h) k hkr).2⟩
        have HLJ : Hid ((dAtomSS rows[j].cells).le maxLen ∧ (dAtomSS rows[k].cells).le maxLen) := ⟨(Ls_le.1 HRO.out).2.2 j hjr 1 (by omega), (Ls_le.1 HRO.out).2.2 k hkr 1 (by omega)⟩
        have C3 : Hid (∀ W, Below wn.heap.size wn W → (W.cell? ⟨w.heap.size + 1, 0, none⟩ = some (.slice (some ⟨xb, xo, none⟩) x.tables.length xc) ∧ W.cell? ⟨xb, xo + i, none⟩ = some (.slice (some ⟨rb, ro, none⟩) rows.length rq) ∧ W.cell? ⟨rb, ro + j * 2 + 1, none⟩ = some (.slice ja rows[j].cells.length jq) ∧ W.cell? ⟨rb, ro + k * 2 + 1, none⟩ = some (.slice ka rows[k].cells.length kq)) ∧ Rd W B (dAtomSS rows[j].cells) (.slice ja rows[j].cells.length jq) ∧ Rd W B (dAtomSS rows[k].cells) (.slice ka rows[k].cells.length kq)) := fun W h =>
          have h1 := HU.out.2.trans (h.mono HU.out.2.size)
          have h2 := HBN.out.trans (h.mono HBN.out.size)
          ⟨⟨cell_at (o := 0) (BK.out _ h2).b rfl, (HTI.out _ h2).1, (HRJ.out _ h1).2.1, (HRK.out _ h).2.1⟩, (HRJ.out _ h1).2.2, (HRK.out _ h).2.2⟩
        have HN0 := Lib.hid (alikeN_all uq rows[j] rows[k])
        clear HRK HNX HNO HUQ
        generalize rows[j] = rj at *
        generalize rows[k] = rk at *
        go_wp2_with fail
        go_loopw [9, 10] (fun a t wr => ∃ c : Nat, c ≤ un ∧ t = .int .i64 c ∧ a = .bool (alikeN uq rj rk c) ∧ Hid (Below wn.heap.size wn wr)) (fun _ t _ => un - (intOf t).toNat)
        case atStart => exact ⟨0, Nat.zero_le _, rfl, rfl, Below.refl _ _⟩
        case round =>
          obtain ⟨c, hc, rfl, rfl, HX⟩ := hrel
          by_cases hcu : c < un
          case neg =>
            have hcd : decide ((c : Int) < (un : Int)) = false := by simp; omega
            have hce : alikeN uq rj rk c = alikeP uq rj rk := by rw [← HN0.out, show c = uq.length by omega]
            have HB1 := Lib.hid (HU.out.2.trans (HX.out.mono HU.out.2.size))
            have HB2 := Lib.hid (HBN.out.trans (HX.out.mono HBN.out.size))
            rw [hce]
            cases he : alikeP uq rj rk
            case true =>
              have HE := Lib.hid (HYES.out he)
              clear he hce HYES HNK
              go_wp2_with fail
              go_ret
              exact ⟨ret_b HE.out.symm, (BK.out _ HB2.out).bel⟩
            have HN := Lib.hid (HNK.out he)
            clear he hce HYES HNK
            go_wp2_with fail
            go_roundw
            case rel => exact ⟨k + 1, by omega, by go_num, HN.out, HB1.out⟩
            case measure => simp [intOf]; omega
          have hcl : c < uq.length := by omega
          have hc1 : (c : Int) < (un : Int) := by omega
          obtain ⟨hb0, hb1, hb2⟩ := HBJ.out c hcl
          have HBM : Hid (Below wo.heap.size wo wr) := HBN.out.trans (HX.out.mono HBN.out.size)
          have HUW : Hid (Rd wr A (dIntS uq) (.slice ua uq.length uc)) := by rw [hun]; exact HUA.out _ HBM.out
          obtain ⟨ub, uo, hua, hui⟩ := intsAt HUW.out hcl
          subst hua
          obtain ⟨K, hK⟩ : ∃ K : Nat, uq[c] = (K : Int) := ⟨uq[c].toNat, by omega⟩
          have hKa : K < rj.cells.length := by omega
          have hKb : K < rk.cells.length := by omega
          have hKa1 : (K : Int) < (rj.cells.length : Int) := by omega
          have hKb1 : (K : Int) < (rk.cells.length : Int) := by omega
          obtain ⟨ab, ao, pa, pq, haa, hca⟩ := cellsAt (C3.out _ HX.out).2.1 hKa
          subst haa
          obtain ⟨bb, bo, qa, qq, hba, hcb⟩ := cellsAt (C3.out _ HX.out).2.2 hKb
          subst hba
          rw [hK] at hui
          have SS : Hid (∀ W, Below wr.heap.size wr W → Calls Tryz.prog 94 #[.slice pa rj.cells[K].length pq, .slice qa rk.cells[K].length qq] W fun e w' => e = .returned (.bool (eqB rj.cells[K] rk.cells[K])) ∧ Below W.heap.size W w') := fun W h => same03S rj.cells[K] rk.cells[K] pa pq qa qq B B W ((Ls_le.1 HLJ.out.1).2.2 K hKa 0 (by omega)) ((Ls_le.1 HLJ.out.2).2.2 K hKb 0 (by omega)) (hca W h).2 (hcb W h).2
          have CX : Hid (∀ W, Below wr.heap.size wr W → W.cell? ⟨w.heap.size + 1, 0, none⟩ = some (.slice (some ⟨xb, xo, none⟩) x.tables.length xc) ∧ W.cell? ⟨xb, xo + i, none⟩ = some (.slice (some ⟨rb, ro, none⟩) rows.length rq) ∧ W.cell? ⟨rb, ro + j * 2 + 1, none⟩ = some (.slice (some ⟨ab, ao, none⟩) rj.cells.length jq) ∧ W.cell? ⟨rb, ro + k * 2 + 1, none⟩ = some (.slice (some ⟨bb, bo, none⟩) rk.cells.length kq) ∧ W.cell? ⟨ub, uo + c, none⟩ = some (.int .i64 (K : Int)) ∧ W.cell? ⟨ab, ao + K, none⟩ = some (.slice pa rj.cells[K].length pq) ∧ W.cell? ⟨bb, bo + K, none⟩ = some (.slice qa rk.cells[K].length qq)) := fun W h =>
            have h1 := (C3.out W (HX.out.trans (h.mono HX.out.size))).1
            ⟨h1.1, h1.2.1, h1.2.2.1, h1.2.2.2, hui W h, (hca W h).1, (hcb W h).1⟩
          have HAS : Hid (alikeN uq rj rk (c + 1) = (alikeN uq rj rk c && eqB rj.cells[K] rk.cells[K])) := by rw [alikeN_succ hcl, hK, Int.toNat_natCast, getDA hKa, getDA hKb]; rfl
          clear hca hcb hui hK hb0 hb1 hb2 HBJ HYES HNK HLJ HUW
          generalize rj.cells[K] = da at *
          generalize rk.cells[K] = db at *
          clear hKa hKb hcl
          generalize alikeN uq rj rk c = nw at *
          cases nw
          case false =>
            have HV2 := Lib.hid (HAS.out)
            clear SS HAS
            go_wp2_with fail
            refine wp_region_held_drew (S := (fun W => W.cell? ⟨w.heap.size + 1, 0, none⟩ = some (.slice (some ⟨xb, xo, none⟩) x.tables.length xc) ∧ W.cell? ⟨xb, xo + i, none⟩ = some (.slice (some ⟨rb, ro, none⟩) rows.length rq) ∧ W.cell? ⟨rb, ro + j * 2 + 1, none⟩ = some (.slice (some ⟨ab, ao, none⟩) rj.cells.length jq) ∧ W.cell? ⟨rb, ro + k * 2 + 1, none⟩ = some (.slice (some ⟨bb, bo, none⟩) rk.cells.length kq) ∧ W.cell? ⟨ub, uo + c, none⟩ = some (.int .i64 (K : Int)) ∧ W.cell? ⟨ab, ao + K, none⟩ = some (.slice pa da.length pq) ∧ W.cell? ⟨bb, bo + K, none⟩ = some (.slice qa db.length qq))) (by kernel_rfl) ?_ (fun hHeld => ?_)
            · (first | exact CX.out _ (Below.refl _ _) | exact CX.out _ (Below.refl _ _).drew | exact CX.out _ BW.out)
            refine wpAnyH_take (i := 0) (v := ?_) rfl (by kernel_rfl) (by kernel_rfl) (by kernel_rfl) (fun _ _ _ h => h) (Or.inl ⟨by kernel_rfl, ?_⟩) (by assumption) ?_
            rotate_left
            · (intro wS hSw; (try dsimp only at hSw); go_simp <;> with_reducible rfl)
            try simp only [Act.put, tkS]
            refine wpAnyH_take (i := 1) (v := ?_) rfl (by kernel_rfl) (by kernel_rfl) (by kernel_rfl) (fun _ _ _ h => h) (Or.inl ⟨by kernel_rfl, ?_⟩) (by assumption) ?_
            rotate_left
            · (intro wS hSw; (try dsimp only at hSw); go_simp <;> with_reducible rfl)
            try simp only [Act.put, tkS]
            refine wpAnyH_take (i := 2) (v := undef) rfl (by kernel_rfl) (by kernel_rfl) (by kernel_rfl) (fun _ _ _ h => h) (Or.inr ⟨by kernel_rfl, rfl⟩) (by assumption) ?_
            try simp only [Act.put, tkS]
            refine wpAnyH_take (i := 3) (v := undef) rfl (by kernel_rfl) (by kernel_rfl) (by kernel_rfl) (fun _ _ _ h => h) (Or.inr ⟨by kernel_rfl, rfl⟩) (by assumption) ?_
            try simp only [Act.put, tkS]
            refine wpAnyH_take (i := 4) (v := undef) rfl (by kernel_rfl) (by kernel_rfl) (by kernel_rfl) (fun _ _ _ h => h) (Or.inr ⟨by kernel_rfl, rfl⟩) (by assumption) ?_
            try simp only [Act.put, tkS]
            refine wpAnyH_take (i := 5) (v := undef) rfl (by kernel_rfl) (by kernel_rfl) (by kernel_rfl) (fun _ _ _ h => h) (Or.inr ⟨by kernel_rfl, rfl⟩) (by assumption) ?_
            try simp only [Act.put, tkS]
            refine wpAnyH_take (i := 6) (v := undef) rfl (by kernel_rfl) (by kernel_rfl) (by kernel_rfl) (fun _ _ _ h => h) (Or.inr ⟨by kernel_rfl, rfl⟩) (by assumption) ?_
            try simp only [Act.put, tkS]
            refine wpAnyH_take (i := 7) (v := undef) rfl (by kernel_rfl) (by kernel_rfl) (by kernel_rfl) (fun _ _ _ h => h) (Or.inr ⟨by kernel_rfl, rfl⟩) (by assumption) ?_
            try simp only [Act.put, tkS]
            refine wpAnyH_take (i := 8) (v := undef) rfl (by kernel_rfl) (by kernel_rfl) (by kernel_rfl) (fun _ _ _ h => h) (Or.inr ⟨by kernel_rfl, rfl⟩) (by assumption) ?_
            try simp only [Act.put, tkS]
            refine wpAnyH_take (i := 9) (v := undef) rfl (by kernel_rfl) (by kernel_rfl) (by kernel_rfl) (fun _ _ _ h => h) (Or.inr ⟨by kernel_rfl, rfl⟩) (by assumption) ?_
            try simp only [Act.put, tkS]
            refine wpAnyH_take (i := 10) (v := undef) rfl (by kernel_rfl) (by kernel_rfl) (by kernel_rfl) (fun _ _ _ h => h) (Or.inr ⟨by kernel_rfl, rfl⟩) (by assumption) ?_
            try simp only [Act.put, tkS]
            refine wpAnyH_take (i := 11) (v := undef) rfl (by kernel_rfl) (by kernel_rfl) (by kernel_rfl) (fun _ _ _ h => h) (Or.inr ⟨by kernel_rfl, rfl⟩) (by assumption) ?_
            try simp only [Act.put, tkS]
            refine wpAnyH_take (i := 12) (v := undef) rfl (by kernel_rfl) (by kernel_rfl) (by kernel_rfl) (fun _ _ _ h => h) (Or.inr ⟨by kernel_rfl, rfl⟩) (by assumption) ?_
            try simp only [Act.put, tkS]
            refine wpAnyH_take (i := 13) (v := undef) rfl (by kernel_rfl) (by kernel_rfl) (by kernel_rfl) (fun _ _ _ h => h) (Or.inr ⟨by kernel_rfl, rfl⟩) (by assumption) ?_
            try simp only [Act.put, tkS]
            refine wpAnyH_take (i := 14) (v := undef) rfl (by kernel_rfl) (by kernel_rfl) (by kernel_rfl) (fun _ _ _ h => h) (Or.inr ⟨by kernel_rfl, rfl⟩) (by assumption) ?_
            try simp only [Act.put, tkS]
            refine wpAnyH_take (i := 15) (v := undef) rfl (by kernel_rfl) (by kernel_rfl) (by kernel_rfl) (fun _ _ _ h => h) (Or.inr ⟨by kernel_rfl, rfl⟩) (by assumption) ?_
            try simp only [Act.put, tkS]
            refine wpAnyH_take (i := 16) (v := undef) rfl (by kernel_rfl) (by kernel_rfl) (by kernel_rfl) (fun _ _ _ h => h) (Or.inr ⟨by kernel_rfl, rfl⟩) (by assumption) ?_
            try simp only [Act.put, tkS]
            refine wpAnyH_take (i := 17) (v := undef) rfl (by kernel_rfl) (by kernel_rfl) (by kernel_rfl) (fun _ _ _ h => h) (Or.inr ⟨by kernel_rfl, rfl⟩) (by assumption) ?_
            try simp only [Act.put, tkS]
            refine wpAnyH_take (i := 18) (v := undef) rfl (by kernel_rfl) (by kernel_rfl) (by kernel_rfl) (fun _ _ _ h => h) (Or.inr ⟨by kernel_rfl, rfl⟩) (by assumption) ?_
            try simp only [Act.put, tkS]
            refine wpAnyH_take (i := 19) (v := undef) rfl (by kernel_rfl) (by kernel_rfl) (by kernel_rfl) (fun _ _ _ h => h) (Or.inr ⟨by kernel_rfl, rfl⟩) (by assumption) ?_
            try simp only [Act.put, tkS]
            refine wpAnyH_take (i := 20) (v := undef) rfl (by kernel_rfl) (by kernel_rfl) (by kernel_rfl) (fun _ _ _ h => h) (Or.inr ⟨by kernel_rfl, rfl⟩) (by assumption) ?_
            try simp only [Act.put, tkS]
            refine wpAnyH_take (i := 21) (v := undef) rfl (by kernel_rfl) (by kernel_rfl) (by kernel_rfl) (fun _ _ _ h => h) (Or.inr ⟨by kernel_rfl, rfl⟩) (by assumption) ?_
            try simp only [Act.put, tkS]
            refine wpAnyH_take (i := 22) (v := undef) rfl (by kernel_rfl) (by kernel_rfl) (by kernel_rfl) (fun _ _ _ h => h) (Or.inr ⟨by kernel_rfl, rfl⟩) (by assumption) ?_
            try simp only [Act.put, tkS]
            refine wpAnyH_take (i := 23) (v := undef) rfl (by kernel_rfl) (by kernel_rfl) (by kernel_rfl) (fun _ _ _ h => h) (Or.inr ⟨by kernel_rfl, rfl⟩) (by assumption) ?_
            try simp only [Act.put, tkS]
            refine wpAnyH_take (i := 24) (v := undef) rfl (by kernel_rfl) (by kernel_rfl) (by kernel_rfl) (fun _ _ _ h => h) (Or.inr ⟨by kernel_rfl, rfl⟩) (by assumption) ?_
            try simp only [Act.put, tkS]
            refine wpAnyH_take (i := 25) (v := undef) rfl (by kernel_rfl) (by kernel_rfl) (by kernel_rfl) (fun _ _ _ h => h) (Or.inr ⟨by kernel_rfl, rfl⟩) (by assumption) ?_
            try simp only [Act.put, tkS]
            refine wpAnyH_take (i := 26) (v := undef) rfl (by kernel_rfl) (by kernel_rfl) (by kernel_rfl) (fun _ _ _ h => h) (Or.inr ⟨by kernel_rfl, rfl⟩) (by assumption) ?_
            try simp only [Act.put, tkS]
            refine wpAnyH_take (i := 27) (v := undef) rfl (by kernel_rfl) (by kernel_rfl) (by kernel_rfl) (fun _ _ _ h => h) (Or.inr ⟨by kernel_rfl, rfl⟩) (by assumption) ?_
            try simp only [Act.put, tkS]
            refine wpAnyH_take (i := 28) (v := undef) rfl (by kernel_rfl) (by kernel_rfl) (by kernel_rfl) (fun _ _ _ h => h) (Or.inr ⟨by kernel_rfl, rfl⟩) (by assumption) ?_
            try simp only [Act.put, tkS]
            refine wpAnyH_take (i := 29) (v := undef) rfl (by kernel_rfl) (by kernel_rfl) (by kernel_rfl) (fun _ _ _ h => h) (Or.inr ⟨by kernel_rfl, rfl⟩) (by assumption) ?_
            try simp only [Act.put, tkS]
            refine wpAnyH_take (i := 30) (v := undef) rfl (by kernel_rfl) (by kernel_rfl) (by kernel_rfl) (fun _ _ _ h => h) (Or.inr ⟨by kernel_rfl, rfl⟩) (by assumption) ?_
            try simp only [Act.put, tkS]
            refine wpAnyH_take (i := 31) (v := undef) rfl (by kernel_rfl) (by kernel_rfl) (by kernel_rfl) (fun _ _ _ h => h) (Or.inr ⟨by kernel_rfl, rfl⟩) (by assumption) ?_
            try simp only [Act.put, tkS]
            refine wpAnyH_take (i := 32) (v := undef) rfl (by kernel_rfl) (by kernel_rfl) (by kernel_rfl) (fun _ _ _ h => h) (Or.inr ⟨by kernel_rfl, rfl⟩) (by assumption) ?_
            try simp only [Act.put, tkS]
            refine wpAnyH_take (i := 33) (v := ?_) rfl (by kernel_rfl) (by kernel_rfl) (by kernel_rfl) (fun _ _ _ h => h) (Or.inl ⟨by kernel_rfl, ?_⟩) (by assumption) ?_
            rotate_left
            · (intro wS hSw; (try dsimp only at hSw); go_simp <;> with_reducible rfl)
            try simp only [Act.put, tkS]
            refine wpAnyH_take (i := 34) (v := ?_) rfl (by kernel_rfl) (by kernel_rfl) (by kernel_rfl) (fun _ _ _ h => h) (Or.inl ⟨by kernel_rfl, ?_⟩) (by assumption) ?_
            rotate_left
            · (intro wS hSw; (try dsimp only at hSw); go_simp <;> with_reducible rfl)
            try simp only [Act.put, tkS]
            refine wpAnyH_done (by kernel_rfl) ?_ _
            go_wp2_with fail
            go_roundw
            case rel => exact ⟨c + 1, by omega, by go_num, (congrArg Value.bool HV2.out.symm :), HX.out.drew⟩
            case measure => simp [intOf]; omega
          go_wp2_with fail
          refine wp_region_held_drew (S := (fun W => W.cell? ⟨w.heap.size + 1, 0, none⟩ = some (.slice (some ⟨xb, xo, none⟩) x.tables.length xc) ∧ W.cell? ⟨xb, xo + i, none⟩ = some (.slice (some ⟨rb, ro, none⟩) rows.length rq) ∧ W.cell? ⟨rb, ro + j * 2 + 1, none⟩ = some (.slice (some ⟨ab, ao, none⟩) rj.cells.length jq) ∧ W.cell? ⟨rb, ro + k * 2 + 1, none⟩ = some (.slice (some ⟨bb, bo, none⟩) rk.cells.length kq) ∧ W.cell? ⟨ub, uo + c, none⟩ = some (.int .i64 (K : Int)) ∧ W.cell? ⟨ab, ao + K, none⟩ = some (.slice pa da.length pq) ∧ W.cell? ⟨bb, bo + K, none⟩ = some (.slice qa db.length qq))) (by kernel_rfl) ?_ (fun hHeld => ?_)
          · (first | exact CX.out _ (Below.refl _ _) | exact CX.out _ (Below.refl _ _).drew | exact CX.out _ BW.out)
          refine wpAnyH_take (i := 0) (v := ?_) rfl (by kernel_rfl) (by kernel_rfl) (by kernel_rfl) (fun _ _ _ h => h) (Or.inl ⟨by kernel_rfl, ?_⟩) (by assumption) ?_
          rotate_left
          · (intro wS hSw; (try dsimp only at hSw); go_simp <;> with_reducible rfl)
          try simp only [Act.put, tkS]
          refine wpAnyH_take (i := 1) (v := ?_) rfl (by kernel_rfl) (by kernel_rfl) (by kernel_rfl) (fun _ _ _ h => h) (Or.inl ⟨by kernel_rfl, ?_⟩) (by assumption) ?_
          rotate_left
          · (intro wS hSw; (try dsimp only at hSw); go_simp <;> with_reducible rfl)
          try simp only [Act.put, tkS]
          refine wpAnyH_take (i := 2) (v := ?_) rfl (by kernel_rfl) (by kernel_rfl) (by kernel_rfl) (fun _ _ _ h => h) (Or.inl ⟨by kernel_rfl, ?_⟩) (by assumption) ?_
          rotate_left
          · (intro wS hSw; (try dsimp only at hSw); go_simp <;> with_reducible rfl)
          try simp only [Act.put, tkS]
          refine wpAnyH_take (i := 3) (v := ?_) rfl (by kernel_rfl) (by kernel_rfl) (by kernel_rfl) (fun _ _ _ h => h) (Or.inl ⟨by kernel_rfl, ?_⟩) (by assumption) ?_
          rotate_left
          · (intro wS hSw; (try dsimp only at hSw); go_simp <;> with_reducible rfl)
          try simp only [Act.put, tkS]
          refine wpAnyH_take (i := 4) (v := ?_) rfl (by kernel_rfl) (by kernel_rfl) (by kernel_rfl) (fun _ _ _ h => h) (Or.inl ⟨by kernel_rfl, ?_⟩) (by assumption) ?_
          rotate_left
          · (intro wS hSw; (try dsimp only at hSw); go_simp <;> with_reducible rfl)
          try simp only [Act.put, tkS]
          refine wpAnyH_take (i := 5) (v := ?_) rfl (by kernel_rfl) (by kernel_rfl) (by kernel_rfl) (fun _ _ _ h => h) (Or.inl ⟨by kernel_rfl, ?_⟩) (by assumption) ?_
          rotate_left
          · (intro wS hSw; (try dsimp only at hSw); go_simp <;> with_reducible rfl)
          try simp only [Act.put, tkS]
          refine wpAnyH_take (i := 6) (v := ?_) rfl (by kernel_rfl) (by kernel_rfl) (by kernel_rfl) (fun _ _ _ h => h) (Or.inl ⟨by kernel_rfl, ?_⟩) (by assumption) ?_
          rotate_left
          · (intro wS hSw; (try dsimp only at hSw); go_simp <;> with_reducible rfl)
          try simp only [Act.put, tkS]
          refine wpAnyH_take (i := 7) (v := ?_) rfl (by kernel_rfl) (by kernel_rfl) (by kernel_rfl) (fun _ _ _ h => h) (Or.inl ⟨by kernel_rfl, ?_⟩) (by assumption) ?_
          rotate_left
          · (intro wS hSw; (try dsimp only at hSw); go_simp <;> with_reducible rfl)
          try simp only [Act.put, tkS]
          refine wpAnyH_take (i := 8) (v := ?_) rfl (by kernel_rfl) (by kernel_rfl) (by kernel_rfl) (fun _ _ _ h => h) (Or.inl ⟨by kernel_rfl, ?_⟩) (by assumption) ?_
          rotate_left
          · (intro wS hSw; (try dsimp only at hSw); go_simp <;> with_reducible rfl)
          try simp only [Act.put, tkS]
          refine wpAnyH_take (i := 9) (v := ?_) rfl (by kernel_rfl) (by kernel_rfl) (by kernel_rfl) (fun _ _ _ h => h) (Or.inl ⟨by kernel_rfl, ?_⟩) (by assumption) ?_
          rotate_left
          · (intro wS hSw; (try dsimp only at hSw); go_simp <;> with_reducible rfl)
          try simp only [Act.put, tkS]
          refine wpAnyH_take (i := 10) (v := ?_) rfl (by kernel_rfl) (by kernel_rfl) (by kernel_rfl) (fun _ _ _ h => h) (Or.inl ⟨by kernel_rfl, ?_⟩) (by assumption) ?_
          rotate_left
          · (intro wS hSw; (try dsimp only at hSw); go_simp <;> with_reducible rfl)
          try simp only [Act.put, tkS]
          refine wpAnyH_take (i := 11) (v := ?_) rfl (by kernel_rfl) (by kernel_rfl) (by kernel_rfl) (fun _ _ _ h => h) (Or.inl ⟨by kernel_rfl, ?_⟩) (by assumption) ?_
          rotate_left
          · (intro wS hSw; (try dsimp only at hSw); go_simp <;> with_reducible rfl)
          try simp only [Act.put, tkS]
          refine wpAnyH_take (i := 12) (v := ?_) rfl (by kernel_rfl) (by kernel_rfl) (by kernel_rfl) (fun _ _ _ h => h) (Or.inl ⟨by kernel_rfl, ?_⟩) (by assumption) ?_
          rotate_left
          · (intro wS hSw; (try dsimp only at hSw); go_simp <;> with_reducible rfl)
          try simp only [Act.put, tkS]
          refine wpAnyH_take (i := 13) (v := ?_) rfl (by kernel_rfl) (by kernel_rfl) (by kernel_rfl) (fun _ _ _ h => h) (Or.inl ⟨by kernel_rfl, ?_⟩) (by assumption) ?_
          rotate_left
          · (intro wS hSw; (try dsimp only at hSw); go_simp <;> with_reducible rfl)
          try simp only [Act.put, tkS]
          refine wpAnyH_take (i := 14) (v := ?_) rfl (by kernel_rfl) (by kernel_rfl) (by kernel_rfl) (fun _ _ _ h => h) (Or.inl ⟨by kernel_rfl, ?_⟩) (by assumption) ?_
          rotate_left
          · (intro wS hSw; (try dsimp only at hSw); go_simp <;> with_reducible rfl)
          try simp only [Act.put, tkS]
          refine wpAnyH_take (i := 15) (v := ?_) rfl (by kernel_rfl) (by kernel_rfl) (by kernel_rfl) (fun _ _ _ h => h) (Or.inl ⟨by kernel_rfl, ?_⟩) (by assumption) ?_
          rotate_left
          · (intro wS hSw; (try dsimp only at hSw); go_simp <;> with_reducible rfl)
          try simp only [Act.put, tkS]
          refine wpAnyH_take (i := 16) (v := ?_) rfl (by kernel_rfl) (by kernel_rfl) (by kernel_rfl) (fun _ _ _ h => h) (Or.inl ⟨by kernel_rfl, ?_⟩) (by assumption) ?_
          rotate_left
          · (intro wS hSw; (try dsimp only at hSw); go_simp <;> with_reducible rfl)
          try simp only [Act.put, tkS]
          refine wpAnyH_take (i := 17) (v := ?_) rfl (by kernel_rfl) (by kernel_rfl) (by kernel_rfl) (fun _ _ _ h => h) (Or.inl ⟨by kernel_rfl, ?_⟩) (by assumption) ?_
          rotate_left
          · (intro wS hSw; (try dsimp only at hSw); go_simp <;> with_reducible rfl)
          try simp only [Act.put, tkS]
          refine wpAnyH_take (i := 18) (v := ?_) rfl (by kernel_rfl) (by kernel_rfl) (by kernel_rfl) (fun _ _ _ h => h) (Or.inl ⟨by kernel_rfl, ?_⟩) (by assumption) ?_
          rotate_left
          · (intro wS hSw; (try dsimp only at hSw); go_simp <;> with_reducible rfl)
          try simp only [Act.put, tkS]
          refine wpAnyH_take (i := 19) (v := ?_) rfl (by kernel_rfl) (by kernel_rfl) (by kernel_rfl) (fun _ _ _ h => h) (Or.inl ⟨by kernel_rfl, ?_⟩) (by assumption) ?_
          rotate_left
          · (intro wS hSw; (try dsimp only at hSw); go_simp <;> with_reducible rfl)
          try simp only [Act.put, tkS]
          refine wpAnyH_take (i := 20) (v := ?_) rfl (by kernel_rfl) (by kernel_rfl) (by kernel_rfl) (fun _ _ _ h => h) (Or.inl ⟨by kernel_rfl, ?_⟩) (by assumption) ?_
          rotate_left
          · (intro wS hSw; (try dsimp only at hSw); go_simp <;> with_reducible rfl)
          try simp only [Act.put, tkS]
          refine wpAnyH_take (i := 21) (v := ?_) rfl (by kernel_rfl) (by kernel_rfl) (by kernel_rfl) (fun _ _ _ h => h) (Or.inl ⟨by kernel_rfl, ?_⟩) (by assumption) ?_
          rotate_left
          · (intro wS hSw; (try dsimp only at hSw); go_simp <;> with_reducible rfl)
          try simp only [Act.put, tkS]
          refine wpAnyH_take (i := 22) (v := ?_) rfl (by kernel_rfl) (by kernel_rfl) (by kernel_rfl) (fun _ _ _ h => h) (Or.inl ⟨by kernel_rfl, ?_⟩) (by assumption) ?_
          rotate_left
          · (intro wS hSw; (try dsimp only at hSw); go_simp <;> with_reducible rfl)
          try simp only [Act.put, tkS]
          refine wpAnyH_take (i := 23) (v := ?_) rfl (by kernel_rfl) (by kernel_rfl) (by kernel_rfl) (fun _ _ _ h => h) (Or.inl ⟨by kernel_rfl, ?_⟩) (by assumption) ?_
          rotate_left
          · (intro wS hSw; (try dsimp only at hSw); go_simp <;> with_reducible rfl)
          try simp only [Act.put, tkS]
          refine wpAnyH_take (i := 24) (v := ?_) rfl (by kernel_rfl) (by kernel_rfl) (by kernel_rfl) (fun _ _ _ h => h) (Or.inl ⟨by kernel_rfl, ?_⟩) (by assumption) ?_
          rotate_left
          · (intro wS hSw; (try dsimp only at hSw); go_simp <;> with_reducible rfl)
          try simp only [Act.put, tkS]
          refine wpAnyH_take (i := 25) (v := ?_) rfl (by kernel_rfl) (by kernel_rfl) (by kernel_rfl) (fun _ _ _ h => h) (Or.inl ⟨by kernel_rfl, ?_⟩) (by assumption) ?_
          rotate_left
          · (intro wS hSw; (try dsimp only at hSw); go_simp <;> with_reducible rfl)
          try simp only [Act.put, tkS]
          refine wpAnyH_take (i := 26) (v := ?_) rfl (by kernel_rfl) (by kernel_rfl) (by kernel_rfl) (fun _ _ _ h => h) (Or.inl ⟨by kernel_rfl, ?_⟩) (by assumption) ?_
          rotate_left
          · (intro wS hSw; (try dsimp only at hSw); go_simp <;> with_reducible rfl)
          try simp only [Act.put, tkS]
          refine wpAnyH_take (i := 27) (v := ?_) rfl (by kernel_rfl) (by kernel_rfl) (by kernel_rfl) (fun _ _ _ h => h) (Or.inl ⟨by kernel_rfl, ?_⟩) (by assumption) ?_
          rotate_left
          · (intro wS hSw; (try dsimp only at hSw); go_simp <;> with_reducible rfl)
          try simp only [Act.put, tkS]
          refine wpAnyH_take (i := 28) (v := ?_) rfl (by kernel_rfl) (by kernel_rfl) (by kernel_rfl) (fun _ _ _ h => h) (Or.inl ⟨by kernel_rfl, ?_⟩) (by assumption) ?_
          rotate_left
          · (intro wS hSw; (try dsimp only at hSw); go_simp <;> with_reducible rfl)
          try simp only [Act.put, tkS]
          refine wpAnyH_take (i := 29) (v := ?_) rfl (by kernel_rfl) (by kernel_rfl) (by kernel_rfl) (fun _ _ _ h => h) (Or.inl ⟨by kernel_rfl, ?_⟩) (by assumption) ?_
          rotate_left
          · (intro wS hSw; (try dsimp only at hSw); go_simp <;> with_reducible rfl)
          try simp only [Act.put, tkS]
          refine wpAnyH_take (i := 30) (v := ?_) rfl (by kernel_rfl) (by kernel_rfl) (by kernel_rfl) (fun _ _ _ h => h) (Or.inl ⟨by kernel_rfl, ?_⟩) (by assumption) ?_
          rotate_left
          · (intro wS hSw; (try dsimp only at hSw); go_simp <;> with_reducible rfl)
          try simp only [Act.put, tkS]
          refine wpAnyH_take (i := 31) (v := ?_) rfl (by kernel_rfl) (by kernel_rfl) (by kernel_rfl) (fun _ _ _ h => h) (Or.inl ⟨by kernel_rfl, ?_⟩) (by assumption) ?_
          rotate_left
          · (intro wS hSw; (try dsimp only at hSw); go_simp <;> with_reducible rfl)
          try simp only [Act.put, tkS]
          refine wpAnyH_ready (rs := [32]) (by kernel_rfl) (by simp) (AllReadyH.cons rfl (fun K hK => ?_) AllReadyH.nil)
          go_simp
          (go_at_call 94; refine (SS.out _ (Below.refl _ _).drew).mono ?_; rintro e w1 ⟨rfl, hB⟩; have BW : Hid (Below wr.heap.size wr w1) := (Below.refl _ _).drew.trans hB; clear hB)
          refine hK.out _ _ ?_ (fun hHeld => ?_)
          · (first | exact CX.out _ (Below.refl _ _) | exact CX.out _ (Below.refl _ _).drew | exact CX.out _ BW.out)
          clear hK K
          try simp only [Act.put, tkS]
          refine wpAnyH_take (i := 33) (v := ?_) rfl (by kernel_rfl) (by kernel_rfl) (by kernel_rfl) (fun _ _ _ h => h) (Or.inl ⟨by kernel_rfl, ?_⟩) (by assumption) ?_
          rotate_left
          · (intro wS hSw; (try dsimp only at hSw); go_simp <;> with_reducible rfl)
          try simp only [Act.put, tkS]
          refine wpAnyH_take (i := 34) (v := ?_) rfl (by kernel_rfl) (by kernel_rfl) (by kernel_rfl) (fun _ _ _ h => h) (Or.inl ⟨by kernel_rfl, ?_⟩) (by assumption) ?_
          rotate_left
          · (intro wS hSw; (try dsimp only at hSw); go_simp <;> with_reducible rfl)
          try simp only [Act.put, tkS]
          refine wpAnyH_done (by kernel_rfl) ?_ _
          have HV2 := Lib.hid (HAS.out)
          have HB1 := Lib.hid (HX.out.trans (BW.out.mono HX.out.size))
          clear SS HAS CX
          go_wp2_with fail
          go_roundw
          case rel => exact ⟨c + 1, by omega, by go_num, (congrArg Value.bool (HV2.out.trans (Bool.true_and _)).symm :), HB1.out⟩
          case measure => simp [intOf]; omega
end Go.Proofs.YtmebbinolkohjaaGreat
