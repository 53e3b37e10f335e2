import Derived.Test.YtgpoigkfoliflaaGreatDoorZbl
namespace Go.Proofs.YtgpoigkfoliflaaGreatDoor
open Go.RowKit
set_option linter.unusedSimpArgs false
noncomputable def mrC (t : Tb) (r : RowV) (list : List MutV) : Int := if 4096 < list.length then 2 else if rokM t r = true ∧ mutsB list = true then (if mutsC t list = 0 then (rowM t r.cells list).1 else mutsC t list) else 1
noncomputable def mrR (t : Tb) (r : RowV) (list : List MutV) : RowV := if ¬ 4096 < list.length ∧ rokM t r = true ∧ mutsB list = true ∧ mutsC t list = 0 then rowR t r list else rowZ
theorem mr_long {t : Tb} {r : RowV} {list : List MutV} (h : 4096 < list.length) : mrR t r list = rowZ ∧ mrC t r list = 2 := by
  unfold mrR mrC; rw [if_neg (fun hn => hn.1 h), if_pos h]; exact ⟨rfl, rfl⟩
theorem mr_bad {t : Tb} {r : RowV} {list : List MutV} (h : ¬ 4096 < list.length) (hb : ¬ (rokM t r = true ∧ mutsB list = true)) : mrR t r list = rowZ ∧ mrC t r list = 1 := by
  unfold mrR mrC; rw [if_neg (fun hn => hb ⟨hn.2.1, hn.2.2.1⟩), if_neg h, if_neg hb]; exact ⟨rfl, rfl⟩
theorem mr_code {t : Tb} {r : RowV} {list : List MutV} (h : ¬ 4096 < list.length) (hb : rokM t r = true ∧ mutsB list = true) (hc : ¬ mutsC t list = 0) : mrR t r list = rowZ ∧ mrC t r list = mutsC t list := by
  unfold mrR mrC; rw [if_neg (fun hn => hc hn.2.2.2), if_neg h, if_pos hb, if_neg hc]; exact ⟨rfl, rfl⟩
theorem mr_ok {t : Tb} {r : RowV} {list : List MutV} (h : ¬ 4096 < list.length) (hb : rokM t r = true ∧ mutsB list = true) (hc : mutsC t list = 0) : mrR t r list = rowR t r list ∧ mrC t r list = (rowM t r.cells list).1 := by
  unfold mrR mrC; rw [if_pos ⟨h, hb.1, hb.2, hc⟩, if_neg h, if_pos hb, if_pos hc]; exact ⟨rfl, rfl⟩
theorem muts_each {t : Tb} {list : List MutV} (hb : mutsB list = true) (hc : mutsC t list = 0) : ∀ k (h : k < list.length), mutB list[k] = true ∧ mutC t list[k] = 0 := fun _ hk => ⟨muts_all hb _ (List.getElem_mem hk), mutsC_all hc _ (List.getElem_mem hk)⟩
set_option maxRecDepth 100000 in
set_option maxHeartbeats 12800000 in
theorem mutRowS (t : Tb) (ca : Option Addr) (cc : Nat) (ua : Option Addr) (uc : Nat) (A : Nat → Prop) (r : RowV) (ra : Option Addr) (rc : Nat) (R : Nat → Prop) (list : List MutV) (a : Option Addr) (c : Nat) (B : Nat → Prop) (w : World) (hto : t.ok) (hlo : (dMutS list).le 1048576) (hr : (dAtomSS r.cells).le 1048576) (hT : t.Has w A ca ua) (hR : Rd w R (dAtomSS r.cells) (.slice ra r.cells.length rc)) (hL : Rd w B (dMutS list) (.slice a list.length c)) :
    Calls Tryz.prog 9 #[.agg #[.string ⟨t.nm.toArray⟩, .slice ca t.cols.length cc, .slice ua t.uq.length uc, .bool t.rt], .agg #[.int .i64 r.id, .slice ra r.cells.length rc], .slice a list.length c] w (RowAns w (mrR t r list) (mrC t r list)) := by
  have hlm : (dMutS list).le maxLen := D.le.mono (by unfold maxLen; omega) _ hlo
  have hrm : (dAtomSS r.cells).le maxLen := D.le.mono (by unfold maxLen; omega) _ hr
  have hll : list.length ≤ 1048576 := (Ls_le.1 hlo).2.1
  have RO : Hid (∀ W, MB3 w W #[.string ⟨t.nm.toArray⟩, .slice ca t.cols.length cc, .slice ua t.uq.length uc, .bool t.rt] #[.int .i64 r.id, .slice ra r.cells.length rc] #[.int .i64 0, .slice none 0 0] → Calls Tryz.prog 27 #[.agg #[.string ⟨t.nm.toArray⟩, .slice ca t.cols.length cc, .slice ua t.uq.length uc, .bool t.rt], .agg #[.int .i64 r.id, .slice ra r.cells.length rc]] W fun e w' => e = .returned (.bool (rokM t r)) ∧ MB3 w w' #[.string ⟨t.nm.toArray⟩, .slice ca t.cols.length cc, .slice ua t.uq.length uc, .bool t.rt] #[.int .i64 r.id, .slice ra r.cells.length rc] #[.int .i64 0, .slice none 0 0]) := fun W h => by
    obtain ⟨X, hX⟩ := (hR.later h.bel).rowX
    exact (rowOKs t ca cc ua uc r.id r.cells ra rc X A W.heap.size W hto (le_sets hrm) (hT.later h.bel) (Nat.le_refl _) hX).mono (fun e w' ⟨he, hB⟩ => ⟨he, h.later hB⟩)
  have CO : Hid (∀ W, MB3 w W #[.string ⟨t.nm.toArray⟩, .slice ca t.cols.length cc, .slice ua t.uq.length uc, .bool t.rt] #[.int .i64 r.id, .slice ra r.cells.length rc] #[.int .i64 0, .slice none 0 0] → Calls Tryz.prog 28 #[.slice a list.length c] W fun e w' => e = .returned (.bool (mutsB list)) ∧ MB3 w w' #[.string ⟨t.nm.toArray⟩, .slice ca t.cols.length cc, .slice ua t.uq.length uc, .bool t.rt] #[.int .i64 r.id, .slice ra r.cells.length rc] #[.int .i64 0, .slice none 0 0]) := fun W h => (mlistS list a c B W hlm (hL.later h.bel)).mono (fun e w' ⟨he, hB⟩ => ⟨he, h.later hB⟩)
  have CC : Hid (∀ W, MB3 w W #[.string ⟨t.nm.toArray⟩, .slice ca t.cols.length cc, .slice ua t.uq.length uc, .bool t.rt] #[.int .i64 r.id, .slice ra r.cells.length rc] #[.int .i64 0, .slice none 0 0] → Calls Tryz.prog 29 #[.agg #[.string ⟨t.nm.toArray⟩, .slice ca t.cols.length cc, .slice ua t.uq.length uc, .bool t.rt], .slice a list.length c] W fun e w' => e = .returned (.int .i64 (mutsC t list)) ∧ MB3 w w' #[.string ⟨t.nm.toArray⟩, .slice ca t.cols.length cc, .slice ua t.uq.length uc, .bool t.rt] #[.int .i64 r.id, .slice ra r.cells.length rc] #[.int .i64 0, .slice none 0 0]) := fun W h => (mutsS t ca cc ua uc A list a c B W hto hlm (hT.later h.bel) (hL.later h.bel)).mono (fun e w' ⟨he, hB⟩ => ⟨he, h.later hB⟩)
  have RW : Hid (RowI t r.cells → (∀ k (h : k < list.length), mutB list[k] = true ∧ mutC t list[k] = 0) → ∀ W, MB3 w W #[.string ⟨t.nm.toArray⟩, .slice ca t.cols.length cc, .slice ua t.uq.length uc, .bool t.rt] #[.int .i64 r.id, .slice ra r.cells.length rc] #[.int .i64 0, .slice none 0 0] → Calls Tryz.prog 30 #[.agg #[.string ⟨t.nm.toArray⟩, .slice ca t.cols.length cc, .slice ua t.uq.length uc, .bool t.rt], .agg #[.int .i64 r.id, .slice ra r.cells.length rc], .slice a list.length c] W (RowAns W (rowR t r list) (rowM t r.cells list).1)) := fun hI hq W h => mrowS t ca cc ua uc A r ra rc R list a c B W hto hlo hr hI hq (hT.later h.bel) (hR.later h.bel) (hL.later h.bel)
  have hb := mb3 w #[.string ⟨t.nm.toArray⟩, .slice ca t.cols.length cc, .slice ua t.uq.length uc, .bool t.rt] #[.int .i64 r.id, .slice ra r.cells.length rc] #[.int .i64 0, .slice none 0 0]
  have HB := Lib.hid hb
  have x0 := cell_at (o := 0) hb.tb rfl
  have x1 := cell_at (o := 1) hb.tb rfl
  have x2 := cell_at (o := 2) hb.tb rfl
  have x3 := cell_at (o := 3) hb.tb rfl
  have y0 := cell_at (o := 0) hb.rb rfl
  have y1 := cell_at (o := 1) hb.rb rfl
  have z0 := cell_at (o := 0) hb.zr rfl
  have z1 := cell_at (o := 1) hb.zr rfl
  have f0 := frozen_at 0 hb.zr
  have f1 := frozen_at 1 hb.zr
  clear hlm hrm hto hlo hr hT hR hL hb
  by_cases h4 : 4096 < list.length
  case pos =>
    have HP := Lib.hid (mr_long (t := t) (r := r) h4)
    have hd : decide (4096 < (list.length : Int)) = true := decide_eq_true (by omega)
    clear h4
    go_enter Tryz.func9, Tryz.ntmps9
    go_wp2_with fail
    refine bodyPost_ret (v := .tuple #[.agg #[.int .i64 0, .slice none 0 0], .int .i64 2]) (by simp [results, Tryz.results9, go_sem, *]) rfl ?_
    rw [HP.out.1, HP.out.2]
    exact ⟨none, 0, rfl, Rd.lsNil _ _, by first | exact HB.out.bel | exact (HB.out.bel.setCell (by show w.heap.size ≤ w.heap.size + 1 + 1; omega) _).setCell (by show w.heap.size ≤ w.heap.size + 1 + 1; omega) _⟩
  have hd : decide (4096 < (list.length : Int)) = false := decide_eq_false (by omega)
  have H4 := Lib.hid h4
  clear h4
  cases hro : rokM t r
  case false =>
    have HP := Lib.hid (mr_bad (t := t) (r := r) H4.out (fun h => by rw [hro] at h; cases h.1))
    rw [hro] at RO
    clear hro
    go_enter Tryz.func9, Tryz.ntmps9
    go_wp2_with fail
    refine (RO.out _ HB.out).mono ?_
    rintro e w1 ⟨rfl, hb⟩
    have HB1 := Lib.hid hb
    clear x0 x1 x2 x3 y0 y1 z0 z1 f0 f1
    have x0 := cell_at (o := 0) hb.tb rfl
    have x1 := cell_at (o := 1) hb.tb rfl
    have x2 := cell_at (o := 2) hb.tb rfl
    have x3 := cell_at (o := 3) hb.tb rfl
    have y0 := cell_at (o := 0) hb.rb rfl
    have y1 := cell_at (o := 1) hb.rb rfl
    have z0 := cell_at (o := 0) hb.zr rfl
    have z1 := cell_at (o := 1) hb.zr rfl
    have f0 := frozen_at 0 hb.zr
    have f1 := frozen_at 1 hb.zr
    clear hb
    go_wp2_with fail
    refine bodyPost_ret (v := .tuple #[.agg #[.int .i64 0, .slice none 0 0], .int .i64 1]) (by simp [results, Tryz.results9, go_sem, *]) rfl ?_
    rw [HP.out.1, HP.out.2]
    exact ⟨none, 0, rfl, Rd.lsNil _ _, by first | exact HB1.out.bel | exact (HB1.out.bel.setCell (by show w.heap.size ≤ w.heap.size + 1 + 1; omega) _).setCell (by show w.heap.size ≤ w.heap.size + 1 + 1; omega) _⟩
  rw [hro] at RO
  cases hbo : mutsB list
  case false =>
    have HP := Lib.hid (mr_bad (t := t) (r := r) H4.out (fun h => by rw [hbo] at h; cases h.2))
    rw [hbo] at CO
    clear hro hbo
    go_enter Tryz.func9, Tryz.ntmps9
    go_wp2_with fail
    refine (RO.out _ HB.out).mono ?_
    rintro e w1 ⟨rfl, hb⟩
    have HB1 := Lib.hid hb
    clear x0 x1 x2 x3 y0 y1 z0 z1 f0 f1
    have x0 := cell_at (o := 0) hb.tb rfl
    have x1 := cell_at (o := 1) hb.tb rfl
    have x2 := cell_at (o := 2) hb.tb rfl
    have x3 := cell_at (o := 3) hb.tb rfl
    have y0 := cell_at (o := 0) hb.rb rfl
    have y1 := cell_at (o := 1) hb.rb rfl
    have z0 := cell_at (o := 0) hb.zr rfl
    have z1 := cell_at (o := 1) hb.zr rfl
    have f0 := frozen_at 0 hb.zr
    have f1 := frozen_at 1 hb.zr
    clear hb
    go_wp2_with fail
    refine (CO.out _ HB1.out).mono ?_
    rintro e w2 ⟨rfl, hb⟩
    have HB2 := Lib.hid hb
    clear x0 x1 x2 x3 y0 y1 z0 z1 f0 f1
    have x0 := cell_at (o := 0) hb.tb rfl
    have x1 := cell_at (o := 1) hb.tb rfl
    have x2 := cell_at (o := 2) hb.tb rfl
    have x3 := cell_at (o := 3) hb.tb rfl
    have y0 := cell_at (o := 0) hb.rb rfl
    have y1 := cell_at (o := 1) hb.rb rfl
    have z0 := cell_at (o := 0) hb.zr rfl
    have z1 := cell_at (o := 1) hb.zr rfl
    have f0 := frozen_at 0 hb.zr
    have f1 := frozen_at 1 hb.zr
    clear hb
    go_wp2_with fail
    refine bodyPost_ret (v := .tuple #[.agg #[.int .i64 0, .slice none 0 0], .int .i64 1]) (by simp [results, Tryz.results9, go_sem, *]) rfl ?_
    rw [HP.out.1, HP.out.2]
    exact ⟨none, 0, rfl, Rd.lsNil _ _, by first | exact HB2.out.bel | exact (HB2.out.bel.setCell (by show w.heap.size ≤ w.heap.size + 1 + 1; omega) _).setCell (by show w.heap.size ≤ w.heap.size + 1 + 1; omega) _⟩
  have HRB := Lib.hid (And.intro hro hbo)
  rw [hbo] at CO
  clear hro hbo
  by_cases h0 : mutsC t list = 0
  case neg =>
    have HP := Lib.hid (mr_code H4.out HRB.out h0)
    have hne : (mutsC t list != 0) = true := by simpa using h0
    clear h0
    go_enter Tryz.func9, Tryz.ntmps9
    go_wp2_with fail
    refine (RO.out _ HB.out).mono ?_
    rintro e w1 ⟨rfl, hb⟩
    have HB1 := Lib.hid hb
    clear x0 x1 x2 x3 y0 y1 z0 z1 f0 f1
    have x0 := cell_at (o := 0) hb.tb rfl
    have x1 := cell_at (o := 1) hb.tb rfl
    have x2 := cell_at (o := 2) hb.tb rfl
    have x3 := cell_at (o := 3) hb.tb rfl
    have y0 := cell_at (o := 0) hb.rb rfl
    have y1 := cell_at (o := 1) hb.rb rfl
    have z0 := cell_at (o := 0) hb.zr rfl
    have z1 := cell_at (o := 1) hb.zr rfl
    have f0 := frozen_at 0 hb.zr
    have f1 := frozen_at 1 hb.zr
    clear hb
    go_wp2_with fail
    refine (CO.out _ HB1.out).mono ?_
    rintro e w2 ⟨rfl, hb⟩
    have HB2 := Lib.hid hb
    clear x0 x1 x2 x3 y0 y1 z0 z1 f0 f1
    have x0 := cell_at (o := 0) hb.tb rfl
    have x1 := cell_at (o := 1) hb.tb rfl
    have x2 := cell_at (o := 2) hb.tb rfl
    have x3 := cell_at (o := 3) hb.tb rfl
    have y0 := cell_at (o := 0) hb.rb rfl
    have y1 := cell_at (o := 1) hb.rb rfl
    have z0 := cell_at (o := 0) hb.zr rfl
    have z1 := cell_at (o := 1) hb.zr rfl
    have f0 := frozen_at 0 hb.zr
    have f1 := frozen_at 1 hb.zr
    clear hb
    go_wp2_with fail
    refine (CC.out _ HB2.out).mono ?_
    rintro e w3 ⟨rfl, hb⟩
    have HB3 := Lib.hid hb
    clear x0 x1 x2 x3 y0 y1 z0 z1 f0 f1
    have x0 := cell_at (o := 0) hb.tb rfl
    have x1 := cell_at (o := 1) hb.tb rfl
    have x2 := cell_at (o := 2) hb.tb rfl
    have x3 := cell_at (o := 3) hb.tb rfl
    have y0 := cell_at (o := 0) hb.rb rfl
    have y1 := cell_at (o := 1) hb.rb rfl
    have z0 := cell_at (o := 0) hb.zr rfl
    have z1 := cell_at (o := 1) hb.zr rfl
    have f0 := frozen_at 0 hb.zr
    have f1 := frozen_at 1 hb.zr
    clear hb
    go_wp2_with fail
    refine bodyPost_ret (v := .tuple #[.agg #[.int .i64 0, .slice none 0 0], .int .i64 (mutsC t list)]) (by simp [results, Tryz.results9, go_sem, *]) rfl ?_
    rw [HP.out.1, HP.out.2]
    exact ⟨none, 0, rfl, Rd.lsNil _ _, by first | exact HB3.out.bel | exact (HB3.out.bel.setCell (by show w.heap.size ≤ w.heap.size + 1 + 1; omega) _).setCell (by show w.heap.size ≤ w.heap.size + 1 + 1; omega) _⟩
  have HP := Lib.hid (mr_ok H4.out HRB.out h0)
  have HE := Lib.hid (muts_each HRB.out.2 h0)
  have HI0 := Lib.hid (rok_I HRB.out.1)
  rw [h0] at CC
  clear h0
  go_enter Tryz.func9, Tryz.ntmps9
  go_wp2_with fail
  refine (RO.out _ HB.out).mono ?_
  rintro e w1 ⟨rfl, hb⟩
  have HB1 := Lib.hid hb
  clear x0 x1 x2 x3 y0 y1 z0 z1 f0 f1
  have x0 := cell_at (o := 0) hb.tb rfl
  have x1 := cell_at (o := 1) hb.tb rfl
  have x2 := cell_at (o := 2) hb.tb rfl
  have x3 := cell_at (o := 3) hb.tb rfl
  have y0 := cell_at (o := 0) hb.rb rfl
  have y1 := cell_at (o := 1) hb.rb rfl
  have z0 := cell_at (o := 0) hb.zr rfl
  have z1 := cell_at (o := 1) hb.zr rfl
  have f0 := frozen_at 0 hb.zr
  have f1 := frozen_at 1 hb.zr
  clear hb
  go_wp2_with fail
  refine (CO.out _ HB1.out).mono ?_
  rintro e w2 ⟨rfl, hb⟩
  have HB2 := Lib.hid hb
  clear x0 x1 x2 x3 y0 y1 z0 z1 f0 f1
  have x0 := cell_at (o := 0) hb.tb rfl
  have x1 := cell_at (o := 1) hb.tb rfl
  have x2 := cell_at (o := 2) hb.tb rfl
  have x3 := cell_at (o := 3) hb.tb rfl
  have y0 := cell_at (o := 0) hb.rb rfl
  have y1 := cell_at (o := 1) hb.rb rfl
  have z0 := cell_at (o := 0) hb.zr rfl
  have z1 := cell_at (o := 1) hb.zr rfl
  have f0 := frozen_at 0 hb.zr
  have f1 := frozen_at 1 hb.zr
  clear hb
  go_wp2_with fail
  refine (CC.out _ HB2.out).mono ?_
  rintro e w3 ⟨rfl, hb⟩
  have HB3 := Lib.hid hb
  clear x0 x1 x2 x3 y0 y1 z0 z1 f0 f1
  have x0 := cell_at (o := 0) hb.tb rfl
  have x1 := cell_at (o := 1) hb.tb rfl
  have x2 := cell_at (o := 2) hb.tb rfl
  have x3 := cell_at (o := 3) hb.tb rfl
  have y0 := cell_at (o := 0) hb.rb rfl
  have y1 := cell_at (o := 1) hb.rb rfl
  have z0 := cell_at (o := 0) hb.zr rfl
  have z1 := cell_at (o := 1) hb.zr rfl
  have f0 := frozen_at 0 hb.zr
  have f1 := frozen_at 1 hb.zr
  clear hb
  go_wp2_with fail
  refine (RW.out HI0.out HE.out _ HB3.out).mono ?_
  rintro e w4 ⟨oa, oc, rfl, hrd, hB⟩
  have HB4 := Lib.hid (HB3.out.later hB)
  have HRD : Hid (Rd w4 (fun b => w.heap.size + 1 + 1 + 1 ≤ b ∧ b < w4.heap.size) (dAtomSS (rowR t r list).cells) (.slice oa (rowR t r list).cells.length oc)) := hrd.mono (fun b hb => ⟨by have h1 := hb.1; have h2 := (Array.getElem?_eq_some_iff.1 HB3.out.zr).1; omega, hb.2⟩)
  clear hrd hB
  clear x0 x1 x2 x3 y0 y1 z0 z1 f0 f1
  generalize rowR t r list = y at *
  generalize (rowM t r.cells list).1 = n at *
  have z0 := cell_at (o := 0) HB4.out.zr rfl
  have f0 := frozen_at 0 HB4.out.zr
  have z1 := cell_at (o := 1) HB4.out.zr rfl
  have f1 := frozen_at 1 HB4.out.zr
  go_wp2_with fail
  refine bodyPost_ret (v := .tuple #[.agg #[.int .i64 y.id, .slice oa y.cells.length oc], .int .i64 n]) (by simp [results, Tryz.results9, go_sem, *]) rfl ?_
  rw [HP.out.1, HP.out.2]
  refine ⟨oa, oc, rfl, ?_, (HB4.out.bel.setCell (by show w.heap.size ≤ w.heap.size + 1 + 1; omega) _).setCell (by show w.heap.size ≤ w.heap.size + 1 + 1; omega) _⟩
  exact (HRD.out.frm (F := (· = w.heap.size + 1 + 1)) ((frm_set _ _ _ _).trans (frm_set _ _ _ _)) (fun b hb e => by have h1 := hb.1; have e2 : b = w.heap.size + 1 + 1 := e; omega)).mono (fun b hb => ⟨by have := hb.1; omega, by simpa using hb.2⟩)
end Go.Proofs.YtgpoigkfoliflaaGreatDoor
