import Derived.Test.YtkjfefjkelckiaaYbm
import Derived.Test.YtkjfefjkelckiaaYTk
namespace Go.Proofs.Ytkjfefjkelckiaa
open Go.RowKit
set_option linter.unusedSimpArgs false
set_option maxRecDepth 100000 in
set_option maxHeartbeats 12800000 in
theorem pickColumnsS (t : Tb) (ca : Option Addr) (cc : Nat) (ua : Option Addr) (uc : Nat) (A : Nat → Prop) (r : RowV) (ra : Option Addr) (rc : Nat) (R : Nat → Prop) (names : List (List UInt8)) (a : Option Addr) (c : Nat) (B : Nat → Prop) (w : World) (hto : t.ok) (hno : (dStringS names).le 1048576) (hr : (dAtomSS r.cells).le 1048576) (hid : iOK r.id) (hT : t.Has w A ca ua) (hR : Rd w R (dAtomSS r.cells) (.slice ra r.cells.length rc)) (hL : Rd w B (dStringS names) (.slice a names.length c)) :
    Calls Try.prog 14 #[.agg #[.string ⟨t.nm.toArray⟩, .slice ca t.cols.length cc, .slice ua t.uq.length uc, .bool t.rt], .agg #[.int .i64 r.id, .slice ra r.cells.length rc], .slice a names.length c] w (RowAns w (pkR t r names) (pkC t r names)) := by
  have hrm : (dAtomSS r.cells).le maxLen := D.le.mono (by unfold maxLen; omega) _ hr
  have hll : names.length ≤ 1048576 := (Ls_le.1 hno).2.1
  have RO : Hid (∀ W, MB3 w W #[.string ⟨t.nm.toArray⟩, .slice ca t.cols.length cc, .slice ua t.uq.length uc, .bool t.rt] #[.int .i64 r.id, .slice ra r.cells.length rc] #[.int .i64 0, .slice none 0 0] → Calls Try.prog 47 #[.agg #[.string ⟨t.nm.toArray⟩, .slice ca t.cols.length cc, .slice ua t.uq.length uc, .bool t.rt], .agg #[.int .i64 r.id, .slice ra r.cells.length rc]] W fun e w' => e = .returned (.bool (rokM t r)) ∧ MB3 w w' #[.string ⟨t.nm.toArray⟩, .slice ca t.cols.length cc, .slice ua t.uq.length uc, .bool t.rt] #[.int .i64 r.id, .slice ra r.cells.length rc] #[.int .i64 0, .slice none 0 0]) := fun W h => by
    obtain ⟨X, hX⟩ := (hR.later h.bel).rowX
    exact (rowOKs t ca cc ua uc r.id r.cells ra rc X A W.heap.size W hto (le_sets hrm) (hT.later h.bel) (Nat.le_refl _) hX).mono (fun e w' ⟨he, hB⟩ => ⟨he, h.later hB⟩)
  have HL : Hid (∀ W, Below w.heap.size w W → Rd W B (Ls 1 cString names) (.slice a names.length c)) := fun W h => Rd.later hL h
  have PK : Hid (rokM t r = true → names.length ≤ 4096 → ∀ W, MB3 w W #[.string ⟨t.nm.toArray⟩, .slice ca t.cols.length cc, .slice ua t.uq.length uc, .bool t.rt] #[.int .i64 r.id, .slice ra r.cells.length rc] #[.int .i64 0, .slice none 0 0] → Calls Try.prog 49 #[.agg #[.string ⟨t.nm.toArray⟩, .slice ca t.cols.length cc, .slice ua t.uq.length uc, .bool t.rt], .agg #[.int .i64 r.id, .slice ra r.cells.length rc], .slice a names.length c] W fun e w' => ∃ pa pc, e = .returned (.agg #[.int .i64 r.id, .slice pa (names.map (cellOf t r)).length pc]) ∧ Rd w' (fun b => W.heap.size ≤ b ∧ b < w'.heap.size) (dAtomSS (names.map (cellOf t r))) (.slice pa (names.map (cellOf t r)).length pc) ∧ Below W.heap.size W w') := fun hro h4 W h => pickS t ca cc ua uc A r ra rc R names a c B W hto h4 (rok_len hro) (fun s => (Ls_le.1 (cell_leK (s := s) (by omega) hr hid (rok_len hro))).2.1) (hT.later h.bel) (hR.later h.bel) (hL.later h.bel)
  have PL : Hid (∀ s W, MB3 w W #[.string ⟨t.nm.toArray⟩, .slice ca t.cols.length cc, .slice ua t.uq.length uc, .bool t.rt] #[.int .i64 r.id, .slice ra r.cells.length rc] #[.int .i64 0, .slice none 0 0] → Calls Try.prog 48 #[.agg #[.string ⟨t.nm.toArray⟩, .slice ca t.cols.length cc, .slice ua t.uq.length uc, .bool t.rt], .string ⟨s.toArray⟩] W fun e w' => e = .returned (.int .i64 (placeC t.cols s)) ∧ MB3 w w' #[.string ⟨t.nm.toArray⟩, .slice ca t.cols.length cc, .slice ua t.uq.length uc, .bool t.rt] #[.int .i64 r.id, .slice ra r.cells.length rc] #[.int .i64 0, .slice none 0 0]) := fun s W h => (placeS t s ca cc ua uc A W hto.2.1 (hT.later h.bel)).mono (fun e w' ⟨he, hB⟩ => ⟨he, h.later hB⟩)
  have hb := mb3 w #[.string ⟨t.nm.toArray⟩, .slice ca t.cols.length cc, .slice ua t.uq.length uc, .bool t.rt] #[.int .i64 r.id, .slice ra r.cells.length rc] #[.int .i64 0, .slice none 0 0]
  have HB := Lib.hid hb
  have x0 := cell_at (o := 0) hb.tb rfl
  have x1 := cell_at (o := 1) hb.tb rfl
  have x2 := cell_at (o := 2) hb.tb rfl
  have x3 := cell_at (o := 3) hb.tb rfl
  have y0 := cell_at (o := 0) hb.rb rfl
  have y1 := cell_at (o := 1) hb.rb rfl
  have z0 := cell_at (o := 0) hb.zr rfl
  have z1 := cell_at (o := 1) hb.zr rfl
  have f0 := frozen_at 0 hb.zr
  have f1 := frozen_at 1 hb.zr
  clear hrm hto hno hr hid hT hR hL hb
  by_cases h4 : 4096 < names.length
  case pos =>
    have HP := Lib.hid (pk_long (t := t) (r := r) h4)
    have hd : decide (4096 < (names.length : Int)) = true := decide_eq_true (by omega)
    clear h4
    go_enter Try.func14, Try.ntmps14
    go_wp2_with fail
    refine bodyPost_ret (v := .tuple #[.agg #[.int .i64 0, .slice none 0 0], .int .i64 2]) (by simp [results, Try.results14, go_sem, *]) rfl ?_
    rw [HP.out.1, HP.out.2]
    exact ⟨none, 0, rfl, Rd.lsNil _ _, by first | exact HB.out.bel | exact (HB.out.bel.setCell (by show w.heap.size ≤ w.heap.size + 1 + 1; omega) _).setCell (by show w.heap.size ≤ w.heap.size + 1 + 1; omega) _⟩
  have hd : decide (4096 < (names.length : Int)) = false := decide_eq_false (by omega)
  have H4 := Lib.hid h4
  clear h4
  cases hro : rokM t r
  case false =>
    have HP := Lib.hid (pk_bad (t := t) (r := r) H4.out hro)
    rw [hro] at RO
    clear hro
    go_enter Try.func14, Try.ntmps14
    go_wp2_with fail
    refine (RO.out _ HB.out).mono ?_
    rintro e w1 ⟨rfl, hb⟩
    have HB1 := Lib.hid hb
    clear x0 x1 x2 x3 y0 y1 z0 z1 f0 f1
    have x0 := cell_at (o := 0) hb.tb rfl
    have x1 := cell_at (o := 1) hb.tb rfl
    have x2 := cell_at (o := 2) hb.tb rfl
    have x3 := cell_at (o := 3) hb.tb rfl
    have y0 := cell_at (o := 0) hb.rb rfl
    have y1 := cell_at (o := 1) hb.rb rfl
    have z0 := cell_at (o := 0) hb.zr rfl
    have z1 := cell_at (o := 1) hb.zr rfl
    have f0 := frozen_at 0 hb.zr
    have f1 := frozen_at 1 hb.zr
    clear hb
    go_wp2_with fail
    refine bodyPost_ret (v := .tuple #[.agg #[.int .i64 0, .slice none 0 0], .int .i64 1]) (by simp [results, Try.results14, go_sem, *]) rfl ?_
    rw [HP.out.1, HP.out.2]
    exact ⟨none, 0, rfl, Rd.lsNil _ _, by first | exact HB1.out.bel | exact (HB1.out.bel.setCell (by show w.heap.size ≤ w.heap.size + 1 + 1; omega) _).setCell (by show w.heap.size ≤ w.heap.size + 1 + 1; omega) _⟩
  have HRO := Lib.hid hro
  rw [hro] at RO
  clear hro
  go_enter Try.func14, Try.ntmps14
  go_wp2_with fail
  refine (RO.out _ HB.out).mono ?_
  rintro e w1 ⟨rfl, hb⟩
  have HB1 := Lib.hid hb
  clear x0 x1 x2 x3 y0 y1 z0 z1 f0 f1
  have x0 := cell_at (o := 0) hb.tb rfl
  have x1 := cell_at (o := 1) hb.tb rfl
  have x2 := cell_at (o := 2) hb.tb rfl
  have x3 := cell_at (o := 3) hb.tb rfl
  have y0 := cell_at (o := 0) hb.rb rfl
  have y1 := cell_at (o := 1) hb.rb rfl
  have z0 := cell_at (o := 0) hb.zr rfl
  have z1 := cell_at (o := 1) hb.zr rfl
  have f0 := frozen_at 0 hb.zr
  have f1 := frozen_at 1 hb.zr
  clear hb
  go_wp2_with fail
  clear x0 x1 x2 x3 y0 y1 z0 z1 f0 f1
  go_loopw [8] (fun i wr => ∃ k : Nat, k ≤ names.length ∧ i = .int .i64 k ∧ Hid ((∀ m (h : m < names.length), m < k → askT t names[m] = true) ∧ MB3 w wr #[.string ⟨t.nm.toArray⟩, .slice ca t.cols.length cc, .slice ua t.uq.length uc, .bool t.rt] #[.int .i64 r.id, .slice ra r.cells.length rc] #[.int .i64 0, .slice none 0 0])) (fun i _ => names.length - (intOf i).toNat)
  case atStart => exact ⟨0, Nat.zero_le _, rfl, fun m _ h => absurd h (by omega), HB1.out⟩
  case round =>
    obtain ⟨k, hk, rfl, HW⟩ := hrel
    by_cases hlt : k < names.length
    case neg =>
      have hki : decide ((k : Int) < (names.length : Int)) = false := by simp; omega
      have HP := Lib.hid (pk_ok H4.out HRO.out (pkN_yes (fun m h => HW.out.1 m h (by omega))))
      have hb := HW.out.2
      have x0 := cell_at (o := 0) hb.tb rfl
      have x1 := cell_at (o := 1) hb.tb rfl
      have x2 := cell_at (o := 2) hb.tb rfl
      have x3 := cell_at (o := 3) hb.tb rfl
      have y0 := cell_at (o := 0) hb.rb rfl
      have y1 := cell_at (o := 1) hb.rb rfl
      have z0 := cell_at (o := 0) hb.zr rfl
      have z1 := cell_at (o := 1) hb.zr rfl
      have f0 := frozen_at 0 hb.zr
      have f1 := frozen_at 1 hb.zr
      clear hb
      go_wp2_with fail
      refine (PK.out HRO.out (by have := H4.out; omega) _ HW.out.2).mono ?_
      rintro e w4 ⟨oa, oc, rfl, hrd, hB⟩
      have HB4 := Lib.hid (HW.out.2.later hB)
      have HRD : Hid (Rd w4 (fun b => w.heap.size + 1 + 1 + 1 ≤ b ∧ b < w4.heap.size) (dAtomSS (names.map (cellOf t r))) (.slice oa (names.map (cellOf t r)).length oc)) := hrd.mono (fun b hb => ⟨by have h1 := hb.1; have h2 := (Array.getElem?_eq_some_iff.1 HW.out.2.zr).1; omega, hb.2⟩)
      clear hrd hB
      clear x0 x1 x2 x3 y0 y1 z0 z1 f0 f1
      generalize names.map (cellOf t r) = y at *
      have z0 := cell_at (o := 0) HB4.out.zr rfl
      have f0 := frozen_at 0 HB4.out.zr
      have z1 := cell_at (o := 1) HB4.out.zr rfl
      have f1 := frozen_at 1 HB4.out.zr
      go_wp2_with fail
      refine bodyPost_ret (v := .tuple #[.agg #[.int .i64 r.id, .slice oa y.length oc], .int .i64 0]) (by simp [results, Try.results14, go_sem, *]) rfl ?_
      rw [HP.out.1, HP.out.2]
      refine ⟨oa, oc, rfl, ?_, (HB4.out.bel.setCell (by show w.heap.size ≤ w.heap.size + 1 + 1; omega) _).setCell (by show w.heap.size ≤ w.heap.size + 1 + 1; omega) _⟩
      exact (HRD.out.frm (F := (· = w.heap.size + 1 + 1)) ((frm_set _ _ _ _).trans (frm_set _ _ _ _)) (fun b hb e => by have h1 := hb.1; have e2 : b = w.heap.size + 1 + 1 := e; omega)).mono (fun b hb => ⟨by have := hb.1; omega, by simpa using hb.2⟩)
    have hki : (k : Int) < (names.length : Int) := by omega
    obtain ⟨b, off, rfl, -, hc⟩ := (HL.out _ HW.out.2.bel).things k hlt
    clear hc
    have CE : Hid (∀ W, MB3 w W #[.string ⟨t.nm.toArray⟩, .slice ca t.cols.length cc, .slice ua t.uq.length uc, .bool t.rt] #[.int .i64 r.id, .slice ra r.cells.length rc] #[.int .i64 0, .slice none 0 0] → W.cell? ⟨w.heap.size, 0, none⟩ = some (.string ⟨t.nm.toArray⟩) ∧ W.cell? ⟨w.heap.size, 1, none⟩ = some (.slice ca t.cols.length cc) ∧ W.cell? ⟨w.heap.size, 2, none⟩ = some (.slice ua t.uq.length uc) ∧ W.cell? ⟨w.heap.size, 3, none⟩ = some (.bool t.rt) ∧ W.cell? ⟨b, off + k, none⟩ = some (.string ⟨names[k].toArray⟩)) := fun W h => ⟨cell_at (o := 0) h.tb rfl, cell_at (o := 1) h.tb rfl, cell_at (o := 2) h.tb rfl, cell_at (o := 3) h.tb rfl, by
      obtain ⟨u, e, hr⟩ := (HL.out W h.bel).spotT hlt (j := 0) (by omega)
      obtain rfl : u = .string ⟨names[k].toArray⟩ := hr
      rw [Nat.mul_one, Nat.add_zero] at e
      exact e⟩
    have HNO : Hid (askT t names[k] = false → pkN t names = 11) := fun h => pkN_no hlt h
    have HNX : Hid (askT t names[k] = true → ∀ m (h : m < names.length), m < k + 1 → askT t names[m] = true) := fun he m h hm => by
      by_cases e : m = k
      · subst e; exact he
      · exact HW.out.1 m h (by omega)
    have BW0 : Hid (MB3 w wr.drew #[.string ⟨t.nm.toArray⟩, .slice ca t.cols.length cc, .slice ua t.uq.length uc, .bool t.rt] #[.int .i64 r.id, .slice ra r.cells.length rc] #[.int .i64 0, .slice none 0 0]) := HW.out.2.later (Below.refl _ _).drew
    have PLK := Lib.hid (PL.out names[k])
    generalize names[k] = y at *
    by_cases hn : y = idN
    case pos =>
      have e1 : (y == [95, 117, 117, 105, 100]) = true := by rw [hn]; rfl
      have e2 : (y != [95, 117, 117, 105, 100]) = false := by rw [hn]; rfl
      have HN : Hid (∀ m (h : m < names.length), m < k + 1 → askT t names[m] = true) := HNX.out (by
        rcases place_cases t.cols y with hp | ⟨j, hj, hp⟩
        · exact (ask_id hp hn).2
        · exact (ask_at hj hp).2)
      clear hn HNX HNO PLK
      go_wp2_with fail
      refine wp_region_held_drew (S := (fun W => W.cell? ⟨w.heap.size, 0, none⟩ = some (.string ⟨t.nm.toArray⟩) ∧ W.cell? ⟨w.heap.size, 1, none⟩ = some (.slice ca t.cols.length cc) ∧ W.cell? ⟨w.heap.size, 2, none⟩ = some (.slice ua t.uq.length uc) ∧ W.cell? ⟨w.heap.size, 3, none⟩ = some (.bool t.rt) ∧ W.cell? ⟨b, off + k, none⟩ = some (.string ⟨y.toArray⟩))) (by kernel_rfl) ?_ (fun hHeld => ?_)
      · (exact CE.out _ (by first | exact BW0.out | exact BW1.out))
      refine wpAnyH_take (i := 0) (v := ?_) rfl (by kernel_rfl) (by kernel_rfl) (by kernel_rfl) (fun _ _ _ h => h) (Or.inl ⟨by kernel_rfl, ?_⟩) (by assumption) ?_
      rotate_left
      · (intro wS hSw; (try dsimp only at hSw); go_simp <;> with_reducible rfl)
      try simp only [Act.put, tkS]
      refine wpAnyH_take (i := 1) (v := ?_) rfl (by kernel_rfl) (by kernel_rfl) (by kernel_rfl) (fun _ _ _ h => h) (Or.inl ⟨by kernel_rfl, ?_⟩) (by assumption) ?_
      rotate_left
      · (intro wS hSw; (try dsimp only at hSw); go_simp <;> with_reducible rfl)
      try simp only [Act.put, tkS]
      refine wpAnyH_take (i := 2) (v := ?_) rfl (by kernel_rfl) (by kernel_rfl) (by kernel_rfl) (fun _ _ _ h => h) (Or.inl ⟨by kernel_rfl, ?_⟩) (by assumption) ?_
      rotate_left
      · (intro wS hSw; (try dsimp only at hSw); go_simp <;> with_reducible rfl)
      try simp only [Act.put, tkS]
      refine wpAnyH_take (i := 3) (v := ?_) rfl (by kernel_rfl) (by kernel_rfl) (by kernel_rfl) (fun _ _ _ h => h) (Or.inl ⟨by kernel_rfl, ?_⟩) (by assumption) ?_
      rotate_left
      · (intro wS hSw; (try dsimp only at hSw); go_simp <;> with_reducible rfl)
      try simp only [Act.put, tkS]
      refine wpAnyH_take (i := 4) (v := ?_) rfl (by kernel_rfl) (by kernel_rfl) (by kernel_rfl) (fun _ _ _ h => h) (Or.inl ⟨by kernel_rfl, ?_⟩) (by assumption) ?_
      rotate_left
      · (intro wS hSw; (try dsimp only at hSw); go_simp <;> with_reducible rfl)
      try simp only [Act.put, tkS]
      refine wpAnyH_take (i := 5) (v := ?_) rfl (by kernel_rfl) (by kernel_rfl) (by kernel_rfl) (fun _ _ _ h => h) (Or.inl ⟨by kernel_rfl, ?_⟩) (by assumption) ?_
      rotate_left
      · (intro wS hSw; (try dsimp only at hSw); go_simp <;> with_reducible rfl)
      try simp only [Act.put, tkS]
      refine wpAnyH_take (i := 6) (v := undef) rfl (by kernel_rfl) (by kernel_rfl) (by kernel_rfl) (fun _ _ _ h => h) (Or.inr ⟨by kernel_rfl, rfl⟩) (by assumption) ?_
      try simp only [Act.put, tkS]
      refine wpAnyH_take (i := 7) (v := undef) rfl (by kernel_rfl) (by kernel_rfl) (by kernel_rfl) (fun _ _ _ h => h) (Or.inr ⟨by kernel_rfl, rfl⟩) (by assumption) ?_
      try simp only [Act.put, tkS]
      refine wpAnyH_take (i := 8) (v := undef) rfl (by kernel_rfl) (by kernel_rfl) (by kernel_rfl) (fun _ _ _ h => h) (Or.inr ⟨by kernel_rfl, rfl⟩) (by assumption) ?_
      try simp only [Act.put, tkS]
      refine wpAnyH_take (i := 9) (v := undef) rfl (by kernel_rfl) (by kernel_rfl) (by kernel_rfl) (fun _ _ _ h => h) (Or.inr ⟨by kernel_rfl, rfl⟩) (by assumption) ?_
      try simp only [Act.put, tkS]
      refine wpAnyH_take (i := 10) (v := undef) rfl (by kernel_rfl) (by kernel_rfl) (by kernel_rfl) (fun _ _ _ h => h) (Or.inr ⟨by kernel_rfl, rfl⟩) (by assumption) ?_
      try simp only [Act.put, tkS]
      refine wpAnyH_take (i := 11) (v := undef) rfl (by kernel_rfl) (by kernel_rfl) (by kernel_rfl) (fun _ _ _ h => h) (Or.inr ⟨by kernel_rfl, rfl⟩) (by assumption) ?_
      try simp only [Act.put, tkS]
      refine wpAnyH_take (i := 12) (v := undef) rfl (by kernel_rfl) (by kernel_rfl) (by kernel_rfl) (fun _ _ _ h => h) (Or.inr ⟨by kernel_rfl, rfl⟩) (by assumption) ?_
      try simp only [Act.put, tkS]
      refine wpAnyH_take (i := 13) (v := ?_) rfl (by kernel_rfl) (by kernel_rfl) (by kernel_rfl) (fun _ _ _ h => h) (Or.inl ⟨by kernel_rfl, ?_⟩) (by assumption) ?_
      rotate_left
      · (intro wS hSw; (try dsimp only at hSw); go_simp <;> with_reducible rfl)
      try simp only [Act.put, tkS]
      refine wpAnyH_done (by kernel_rfl) ?_ _
      go_wp2_with fail
      go_roundw
      case rel => exact ⟨k + 1, by omega, by go_num, HN.out, BW0.out⟩
      case measure => simp [intOf]; omega
    have e1 : (y == [95, 117, 117, 105, 100]) = false := by rw [beq_eq_false_iff_ne]; exact hn
    have e2 : (y != [95, 117, 117, 105, 100]) = true := by rw [bne_iff_ne]; exact hn
    rcases place_cases t.cols y with hp | ⟨j, hj, hp⟩
    ·
      have HP := Lib.hid (pk_code H4.out HRO.out (by rw [HNO.out (ask_none hp hn).2]; omega))
      have HP2 := Lib.hid (HNO.out (ask_none hp hn).2)
      rw [hp] at PLK
      clear hn HNX HNO hp
      go_wp2_with fail
      refine wp_region_held_drew (S := (fun W => W.cell? ⟨w.heap.size, 0, none⟩ = some (.string ⟨t.nm.toArray⟩) ∧ W.cell? ⟨w.heap.size, 1, none⟩ = some (.slice ca t.cols.length cc) ∧ W.cell? ⟨w.heap.size, 2, none⟩ = some (.slice ua t.uq.length uc) ∧ W.cell? ⟨w.heap.size, 3, none⟩ = some (.bool t.rt) ∧ W.cell? ⟨b, off + k, none⟩ = some (.string ⟨y.toArray⟩))) (by kernel_rfl) ?_ (fun hHeld => ?_)
      · (exact CE.out _ (by first | exact BW0.out | exact BW1.out))
      refine wpAnyH_take (i := 0) (v := ?_) rfl (by kernel_rfl) (by kernel_rfl) (by kernel_rfl) (fun _ _ _ h => h) (Or.inl ⟨by kernel_rfl, ?_⟩) (by assumption) ?_
      rotate_left
      · (intro wS hSw; (try dsimp only at hSw); go_simp <;> with_reducible rfl)
      try simp only [Act.put, tkS]
      refine wpAnyH_take (i := 1) (v := ?_) rfl (by kernel_rfl) (by kernel_rfl) (by kernel_rfl) (fun _ _ _ h => h) (Or.inl ⟨by kernel_rfl, ?_⟩) (by assumption) ?_
      rotate_left
      · (intro wS hSw; (try dsimp only at hSw); go_simp <;> with_reducible rfl)
      try simp only [Act.put, tkS]
      refine wpAnyH_take (i := 2) (v := ?_) rfl (by kernel_rfl) (by kernel_rfl) (by kernel_rfl) (fun _ _ _ h => h) (Or.inl ⟨by kernel_rfl, ?_⟩) (by assumption) ?_
      rotate_left
      · (intro wS hSw; (try dsimp only at hSw); go_simp <;> with_reducible rfl)
      try simp only [Act.put, tkS]
      refine wpAnyH_take (i := 3) (v := ?_) rfl (by kernel_rfl) (by kernel_rfl) (by kernel_rfl) (fun _ _ _ h => h) (Or.inl ⟨by kernel_rfl, ?_⟩) (by assumption) ?_
      rotate_left
      · (intro wS hSw; (try dsimp only at hSw); go_simp <;> with_reducible rfl)
      try simp only [Act.put, tkS]
      refine wpAnyH_take (i := 4) (v := ?_) rfl (by kernel_rfl) (by kernel_rfl) (by kernel_rfl) (fun _ _ _ h => h) (Or.inl ⟨by kernel_rfl, ?_⟩) (by assumption) ?_
      rotate_left
      · (intro wS hSw; (try dsimp only at hSw); go_simp <;> with_reducible rfl)
      try simp only [Act.put, tkS]
      refine wpAnyH_take (i := 5) (v := ?_) rfl (by kernel_rfl) (by kernel_rfl) (by kernel_rfl) (fun _ _ _ h => h) (Or.inl ⟨by kernel_rfl, ?_⟩) (by assumption) ?_
      rotate_left
      · (intro wS hSw; (try dsimp only at hSw); go_simp <;> with_reducible rfl)
      try simp only [Act.put, tkS]
      refine wpAnyH_take (i := 6) (v := ?_) rfl (by kernel_rfl) (by kernel_rfl) (by kernel_rfl) (fun _ _ _ h => h) (Or.inl ⟨by kernel_rfl, ?_⟩) (by assumption) ?_
      rotate_left
      · (intro wS hSw; (try dsimp only at hSw); go_simp <;> with_reducible rfl)
      try simp only [Act.put, tkS]
      refine wpAnyH_take (i := 7) (v := ?_) rfl (by kernel_rfl) (by kernel_rfl) (by kernel_rfl) (fun _ _ _ h => h) (Or.inl ⟨by kernel_rfl, ?_⟩) (by assumption) ?_
      rotate_left
      · (intro wS hSw; (try dsimp only at hSw); go_simp <;> with_reducible rfl)
      try simp only [Act.put, tkS]
      refine wpAnyH_take (i := 8) (v := ?_) rfl (by kernel_rfl) (by kernel_rfl) (by kernel_rfl) (fun _ _ _ h => h) (Or.inl ⟨by kernel_rfl, ?_⟩) (by assumption) ?_
      rotate_left
      · (intro wS hSw; (try dsimp only at hSw); go_simp <;> with_reducible rfl)
      try simp only [Act.put, tkS]
      refine wpAnyH_take (i := 9) (v := ?_) rfl (by kernel_rfl) (by kernel_rfl) (by kernel_rfl) (fun _ _ _ h => h) (Or.inl ⟨by kernel_rfl, ?_⟩) (by assumption) ?_
      rotate_left
      · (intro wS hSw; (try dsimp only at hSw); go_simp <;> with_reducible rfl)
      try simp only [Act.put, tkS]
      refine wpAnyH_take (i := 10) (v := ?_) rfl (by kernel_rfl) (by kernel_rfl) (by kernel_rfl) (fun _ _ _ h => h) (Or.inl ⟨by kernel_rfl, ?_⟩) (by assumption) ?_
      rotate_left
      · (intro wS hSw; (try dsimp only at hSw); go_simp <;> with_reducible rfl)
      try simp only [Act.put, tkS]
      refine wpAnyH_ready (rs := [11]) (by kernel_rfl) (by simp) (AllReadyH.cons rfl (fun K hK => ?_) AllReadyH.nil)
      go_simp
      (go_at_call 48; refine (PLK.out _ BW0.out).mono ?_; rintro e w5 ⟨rfl, hb⟩; have BW1 : Hid (MB3 w w5 #[.string ⟨t.nm.toArray⟩, .slice ca t.cols.length cc, .slice ua t.uq.length uc, .bool t.rt] #[.int .i64 r.id, .slice ra r.cells.length rc] #[.int .i64 0, .slice none 0 0]) := hb; clear hb)
      refine hK.out _ _ ?_ (fun hHeld => ?_)
      · (exact CE.out _ (by first | exact BW0.out | exact BW1.out))
      clear hK K
      try simp only [Act.put, tkS]
      refine wpAnyH_take (i := 12) (v := ?_) rfl (by kernel_rfl) (by kernel_rfl) (by kernel_rfl) (fun _ _ _ h => h) (Or.inl ⟨by kernel_rfl, ?_⟩) (by assumption) ?_
      rotate_left
      · (intro wS hSw; (try dsimp only at hSw); go_simp <;> with_reducible rfl)
      try simp only [Act.put, tkS]
      refine wpAnyH_take (i := 13) (v := ?_) rfl (by kernel_rfl) (by kernel_rfl) (by kernel_rfl) (fun _ _ _ h => h) (Or.inl ⟨by kernel_rfl, ?_⟩) (by assumption) ?_
      rotate_left
      · (intro wS hSw; (try dsimp only at hSw); go_simp <;> with_reducible rfl)
      try simp only [Act.put, tkS]
      refine wpAnyH_done (by kernel_rfl) ?_ _
      have hb := BW1.out
      have z0 := cell_at (o := 0) hb.zr rfl
      have f0 := frozen_at 0 hb.zr
      have z1 := cell_at (o := 1) hb.zr rfl
      have f1 := frozen_at 1 hb.zr
      clear hb
      go_wp2_with fail
      refine bodyPost_ret (v := .tuple #[.agg #[.int .i64 0, .slice none 0 0], .int .i64 11]) (by simp [results, Try.results14, go_sem, *]) rfl ?_
      rw [HP.out.1, HP.out.2, HP2.out]
      exact ⟨none, 0, rfl, Rd.lsNil _ _, by first | exact BW1.out.bel | exact (BW1.out.bel.setCell (by show w.heap.size ≤ w.heap.size + 1 + 1; omega) _).setCell (by show w.heap.size ≤ w.heap.size + 1 + 1; omega) _⟩
    ·
      have HN := Lib.hid (HNX.out (ask_at hj hp).2)
      have hd0 : decide ((j : Int) < 0) = false := decide_eq_false (by omega)
      rw [hp] at PLK
      clear hj
      clear hn HNX HNO hp
      go_wp2_with fail
      refine wp_region_held_drew (S := (fun W => W.cell? ⟨w.heap.size, 0, none⟩ = some (.string ⟨t.nm.toArray⟩) ∧ W.cell? ⟨w.heap.size, 1, none⟩ = some (.slice ca t.cols.length cc) ∧ W.cell? ⟨w.heap.size, 2, none⟩ = some (.slice ua t.uq.length uc) ∧ W.cell? ⟨w.heap.size, 3, none⟩ = some (.bool t.rt) ∧ W.cell? ⟨b, off + k, none⟩ = some (.string ⟨y.toArray⟩))) (by kernel_rfl) ?_ (fun hHeld => ?_)
      · (exact CE.out _ (by first | exact BW0.out | exact BW1.out))
      refine wpAnyH_take (i := 0) (v := ?_) rfl (by kernel_rfl) (by kernel_rfl) (by kernel_rfl) (fun _ _ _ h => h) (Or.inl ⟨by kernel_rfl, ?_⟩) (by assumption) ?_
      rotate_left
      · (intro wS hSw; (try dsimp only at hSw); go_simp <;> with_reducible rfl)
      try simp only [Act.put, tkS]
      refine wpAnyH_take (i := 1) (v := ?_) rfl (by kernel_rfl) (by kernel_rfl) (by kernel_rfl) (fun _ _ _ h => h) (Or.inl ⟨by kernel_rfl, ?_⟩) (by assumption) ?_
      rotate_left
      · (intro wS hSw; (try dsimp only at hSw); go_simp <;> with_reducible rfl)
      try simp only [Act.put, tkS]
      refine wpAnyH_take (i := 2) (v := ?_) rfl (by kernel_rfl) (by kernel_rfl) (by kernel_rfl) (fun _ _ _ h => h) (Or.inl ⟨by kernel_rfl, ?_⟩) (by assumption) ?_
      rotate_left
      · (intro wS hSw; (try dsimp only at hSw); go_simp <;> with_reducible rfl)
      try simp only [Act.put, tkS]
      refine wpAnyH_take (i := 3) (v := ?_) rfl (by kernel_rfl) (by kernel_rfl) (by kernel_rfl) (fun _ _ _ h => h) (Or.inl ⟨by kernel_rfl, ?_⟩) (by assumption) ?_
      rotate_left
      · (intro wS hSw; (try dsimp only at hSw); go_simp <;> with_reducible rfl)
      try simp only [Act.put, tkS]
      refine wpAnyH_take (i := 4) (v := ?_) rfl (by kernel_rfl) (by kernel_rfl) (by kernel_rfl) (fun _ _ _ h => h) (Or.inl ⟨by kernel_rfl, ?_⟩) (by assumption) ?_
      rotate_left
      · (intro wS hSw; (try dsimp only at hSw); go_simp <;> with_reducible rfl)
      try simp only [Act.put, tkS]
      refine wpAnyH_take (i := 5) (v := ?_) rfl (by kernel_rfl) (by kernel_rfl) (by kernel_rfl) (fun _ _ _ h => h) (Or.inl ⟨by kernel_rfl, ?_⟩) (by assumption) ?_
      rotate_left
      · (intro wS hSw; (try dsimp only at hSw); go_simp <;> with_reducible rfl)
      try simp only [Act.put, tkS]
      refine wpAnyH_take (i := 6) (v := ?_) rfl (by kernel_rfl) (by kernel_rfl) (by kernel_rfl) (fun _ _ _ h => h) (Or.inl ⟨by kernel_rfl, ?_⟩) (by assumption) ?_
      rotate_left
      · (intro wS hSw; (try dsimp only at hSw); go_simp <;> with_reducible rfl)
      try simp only [Act.put, tkS]
      refine wpAnyH_take (i := 7) (v := ?_) rfl (by kernel_rfl) (by kernel_rfl) (by kernel_rfl) (fun _ _ _ h => h) (Or.inl ⟨by kernel_rfl, ?_⟩) (by assumption) ?_
      rotate_left
      · (intro wS hSw; (try dsimp only at hSw); go_simp <;> with_reducible rfl)
      try simp only [Act.put, tkS]
      refine wpAnyH_take (i := 8) (v := ?_) rfl (by kernel_rfl) (by kernel_rfl) (by kernel_rfl) (fun _ _ _ h => h) (Or.inl ⟨by kernel_rfl, ?_⟩) (by assumption) ?_
      rotate_left
      · (intro wS hSw; (try dsimp only at hSw); go_simp <;> with_reducible rfl)
      try simp only [Act.put, tkS]
      refine wpAnyH_take (i := 9) (v := ?_) rfl (by kernel_rfl) (by kernel_rfl) (by kernel_rfl) (fun _ _ _ h => h) (Or.inl ⟨by kernel_rfl, ?_⟩) (by assumption) ?_
      rotate_left
      · (intro wS hSw; (try dsimp only at hSw); go_simp <;> with_reducible rfl)
      try simp only [Act.put, tkS]
      refine wpAnyH_take (i := 10) (v := ?_) rfl (by kernel_rfl) (by kernel_rfl) (by kernel_rfl) (fun _ _ _ h => h) (Or.inl ⟨by kernel_rfl, ?_⟩) (by assumption) ?_
      rotate_left
      · (intro wS hSw; (try dsimp only at hSw); go_simp <;> with_reducible rfl)
      try simp only [Act.put, tkS]
      refine wpAnyH_ready (rs := [11]) (by kernel_rfl) (by simp) (AllReadyH.cons rfl (fun K hK => ?_) AllReadyH.nil)
      go_simp
      (go_at_call 48; refine (PLK.out _ BW0.out).mono ?_; rintro e w5 ⟨rfl, hb⟩; have BW1 : Hid (MB3 w w5 #[.string ⟨t.nm.toArray⟩, .slice ca t.cols.length cc, .slice ua t.uq.length uc, .bool t.rt] #[.int .i64 r.id, .slice ra r.cells.length rc] #[.int .i64 0, .slice none 0 0]) := hb; clear hb)
      refine hK.out _ _ ?_ (fun hHeld => ?_)
      · (exact CE.out _ (by first | exact BW0.out | exact BW1.out))
      clear hK K
      try simp only [Act.put, tkS]
      refine wpAnyH_take (i := 12) (v := ?_) rfl (by kernel_rfl) (by kernel_rfl) (by kernel_rfl) (fun _ _ _ h => h) (Or.inl ⟨by kernel_rfl, ?_⟩) (by assumption) ?_
      rotate_left
      · (intro wS hSw; (try dsimp only at hSw); go_simp <;> with_reducible rfl)
      try simp only [Act.put, tkS]
      refine wpAnyH_take (i := 13) (v := ?_) rfl (by kernel_rfl) (by kernel_rfl) (by kernel_rfl) (fun _ _ _ h => h) (Or.inl ⟨by kernel_rfl, ?_⟩) (by assumption) ?_
      rotate_left
      · (intro wS hSw; (try dsimp only at hSw); go_simp <;> with_reducible rfl)
      try simp only [Act.put, tkS]
      refine wpAnyH_done (by kernel_rfl) ?_ _
      go_wp2_with fail
      go_roundw
      case rel => exact ⟨k + 1, by omega, by go_num, HN.out, BW1.out⟩
      case measure => simp [intOf]; omega
end Go.Proofs.Ytkjfefjkelckiaa
