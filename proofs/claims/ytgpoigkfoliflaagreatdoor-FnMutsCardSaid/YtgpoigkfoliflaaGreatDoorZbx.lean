import Derived.Test.YtgpoigkfoliflaaGreatDoorZbv
import Derived.Test.YtgpoigkfoliflaaGreatDoorZbc
import Derived.Test.YtgpoigkfoliflaaGreatDoorZbd
import Derived.Test.YtgpoigkfoliflaaGreatDoorZbm
import Derived.Test.YtgpoigkfoliflaaGreatDoorZbn
import Derived.Test.YtgpoigkfoliflaaGreatDoorZbw
import Derived.Test.YtgpoigkfoliflaaGreatDoorZas
import Derived.Test.YtgpoigkfoliflaaGreatDoorZat
import Derived.Test.YtgpoigkfoliflaaGreatDoorZTk
namespace Go.Proofs.YtgpoigkfoliflaaGreatDoor
open Go.RowKit
set_option linter.unusedSimpArgs false
theorem Byts.upG {w W : World} {q : Option Addr} {l : List UInt8} (h : Byts w (· < w.heap.size) q l) (hB : Below w.heap.size w W) : Byts W (· < w.heap.size) q l := h.same (fun b hb => hB.block b hb) (fun _ h => h)
structure GM (w W : World) (tb : Tb) (ad : Ad) (r x : RowV) (ra : Option Addr) (rc : Nat) (xa : Option Addr) (xc : Nat) (L : List MutV) (va : Option Addr) (vc qt qr qx : Nat) : Prop where
  bel : Below w.heap.size w W
  tx : W.heap[qt]? = some (.cells #[.string ⟨tb.nm.toArray⟩, .slice ad.ca tb.cols.length ad.cc, .slice ad.ua tb.uq.length ad.uc, .bool tb.rt] 27)
  has : tb.Has W (fun _ => True) ad.ca ad.ua
  rb : W.heap[qr]? = some (.cells #[.int .i64 r.id, .slice ra r.cells.length rc] 34)
  rr : Rd W (fun _ => True) (dAtomSS r.cells) (.slice ra r.cells.length rc)
  ls : Rd W (fun _ => True) (dMutS L) (.slice va L.length vc)
  xb : W.heap[qx]? = some (.cells #[.int .i64 x.id, .slice xa x.cells.length xc] 34)
  xr : Rd W (fun _ => True) (dAtomSS x.cells) (.slice xa x.cells.length xc)
theorem GM.later {w W W' : World} {tb : Tb} {ad : Ad} {r x : RowV} {ra : Option Addr} {rc : Nat} {xa : Option Addr} {xc : Nat} {L : List MutV} {va : Option Addr} {vc qt qr qx : Nat} (h : GM w W tb ad r x ra rc xa xc L va vc qt qr qx) (hB : Below W.heap.size W W') : GM w W' tb ad r x ra rc xa xc L va vc qt qr qx :=
  ⟨h.bel.trans (hB.mono h.bel.size), heap_keptD h.tx hB, h.has.later hB, heap_keptD h.rb hB, h.rr.later hB, h.ls.later hB, heap_keptD h.xb hB, h.xr.later hB⟩
set_option maxRecDepth 100000 in
set_option maxHeartbeats 12800000 in
theorem lawFnMuts (l1 l2 : List UInt8) (pa pb : Option Addr) (ca cb : Nat) (w : World) (h1 : Byts w (· < w.heap.size) pa l1) (h2 : Byts w (· < w.heap.size) pb l2) (hTab : TabW w) (h0w : 0 < w.heap.size) :
    Calls Tryz.prog 3 #[.slice pa l1.length ca, .slice pb l2.length cb] w fun e w' => e = .returned (.bool true) ∧ Below w.heap.size w w' := by
  by_cases g1 : 1048576 < l1.length
  case pos =>
    have d1a : decide (1048576 < (l1.length : Int)) = true := decide_eq_true (by omega)
    have d1b : decide (1048576 < l1.length) = true := decide_eq_true g1
    go_enter Tryz.func3, Tryz.ntmps3
    go_wp2_with fail
    go_ret
    exact ⟨rfl, Below.refl _ _⟩
  have d1a : decide (1048576 < (l1.length : Int)) = false := decide_eq_false (by omega)
  have d1b : decide (1048576 < l1.length) = false := decide_eq_false g1
  by_cases g2 : 1048576 < l2.length
  case pos =>
    have d2a : decide (1048576 < (l2.length : Int)) = true := decide_eq_true (by omega)
    have d2b : decide (1048576 < l2.length) = true := decide_eq_true g2
    go_enter Tryz.func3, Tryz.ntmps3
    go_wp2_with fail
    go_ret
    exact ⟨rfl, Below.refl _ _⟩
  have d2a : decide (1048576 < (l2.length : Int)) = false := decide_eq_false (by omega)
  have d2b : decide (1048576 < l2.length) = false := decide_eq_false g2
  have A0 : Hid (∀ W, Below w.heap.size w W → Calls Tryz.prog 4 #[.slice pb l2.length cb, .int .i64 0, .int .i64 3] W fun e W' => ∃ k : Nat, e = .returned (.int .i64 (k : Int)) ∧ k < 3 ∧ Below W.heap.size W W') := fun W h => atS l2 pb cb 3 _ W (h2.upG h) (by omega) (by omega) (by omega)
  have SO : Hid (∀ W t, t < 3 → Below w.heap.size w W → Calls Tryz.prog 7 #[.slice pa l1.length ca, .int .i64 ((t : Nat) : Int)] W (MutsW W)) := fun W t ht h => mutsOfS l1 pa ca t w.heap.size W ht h.size (h1.upG h)
  have TW : Hid (∀ W, Below w.heap.size w W → TabW W) := fun W h => hTab.later h0w h
  clear h1 h2 g1 g2 hTab h0w
  go_enter Tryz.func3, Tryz.ntmps3
  go_wp2_with fail
  refine (A0.out _ (Below.refl _ _)).mono ?_
  rintro e w1 ⟨t, rfl, ht, hB1⟩
  clear A0
  go_wp2_with fail
  refine (plainT _).mono ?_
  rintro e w2 ⟨A, rb, off, rfl, hT, hB2⟩
  obtain ⟨⟨c0, c1, c2, c3⟩, hth⟩ := hT t ht
  have hfd : ∀ w : World, (Instr.field 30 (.agg #[.slice (some ⟨rb, off, none⟩) 3 3]) 0).run Tryz.prog w = .ok (.slice (some ⟨rb, off, none⟩) 3 3) w := fun _ => by kernel_rfl
  have ht3 : (t : Int) < 3 := by omega
  have PT := Lib.hid (plT_tab t ht)
  have PD := Lib.hid (plT_rowD ht (id := 5) (by decide))
  have SO1 : Hid (∀ W, Below w.heap.size w W → Calls Tryz.prog 7 #[.slice pa l1.length ca, .int .i64 (t : Int)] W (MutsW W)) := fun W h => SO.out W t ht h
  have bW2 : Below w.heap.size w w2 := hB1.trans (hB2.mono hB1.size)
  clear hT ht SO hB1 hB2
  generalize plT t = tb at *
  generalize A t = ad at *
  have hmk := run_mkAtomSS tb.cols.length (by have := PT.out.1.len; omega)
  have HW3 : Hid (Below w.heap.size w (w2.alloc (.cells #[.string ⟨tb.nm.toArray⟩, .slice ad.ca tb.cols.length ad.cc, .slice ad.ua tb.uq.length ad.uc, .bool tb.rt] 27)) ∧ (w2.alloc (.cells #[.string ⟨tb.nm.toArray⟩, .slice ad.ca tb.cols.length ad.cc, .slice ad.ua tb.uq.length ad.uc, .bool tb.rt] 27)).heap[w2.heap.size]? = some (.cells #[.string ⟨tb.nm.toArray⟩, .slice ad.ca tb.cols.length ad.cc, .slice ad.ua tb.uq.length ad.uc, .bool tb.rt] 27) ∧ tb.Has (w2.alloc (.cells #[.string ⟨tb.nm.toArray⟩, .slice ad.ca tb.cols.length ad.cc, .slice ad.ua tb.uq.length ad.uc, .bool tb.rt] 27)) (fun _ => True) ad.ca ad.ua) := ⟨bW2.alloc bW2.size _, heap_newD _ _, ((hth.later (below_allocD _ _)).same (fun _ _ => rfl) (fun _ _ => trivial))⟩
  have t1 := cell_at (o := 1) HW3.out.2.1 rfl
  clear hth bW2
  go_upto_region 5 with fail
  clear c0 c1 c2 c3 hfd ht3
  obtain ⟨w3, hw3⟩ : ∃ W, W = w2.alloc (.cells #[.string ⟨tb.nm.toArray⟩, .slice ad.ca tb.cols.length ad.cc, .slice ad.ua tb.uq.length ad.uc, .bool tb.rt] 27) := ⟨_, rfl⟩
  rw [← hw3] at HW3 t1 ⊢
  clear hw3
  obtain ⟨qt, hqt⟩ : ∃ n, n = w2.heap.size := ⟨_, rfl⟩
  rw [← hqt] at HW3 t1 ⊢
  clear hqt
  have HL0 : Hid (Below w3.heap.size w3 ((w3.alloc (.cells (madeCells #[.slice none 0 0] (tb.cols.length * 1)) 35)).alloc (.cells #[.int .i64 5, .slice (some ⟨w3.heap.size, 0, none⟩) tb.cols.length tb.cols.length] 34)) ∧ ((w3.alloc (.cells (madeCells #[.slice none 0 0] (tb.cols.length * 1)) 35)).alloc (.cells #[.int .i64 5, .slice (some ⟨w3.heap.size, 0, none⟩) tb.cols.length tb.cols.length] 34)).heap[w3.heap.size + 1]? = some (.cells #[.int .i64 5, .slice (some ⟨w3.heap.size, 0, none⟩) tb.cols.length tb.cols.length] 34) ∧ TS ((w3.alloc (.cells (madeCells #[.slice none 0 0] (tb.cols.length * 1)) 35)).alloc (.cells #[.int .i64 5, .slice (some ⟨w3.heap.size, 0, none⟩) tb.cols.length tb.cols.length] 34)) 35 1 tb.cols.length (lsF cAtomS (tb.cols.map dfL)) w3.heap.size 0) := by
    have hA := below_allocD w3 (.cells (madeCells #[.slice none 0 0] (tb.cols.length * 1)) 35)
    have hA2 := below_allocD (w3.alloc (.cells (madeCells #[.slice none 0 0] (tb.cols.length * 1)) 35)) (.cells #[.int .i64 5, .slice (some ⟨w3.heap.size, 0, none⟩) tb.cols.length tb.cols.length] 34)
    have hn := heap_newD (w3.alloc (.cells (madeCells #[.slice none 0 0] (tb.cols.length * 1)) 35)) (.cells #[.int .i64 5, .slice (some ⟨w3.heap.size, 0, none⟩) tb.cols.length tb.cols.length] 34)
    rw [size_allocD] at hn
    refine ⟨hA.trans (hA2.mono hA.size), hn, ?_⟩
    have hs := TS.start w3 #[.slice none 0 0] 35 1 tb.cols.length (lsF cAtomS (tb.cols.map dfL))
    exact hs.laterG hA2
  go_wp2_with fail
  clear hmk t1
  have DI : Hid (∀ k (h : k < tb.cols.length) W, Calls Tryz.prog 6 #[.agg #[.string ⟨tb.cols[k].nm.toArray⟩, .int .i64 tb.cols[k].k, .int .i64 tb.cols[k].mn, .int .i64 tb.cols[k].mx, .int .i64 tb.cols[k].lo, .int .i64 tb.cols[k].hi, .string ⟨tb.cols[k].rf.toArray⟩, .bool tb.cols[k].st]] W (DAns2 W (dfL tb.cols[k]) 0)) := fun k h W => by
    have hc := (PT.out.1.cols k h).1
    have ho := PT.out.2.2.2.1 _ (List.getElem_mem h)
    have hD := defaultOfI tb.cols[k] W ho.1 ho.2
    rw [show dfR tb.cols[k] = dfL tb.cols[k] by unfold dfR; rw [if_pos hc], show dfC tb.cols[k] = 0 by unfold dfC; rw [if_pos hc]] at hD
    exact hD
  have HC6 : Hid (1 ≤ tb.cols.length ∧ tb.cols.length ≤ 6) := PT.out.1.len
  go_loopg [8] tb.cols.length (fun g i wr => ∃ k : Nat, k + g = tb.cols.length ∧ i = .int .i64 (k : Int) ∧ Hid (Below w3.heap.size w3 wr ∧ wr.heap[w3.heap.size + 1]? = some (.cells #[.int .i64 5, .slice (some ⟨w3.heap.size, 0, none⟩) tb.cols.length tb.cols.length] 34) ∧ TS wr 35 1 tb.cols.length (lsF cAtomS (tb.cols.map dfL)) w3.heap.size k))
  case atStart => exact ⟨0, by omega, rfl, by have := HL0.out; simp only [Nat.mul_one] at this ⊢; exact this⟩
  case round =>
    obtain ⟨k, hkg, rfl, HK⟩ := hrel
    have HKG := Lib.hid hkg
    have HTX := Lib.hid (And.intro (heap_keptD HW3.out.2.1 HK.out.1) (HW3.out.2.2.later HK.out.1))
    have t1 := cell_at (o := 1) HTX.out.1 rfl
    by_cases hlt : k < tb.cols.length
    case pos =>
      have hki : (k : Int) < (tb.cols.length : Int) := by omega
      have f1 : IntKind.i64.wrap ((k : Int) + 1) = ((k + 1 : Nat) : Int) := by have := HC6.out; rw [IntKind.wrap_i64]; omega
      obtain ⟨cb, co, hca, -, hcs⟩ := Cols.at HTX.out.2.1 k hlt
      rw [hca] at t1
      have hck := hcs k hlt
      have D1 := Lib.hid (DI.out k hlt wr)
      have HFA : Hid ((lsF cAtomS (tb.cols.map dfL)) k = cAtomS (dfL (tb.cols[k]'hlt))) := by show _ = _; rw [lsF_at (by simpa using hlt)]; simp
      obtain ⟨cl, hcl⟩ : ∃ cl : Cl, cl = tb.cols[k]'hlt := ⟨_, rfl⟩
      rw [← hcl] at hck D1 HFA
      obtain ⟨k0, k1, k2, k3, k4, k5, k6, k7⟩ := hck
      clear hcs hcl hkg hca
      go_wp2_with fail
      refine D1.out.mono ?_
      rintro e w4 ⟨da, dc, rfl, ho, hB4⟩
      have HST : Hid (TS (w4.setCell ⟨w3.heap.size, k, none⟩ (.slice da (dfL cl).length dc)) 35 1 tb.cols.length (lsF cAtomS (tb.cols.map dfL)) w3.heap.size (k + 1)) := by
        have := HK.out.2.2.step hB4 (fun _ => .slice da (dfL cl).length dc) ⟨fun j c => j = 0 ∧ wr.heap.size ≤ c ∧ c < w4.heap.size, fun _ _ h => h.2, fun _ _ _ h h' => by omega, fun j hj => by
          rw [HFA.out]
          obtain rfl : j = 0 := by omega
          exact (ho.own dc).mono (fun c h => ⟨rfl, h⟩)⟩
        simp only [putN, Nat.mul_one, Nat.add_zero] at this
        exact this
      obtain ⟨g, hg⟩ := HK.out.2.2.row
      have hg1 := hg.of_block (hB4.block _ hg.lt)
      rw [Nat.mul_one] at hg1
      have e0 := hg1.cell (i := k) hlt
      have z0 := hg1.frozen k
      have hrb := heap_keptD HK.out.2.1 hB4
      have rb1 := cell_at (o := 1) hrb rfl
      have HN : Hid (Below w3.heap.size w3 (w4.setCell ⟨w3.heap.size, k, none⟩ (.slice da (dfL cl).length dc)) ∧ (w4.setCell ⟨w3.heap.size, k, none⟩ (.slice da (dfL cl).length dc)).heap[w3.heap.size + 1]? = some (.cells #[.int .i64 5, .slice (some ⟨w3.heap.size, 0, none⟩) tb.cols.length tb.cols.length] 34) ∧ TS (w4.setCell ⟨w3.heap.size, k, none⟩ (.slice da (dfL cl).length dc)) 35 1 tb.cols.length (lsF cAtomS (tb.cols.map dfL)) w3.heap.size (k + 1)) := ⟨(HK.out.1.trans (hB4.mono HK.out.1.size)).setCell (Nat.le_refl _) _, by rw [Below.heap_setCell _ ⟨w3.heap.size, k, none⟩ _ _ (show w3.heap.size + 1 ≠ w3.heap.size by omega)]; exact hrb, HST.out⟩
      clear hg hg1 hB4 ho hrb HST D1
      go_wp2_with fail
      go_roundg (tb.cols.length - (k + 1))
      case measure => have := HKG.out; omega
      case rel => exact ⟨k + 1, by have := HKG.out; omega, by go_num, HN⟩
    have hkd : decide ((k : Int) < (tb.cols.length : Int)) = false := by simp; omega
    obtain ⟨r, hr⟩ : ∃ r : RowV, r = ⟨5, tb.cols.map dfL⟩ := ⟨_, rfl⟩
    have HR : Hid (r.id = 5 ∧ rokM tb r = true) := by rw [hr]; exact ⟨rfl, PD.out⟩
    have hkn : k = tb.cols.length := by omega
    obtain ⟨ra, hra⟩ : ∃ a : Option Addr, a = some ⟨w3.heap.size, 0, none⟩ := ⟨_, rfl⟩
    obtain ⟨rc, hrc⟩ : ∃ n, n = tb.cols.length := ⟨_, rfl⟩
    have HRR : Hid (wr.heap[w3.heap.size + 1]? = some (.cells #[.int .i64 r.id, .slice ra r.cells.length rc] 34) ∧ Rd wr (fun _ => True) (dAtomSS r.cells) (.slice ra r.cells.length rc)) := by
      have hD := TS.done (n := 1) (by omega) (by have := HK.out.2.2; rw [hkn] at this; exact this)
      rw [hr, hra, hrc]
      refine ⟨by have := HK.out.2.1; simpa using this, ?_⟩
      have h9 := (Own.rd _ _ _ hD).any
      unfold dAtomSS Ls
      simp only [List.length_map]
      exact h9
    obtain ⟨qr, hqr⟩ : ∃ n, n = w3.heap.size + 1 := ⟨_, rfl⟩
    rw [← hqr] at HRR
    have HB6 : Hid (Below w.heap.size w wr) := HW3.out.1.trans (HK.out.1.mono HW3.out.1.size)
    clear hr hkn hra hrc hkg DI HK HW3 PD
    rw [← hqr]
    clear hqr
    generalize wr = w6 at *
    go_wp2_with fail
    clear t1
    refine (SO1.out _ HB6.out).mono ?_
    rintro e w7 ⟨L, va, vc, rfl, hl3, hmb, hle, hrd, hB7⟩
    have H7 : Hid (Below w.heap.size w w7 ∧ w7.heap[qt]? = some (.cells #[.string ⟨tb.nm.toArray⟩, .slice ad.ca tb.cols.length ad.cc, .slice ad.ua tb.uq.length ad.uc, .bool tb.rt] 27) ∧ tb.Has w7 (fun _ => True) ad.ca ad.ua ∧ w7.heap[qr]? = some (.cells #[.int .i64 r.id, .slice ra r.cells.length rc] 34) ∧ Rd w7 (fun _ => True) (dAtomSS r.cells) (.slice ra r.cells.length rc) ∧ Rd w7 (fun _ => True) (dMutS L) (.slice va L.length vc)) := ⟨HB6.out.trans (hB7.mono HB6.out.size), heap_keptD HTX.out.1 hB7, HTX.out.2.later hB7, heap_keptD HRR.out.1 hB7, HRR.out.2.later hB7, hrd.any⟩
    have HSM : Hid ((dAtomSS r.cells).le 1048576) := rok_smallM HR.out.2 PT.out.1.len.2
    have HLE := Lib.hid hle
    have HMB := Lib.hid hmb
    obtain ⟨x, hx⟩ : ∃ x, x = mrR tb r L := ⟨_, rfl⟩
    obtain ⟨n, hn⟩ : ∃ n, n = mrC tb r L := ⟨_, rfl⟩
    have PX : Hid ((n = 0 → x.id = r.id ∧ rokM tb x = true) ∧ (¬ n = 0 → x.cells.length = 0)) := by rw [hx, hn]; exact ⟨mr_right PT.out.1 HR.out.2, mr_zero⟩
    have XL : Hid ((dAtomSS x.cells).le 1048576) := by
      by_cases h0 : n = 0
      · exact rok_smallM (PX.out.1 h0).2 PT.out.1.len.2
      · exact Ls_le.2 ⟨by omega, by have := PX.out.2 h0; omega, fun i hi => absurd hi (by have := PX.out.2 h0; omega)⟩
    have SI : Hid (∀ W, Below w7.heap.size w7 W → Calls Tryz.prog 8 #[.agg #[.string ⟨tb.nm.toArray⟩, .slice ad.ca tb.cols.length ad.cc, .slice ad.ua tb.uq.length ad.uc, .bool tb.rt], .agg #[.int .i64 r.id, .slice ra r.cells.length rc], .slice va L.length vc] W (RowAnsO W x n)) := fun W h => by rw [hx, hn]; exact mutRowI tb ad.ca ad.cc ad.ua ad.uc _ r ra rc _ L va vc _ W PT.out.2 hle HSM.out (H7.out.2.2.1.later h) (H7.out.2.2.2.2.1.later h) (H7.out.2.2.2.2.2.later h)
    have SS : Hid (∀ W, Below w7.heap.size w7 W → Calls Tryz.prog 9 #[.agg #[.string ⟨tb.nm.toArray⟩, .slice ad.ca tb.cols.length ad.cc, .slice ad.ua tb.uq.length ad.uc, .bool tb.rt], .agg #[.int .i64 r.id, .slice ra r.cells.length rc], .slice va L.length vc] W (RowAns W x n)) := fun W h => by rw [hx, hn]; exact mutRowS tb ad.ca ad.cc ad.ua ad.uc _ r ra rc _ L va vc _ W PT.out.2 hle HSM.out (H7.out.2.2.1.later h) (H7.out.2.2.2.2.1.later h) (H7.out.2.2.2.2.2.later h)
    have HL3 := Lib.hid hl3
    clear hle hmb hrd hB7 hx hn hl3 SO1 HRR HTX HB6
    have t0 := cell_at (o := 0) (heap_keptD H7.out.2.1 (Below.refl _ _)) rfl
    have t1 := cell_at (o := 1) (heap_keptD H7.out.2.1 (Below.refl _ _)) rfl
    have t2 := cell_at (o := 2) (heap_keptD H7.out.2.1 (Below.refl _ _)) rfl
    have t3 := cell_at (o := 3) (heap_keptD H7.out.2.1 (Below.refl _ _)) rfl
    have r0 := cell_at (o := 0) (heap_keptD H7.out.2.2.2.1 (Below.refl _ _)) rfl
    have r1 := cell_at (o := 1) (heap_keptD H7.out.2.2.2.1 (Below.refl _ _)) rfl
    go_wp2_with fail
    clear t0 t1 t2 t3 r0 r1
    refine (SI.out _ (Below.refl _ _)).mono ?_
    rintro e w8 ⟨xa, xc, rfl, ho, hB8⟩
    have B8 : Hid (Below w7.heap.size w7 (w8.alloc (.cells #[.int .i64 x.id, .slice xa x.cells.length xc] 34))) := hB8.trans ((below_allocD w8 (.cells #[.int .i64 x.id, .slice xa x.cells.length xc] 34)).mono hB8.size)
    have X8 : Hid ((w8.alloc (.cells #[.int .i64 x.id, .slice xa x.cells.length xc] 34)).heap[w8.heap.size]? = some (.cells #[.int .i64 x.id, .slice xa x.cells.length xc] 34) ∧ Rd (w8.alloc (.cells #[.int .i64 x.id, .slice xa x.cells.length xc] 34)) (fun _ => True) (dAtomSS x.cells) (.slice xa x.cells.length xc)) := ⟨heap_newD _ _, (Own.rd _ _ _ ho).any.later (below_allocD _ _)⟩
    clear ho hB8 SI
    have t0 := cell_at (o := 0) (heap_keptD H7.out.2.1 B8.out) rfl
    have t1 := cell_at (o := 1) (heap_keptD H7.out.2.1 B8.out) rfl
    have t2 := cell_at (o := 2) (heap_keptD H7.out.2.1 B8.out) rfl
    have t3 := cell_at (o := 3) (heap_keptD H7.out.2.1 B8.out) rfl
    have r0 := cell_at (o := 0) (heap_keptD H7.out.2.2.2.1 B8.out) rfl
    have r1 := cell_at (o := 1) (heap_keptD H7.out.2.2.2.1 B8.out) rfl
    go_wp2_with fail
    clear t0 t1 t2 t3 r0 r1
    refine (SS.out _ B8.out).mono ?_
    rintro e w9 ⟨ya, yc, rfl, hy, hB9⟩
    have hC := hB9.trans ((below_allocD w9 (.cells #[.int .i64 x.id, .slice ya x.cells.length yc] 34)).mono hB9.size)
    have B9 : Hid (Below w7.heap.size w7 (w9.alloc (.cells #[.int .i64 x.id, .slice ya x.cells.length yc] 34))) := B8.out.trans (hC.mono B8.out.size)
    obtain ⟨qx, hqx⟩ : ∃ n, n = w8.heap.size := ⟨_, rfl⟩
    obtain ⟨qy, hqy⟩ : ∃ n, n = w9.heap.size := ⟨_, rfl⟩
    have HM : Hid (GM w (w9.alloc (.cells #[.int .i64 x.id, .slice ya x.cells.length yc] 34)) tb ad r x ra rc xa xc L va vc qt qr qx ∧ (w9.alloc (.cells #[.int .i64 x.id, .slice ya x.cells.length yc] 34)).heap[qy]? = some (.cells #[.int .i64 x.id, .slice ya x.cells.length yc] 34) ∧ Rd (w9.alloc (.cells #[.int .i64 x.id, .slice ya x.cells.length yc] 34)) (fun _ => True) (dAtomSS x.cells) (.slice ya x.cells.length yc)) := by
      rw [hqx, hqy]
      exact ⟨⟨H7.out.1.trans (B9.out.mono H7.out.1.size), heap_keptD H7.out.2.1 B9.out, H7.out.2.2.1.later B9.out, heap_keptD H7.out.2.2.2.1 B9.out, H7.out.2.2.2.2.1.later B9.out, H7.out.2.2.2.2.2.later B9.out, heap_keptD X8.out.1 hC, X8.out.2.later hC⟩, heap_newD _ _, hy.any.later (below_allocD _ _)⟩
    clear hy hB9 hC SS H7 X8 B8 B9
    go_upto_region 16 with fail
    rw [← hqx, ← hqy]
    clear hqx hqy
    obtain ⟨w10, hw10⟩ : ∃ W, W = (w9.alloc (.cells #[.int .i64 x.id, .slice ya x.cells.length yc] 34)) := ⟨_, rfl⟩
    rw [← hw10] at HM ⊢
    clear hw10
    have SR : Hid (Calls Tryz.prog 10 #[.agg #[.int .i64 x.id, .slice xa x.cells.length xc], .agg #[.int .i64 x.id, .slice ya x.cells.length yc]] w10 fun e w' => e = .returned (.bool true) ∧ Below w10.heap.size w10 w') := sameRowT x xa ya xc yc _ _ w10 XL.out HM.out.1.xr HM.out.2.2
    have RO : Hid (∀ W, GM w W tb ad r x ra rc xa xc L va vc qt qr qx → Calls Tryz.prog 11 #[.agg #[.string ⟨tb.nm.toArray⟩, .slice ad.ca tb.cols.length ad.cc, .slice ad.ua tb.uq.length ad.uc, .bool tb.rt], .agg #[.int .i64 r.id, .slice ra r.cells.length rc]] W fun e w' => e = .returned (.bool true) ∧ Below W.heap.size W w') := fun W h => by
      obtain ⟨X, hX⟩ := h.rr.rowX
      have := rowOKi tb ad.ca ad.cc ad.ua ad.uc r.id r.cells ra rc X _ W.heap.size W PT.out.2 (le_sets (D.le.mono (by unfold maxLen; omega) _ HSM.out)) h.has (Nat.le_refl _) hX
      rw [show (tabB tb && rowB tb r.id r.cells) = true from HR.out.2] at this
      exact this
    have nn : (n != n) = false := by simp
    have x0 := cell_at (o := 0) HM.out.1.xb rfl
    have x1 := cell_at (o := 1) HM.out.1.xb rfl
    have y0 := cell_at (o := 0) HM.out.2.1 rfl
    have y1 := cell_at (o := 1) HM.out.2.1 rfl
    go_wp2_with fail
    clear x0 x1 y0 y1
    refine SR.out.mono ?_
    rintro e w11 ⟨rfl, hB11⟩
    have HM2 := Lib.hid (HM.out.1.later hB11)
    clear hB11 SR HM
    have t0 := cell_at (o := 0) HM2.out.tx rfl
    have t1 := cell_at (o := 1) HM2.out.tx rfl
    have t2 := cell_at (o := 2) HM2.out.tx rfl
    have t3 := cell_at (o := 3) HM2.out.tx rfl
    have r0 := cell_at (o := 0) HM2.out.rb rfl
    have r1 := cell_at (o := 1) HM2.out.rb rfl
    go_wp2_with fail
    clear t0 t1 t2 t3 r0 r1
    refine (RO.out _ HM2.out).mono ?_
    rintro e w12 ⟨rfl, hB12⟩
    have HN := Lib.hid (HM2.out.later hB12)
    clear hB12 HM2 RO nn
    go_wp2_with fail
    go_loopg [16] L.length (fun g i wr => ∃ k : Nat, k + g = L.length ∧ i = .int .i64 (k : Int) ∧ Hid (GM w wr tb ad r x ra rc xa xc L va vc qt qr qx))
    case atStart => exact ⟨0, by omega, rfl, HN⟩
    case round =>
      obtain ⟨k, hkg, rfl, HO⟩ := hrel
      have HKG := Lib.hid hkg
      by_cases hlt : k < L.length
      case pos =>
        have hki : (k : Int) < (L.length : Int) := by omega
        have f2 : IntKind.i64.wrap ((k : Int) + 1) = ((k + 1 : Nat) : Int) := by have := HL3.out; rw [IntKind.wrap_i64]; omega
        obtain ⟨b2, o2, hva, -, hc2⟩ := Rd.things (d := dMut) (n := 3) HO.out.ls k hlt
        obtain ⟨u0, s0, hr0⟩ := hc2 0 (by omega)
        obtain ⟨u1, s1, hr1⟩ := hc2 1 (by omega)
        obtain ⟨u2, s2, hr2⟩ := hc2 2 (by omega)
        obtain ⟨z, hz⟩ : ∃ z : MutV, z = L[k]'hlt := ⟨_, rfl⟩
        have HZM : Hid (mutB z = true) := by rw [hz]; exact HMB.out _ (List.getElem_mem hlt)
        have HZL : Hid (∀ j, j < 3 → (dMut z j).le 1048576) := by rw [hz]; exact (Ls_le.1 HLE.out).2.2 k hlt
        rw [← hz] at hr0 hr1 hr2
        obtain rfl : u0 = .string ⟨z.col.toArray⟩ := hr0
        obtain rfl : u1 = .int .i64 z.fn := hr1
        replace hr2 : Rd wr (fun _ => True) (dAtomS z.val) u2 := hr2
        obtain ⟨ea, ec, rfl⟩ := hr2.lsSlice
        rw [Nat.add_zero] at s0
        subst hva
        have CE : Hid (∀ W, Below wr.heap.size wr W → W.cell? ⟨qt, 0, none⟩ = some (.string ⟨tb.nm.toArray⟩) ∧ W.cell? ⟨qt, 1, none⟩ = some (.slice ad.ca tb.cols.length ad.cc) ∧ W.cell? ⟨qt, 2, none⟩ = some (.slice ad.ua tb.uq.length ad.uc) ∧ W.cell? ⟨qt, 3, none⟩ = some (.bool tb.rt) ∧ W.cell? ⟨b2, o2 + k * 3, none⟩ = some (.string ⟨z.col.toArray⟩) ∧ W.cell? ⟨b2, o2 + k * 3 + 1, none⟩ = some (.int .i64 z.fn) ∧ W.cell? ⟨b2, o2 + k * 3 + 2, none⟩ = some (.slice ea z.val.length ec)) := fun W h => by
          have hb := heap_keptD HO.out.tx h
          exact ⟨cell_at (o := 0) hb rfl, cell_at (o := 1) hb rfl, cell_at (o := 2) hb rfl, cell_at (o := 3) hb rfl, (h.cell (p := ⟨b2, o2 + k * 3, none⟩) (World.block_lt_of_cell? _ _ s0)).trans s0, (h.cell (p := ⟨b2, o2 + k * 3 + 1, none⟩) (World.block_lt_of_cell? _ _ s1)).trans s1, (h.cell (p := ⟨b2, o2 + k * 3 + 2, none⟩) (World.block_lt_of_cell? _ _ s2)).trans s2⟩
        obtain ⟨mc, hmc⟩ : ∃ n, n = mcR tb z := ⟨_, rfl⟩
        have hm0 : mcC tb z = 0 := by unfold mcC; rw [if_pos ⟨tab_yes PT.out.1, HZM.out⟩]
        have hln : z.val.length ≤ maxLen ∧ (∀ y ∈ z.val, y.t.length ≤ maxLen) ∧ z.col.length ≤ maxLen := by
          have h2 := Ls_le.1 (HZL.out 2 (by omega))
          refine ⟨by have := h2.2.1; unfold maxLen; omega, fun y hy => ?_, by have h0 : z.col.length ≤ 1048576 := HZL.out 0 (by omega); unfold maxLen; omega⟩
          obtain ⟨i, hi, rfl⟩ := List.mem_iff_getElem.1 hy
          have h3 : z.val[i].t.length ≤ 1048576 := h2.2.2 i hi 2 (by omega)
          unfold maxLen; omega
        have MI : Hid (∀ W, Below wr.heap.size wr W → Calls Tryz.prog 12 #[.agg #[.string ⟨tb.nm.toArray⟩, .slice ad.ca tb.cols.length ad.cc, .slice ad.ua tb.uq.length ad.uc, .bool tb.rt], .agg #[.string ⟨z.col.toArray⟩, .int .i64 z.fn, .slice ea z.val.length ec]] W fun e w' => e = .returned (.tuple #[.int .i64 mc, .int .i64 0]) ∧ Below W.heap.size W w') := fun W h => by
          have hM := mutCodeOfI tb z ad.ca ad.cc ad.ua ad.uc ea ec _ W.heap.size W PT.out.2 hln.2.2 hln.1 hln.2.1 (HO.out.has.later h) (Nat.le_refl _) ((hr2.later h).lt.ats)
          rw [hm0, ← hmc] at hM
          exact hM
        have ME : Hid (∀ W, Below wr.heap.size wr W → Calls Tryz.prog 13 #[.agg #[.string ⟨tb.nm.toArray⟩, .slice ad.ca tb.cols.length ad.cc, .slice ad.ua tb.uq.length ad.uc, .bool tb.rt], .agg #[.string ⟨z.col.toArray⟩, .int .i64 z.fn, .slice ea z.val.length ec]] W fun e w' => e = .returned (.tuple #[.int .i64 mc, .int .i64 0]) ∧ Below W.heap.size W w') := fun W h => by
          have hM := mutCodeOfS tb z ad.ca ad.cc ad.ua ad.uc ea ec _ W.heap.size W PT.out.2 hln.2.2 hln.1 hln.2.1 (HO.out.has.later h) (Nat.le_refl _) ((hr2.later h).lt.ats)
          rw [hm0, ← hmc] at hM
          exact hM
        obtain ⟨f, hf⟩ : ∃ f : Nat, (f : Int) = z.fn := ⟨z.fn.toNat, by have h9 := HZM.out; unfold mutB inB at h9; simp only [Bool.and_eq_true, decide_eq_true_eq] at h9; omega⟩
        have hf8 : f < 8 := by have h9 := HZM.out; unfold mutB inB at h9; simp only [Bool.and_eq_true, decide_eq_true_eq] at h9; omega
        obtain ⟨sw, hsw⟩ : ∃ s, s = wordsW.getD f [] := ⟨_, rfl⟩
        have MW : Hid (∀ W, Below wr.heap.size wr W → Calls Tryz.prog 15 #[.int .i64 z.fn] W fun e w' => e = .returned (.string ⟨sw.toArray⟩) ∧ w' = W) := fun W h => by rw [← hf, hsw]; exact wordMI f hf8 W (TW.out W (HO.out.bel.trans (h.mono HO.out.bel.size)))
        have MO : Hid (∀ W, Below wr.heap.size wr W → Calls Tryz.prog 14 #[.string ⟨sw.toArray⟩] W fun e w' => e = .returned (.int .i64 z.fn) ∧ w' = W) := fun W h => by rw [← hf, hsw]; exact ofMI f hf8 W (TW.out W (HO.out.bel.trans (h.mono HO.out.bel.size)))
        have n1 : (mc != mc) = false := by simp
        have n2 : (z.fn != z.fn) = false := by simp
        clear hc2 hr2 hz hkg s0 s1 s2 hmc hm0 hln hf hf8 hsw
        have B0 : Hid (Below wr.heap.size wr wr.drew) := (Below.refl _ _).drew
        go_wp2_with fail
        refine wp_region_held_drew (S := (fun W => W.cell? ⟨qt, 0, none⟩ = some (.string ⟨tb.nm.toArray⟩) ∧ W.cell? ⟨qt, 1, none⟩ = some (.slice ad.ca tb.cols.length ad.cc) ∧ W.cell? ⟨qt, 2, none⟩ = some (.slice ad.ua tb.uq.length ad.uc) ∧ W.cell? ⟨qt, 3, none⟩ = some (.bool tb.rt) ∧ W.cell? ⟨b2, o2 + k * 3, none⟩ = some (.string ⟨z.col.toArray⟩) ∧ W.cell? ⟨b2, o2 + k * 3 + 1, none⟩ = some (.int .i64 z.fn) ∧ W.cell? ⟨b2, o2 + k * 3 + 2, none⟩ = some (.slice ea z.val.length ec))) (by kernel_rfl) ?_ (fun hHeld => ?_)
        · (exact CE.out _ (by first | exact B5.out | exact B4.out | exact B3.out | exact B2.out | exact B1.out | exact B0.out))
        refine wpAnyH_take (i := 0) (v := ?_) rfl (by kernel_rfl) (by kernel_rfl) (by kernel_rfl) (fun _ _ _ h => h) (Or.inl ⟨by kernel_rfl, ?_⟩) (by assumption) ?_
        rotate_left
        · (intro wS hSw; (try dsimp only at hSw); go_simp <;> with_reducible rfl)
        try simp only [Act.put, tkS]
        refine wpAnyH_take (i := 1) (v := ?_) rfl (by kernel_rfl) (by kernel_rfl) (by kernel_rfl) (fun _ _ _ h => h) (Or.inl ⟨by kernel_rfl, ?_⟩) (by assumption) ?_
        rotate_left
        · (intro wS hSw; (try dsimp only at hSw); go_simp <;> with_reducible rfl)
        try simp only [Act.put, tkS]
        refine wpAnyH_take (i := 2) (v := ?_) rfl (by kernel_rfl) (by kernel_rfl) (by kernel_rfl) (fun _ _ _ h => h) (Or.inl ⟨by kernel_rfl, ?_⟩) (by assumption) ?_
        rotate_left
        · (intro wS hSw; (try dsimp only at hSw); go_simp <;> with_reducible rfl)
        try simp only [Act.put, tkS]
        refine wpAnyH_take (i := 3) (v := ?_) rfl (by kernel_rfl) (by kernel_rfl) (by kernel_rfl) (fun _ _ _ h => h) (Or.inl ⟨by kernel_rfl, ?_⟩) (by assumption) ?_
        rotate_left
        · (intro wS hSw; (try dsimp only at hSw); go_simp <;> with_reducible rfl)
        try simp only [Act.put, tkS]
        refine wpAnyH_take (i := 4) (v := ?_) rfl (by kernel_rfl) (by kernel_rfl) (by kernel_rfl) (fun _ _ _ h => h) (Or.inl ⟨by kernel_rfl, ?_⟩) (by assumption) ?_
        rotate_left
        · (intro wS hSw; (try dsimp only at hSw); go_simp <;> with_reducible rfl)
        try simp only [Act.put, tkS]
        refine wpAnyH_ready (rs := [5]) (by kernel_rfl) (by simp) (AllReadyH.cons rfl (fun K hK => ?_) AllReadyH.nil)
        go_simp
        (go_at_call 12; refine (MI.out _ B0.out).mono ?_; rintro e w13 ⟨rfl, hBB⟩; have B1 : Hid (Below wr.heap.size wr w13) := B0.out.trans (hBB.mono B0.out.size); clear hBB)
        refine hK.out _ _ ?_ (fun hHeld => ?_)
        · (exact CE.out _ (by first | exact B5.out | exact B4.out | exact B3.out | exact B2.out | exact B1.out | exact B0.out))
        clear hK K
        try simp only [Act.put, tkS]
        refine wpAnyH_take (i := 6) (v := ?_) rfl (by kernel_rfl) (by kernel_rfl) (by kernel_rfl) (fun _ _ _ h => h) (Or.inl ⟨by kernel_rfl, ?_⟩) (by assumption) ?_
        rotate_left
        · (intro wS hSw; (try dsimp only at hSw); go_simp <;> with_reducible rfl)
        try simp only [Act.put, tkS]
        refine wpAnyH_take (i := 7) (v := ?_) rfl (by kernel_rfl) (by kernel_rfl) (by kernel_rfl) (fun _ _ _ h => h) (Or.inl ⟨by kernel_rfl, ?_⟩) (by assumption) ?_
        rotate_left
        · (intro wS hSw; (try dsimp only at hSw); go_simp <;> with_reducible rfl)
        try simp only [Act.put, tkS]
        refine wpAnyH_take (i := 8) (v := ?_) rfl (by kernel_rfl) (by kernel_rfl) (by kernel_rfl) (fun _ _ _ h => h) (Or.inl ⟨by kernel_rfl, ?_⟩) (by assumption) ?_
        rotate_left
        · (intro wS hSw; (try dsimp only at hSw); go_simp <;> with_reducible rfl)
        try simp only [Act.put, tkS]
        refine wpAnyH_take (i := 9) (v := ?_) rfl (by kernel_rfl) (by kernel_rfl) (by kernel_rfl) (fun _ _ _ h => h) (Or.inl ⟨by kernel_rfl, ?_⟩) (by assumption) ?_
        rotate_left
        · (intro wS hSw; (try dsimp only at hSw); go_simp <;> with_reducible rfl)
        try simp only [Act.put, tkS]
        refine wpAnyH_take (i := 10) (v := ?_) rfl (by kernel_rfl) (by kernel_rfl) (by kernel_rfl) (fun _ _ _ h => h) (Or.inl ⟨by kernel_rfl, ?_⟩) (by assumption) ?_
        rotate_left
        · (intro wS hSw; (try dsimp only at hSw); go_simp <;> with_reducible rfl)
        try simp only [Act.put, tkS]
        refine wpAnyH_done (by kernel_rfl) ?_ _
        have B2 : Hid (Below wr.heap.size wr w13.drew) := B1.out.trans ((Below.refl _ _).drew.mono B1.out.size)
        go_wp2_with fail
        refine wp_region_held_drew (S := (fun W => W.cell? ⟨qt, 0, none⟩ = some (.string ⟨tb.nm.toArray⟩) ∧ W.cell? ⟨qt, 1, none⟩ = some (.slice ad.ca tb.cols.length ad.cc) ∧ W.cell? ⟨qt, 2, none⟩ = some (.slice ad.ua tb.uq.length ad.uc) ∧ W.cell? ⟨qt, 3, none⟩ = some (.bool tb.rt) ∧ W.cell? ⟨b2, o2 + k * 3, none⟩ = some (.string ⟨z.col.toArray⟩) ∧ W.cell? ⟨b2, o2 + k * 3 + 1, none⟩ = some (.int .i64 z.fn) ∧ W.cell? ⟨b2, o2 + k * 3 + 2, none⟩ = some (.slice ea z.val.length ec))) (by kernel_rfl) ?_ (fun hHeld => ?_)
        · (exact CE.out _ (by first | exact B5.out | exact B4.out | exact B3.out | exact B2.out | exact B1.out | exact B0.out))
        refine wpAnyH_take (i := 0) (v := ?_) rfl (by kernel_rfl) (by kernel_rfl) (by kernel_rfl) (fun _ _ _ h => h) (Or.inl ⟨by kernel_rfl, ?_⟩) (by assumption) ?_
        rotate_left
        · (intro wS hSw; (try dsimp only at hSw); go_simp <;> with_reducible rfl)
        try simp only [Act.put, tkS]
        refine wpAnyH_take (i := 1) (v := ?_) rfl (by kernel_rfl) (by kernel_rfl) (by kernel_rfl) (fun _ _ _ h => h) (Or.inl ⟨by kernel_rfl, ?_⟩) (by assumption) ?_
        rotate_left
        · (intro wS hSw; (try dsimp only at hSw); go_simp <;> with_reducible rfl)
        try simp only [Act.put, tkS]
        refine wpAnyH_take (i := 2) (v := ?_) rfl (by kernel_rfl) (by kernel_rfl) (by kernel_rfl) (fun _ _ _ h => h) (Or.inl ⟨by kernel_rfl, ?_⟩) (by assumption) ?_
        rotate_left
        · (intro wS hSw; (try dsimp only at hSw); go_simp <;> with_reducible rfl)
        try simp only [Act.put, tkS]
        refine wpAnyH_take (i := 3) (v := ?_) rfl (by kernel_rfl) (by kernel_rfl) (by kernel_rfl) (fun _ _ _ h => h) (Or.inl ⟨by kernel_rfl, ?_⟩) (by assumption) ?_
        rotate_left
        · (intro wS hSw; (try dsimp only at hSw); go_simp <;> with_reducible rfl)
        try simp only [Act.put, tkS]
        refine wpAnyH_take (i := 4) (v := ?_) rfl (by kernel_rfl) (by kernel_rfl) (by kernel_rfl) (fun _ _ _ h => h) (Or.inl ⟨by kernel_rfl, ?_⟩) (by assumption) ?_
        rotate_left
        · (intro wS hSw; (try dsimp only at hSw); go_simp <;> with_reducible rfl)
        try simp only [Act.put, tkS]
        refine wpAnyH_ready (rs := [5]) (by kernel_rfl) (by simp) (AllReadyH.cons rfl (fun K hK => ?_) AllReadyH.nil)
        go_simp
        (go_at_call 13; refine (ME.out _ B2.out).mono ?_; rintro e w14 ⟨rfl, hBB⟩; have B3 : Hid (Below wr.heap.size wr w14) := B2.out.trans (hBB.mono B2.out.size); clear hBB)
        refine hK.out _ _ ?_ (fun hHeld => ?_)
        · (exact CE.out _ (by first | exact B5.out | exact B4.out | exact B3.out | exact B2.out | exact B1.out | exact B0.out))
        clear hK K
        try simp only [Act.put, tkS]
        refine wpAnyH_take (i := 6) (v := ?_) rfl (by kernel_rfl) (by kernel_rfl) (by kernel_rfl) (fun _ _ _ h => h) (Or.inl ⟨by kernel_rfl, ?_⟩) (by assumption) ?_
        rotate_left
        · (intro wS hSw; (try dsimp only at hSw); go_simp <;> with_reducible rfl)
        try simp only [Act.put, tkS]
        refine wpAnyH_take (i := 7) (v := ?_) rfl (by kernel_rfl) (by kernel_rfl) (by kernel_rfl) (fun _ _ _ h => h) (Or.inl ⟨by kernel_rfl, ?_⟩) (by assumption) ?_
        rotate_left
        · (intro wS hSw; (try dsimp only at hSw); go_simp <;> with_reducible rfl)
        try simp only [Act.put, tkS]
        refine wpAnyH_take (i := 8) (v := ?_) rfl (by kernel_rfl) (by kernel_rfl) (by kernel_rfl) (fun _ _ _ h => h) (Or.inl ⟨by kernel_rfl, ?_⟩) (by assumption) ?_
        rotate_left
        · (intro wS hSw; (try dsimp only at hSw); go_simp <;> with_reducible rfl)
        try simp only [Act.put, tkS]
        refine wpAnyH_take (i := 9) (v := ?_) rfl (by kernel_rfl) (by kernel_rfl) (by kernel_rfl) (fun _ _ _ h => h) (Or.inl ⟨by kernel_rfl, ?_⟩) (by assumption) ?_
        rotate_left
        · (intro wS hSw; (try dsimp only at hSw); go_simp <;> with_reducible rfl)
        try simp only [Act.put, tkS]
        refine wpAnyH_take (i := 10) (v := ?_) rfl (by kernel_rfl) (by kernel_rfl) (by kernel_rfl) (fun _ _ _ h => h) (Or.inl ⟨by kernel_rfl, ?_⟩) (by assumption) ?_
        rotate_left
        · (intro wS hSw; (try dsimp only at hSw); go_simp <;> with_reducible rfl)
        try simp only [Act.put, tkS]
        refine wpAnyH_done (by kernel_rfl) ?_ _
        have B4 : Hid (Below wr.heap.size wr w14.drew) := B3.out.trans ((Below.refl _ _).drew.mono B3.out.size)
        go_wp2_with fail
        refine wp_region_held_drew (S := (fun W => W.cell? ⟨qt, 0, none⟩ = some (.string ⟨tb.nm.toArray⟩) ∧ W.cell? ⟨qt, 1, none⟩ = some (.slice ad.ca tb.cols.length ad.cc) ∧ W.cell? ⟨qt, 2, none⟩ = some (.slice ad.ua tb.uq.length ad.uc) ∧ W.cell? ⟨qt, 3, none⟩ = some (.bool tb.rt) ∧ W.cell? ⟨b2, o2 + k * 3, none⟩ = some (.string ⟨z.col.toArray⟩) ∧ W.cell? ⟨b2, o2 + k * 3 + 1, none⟩ = some (.int .i64 z.fn) ∧ W.cell? ⟨b2, o2 + k * 3 + 2, none⟩ = some (.slice ea z.val.length ec))) (by kernel_rfl) ?_ (fun hHeld => ?_)
        · (exact CE.out _ (by first | exact B5.out | exact B4.out | exact B3.out | exact B2.out | exact B1.out | exact B0.out))
        refine wpAnyH_take (i := 0) (v := ?_) rfl (by kernel_rfl) (by kernel_rfl) (by kernel_rfl) (fun _ _ _ h => h) (Or.inl ⟨by kernel_rfl, ?_⟩) (by assumption) ?_
        rotate_left
        · (intro wS hSw; (try dsimp only at hSw); go_simp <;> with_reducible rfl)
        try simp only [Act.put, tkS]
        refine wpAnyH_take (i := 1) (v := ?_) rfl (by kernel_rfl) (by kernel_rfl) (by kernel_rfl) (fun _ _ _ h => h) (Or.inl ⟨by kernel_rfl, ?_⟩) (by assumption) ?_
        rotate_left
        · (intro wS hSw; (try dsimp only at hSw); go_simp <;> with_reducible rfl)
        try simp only [Act.put, tkS]
        refine wpAnyH_take (i := 2) (v := ?_) rfl (by kernel_rfl) (by kernel_rfl) (by kernel_rfl) (fun _ _ _ h => h) (Or.inl ⟨by kernel_rfl, ?_⟩) (by assumption) ?_
        rotate_left
        · (intro wS hSw; (try dsimp only at hSw); go_simp <;> with_reducible rfl)
        try simp only [Act.put, tkS]
        refine wpAnyH_take (i := 3) (v := ?_) rfl (by kernel_rfl) (by kernel_rfl) (by kernel_rfl) (fun _ _ _ h => h) (Or.inl ⟨by kernel_rfl, ?_⟩) (by assumption) ?_
        rotate_left
        · (intro wS hSw; (try dsimp only at hSw); go_simp <;> with_reducible rfl)
        try simp only [Act.put, tkS]
        refine wpAnyH_take (i := 4) (v := ?_) rfl (by kernel_rfl) (by kernel_rfl) (by kernel_rfl) (fun _ _ _ h => h) (Or.inl ⟨by kernel_rfl, ?_⟩) (by assumption) ?_
        rotate_left
        · (intro wS hSw; (try dsimp only at hSw); go_simp <;> with_reducible rfl)
        try simp only [Act.put, tkS]
        refine wpAnyH_take (i := 5) (v := ?_) rfl (by kernel_rfl) (by kernel_rfl) (by kernel_rfl) (fun _ _ _ h => h) (Or.inl ⟨by kernel_rfl, ?_⟩) (by assumption) ?_
        rotate_left
        · (intro wS hSw; (try dsimp only at hSw); go_simp <;> with_reducible rfl)
        try simp only [Act.put, tkS]
        refine wpAnyH_take (i := 6) (v := ?_) rfl (by kernel_rfl) (by kernel_rfl) (by kernel_rfl) (fun _ _ _ h => h) (Or.inl ⟨by kernel_rfl, ?_⟩) (by assumption) ?_
        rotate_left
        · (intro wS hSw; (try dsimp only at hSw); go_simp <;> with_reducible rfl)
        try simp only [Act.put, tkS]
        refine wpAnyH_take (i := 7) (v := ?_) rfl (by kernel_rfl) (by kernel_rfl) (by kernel_rfl) (fun _ _ _ h => h) (Or.inl ⟨by kernel_rfl, ?_⟩) (by assumption) ?_
        rotate_left
        · (intro wS hSw; (try dsimp only at hSw); go_simp <;> with_reducible rfl)
        try simp only [Act.put, tkS]
        refine wpAnyH_take (i := 8) (v := ?_) rfl (by kernel_rfl) (by kernel_rfl) (by kernel_rfl) (fun _ _ _ h => h) (Or.inl ⟨by kernel_rfl, ?_⟩) (by assumption) ?_
        rotate_left
        · (intro wS hSw; (try dsimp only at hSw); go_simp <;> with_reducible rfl)
        try simp only [Act.put, tkS]
        refine wpAnyH_take (i := 9) (v := ?_) rfl (by kernel_rfl) (by kernel_rfl) (by kernel_rfl) (fun _ _ _ h => h) (Or.inl ⟨by kernel_rfl, ?_⟩) (by assumption) ?_
        rotate_left
        · (intro wS hSw; (try dsimp only at hSw); go_simp <;> with_reducible rfl)
        try simp only [Act.put, tkS]
        refine wpAnyH_take (i := 10) (v := ?_) rfl (by kernel_rfl) (by kernel_rfl) (by kernel_rfl) (fun _ _ _ h => h) (Or.inl ⟨by kernel_rfl, ?_⟩) (by assumption) ?_
        rotate_left
        · (intro wS hSw; (try dsimp only at hSw); go_simp <;> with_reducible rfl)
        try simp only [Act.put, tkS]
        refine wpAnyH_take (i := 11) (v := ?_) rfl (by kernel_rfl) (by kernel_rfl) (by kernel_rfl) (fun _ _ _ h => h) (Or.inl ⟨by kernel_rfl, ?_⟩) (by assumption) ?_
        rotate_left
        · (intro wS hSw; (try dsimp only at hSw); go_simp <;> with_reducible rfl)
        try simp only [Act.put, tkS]
        refine wpAnyH_take (i := 12) (v := ?_) rfl (by kernel_rfl) (by kernel_rfl) (by kernel_rfl) (fun _ _ _ h => h) (Or.inl ⟨by kernel_rfl, ?_⟩) (by assumption) ?_
        rotate_left
        · (intro wS hSw; (try dsimp only at hSw); go_simp <;> with_reducible rfl)
        try simp only [Act.put, tkS]
        refine wpAnyH_take (i := 15) (v := ?_) rfl (by kernel_rfl) (by kernel_rfl) (by kernel_rfl) (fun _ _ _ h => h) (Or.inl ⟨by kernel_rfl, ?_⟩) (by assumption) ?_
        rotate_left
        · (intro wS hSw; (try dsimp only at hSw); go_simp <;> with_reducible rfl)
        try simp only [Act.put, tkS]
        refine wpAnyH_take (i := 16) (v := ?_) rfl (by kernel_rfl) (by kernel_rfl) (by kernel_rfl) (fun _ _ _ h => h) (Or.inl ⟨by kernel_rfl, ?_⟩) (by assumption) ?_
        rotate_left
        · (intro wS hSw; (try dsimp only at hSw); go_simp <;> with_reducible rfl)
        try simp only [Act.put, tkS]
        refine wpAnyH_take (i := 17) (v := ?_) rfl (by kernel_rfl) (by kernel_rfl) (by kernel_rfl) (fun _ _ _ h => h) (Or.inl ⟨by kernel_rfl, ?_⟩) (by assumption) ?_
        rotate_left
        · (intro wS hSw; (try dsimp only at hSw); go_simp <;> with_reducible rfl)
        try simp only [Act.put, tkS]
        refine wpAnyH_take (i := 18) (v := ?_) rfl (by kernel_rfl) (by kernel_rfl) (by kernel_rfl) (fun _ _ _ h => h) (Or.inl ⟨by kernel_rfl, ?_⟩) (by assumption) ?_
        rotate_left
        · (intro wS hSw; (try dsimp only at hSw); go_simp <;> with_reducible rfl)
        try simp only [Act.put, tkS]
        refine wpAnyH_take (i := 19) (v := ?_) rfl (by kernel_rfl) (by kernel_rfl) (by kernel_rfl) (fun _ _ _ h => h) (Or.inl ⟨by kernel_rfl, ?_⟩) (by assumption) ?_
        rotate_left
        · (intro wS hSw; (try dsimp only at hSw); go_simp <;> with_reducible rfl)
        try simp only [Act.put, tkS]
        refine wpAnyH_ready (rs := [13]) (by kernel_rfl) (by simp) (AllReadyH.cons rfl (fun K hK => ?_) AllReadyH.nil)
        go_simp
        (go_at_call 15; refine (MW.out _ B4.out).mono ?_; rintro e w15 ⟨rfl, rfl⟩)
        refine hK.out _ _ ?_ (fun hHeld => ?_)
        · (exact CE.out _ (by first | exact B5.out | exact B4.out | exact B3.out | exact B2.out | exact B1.out | exact B0.out))
        clear hK K
        try simp only [Act.put, tkS]
        refine wpAnyH_ready (rs := [14]) (by kernel_rfl) (by simp) (AllReadyH.cons rfl (fun K hK => ?_) AllReadyH.nil)
        go_simp
        (go_at_call 14; refine (MO.out _ B4.out).mono ?_; rintro e w16 ⟨rfl, rfl⟩)
        refine hK.out _ _ ?_ (fun hHeld => ?_)
        · (exact CE.out _ (by first | exact B5.out | exact B4.out | exact B3.out | exact B2.out | exact B1.out | exact B0.out))
        clear hK K
        try simp only [Act.put, tkS]
        refine wpAnyH_take (i := 20) (v := ?_) rfl (by kernel_rfl) (by kernel_rfl) (by kernel_rfl) (fun _ _ _ h => h) (Or.inl ⟨by kernel_rfl, ?_⟩) (by assumption) ?_
        rotate_left
        · (intro wS hSw; (try dsimp only at hSw); go_simp <;> with_reducible rfl)
        try simp only [Act.put, tkS]
        refine wpAnyH_take (i := 21) (v := ?_) rfl (by kernel_rfl) (by kernel_rfl) (by kernel_rfl) (fun _ _ _ h => h) (Or.inl ⟨by kernel_rfl, ?_⟩) (by assumption) ?_
        rotate_left
        · (intro wS hSw; (try dsimp only at hSw); go_simp <;> with_reducible rfl)
        try simp only [Act.put, tkS]
        refine wpAnyH_done (by kernel_rfl) ?_ _
        have HF := Lib.hid (HO.out.later B4.out)
        clear CE MI ME MW MO n1 n2 B0 B1 B2 B3 B4 HO
        go_wp2_with fail
        go_roundg (L.length - (k + 1))
        case measure => have := HKG.out; omega
        case rel => exact ⟨k + 1, by have := HKG.out; omega, by go_num, HF⟩
      have hkd : decide ((k : Int) < (L.length : Int)) = false := by simp; omega
      clear hkg
      by_cases hn0 : n = 0
      case neg =>
        have g0 : (n != 0) = true := by simpa using hn0
        clear hn0
        go_wp2_with fail
        go_ret
        exact ⟨rfl, HO.out.bel⟩
      have PX1 := Lib.hid (PX.out.1 hn0)
      subst hn0
      clear PX
      have RX : Hid (Calls Tryz.prog 11 #[.agg #[.string ⟨tb.nm.toArray⟩, .slice ad.ca tb.cols.length ad.cc, .slice ad.ua tb.uq.length ad.uc, .bool tb.rt], .agg #[.int .i64 x.id, .slice xa x.cells.length xc]] wr fun e w' => e = .returned (.bool true) ∧ Below wr.heap.size wr w') := by
        obtain ⟨X, hX⟩ := HO.out.xr.rowX
        have := rowOKi tb ad.ca ad.cc ad.ua ad.uc x.id x.cells xa xc X _ wr.heap.size wr PT.out.2 (le_sets (D.le.mono (by unfold maxLen; omega) _ XL.out)) HO.out.has (Nat.le_refl _) hX
        rw [show (tabB tb && rowB tb x.id x.cells) = true from PX1.out.2] at this
        exact this
      have t0 := cell_at (o := 0) HO.out.tx rfl
      have t1 := cell_at (o := 1) HO.out.tx rfl
      have t2 := cell_at (o := 2) HO.out.tx rfl
      have t3 := cell_at (o := 3) HO.out.tx rfl
      have x0 := cell_at (o := 0) HO.out.xb rfl
      have x1 := cell_at (o := 1) HO.out.xb rfl
      have e5 : (x.id == 5) = true := by rw [PX1.out.1, HR.out.1]; rfl
      go_wp2_with fail
      refine RX.out.mono ?_
      rintro e w17 ⟨rfl, hB17⟩
      have HG := Lib.hid (HO.out.later hB17)
      have y0 := cell_at (o := 0) HG.out.xb rfl
      clear hB17 t0 t1 t2 t3 x0 x1 RX
      go_wp2_with fail
      go_ret
      exact ⟨rfl, HG.out.bel⟩
end Go.Proofs.YtgpoigkfoliflaaGreatDoor
