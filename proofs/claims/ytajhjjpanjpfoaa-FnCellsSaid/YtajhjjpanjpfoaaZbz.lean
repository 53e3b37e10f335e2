import Derived.Test.YtajhjjpanjpfoaaZbk
import Derived.Test.YtajhjjpanjpfoaaZbm
import Derived.Test.YtajhjjpanjpfoaaZby
import Derived.Test.YtajhjjpanjpfoaaZbx
import Derived.Test.YtajhjjpanjpfoaaZbv
import Derived.Test.YtajhjjpanjpfoaaZbs
import Derived.Test.YtajhjjpanjpfoaaZbt
import Derived.Test.YtajhjjpanjpfoaaZTk
namespace Go.Proofs.Ytajhjjpanjpfoaa
open Go.RowKit
set_option linter.unusedSimpArgs false
theorem Byts.upC {w W : World} {q : Option Addr} {l : List UInt8} (h : Byts w (· < w.heap.size) q l) (hB : Below w.heap.size w W) : Byts W (· < w.heap.size) q l := h.same (fun b hb => hB.block b hb) (fun _ h => h)
theorem se_zero {t : Tb} {r : RowV} {list : List SetV} (h : ¬ seC t r list = 0) : (seR t r list).cells.length = 0 ∧ (seR t r list).id = 0 := by
  have hz : rowZ.cells.length = 0 ∧ rowZ.id = 0 := ⟨rfl, rfl⟩
  by_cases h4 : 4096 < list.length
  · rw [(se_long h4).1]; exact hz
  by_cases hb : rokM t r = true ∧ valsB list = true
  case neg => rw [(se_bad h4 hb).1]; exact hz
  by_cases hc : setsC t list = 0
  case neg => rw [(se_code h4 hb hc).1]; exact hz
  obtain ⟨e1, e2⟩ := se_ok h4 hb hc
  rw [e2] at h
  rw [e1]
  unfold rowWR
  rw [if_neg h]
  exact hz
structure CM (w W : World) (tb : Tb) (ad : Ad) (r x : RowV) (ra : Option Addr) (rc : Nat) (xa : Option Addr) (xc : Nat) (L : List SetV) (va : Option Addr) (vc qt qr qx : Nat) : Prop where
  bel : Below w.heap.size w W
  tx : W.heap[qt]? = some (.cells #[.string ⟨tb.nm.toArray⟩, .slice ad.ca tb.cols.length ad.cc, .slice ad.ua tb.uq.length ad.uc, .bool tb.rt] 27)
  has : tb.Has W (fun _ => True) ad.ca ad.ua
  rb : W.heap[qr]? = some (.cells #[.int .i64 r.id, .slice ra r.cells.length rc] 34)
  rr : Rd W (fun _ => True) (dAtomSS r.cells) (.slice ra r.cells.length rc)
  ls : Rd W (fun _ => True) (dSetS L) (.slice va L.length vc)
  xb : W.heap[qx]? = some (.cells #[.int .i64 x.id, .slice xa x.cells.length xc] 34)
  xr : Rd W (fun _ => True) (dAtomSS x.cells) (.slice xa x.cells.length xc)
theorem CM.later {w W W' : World} {tb : Tb} {ad : Ad} {r x : RowV} {ra : Option Addr} {rc : Nat} {xa : Option Addr} {xc : Nat} {L : List SetV} {va : Option Addr} {vc qt qr qx : Nat} (h : CM w W tb ad r x ra rc xa xc L va vc qt qr qx) (hB : Below W.heap.size W W') : CM w W' tb ad r x ra rc xa xc L va vc qt qr qx :=
  ⟨h.bel.trans (hB.mono h.bel.size), heap_keptD h.tx hB, h.has.later hB, heap_keptD h.rb hB, h.rr.later hB, h.ls.later hB, heap_keptD h.xb hB, h.xr.later hB⟩
set_option maxRecDepth 100000 in
set_option maxHeartbeats 12800000 in
theorem lawFnCells (l1 l2 : List UInt8) (pa pb : Option Addr) (ca cb : Nat) (w : World) (h1 : Byts w (· < w.heap.size) pa l1) (h2 : Byts w (· < w.heap.size) pb l2) :
    Calls Try.prog 3 #[.slice pa l1.length ca, .slice pb l2.length cb] w fun e w' => e = .returned (.bool true) ∧ Below w.heap.size w w' := by
  by_cases g1 : 1048576 < l1.length
  case pos =>
    have d1a : decide (1048576 < (l1.length : Int)) = true := decide_eq_true (by omega)
    have d1b : decide (1048576 < l1.length) = true := decide_eq_true g1
    go_enter Try.func3, Try.ntmps3
    go_wp2_with fail
    go_ret
    exact ⟨rfl, Below.refl _ _⟩
  have d1a : decide (1048576 < (l1.length : Int)) = false := decide_eq_false (by omega)
  have d1b : decide (1048576 < l1.length) = false := decide_eq_false g1
  by_cases g2 : 1048576 < l2.length
  case pos =>
    have d2a : decide (1048576 < (l2.length : Int)) = true := decide_eq_true (by omega)
    have d2b : decide (1048576 < l2.length) = true := decide_eq_true g2
    go_enter Try.func3, Try.ntmps3
    go_wp2_with fail
    go_ret
    exact ⟨rfl, Below.refl _ _⟩
  have d2a : decide (1048576 < (l2.length : Int)) = false := decide_eq_false (by omega)
  have d2b : decide (1048576 < l2.length) = false := decide_eq_false g2
  have A0 : Hid (∀ W, Below w.heap.size w W → Calls Try.prog 4 #[.slice pb l2.length cb, .int .i64 0, .int .i64 3] W fun e W' => ∃ k : Nat, e = .returned (.int .i64 (k : Int)) ∧ k < 3 ∧ Below W.heap.size W W') := fun W h => atS l2 pb cb 3 _ W (h2.upC h) (by omega) (by omega) (by omega)
  obtain ⟨ka, hka⟩ : ∃ k, k = atV l2 1 99 := ⟨_, rfl⟩
  have hk99 : ka < 99 := by rw [hka]; exact atV_lt (by omega)
  have A1 : Hid (∀ W, Below w.heap.size w W → Calls Try.prog 4 #[.slice pb l2.length cb, .int .i64 1, .int .i64 99] W fun e W' => e = .returned (.int .i64 (ka : Int)) ∧ Below W.heap.size W W') := fun W h => by rw [hka]; exact atVS l2 pb cb 1 99 _ W (h2.upC h) (by omega) (by omega) (by omega) (by omega)
  obtain ⟨id, hid⟩ : ∃ n : Int, n = 1 + (ka : Int) := ⟨_, rfl⟩
  have fid : IntKind.i64.wrap (1 + (ka : Int)) = id := by rw [IntKind.wrap_i64]; omega
  have HID : Hid (inB 1 id 1000000 = true ∧ iOK id) := ⟨by unfold inB; exact decide_eq_true (by omega), iOK_small (by omega)⟩
  have SO : Hid (∀ W t, t < 3 → Below w.heap.size w W → Calls Try.prog 7 #[.slice pa l1.length ca, .int .i64 ((t : Nat) : Int)] W (SetsW W)) := fun W t ht h => setsOfS l1 pa ca t w.heap.size W ht h.size (h1.upC h)
  clear h1 h2 g1 g2 hka hk99 hid
  go_enter Try.func3, Try.ntmps3
  go_wp2_with fail
  refine (A0.out _ (Below.refl _ _)).mono ?_
  rintro e w1 ⟨t, rfl, ht, hB1⟩
  clear A0
  go_wp2_with fail
  refine (plainT _).mono ?_
  rintro e w2 ⟨A, rb, off, rfl, hT, hB2⟩
  obtain ⟨⟨c0, c1, c2, c3⟩, hth⟩ := hT t ht
  have hfd : ∀ w : World, (Instr.field 30 (.agg #[.slice (some ⟨rb, off, none⟩) 3 3]) 0).run Try.prog w = .ok (.slice (some ⟨rb, off, none⟩) 3 3) w := fun _ => by kernel_rfl
  have ht3 : (t : Int) < 3 := by omega
  have PT := Lib.hid (plT_tab t ht)
  have PN := Lib.hid (plT_noId t ht)
  have PF := Lib.hid (plT_fresh ht HID.out.1)
  have SO1 : Hid (∀ W, Below w.heap.size w W → Calls Try.prog 7 #[.slice pa l1.length ca, .int .i64 (t : Int)] W (SetsW W)) := fun W h => SO.out W t ht h
  have bW2 : Below w.heap.size w w2 := hB1.trans (hB2.mono hB1.size)
  clear hT ht SO hB1 hB2
  generalize plT t = tb at *
  generalize A t = ad at *
  have HW3 : Hid (Below w.heap.size w (w2.alloc (.cells #[.string ⟨tb.nm.toArray⟩, .slice ad.ca tb.cols.length ad.cc, .slice ad.ua tb.uq.length ad.uc, .bool tb.rt] 27)) ∧ (w2.alloc (.cells #[.string ⟨tb.nm.toArray⟩, .slice ad.ca tb.cols.length ad.cc, .slice ad.ua tb.uq.length ad.uc, .bool tb.rt] 27)).heap[w2.heap.size]? = some (.cells #[.string ⟨tb.nm.toArray⟩, .slice ad.ca tb.cols.length ad.cc, .slice ad.ua tb.uq.length ad.uc, .bool tb.rt] 27) ∧ tb.Has (w2.alloc (.cells #[.string ⟨tb.nm.toArray⟩, .slice ad.ca tb.cols.length ad.cc, .slice ad.ua tb.uq.length ad.uc, .bool tb.rt] 27)) (fun _ => True) ad.ca ad.ua) := ⟨bW2.alloc bW2.size _, heap_newD _ _, ((hth.later (below_allocD _ _)).same (fun _ _ => rfl) (fun _ _ => trivial))⟩
  clear hth bW2
  go_wp2_with fail
  clear c0 c1 c2 c3 hfd ht3
  obtain ⟨w3, hw3⟩ : ∃ W, W = w2.alloc (.cells #[.string ⟨tb.nm.toArray⟩, .slice ad.ca tb.cols.length ad.cc, .slice ad.ua tb.uq.length ad.uc, .bool tb.rt] 27) := ⟨_, rfl⟩
  rw [← hw3] at HW3 ⊢
  clear hw3
  obtain ⟨qt, hqt⟩ : ∃ n, n = w2.heap.size := ⟨_, rfl⟩
  rw [← hqt] at HW3 ⊢
  clear hqt
  obtain ⟨r, hr⟩ : ∃ r, r = frR tb id := ⟨_, rfl⟩
  have HR : Hid (r.id = id ∧ rokM tb r = true) := by rw [hr]; exact ⟨PF.out.2.1, PF.out.2.2⟩
  have FR : Hid (∀ W, Below w3.heap.size w3 W → Calls Try.prog 6 #[.agg #[.string ⟨tb.nm.toArray⟩, .slice ad.ca tb.cols.length ad.cc, .slice ad.ua tb.uq.length ad.uc, .bool tb.rt], .int .i64 id] W (RowAnsO W r 0)) := fun W h => by have := freshRowI tb ad.ca ad.cc ad.ua ad.uc _ id W PT.out.2 (HW3.out.2.2.later h); rw [PF.out.1, ← hr] at this; exact this
  have A3 : Hid (∀ W, Below w3.heap.size w3 W → Calls Try.prog 4 #[.slice pb l2.length cb, .int .i64 1, .int .i64 99] W fun e W' => e = .returned (.int .i64 (ka : Int)) ∧ Below W.heap.size W W') := fun W h => A1.out W (HW3.out.1.trans (h.mono HW3.out.1.size))
  have CE : Hid (∀ W, Below w3.heap.size w3 W → W.cell? ⟨qt, 0, none⟩ = some (.string ⟨tb.nm.toArray⟩) ∧ W.cell? ⟨qt, 1, none⟩ = some (.slice ad.ca tb.cols.length ad.cc) ∧ W.cell? ⟨qt, 2, none⟩ = some (.slice ad.ua tb.uq.length ad.uc) ∧ W.cell? ⟨qt, 3, none⟩ = some (.bool tb.rt)) := fun W h => by
    have hb := heap_keptD HW3.out.2.1 h
    exact ⟨cell_at (o := 0) hb rfl, cell_at (o := 1) hb rfl, cell_at (o := 2) hb rfl, cell_at (o := 3) hb rfl⟩
  clear hr PF
  go_cut [7, 8] from 35 to 41 (fun s s2 wx => ∃ (qr : Nat) (ra : Option Addr) (rc : Nat), s = .pointer (some ⟨qr, 0, none⟩) ∧ s2 = .int .i64 0 ∧ Hid (Below w3.heap.size w3 wx ∧ wx.heap[qr]? = some (.cells #[.int .i64 r.id, .slice ra r.cells.length rc] 34) ∧ Rd wx (fun _ => True) (dAtomSS r.cells) (.slice ra r.cells.length rc)))
  case first =>
    have B0 : Hid (Below w3.heap.size w3 w3.drew) := (Below.refl _ _).drew
    refine wp_region_held_drew (S := (fun W => W.cell? ⟨qt, 0, none⟩ = some (.string ⟨tb.nm.toArray⟩) ∧ W.cell? ⟨qt, 1, none⟩ = some (.slice ad.ca tb.cols.length ad.cc) ∧ W.cell? ⟨qt, 2, none⟩ = some (.slice ad.ua tb.uq.length ad.uc) ∧ W.cell? ⟨qt, 3, none⟩ = some (.bool tb.rt))) (by kernel_rfl) ?_ (fun hHeld => ?_)
    · (exact CE.out _ (by first | exact B9.out | exact B3.out | exact B2.out | exact B1.out | exact B0.out))
    refine wpAnyH_take (i := 0) (v := ?_) rfl (by kernel_rfl) (by kernel_rfl) (by kernel_rfl) (fun _ _ _ h => h) (Or.inl ⟨by kernel_rfl, ?_⟩) (by assumption) ?_
    rotate_left
    · (intro wS hSw; (try dsimp only at hSw); go_simp <;> with_reducible rfl)
    try simp only [Act.put, tkS]
    refine wpAnyH_take (i := 1) (v := ?_) rfl (by kernel_rfl) (by kernel_rfl) (by kernel_rfl) (fun _ _ _ h => h) (Or.inl ⟨by kernel_rfl, ?_⟩) (by assumption) ?_
    rotate_left
    · (intro wS hSw; (try dsimp only at hSw); go_simp <;> with_reducible rfl)
    try simp only [Act.put, tkS]
    refine wpAnyH_ready (rs := [2, 8]) (by kernel_rfl) (by simp) (AllReadyH.cons rfl (fun K hK => ?_) (AllReadyH.cons rfl (fun K hK => ?_) AllReadyH.nil))
    ·
      go_simp
      go_at_call 4
      refine (A3.out _ B0.out).mono ?_
      rintro e w4 ⟨rfl, hB4⟩
      have B1 : Hid (Below w3.heap.size w3 w4) := B0.out.trans (hB4.mono B0.out.size)
      clear hB4
      refine hK.out _ _ ?_ (fun hHeld => ?_)
      · (exact CE.out _ (by first | exact B9.out | exact B3.out | exact B2.out | exact B1.out | exact B0.out))
      clear hK K
      try simp only [Act.put, tkS]
      refine wpAnyH_take (i := 3) (v := ?_) rfl (by kernel_rfl) (by kernel_rfl) (by kernel_rfl) (fun _ _ _ h => h) (Or.inl ⟨by kernel_rfl, ?_⟩) (by assumption) ?_
      rotate_left
      · (intro wS hSw; (try dsimp only at hSw); go_simp <;> with_reducible rfl)
      try simp only [Act.put, tkS]
      refine wpAnyH_ready (rs := [4, 8]) (by kernel_rfl) (by simp) (AllReadyH.cons rfl (fun K hK => ?_) (AllReadyH.cons rfl (fun K hK => ?_) AllReadyH.nil))
      ·
        go_simp
        go_at_call 6
        refine (FR.out _ B1.out).mono ?_
        rintro e w5 ⟨ra, rc, rfl, ho, hB5⟩
        have B2 : Hid (Below w3.heap.size w3 w5) := B1.out.trans (hB5.mono B1.out.size)
        have HO : Hid (Rd w5 (fun _ => True) (dAtomSS r.cells) (.slice ra r.cells.length rc)) := (Own.rd _ _ _ ho).any
        clear ho hB5
        refine hK.out _ _ ?_ (fun hHeld => ?_)
        · (exact CE.out _ (by first | exact B9.out | exact B3.out | exact B2.out | exact B1.out | exact B0.out))
        clear hK K
        try simp only [Act.put, tkS]
        refine wpAnyH_take (i := 5) (v := ?_) rfl (by kernel_rfl) (by kernel_rfl) (by kernel_rfl) (fun _ _ _ h => h) (Or.inl ⟨by kernel_rfl, ?_⟩) (by assumption) ?_
        rotate_left
        · (intro wS hSw; (try dsimp only at hSw); go_simp <;> with_reducible rfl)
        try simp only [Act.put, tkS]
        refine wpAnyH_take (i := 6) (v := ?_) rfl (by kernel_rfl) (by kernel_rfl) (by kernel_rfl) (fun _ _ _ h => h) (Or.inl ⟨by kernel_rfl, ?_⟩) (by assumption) ?_
        rotate_left
        · (intro wS hSw; (try dsimp only at hSw); go_simp <;> with_reducible rfl)
        try simp only [Act.put, tkS]
        refine wpAnyH_take (i := 7) (v := ?_) rfl (by kernel_rfl) (by kernel_rfl) (by kernel_rfl) (fun _ _ _ h => h) (Or.inl ⟨by kernel_rfl, ?_⟩) (by assumption) ?_
        rotate_left
        · (intro wS hSw; (try dsimp only at hSw); go_simp <;> with_reducible rfl)
        try simp only [Act.put, tkS]
        refine wpAnyH_ready (rs := [8]) (by kernel_rfl) (by simp) (AllReadyH.cons rfl (fun K hK => ?_) AllReadyH.nil)
        go_simp
        have B3 : Hid (Below w3.heap.size w3 (w5.alloc (.cells #[.int .i64 0, .slice none 0 0] 34))) := B2.out.alloc B2.out.size _
        refine hK.out _ _ ?_ (fun hHeld => ?_)
        · (exact CE.out _ (by first | exact B9.out | exact B3.out | exact B2.out | exact B1.out | exact B0.out))
        clear hK K
        try simp only [Act.put, tkS]
        refine wpAnyH_ready (rs := [9]) (by kernel_rfl) (by simp) (AllReadyH.cons rfl (fun K hK => ?_) AllReadyH.nil)
        have HX : Hid (Below w3.heap.size w3 (w5.alloc (.cells #[.int .i64 r.id, .slice ra r.cells.length rc] 34)) ∧ (w5.alloc (.cells #[.int .i64 r.id, .slice ra r.cells.length rc] 34)).heap[w5.heap.size]? = some (.cells #[.int .i64 r.id, .slice ra r.cells.length rc] 34) ∧ Rd (w5.alloc (.cells #[.int .i64 r.id, .slice ra r.cells.length rc] 34)) (fun _ => True) (dAtomSS r.cells) (.slice ra r.cells.length rc)) := ⟨B2.out.alloc B2.out.size _, heap_newD _ _, HO.out.later (below_allocD _ _)⟩
        have B9 := Lib.hid HX.out.1
        go_simp
        refine hK.out _ _ ?_ (fun hHeld => ?_)
        · (exact CE.out _ (by first | exact B9.out | exact B3.out | exact B2.out | exact B1.out | exact B0.out))
        clear hK K
        try simp only [Act.put, tkS]
        refine wpAnyH_take (i := 10) (v := ?_) rfl (by kernel_rfl) (by kernel_rfl) (by kernel_rfl) (fun _ _ _ h => h) (Or.inl ⟨by kernel_rfl, ?_⟩) (by assumption) ?_
        rotate_left
        · (intro wS hSw; (try dsimp only at hSw); go_simp <;> with_reducible rfl)
        try simp only [Act.put, tkS]
        refine wpAnyH_done (by kernel_rfl) ?_ _
        go_wp2_with fail
        go_meet
        exact ⟨_, _, _, rfl, rfl, HX⟩
      ·
        go_simp
        have B2 : Hid (Below w3.heap.size w3 (w4.alloc (.cells #[.int .i64 0, .slice none 0 0] 34))) := B1.out.alloc B1.out.size _
        refine hK.out _ _ ?_ (fun hHeld => ?_)
        · (exact CE.out _ (by first | exact B9.out | exact B3.out | exact B2.out | exact B1.out | exact B0.out))
        clear hK K
        try simp only [Act.put, tkS]
        refine wpAnyH_ready (rs := [4]) (by kernel_rfl) (by simp) (AllReadyH.cons rfl (fun K hK => ?_) AllReadyH.nil)
        go_simp
        go_at_call 6
        refine (FR.out _ B2.out).mono ?_
        rintro e w5 ⟨ra, rc, rfl, ho, hB5⟩
        have B3 : Hid (Below w3.heap.size w3 w5) := B2.out.trans (hB5.mono B2.out.size)
        have HZ2 : Hid (w5.heap[w4.heap.size]? = some (.cells #[.int .i64 0, .slice none 0 0] 34)) := heap_keptD (heap_newD _ _) hB5
        have LZ2 : Hid (w4.heap.size < (w4.alloc (.cells #[.int .i64 0, .slice none 0 0] 34)).heap.size) := by show _ < _; simp
        have HO : Hid (Rd w5 (fun b => b ≠ w4.heap.size) (dAtomSS r.cells) (.slice ra r.cells.length rc)) := (Own.rd _ _ _ ho).mono (fun b hb e => by have := hb.1; have := LZ2.out; omega)
        clear ho hB5
        refine hK.out _ _ ?_ (fun hHeld => ?_)
        · (exact CE.out _ (by first | exact B9.out | exact B3.out | exact B2.out | exact B1.out | exact B0.out))
        clear hK K
        try simp only [Act.put, tkS]
        refine wpAnyH_take (i := 5) (v := ?_) rfl (by kernel_rfl) (by kernel_rfl) (by kernel_rfl) (fun _ _ _ h => h) (Or.inl ⟨by kernel_rfl, ?_⟩) (by assumption) ?_
        rotate_left
        · (intro wS hSw; (try dsimp only at hSw); go_simp <;> with_reducible rfl)
        try simp only [Act.put, tkS]
        refine wpAnyH_take (i := 6) (v := ?_) rfl (by kernel_rfl) (by kernel_rfl) (by kernel_rfl) (fun _ _ _ h => h) (Or.inl ⟨by kernel_rfl, ?_⟩) (by assumption) ?_
        rotate_left
        · (intro wS hSw; (try dsimp only at hSw); go_simp <;> with_reducible rfl)
        try simp only [Act.put, tkS]
        refine wpAnyH_take (i := 7) (v := ?_) rfl (by kernel_rfl) (by kernel_rfl) (by kernel_rfl) (fun _ _ _ h => h) (Or.inl ⟨by kernel_rfl, ?_⟩) (by assumption) ?_
        rotate_left
        · (intro wS hSw; (try dsimp only at hSw); go_simp <;> with_reducible rfl)
        try simp only [Act.put, tkS]
        refine wpAnyH_ready (rs := [9]) (by kernel_rfl) (by simp) (AllReadyH.cons rfl (fun K hK => ?_) AllReadyH.nil)
        have zc0 := cell_at (o := 0) HZ2.out rfl
        have zc1 := cell_at (o := 1) HZ2.out rfl
        have zf0 := frozen_at 0 HZ2.out
        have zf1 := frozen_at 1 HZ2.out
        have HX : Hid (Below w3.heap.size w3 ((w5.setCell ⟨w4.heap.size, 0, none⟩ (.int .i64 r.id)).setCell ⟨w4.heap.size, 1, none⟩ (.slice ra r.cells.length rc)) ∧ ((w5.setCell ⟨w4.heap.size, 0, none⟩ (.int .i64 r.id)).setCell ⟨w4.heap.size, 1, none⟩ (.slice ra r.cells.length rc)).heap[w4.heap.size]? = some (.cells #[.int .i64 r.id, .slice ra r.cells.length rc] 34) ∧ Rd ((w5.setCell ⟨w4.heap.size, 0, none⟩ (.int .i64 r.id)).setCell ⟨w4.heap.size, 1, none⟩ (.slice ra r.cells.length rc)) (fun _ => True) (dAtomSS r.cells) (.slice ra r.cells.length rc)) := ⟨(B3.out.setCell (by show w3.heap.size ≤ w4.heap.size; exact B1.out.size) _).setCell (by show w3.heap.size ≤ w4.heap.size; exact B1.out.size) _, by rw [heap_set 1 _ (heap_set 0 _ HZ2.out)]; rfl, (HO.out.frm ((frm_set _ _ _ _).trans (frm_set _ _ _ _)) (fun b hb e => hb e)).any⟩
        have B9 := Lib.hid HX.out.1
        go_simp
        clear zc0 zc1 zf0 zf1
        refine hK.out _ _ ?_ (fun hHeld => ?_)
        · (exact CE.out _ (by first | exact B9.out | exact B3.out | exact B2.out | exact B1.out | exact B0.out))
        clear hK K
        try simp only [Act.put, tkS]
        refine wpAnyH_take (i := 10) (v := ?_) rfl (by kernel_rfl) (by kernel_rfl) (by kernel_rfl) (fun _ _ _ h => h) (Or.inl ⟨by kernel_rfl, ?_⟩) (by assumption) ?_
        rotate_left
        · (intro wS hSw; (try dsimp only at hSw); go_simp <;> with_reducible rfl)
        try simp only [Act.put, tkS]
        refine wpAnyH_done (by kernel_rfl) ?_ _
        go_wp2_with fail
        go_meet
        exact ⟨_, _, _, rfl, rfl, HX⟩
    ·
      go_simp
      have B1 : Hid (Below w3.heap.size w3 (w3.alloc (.cells #[.int .i64 0, .slice none 0 0] 34)).drew) := ((Below.refl _ _).alloc (Nat.le_refl _) _).drew
      refine hK.out _ _ ?_ (fun hHeld => ?_)
      · (exact CE.out _ (by first | exact B9.out | exact B3.out | exact B2.out | exact B1.out | exact B0.out))
      clear hK K
      try simp only [Act.put, tkS]
      refine wpAnyH_ready (rs := [2]) (by kernel_rfl) (by simp) (AllReadyH.cons rfl (fun K hK => ?_) AllReadyH.nil)
      go_simp
      go_at_call 4
      refine (A3.out _ B1.out).mono ?_
      rintro e w4 ⟨rfl, hB4⟩
      have B2 : Hid (Below w3.heap.size w3 w4) := B1.out.trans (hB4.mono B1.out.size)
      have HZ : Hid (w4.heap[w3.heap.size]? = some (.cells #[.int .i64 0, .slice none 0 0] 34)) := heap_keptD (show ((w3.alloc (.cells #[.int .i64 0, .slice none 0 0] 34)).drew).heap[w3.heap.size]? = some (.cells #[.int .i64 0, .slice none 0 0] 34) from heap_newD _ _) hB4
      have LZ : Hid (w3.heap.size < w4.heap.size) := (Array.getElem?_eq_some_iff.1 HZ.out).1
      clear hB4
      refine hK.out _ _ ?_ (fun hHeld => ?_)
      · (exact CE.out _ (by first | exact B9.out | exact B3.out | exact B2.out | exact B1.out | exact B0.out))
      clear hK K
      try simp only [Act.put, tkS]
      refine wpAnyH_take (i := 3) (v := ?_) rfl (by kernel_rfl) (by kernel_rfl) (by kernel_rfl) (fun _ _ _ h => h) (Or.inl ⟨by kernel_rfl, ?_⟩) (by assumption) ?_
      rotate_left
      · (intro wS hSw; (try dsimp only at hSw); go_simp <;> with_reducible rfl)
      try simp only [Act.put, tkS]
      refine wpAnyH_ready (rs := [4]) (by kernel_rfl) (by simp) (AllReadyH.cons rfl (fun K hK => ?_) AllReadyH.nil)
      go_simp
      go_at_call 6
      refine (FR.out _ B2.out).mono ?_
      rintro e w5 ⟨ra, rc, rfl, ho, hB5⟩
      have B3 : Hid (Below w3.heap.size w3 w5) := B2.out.trans (hB5.mono B2.out.size)
      have HZ2 : Hid (w5.heap[w3.heap.size]? = some (.cells #[.int .i64 0, .slice none 0 0] 34)) := heap_keptD HZ.out hB5
      have LZ2 : Hid (w3.heap.size < w4.heap.size) := LZ.out
      have HO : Hid (Rd w5 (fun b => b ≠ w3.heap.size) (dAtomSS r.cells) (.slice ra r.cells.length rc)) := (Own.rd _ _ _ ho).mono (fun b hb e => by have := hb.1; have := LZ2.out; omega)
      clear ho hB5
      refine hK.out _ _ ?_ (fun hHeld => ?_)
      · (exact CE.out _ (by first | exact B9.out | exact B3.out | exact B2.out | exact B1.out | exact B0.out))
      clear hK K
      try simp only [Act.put, tkS]
      refine wpAnyH_take (i := 5) (v := ?_) rfl (by kernel_rfl) (by kernel_rfl) (by kernel_rfl) (fun _ _ _ h => h) (Or.inl ⟨by kernel_rfl, ?_⟩) (by assumption) ?_
      rotate_left
      · (intro wS hSw; (try dsimp only at hSw); go_simp <;> with_reducible rfl)
      try simp only [Act.put, tkS]
      refine wpAnyH_take (i := 6) (v := ?_) rfl (by kernel_rfl) (by kernel_rfl) (by kernel_rfl) (fun _ _ _ h => h) (Or.inl ⟨by kernel_rfl, ?_⟩) (by assumption) ?_
      rotate_left
      · (intro wS hSw; (try dsimp only at hSw); go_simp <;> with_reducible rfl)
      try simp only [Act.put, tkS]
      refine wpAnyH_take (i := 7) (v := ?_) rfl (by kernel_rfl) (by kernel_rfl) (by kernel_rfl) (fun _ _ _ h => h) (Or.inl ⟨by kernel_rfl, ?_⟩) (by assumption) ?_
      rotate_left
      · (intro wS hSw; (try dsimp only at hSw); go_simp <;> with_reducible rfl)
      try simp only [Act.put, tkS]
      refine wpAnyH_ready (rs := [9]) (by kernel_rfl) (by simp) (AllReadyH.cons rfl (fun K hK => ?_) AllReadyH.nil)
      have zc0 := cell_at (o := 0) HZ2.out rfl
      have zc1 := cell_at (o := 1) HZ2.out rfl
      have zf0 := frozen_at 0 HZ2.out
      have zf1 := frozen_at 1 HZ2.out
      have HX : Hid (Below w3.heap.size w3 ((w5.setCell ⟨w3.heap.size, 0, none⟩ (.int .i64 r.id)).setCell ⟨w3.heap.size, 1, none⟩ (.slice ra r.cells.length rc)) ∧ ((w5.setCell ⟨w3.heap.size, 0, none⟩ (.int .i64 r.id)).setCell ⟨w3.heap.size, 1, none⟩ (.slice ra r.cells.length rc)).heap[w3.heap.size]? = some (.cells #[.int .i64 r.id, .slice ra r.cells.length rc] 34) ∧ Rd ((w5.setCell ⟨w3.heap.size, 0, none⟩ (.int .i64 r.id)).setCell ⟨w3.heap.size, 1, none⟩ (.slice ra r.cells.length rc)) (fun _ => True) (dAtomSS r.cells) (.slice ra r.cells.length rc)) := ⟨(B3.out.setCell (by show w3.heap.size ≤ w3.heap.size; omega) _).setCell (by show w3.heap.size ≤ w3.heap.size; omega) _, by rw [heap_set 1 _ (heap_set 0 _ HZ2.out)]; rfl, (HO.out.frm ((frm_set _ _ _ _).trans (frm_set _ _ _ _)) (fun b hb e => hb e)).any⟩
      have B9 := Lib.hid HX.out.1
      go_simp
      clear zc0 zc1 zf0 zf1
      refine hK.out _ _ ?_ (fun hHeld => ?_)
      · (exact CE.out _ (by first | exact B9.out | exact B3.out | exact B2.out | exact B1.out | exact B0.out))
      clear hK K
      try simp only [Act.put, tkS]
      refine wpAnyH_take (i := 10) (v := ?_) rfl (by kernel_rfl) (by kernel_rfl) (by kernel_rfl) (fun _ _ _ h => h) (Or.inl ⟨by kernel_rfl, ?_⟩) (by assumption) ?_
      rotate_left
      · (intro wS hSw; (try dsimp only at hSw); go_simp <;> with_reducible rfl)
      try simp only [Act.put, tkS]
      refine wpAnyH_done (by kernel_rfl) ?_ _
      go_wp2_with fail
      go_meet
      exact ⟨_, _, _, rfl, rfl, HX⟩
  obtain ⟨qr, ra, rc, rfl, rfl, HX⟩ := hcut
  generalize wc = w6 at *
  clear CE FR A3
  have H6 : Hid (Below w.heap.size w w6 ∧ w6.heap[qt]? = some (.cells #[.string ⟨tb.nm.toArray⟩, .slice ad.ca tb.cols.length ad.cc, .slice ad.ua tb.uq.length ad.uc, .bool tb.rt] 27) ∧ tb.Has w6 (fun _ => True) ad.ca ad.ua ∧ w6.heap[qr]? = some (.cells #[.int .i64 r.id, .slice ra r.cells.length rc] 34) ∧ Rd w6 (fun _ => True) (dAtomSS r.cells) (.slice ra r.cells.length rc)) := ⟨HW3.out.1.trans (HX.out.1.mono HW3.out.1.size), heap_keptD HW3.out.2.1 HX.out.1, HW3.out.2.2.later HX.out.1, HX.out.2.1, HX.out.2.2⟩
  clear HW3 HX
  go_wp2_with fail
  refine (SO1.out _ H6.out.1).mono ?_
  rintro e w7 ⟨L, va, vc, rfl, hl3, hcap, hle, hrd, hB7⟩
  have H7 : Hid (Below w.heap.size w w7 ∧ w7.heap[qt]? = some (.cells #[.string ⟨tb.nm.toArray⟩, .slice ad.ca tb.cols.length ad.cc, .slice ad.ua tb.uq.length ad.uc, .bool tb.rt] 27) ∧ tb.Has w7 (fun _ => True) ad.ca ad.ua ∧ w7.heap[qr]? = some (.cells #[.int .i64 r.id, .slice ra r.cells.length rc] 34) ∧ Rd w7 (fun _ => True) (dAtomSS r.cells) (.slice ra r.cells.length rc) ∧ Rd w7 (fun _ => True) (dSetS L) (.slice va L.length vc)) := ⟨H6.out.1.trans (hB7.mono H6.out.1.size), heap_keptD H6.out.2.1 hB7, H6.out.2.2.1.later hB7, heap_keptD H6.out.2.2.2.1 hB7, H6.out.2.2.2.2.later hB7, hrd.any⟩
  have HSM : Hid ((dAtomSS r.cells).le 1048576) := rok_small HR.out.2 PT.out.1.len.2
  have HLE := Lib.hid hle
  obtain ⟨x, hx⟩ : ∃ x, x = seR tb r L := ⟨_, rfl⟩
  obtain ⟨n, hn⟩ : ∃ n, n = seC tb r L := ⟨_, rfl⟩
  have PX : Hid ((n = 0 → x.id = r.id ∧ rokM tb x = true ∧ DueP tb r.cells L x.cells) ∧ (¬ n = 0 → x.cells.length = 0 ∧ x.id = 0)) := by rw [hx, hn]; exact ⟨se_due PT.out.1 HR.out.2, se_zero⟩
  have XL : Hid ((dAtomSS x.cells).le 1048576) := by
    by_cases h0 : n = 0
    · exact rok_small (PX.out.1 h0).2.1 PT.out.1.len.2
    · exact Ls_le.2 ⟨by omega, by have := (PX.out.2 h0).1; omega, fun i hi => absurd hi (by have := (PX.out.2 h0).1; omega)⟩
  have SI : Hid (∀ W, Below w7.heap.size w7 W → Calls Try.prog 8 #[.agg #[.string ⟨tb.nm.toArray⟩, .slice ad.ca tb.cols.length ad.cc, .slice ad.ua tb.uq.length ad.uc, .bool tb.rt], .agg #[.int .i64 r.id, .slice ra r.cells.length rc], .slice va L.length vc] W (RowAnsO W x n)) := fun W h => by rw [hx, hn]; exact setRowI tb ad.ca ad.cc ad.ua ad.uc _ r ra rc _ L va vc _ W PT.out.2 hle HSM.out hcap (H7.out.2.2.1.later h) (H7.out.2.2.2.2.1.later h) (H7.out.2.2.2.2.2.later h)
  have SS : Hid (∀ W, Below w7.heap.size w7 W → Calls Try.prog 9 #[.agg #[.string ⟨tb.nm.toArray⟩, .slice ad.ca tb.cols.length ad.cc, .slice ad.ua tb.uq.length ad.uc, .bool tb.rt], .agg #[.int .i64 r.id, .slice ra r.cells.length rc], .slice va L.length vc] W (RowAns W x n)) := fun W h => by rw [hx, hn]; exact setRowS tb ad.ca ad.cc ad.ua ad.uc _ r ra rc _ L va vc _ W PT.out.2 hle HSM.out (H7.out.2.2.1.later h) (H7.out.2.2.2.2.1.later h) (H7.out.2.2.2.2.2.later h)
  have HL3 := Lib.hid hl3
  clear H6 hle hcap hrd hB7 hx hn hl3 SO1
  have t0 := cell_at (o := 0) (heap_keptD H7.out.2.1 (Below.refl _ _)) rfl
  have t1 := cell_at (o := 1) (heap_keptD H7.out.2.1 (Below.refl _ _)) rfl
  have t2 := cell_at (o := 2) (heap_keptD H7.out.2.1 (Below.refl _ _)) rfl
  have t3 := cell_at (o := 3) (heap_keptD H7.out.2.1 (Below.refl _ _)) rfl
  have r0 := cell_at (o := 0) (heap_keptD H7.out.2.2.2.1 (Below.refl _ _)) rfl
  have r1 := cell_at (o := 1) (heap_keptD H7.out.2.2.2.1 (Below.refl _ _)) rfl
  go_wp2_with fail
  clear t0 t1 t2 t3 r0 r1
  refine (SI.out _ (Below.refl _ _)).mono ?_
  rintro e w8 ⟨xa, xc, rfl, ho, hB8⟩
  have B8 : Hid (Below w7.heap.size w7 (w8.alloc (.cells #[.int .i64 x.id, .slice xa x.cells.length xc] 34))) := hB8.trans ((below_allocD w8 (.cells #[.int .i64 x.id, .slice xa x.cells.length xc] 34)).mono hB8.size)
  have X8 : Hid ((w8.alloc (.cells #[.int .i64 x.id, .slice xa x.cells.length xc] 34)).heap[w8.heap.size]? = some (.cells #[.int .i64 x.id, .slice xa x.cells.length xc] 34) ∧ Rd (w8.alloc (.cells #[.int .i64 x.id, .slice xa x.cells.length xc] 34)) (fun _ => True) (dAtomSS x.cells) (.slice xa x.cells.length xc)) := ⟨heap_newD _ _, (Own.rd _ _ _ ho).any.later (below_allocD _ _)⟩
  clear ho hB8 SI
  have t0 := cell_at (o := 0) (heap_keptD H7.out.2.1 B8.out) rfl
  have t1 := cell_at (o := 1) (heap_keptD H7.out.2.1 B8.out) rfl
  have t2 := cell_at (o := 2) (heap_keptD H7.out.2.1 B8.out) rfl
  have t3 := cell_at (o := 3) (heap_keptD H7.out.2.1 B8.out) rfl
  have r0 := cell_at (o := 0) (heap_keptD H7.out.2.2.2.1 B8.out) rfl
  have r1 := cell_at (o := 1) (heap_keptD H7.out.2.2.2.1 B8.out) rfl
  go_wp2_with fail
  clear t0 t1 t2 t3 r0 r1
  refine (SS.out _ B8.out).mono ?_
  rintro e w9 ⟨ya, yc, rfl, hy, hB9⟩
  have hC := hB9.trans ((below_allocD w9 (.cells #[.int .i64 x.id, .slice ya x.cells.length yc] 34)).mono hB9.size)
  have B9 : Hid (Below w7.heap.size w7 (w9.alloc (.cells #[.int .i64 x.id, .slice ya x.cells.length yc] 34))) := B8.out.trans (hC.mono B8.out.size)
  obtain ⟨qx, hqx⟩ : ∃ n, n = w8.heap.size := ⟨_, rfl⟩
  obtain ⟨qy, hqy⟩ : ∃ n, n = w9.heap.size := ⟨_, rfl⟩
  have HM : Hid (CM w (w9.alloc (.cells #[.int .i64 x.id, .slice ya x.cells.length yc] 34)) tb ad r x ra rc xa xc L va vc qt qr qx ∧ (w9.alloc (.cells #[.int .i64 x.id, .slice ya x.cells.length yc] 34)).heap[qy]? = some (.cells #[.int .i64 x.id, .slice ya x.cells.length yc] 34) ∧ Rd (w9.alloc (.cells #[.int .i64 x.id, .slice ya x.cells.length yc] 34)) (fun _ => True) (dAtomSS x.cells) (.slice ya x.cells.length yc)) := by
    rw [hqx, hqy]
    exact ⟨⟨H7.out.1.trans (B9.out.mono H7.out.1.size), heap_keptD H7.out.2.1 B9.out, H7.out.2.2.1.later B9.out, heap_keptD H7.out.2.2.2.1 B9.out, H7.out.2.2.2.2.1.later B9.out, H7.out.2.2.2.2.2.later B9.out, heap_keptD X8.out.1 hC, X8.out.2.later hC⟩, heap_newD _ _, hy.any.later (below_allocD _ _)⟩
  clear hy hB9 hC SS H7 X8 B8 B9
  go_wp2_with fail
  rw [← hqx, ← hqy]
  clear hqx hqy
  obtain ⟨w10, hw10⟩ : ∃ W, W = (w9.alloc (.cells #[.int .i64 x.id, .slice ya x.cells.length yc] 34)) := ⟨_, rfl⟩
  rw [← hw10] at HM ⊢
  clear hw10
  have CE : Hid (∀ W, Below w10.heap.size w10 W → W.cell? ⟨qt, 0, none⟩ = some (.string ⟨tb.nm.toArray⟩) ∧ W.cell? ⟨qt, 1, none⟩ = some (.slice ad.ca tb.cols.length ad.cc) ∧ W.cell? ⟨qt, 2, none⟩ = some (.slice ad.ua tb.uq.length ad.uc) ∧ W.cell? ⟨qt, 3, none⟩ = some (.bool tb.rt) ∧ W.cell? ⟨qr, 0, none⟩ = some (.int .i64 r.id) ∧ W.cell? ⟨qr, 1, none⟩ = some (.slice ra r.cells.length rc) ∧ W.cell? ⟨qx, 0, none⟩ = some (.int .i64 x.id) ∧ W.cell? ⟨qx, 1, none⟩ = some (.slice xa x.cells.length xc) ∧ W.cell? ⟨qy, 0, none⟩ = some (.int .i64 x.id) ∧ W.cell? ⟨qy, 1, none⟩ = some (.slice ya x.cells.length yc)) := fun W h => by
    have hb := heap_keptD HM.out.1.tx h
    have hc := heap_keptD HM.out.1.rb h
    have hd := heap_keptD HM.out.1.xb h
    have he := heap_keptD HM.out.2.1 h
    exact ⟨cell_at (o := 0) hb rfl, cell_at (o := 1) hb rfl, cell_at (o := 2) hb rfl, cell_at (o := 3) hb rfl, cell_at (o := 0) hc rfl, cell_at (o := 1) hc rfl, cell_at (o := 0) hd rfl, cell_at (o := 1) hd rfl, cell_at (o := 0) he rfl, cell_at (o := 1) he rfl⟩
  have SR : Hid (∀ W, Below w10.heap.size w10 W → Calls Try.prog 10 #[.agg #[.int .i64 x.id, .slice xa x.cells.length xc], .agg #[.int .i64 x.id, .slice ya x.cells.length yc]] W fun e w' => e = .returned (.bool true) ∧ Below W.heap.size W w') := fun W h => sameRowT x xa ya xc yc _ _ W XL.out (HM.out.1.xr.later h) (HM.out.2.2.later h)
  have RO : Hid (∀ W, Below w10.heap.size w10 W → Calls Try.prog 11 #[.agg #[.string ⟨tb.nm.toArray⟩, .slice ad.ca tb.cols.length ad.cc, .slice ad.ua tb.uq.length ad.uc, .bool tb.rt], .agg #[.int .i64 r.id, .slice ra r.cells.length rc]] W fun e w' => e = .returned (.bool true) ∧ Below W.heap.size W w') := fun W h => by
    obtain ⟨X, hX⟩ := (HM.out.1.rr.later h).rowX
    have := rowOKi tb ad.ca ad.cc ad.ua ad.uc r.id r.cells ra rc X _ W.heap.size W PT.out.2 (le_sets (D.le.mono (by unfold maxLen; omega) _ HSM.out)) (HM.out.1.has.later h) (Nat.le_refl _) hX
    rw [show (tabB tb && rowB tb r.id r.cells) = true from HR.out.2] at this
    exact this
  have A9 : Hid (∀ W, Below w10.heap.size w10 W → Calls Try.prog 4 #[.slice pb l2.length cb, .int .i64 1, .int .i64 99] W fun e W' => e = .returned (.int .i64 (ka : Int)) ∧ Below W.heap.size W W') := fun W h => A1.out W (HM.out.1.bel.trans (h.mono HM.out.1.bel.size))
  have nn : (n != n) = false := by simp
  have ri : (r.id != id) = false := by rw [HR.out.1]; simp
  have B0 : Hid (Below w10.heap.size w10 w10.drew) := (Below.refl _ _).drew
  clear A1
  refine wp_region_held_drew (S := (fun W => W.cell? ⟨qt, 0, none⟩ = some (.string ⟨tb.nm.toArray⟩) ∧ W.cell? ⟨qt, 1, none⟩ = some (.slice ad.ca tb.cols.length ad.cc) ∧ W.cell? ⟨qt, 2, none⟩ = some (.slice ad.ua tb.uq.length ad.uc) ∧ W.cell? ⟨qt, 3, none⟩ = some (.bool tb.rt) ∧ W.cell? ⟨qr, 0, none⟩ = some (.int .i64 r.id) ∧ W.cell? ⟨qr, 1, none⟩ = some (.slice ra r.cells.length rc) ∧ W.cell? ⟨qx, 0, none⟩ = some (.int .i64 x.id) ∧ W.cell? ⟨qx, 1, none⟩ = some (.slice xa x.cells.length xc) ∧ W.cell? ⟨qy, 0, none⟩ = some (.int .i64 x.id) ∧ W.cell? ⟨qy, 1, none⟩ = some (.slice ya x.cells.length yc))) (by kernel_rfl) ?_ (fun hHeld => ?_)
  · (exact CE.out _ (by first | exact B3.out | exact B2.out | exact B1.out | exact B0.out))
  refine wpAnyH_take (i := 0) (v := ?_) rfl (by kernel_rfl) (by kernel_rfl) (by kernel_rfl) (fun _ _ _ h => h) (Or.inl ⟨by kernel_rfl, ?_⟩) (by assumption) ?_
  rotate_left
  · (intro wS hSw; (try dsimp only at hSw); go_simp <;> with_reducible rfl)
  try simp only [Act.put, tkS]
  refine wpAnyH_take (i := 1) (v := ?_) rfl (by kernel_rfl) (by kernel_rfl) (by kernel_rfl) (fun _ _ _ h => h) (Or.inl ⟨by kernel_rfl, ?_⟩) (by assumption) ?_
  rotate_left
  · (intro wS hSw; (try dsimp only at hSw); go_simp <;> with_reducible rfl)
  try simp only [Act.put, tkS]
  refine wpAnyH_take (i := 2) (v := ?_) rfl (by kernel_rfl) (by kernel_rfl) (by kernel_rfl) (fun _ _ _ h => h) (Or.inl ⟨by kernel_rfl, ?_⟩) (by assumption) ?_
  rotate_left
  · (intro wS hSw; (try dsimp only at hSw); go_simp <;> with_reducible rfl)
  try simp only [Act.put, tkS]
  refine wpAnyH_take (i := 3) (v := ?_) rfl (by kernel_rfl) (by kernel_rfl) (by kernel_rfl) (fun _ _ _ h => h) (Or.inl ⟨by kernel_rfl, ?_⟩) (by assumption) ?_
  rotate_left
  · (intro wS hSw; (try dsimp only at hSw); go_simp <;> with_reducible rfl)
  try simp only [Act.put, tkS]
  refine wpAnyH_take (i := 4) (v := ?_) rfl (by kernel_rfl) (by kernel_rfl) (by kernel_rfl) (fun _ _ _ h => h) (Or.inl ⟨by kernel_rfl, ?_⟩) (by assumption) ?_
  rotate_left
  · (intro wS hSw; (try dsimp only at hSw); go_simp <;> with_reducible rfl)
  try simp only [Act.put, tkS]
  refine wpAnyH_take (i := 5) (v := ?_) rfl (by kernel_rfl) (by kernel_rfl) (by kernel_rfl) (fun _ _ _ h => h) (Or.inl ⟨by kernel_rfl, ?_⟩) (by assumption) ?_
  rotate_left
  · (intro wS hSw; (try dsimp only at hSw); go_simp <;> with_reducible rfl)
  try simp only [Act.put, tkS]
  refine wpAnyH_take (i := 6) (v := ?_) rfl (by kernel_rfl) (by kernel_rfl) (by kernel_rfl) (fun _ _ _ h => h) (Or.inl ⟨by kernel_rfl, ?_⟩) (by assumption) ?_
  rotate_left
  · (intro wS hSw; (try dsimp only at hSw); go_simp <;> with_reducible rfl)
  try simp only [Act.put, tkS]
  refine wpAnyH_take (i := 7) (v := ?_) rfl (by kernel_rfl) (by kernel_rfl) (by kernel_rfl) (fun _ _ _ h => h) (Or.inl ⟨by kernel_rfl, ?_⟩) (by assumption) ?_
  rotate_left
  · (intro wS hSw; (try dsimp only at hSw); go_simp <;> with_reducible rfl)
  try simp only [Act.put, tkS]
  refine wpAnyH_take (i := 8) (v := ?_) rfl (by kernel_rfl) (by kernel_rfl) (by kernel_rfl) (fun _ _ _ h => h) (Or.inl ⟨by kernel_rfl, ?_⟩) (by assumption) ?_
  rotate_left
  · (intro wS hSw; (try dsimp only at hSw); go_simp <;> with_reducible rfl)
  try simp only [Act.put, tkS]
  refine wpAnyH_take (i := 9) (v := ?_) rfl (by kernel_rfl) (by kernel_rfl) (by kernel_rfl) (fun _ _ _ h => h) (Or.inl ⟨by kernel_rfl, ?_⟩) (by assumption) ?_
  rotate_left
  · (intro wS hSw; (try dsimp only at hSw); go_simp <;> with_reducible rfl)
  try simp only [Act.put, tkS]
  refine wpAnyH_ready (rs := [10]) (by kernel_rfl) (by simp) (AllReadyH.cons rfl (fun K hK => ?_) AllReadyH.nil)
  go_simp
  (go_at_call 10; refine (SR.out _ B0.out).mono ?_; rintro e w11 ⟨rfl, hBB⟩; have B1 : Hid (Below w10.heap.size w10 w11) := B0.out.trans (hBB.mono B0.out.size); clear hBB)
  refine hK.out _ _ ?_ (fun hHeld => ?_)
  · (exact CE.out _ (by first | exact B3.out | exact B2.out | exact B1.out | exact B0.out))
  clear hK K
  try simp only [Act.put, tkS]
  refine wpAnyH_take (i := 11) (v := ?_) rfl (by kernel_rfl) (by kernel_rfl) (by kernel_rfl) (fun _ _ _ h => h) (Or.inl ⟨by kernel_rfl, ?_⟩) (by assumption) ?_
  rotate_left
  · (intro wS hSw; (try dsimp only at hSw); go_simp <;> with_reducible rfl)
  try simp only [Act.put, tkS]
  refine wpAnyH_take (i := 12) (v := ?_) rfl (by kernel_rfl) (by kernel_rfl) (by kernel_rfl) (fun _ _ _ h => h) (Or.inl ⟨by kernel_rfl, ?_⟩) (by assumption) ?_
  rotate_left
  · (intro wS hSw; (try dsimp only at hSw); go_simp <;> with_reducible rfl)
  try simp only [Act.put, tkS]
  refine wpAnyH_take (i := 13) (v := ?_) rfl (by kernel_rfl) (by kernel_rfl) (by kernel_rfl) (fun _ _ _ h => h) (Or.inl ⟨by kernel_rfl, ?_⟩) (by assumption) ?_
  rotate_left
  · (intro wS hSw; (try dsimp only at hSw); go_simp <;> with_reducible rfl)
  try simp only [Act.put, tkS]
  refine wpAnyH_take (i := 14) (v := ?_) rfl (by kernel_rfl) (by kernel_rfl) (by kernel_rfl) (fun _ _ _ h => h) (Or.inl ⟨by kernel_rfl, ?_⟩) (by assumption) ?_
  rotate_left
  · (intro wS hSw; (try dsimp only at hSw); go_simp <;> with_reducible rfl)
  try simp only [Act.put, tkS]
  refine wpAnyH_take (i := 15) (v := ?_) rfl (by kernel_rfl) (by kernel_rfl) (by kernel_rfl) (fun _ _ _ h => h) (Or.inl ⟨by kernel_rfl, ?_⟩) (by assumption) ?_
  rotate_left
  · (intro wS hSw; (try dsimp only at hSw); go_simp <;> with_reducible rfl)
  try simp only [Act.put, tkS]
  refine wpAnyH_ready (rs := [16]) (by kernel_rfl) (by simp) (AllReadyH.cons rfl (fun K hK => ?_) AllReadyH.nil)
  go_simp
  (go_at_call 11; refine (RO.out _ B1.out).mono ?_; rintro e w12 ⟨rfl, hBB⟩; have B2 : Hid (Below w10.heap.size w10 w12) := B1.out.trans (hBB.mono B1.out.size); clear hBB)
  refine hK.out _ _ ?_ (fun hHeld => ?_)
  · (exact CE.out _ (by first | exact B3.out | exact B2.out | exact B1.out | exact B0.out))
  clear hK K
  try simp only [Act.put, tkS]
  refine wpAnyH_take (i := 17) (v := ?_) rfl (by kernel_rfl) (by kernel_rfl) (by kernel_rfl) (fun _ _ _ h => h) (Or.inl ⟨by kernel_rfl, ?_⟩) (by assumption) ?_
  rotate_left
  · (intro wS hSw; (try dsimp only at hSw); go_simp <;> with_reducible rfl)
  try simp only [Act.put, tkS]
  refine wpAnyH_take (i := 18) (v := ?_) rfl (by kernel_rfl) (by kernel_rfl) (by kernel_rfl) (fun _ _ _ h => h) (Or.inl ⟨by kernel_rfl, ?_⟩) (by assumption) ?_
  rotate_left
  · (intro wS hSw; (try dsimp only at hSw); go_simp <;> with_reducible rfl)
  try simp only [Act.put, tkS]
  refine wpAnyH_take (i := 19) (v := ?_) rfl (by kernel_rfl) (by kernel_rfl) (by kernel_rfl) (fun _ _ _ h => h) (Or.inl ⟨by kernel_rfl, ?_⟩) (by assumption) ?_
  rotate_left
  · (intro wS hSw; (try dsimp only at hSw); go_simp <;> with_reducible rfl)
  try simp only [Act.put, tkS]
  refine wpAnyH_take (i := 20) (v := ?_) rfl (by kernel_rfl) (by kernel_rfl) (by kernel_rfl) (fun _ _ _ h => h) (Or.inl ⟨by kernel_rfl, ?_⟩) (by assumption) ?_
  rotate_left
  · (intro wS hSw; (try dsimp only at hSw); go_simp <;> with_reducible rfl)
  try simp only [Act.put, tkS]
  refine wpAnyH_take (i := 21) (v := ?_) rfl (by kernel_rfl) (by kernel_rfl) (by kernel_rfl) (fun _ _ _ h => h) (Or.inl ⟨by kernel_rfl, ?_⟩) (by assumption) ?_
  rotate_left
  · (intro wS hSw; (try dsimp only at hSw); go_simp <;> with_reducible rfl)
  try simp only [Act.put, tkS]
  refine wpAnyH_take (i := 22) (v := ?_) rfl (by kernel_rfl) (by kernel_rfl) (by kernel_rfl) (fun _ _ _ h => h) (Or.inl ⟨by kernel_rfl, ?_⟩) (by assumption) ?_
  rotate_left
  · (intro wS hSw; (try dsimp only at hSw); go_simp <;> with_reducible rfl)
  try simp only [Act.put, tkS]
  refine wpAnyH_ready (rs := [23]) (by kernel_rfl) (by simp) (AllReadyH.cons rfl (fun K hK => ?_) AllReadyH.nil)
  go_simp
  (go_at_call 4; refine (A9.out _ B2.out).mono ?_; rintro e w13 ⟨rfl, hBB⟩; have B3 : Hid (Below w10.heap.size w10 w13) := B2.out.trans (hBB.mono B2.out.size); clear hBB)
  refine hK.out _ _ ?_ (fun hHeld => ?_)
  · (exact CE.out _ (by first | exact B3.out | exact B2.out | exact B1.out | exact B0.out))
  clear hK K
  try simp only [Act.put, tkS]
  refine wpAnyH_take (i := 24) (v := ?_) rfl (by kernel_rfl) (by kernel_rfl) (by kernel_rfl) (fun _ _ _ h => h) (Or.inl ⟨by kernel_rfl, ?_⟩) (by assumption) ?_
  rotate_left
  · (intro wS hSw; (try dsimp only at hSw); go_simp <;> with_reducible rfl)
  try simp only [Act.put, tkS]
  refine wpAnyH_take (i := 25) (v := ?_) rfl (by kernel_rfl) (by kernel_rfl) (by kernel_rfl) (fun _ _ _ h => h) (Or.inl ⟨by kernel_rfl, ?_⟩) (by assumption) ?_
  rotate_left
  · (intro wS hSw; (try dsimp only at hSw); go_simp <;> with_reducible rfl)
  try simp only [Act.put, tkS]
  refine wpAnyH_take (i := 26) (v := ?_) rfl (by kernel_rfl) (by kernel_rfl) (by kernel_rfl) (fun _ _ _ h => h) (Or.inl ⟨by kernel_rfl, ?_⟩) (by assumption) ?_
  rotate_left
  · (intro wS hSw; (try dsimp only at hSw); go_simp <;> with_reducible rfl)
  try simp only [Act.put, tkS]
  refine wpAnyH_done (by kernel_rfl) ?_ _
  have HN := Lib.hid (HM.out.1.later B3.out)
  clear CE SR RO A9 B0 B1 B2 B3 HM ri nn fid
  by_cases hn0 : n = 0
  case neg =>
    have g0 : (n != 0) = true := by simpa using hn0
    have x1 := cell_at (o := 1) HN.out.xb rfl
    have hz := (PX.out.2 hn0).1
    have HZ := Lib.hid hz
    clear hz hn0
    go_wp2_with fail
    go_ret
    exact ⟨by show Ending.returned (Value.bool ((x.cells.length : Int) == 0)) = _; rw [HZ.out]; rfl, HN.out.bel⟩
  have PX1 := Lib.hid (PX.out.1 hn0)
  subst hn0
  clear PX
  have HRL : Hid (r.cells.length = tb.cols.length) := rok_lenS HR.out.2
  have HC6 : Hid (tb.cols.length ≤ 6) := PT.out.1.len.2
  generalize w13 = w0 at *
  go_wp2_with fail
  go_loopg [14] tb.cols.length (fun g i wr => ∃ k : Nat, k + g = tb.cols.length ∧ i = .int .i64 (k : Int) ∧ Hid (CM w wr tb ad r x ra rc xa xc L va vc qt qr qx))
  case atStart => exact ⟨0, by omega, rfl, HN⟩
  case round =>
    obtain ⟨k, hkg, rfl, HO⟩ := hrel
    have HKG := Lib.hid hkg
    have t1 := cell_at (o := 1) HO.out.tx rfl
    by_cases hlt : k < tb.cols.length
    case neg =>
      have hkd : decide ((k : Int) < (tb.cols.length : Int)) = false := by simp; omega
      clear hkg
      go_wp2_with fail
      go_ret
      exact ⟨rfl, HO.out.bel⟩
    have hki : (k : Int) < (tb.cols.length : Int) := by omega
    have hkr : k < r.cells.length := by rw [HRL.out]; exact hlt
    have hkj : (k : Int) < (r.cells.length : Int) := by omega
    have f1 : IntKind.i64.wrap ((k : Int) + 1) = ((k + 1 : Nat) : Int) := by have := HC6.out; rw [IntKind.wrap_i64]; omega
    have r1 := cell_at (o := 1) HO.out.rb rfl
    obtain ⟨b, off, hra, -, -⟩ := Rd.things (d := cAtomS) (n := 1) HO.out.rr k hkr
    subst hra
    obtain ⟨u, hu, hru⟩ := Rd.spotT (d := cAtomS) (n := 1) HO.out.rr hkr (j := 0) (by omega)
    replace hru : Rd wr (fun _ => True) (dAtomS r.cells[k]) u := hru
    obtain ⟨da, dc, rfl⟩ := hru.lsSlice
    rw [Nat.mul_one, Nat.add_zero] at hu
    obtain ⟨d, hd⟩ : ∃ d, d = r.cells[k] := ⟨_, rfl⟩
    rw [← hd] at hu hru
    have HI0 : Hid (CM w wr tb ad r x (some ⟨b, off, none⟩) rc xa xc L va vc qt qr qx ∧ Rd wr (fun _ => True) (dAtomS d) (.slice da d.length dc)) := ⟨HO.out, hru⟩
    obtain ⟨nm, hnm⟩ : ∃ s, s = tb.cols[k].nm := ⟨_, rfl⟩
    have hkx : k < x.cells.length := by rw [PX1.out.2.2.1]; exact hlt
    have HDU : Hid (x.cells[k] = dueL d L nm) := by rw [hd, hnm]; exact (PX1.out.2.2.2 k hlt hkr hkx).1
    have CN : Hid (∀ W, tb.Has W (fun _ => True) ad.ca ad.ua → ∃ cb co, ad.ca = some ⟨cb, co, none⟩ ∧ W.cell? ⟨cb, co + k * 8, none⟩ = some (.string ⟨nm.toArray⟩)) := fun W h => by obtain ⟨cb, co, e, -, hc⟩ := Cols.at h.1 k hlt; rw [hnm]; exact ⟨cb, co, e, (hc k hlt).1⟩
    have PK2 : Hid (pkC tb x [nm, idN] = 0 ∧ pkR tb x [nm, idN] = ⟨x.id, [x.cells[k], [⟨4, x.id, []⟩]]⟩) := by rw [hnm]; exact pk_two PT.out.1 PN.out PX1.out.2.1 hlt hkx
    have HNL : Hid (nm.length ≤ 40) := by rw [hnm]; have h9 := (PT.out.1.cols k hlt).1; unfold colB at h9; simp only [Bool.and_eq_true] at h9; exact name_len h9.1
    have HDL : Hid (d.length ≤ 1048576) := by rw [hd]; exact (Ls_le.1 ((Ls_le.1 HSM.out).2.2 k hkr 0 (by omega))).2.1
    clear hru hd hnm hkg
    go_wp2_with fail
    clear t1 r1 hu hkj hkr
    generalize wr = wo at *
    go_loopg [15, 16] L.length (fun g s i wr => ∃ (j : Nat) (da : Option Addr) (dc : Nat), j + g = L.length ∧ i = .int .i64 (j : Int) ∧ s = .slice da (dueL d (L.take j) nm).length dc ∧ Hid (CM w wr tb ad r x (some ⟨b, off, none⟩) rc xa xc L va vc qt qr qx ∧ Rd wr (fun _ => True) (dAtomS (dueL d (L.take j) nm)) (.slice da (dueL d (L.take j) nm).length dc)))
    case atStart => exact ⟨0, da, dc, by omega, rfl, rfl, HI0⟩
    case round =>
      obtain ⟨j, da, dc, hjg, rfl, rfl, HJ⟩ := hrel
      have HJG := Lib.hid hjg
      by_cases hjl : j < L.length
      case pos =>
        have hji : (j : Int) < (L.length : Int) := by omega
        have f2 : IntKind.i64.wrap ((j : Int) + 1) = ((j + 1 : Nat) : Int) := by have := HL3.out; rw [IntKind.wrap_i64]; omega
        have t1 := cell_at (o := 1) HJ.out.1.tx rfl
        obtain ⟨cb, co, hca, hcn⟩ := CN.out _ HJ.out.1.has
        rw [hca] at t1
        obtain ⟨b2, o2, hva, -, hc2⟩ := Rd.things (d := dSet) (n := 3) HJ.out.1.ls j hjl
        obtain ⟨u0, s0, hr0⟩ := hc2 0 (by omega)
        obtain ⟨u1, s1, hr1⟩ := hc2 1 (by omega)
        obtain rfl : u0 = .string ⟨L[j].col.toArray⟩ := hr0
        replace hr1 : Rd wr (fun _ => True) (dAtomS L[j].val) u1 := hr1
        obtain ⟨ea, ec, rfl⟩ := hr1.lsSlice
        rw [Nat.add_zero] at s0
        have HT1 : Hid (L.take (j + 1) = L.take j ++ [L[j]]) := List.take_succ_eq_append_getElem hjl
        have HRV : Hid (Rd wr (fun _ => True) (dAtomS L[j].val) (.slice ea L[j].val.length ec)) := hr1
        obtain ⟨z, hz⟩ : ∃ z, z = L[j] := ⟨_, rfl⟩
        rw [← hz] at s0 s1 HT1 HRV
        subst hva
        clear hc2 hr1 hz hjg
        by_cases he : z.col = nm
        case pos =>
          have e1 : (z.col == nm) = true := by simpa using he
          have HNX : Hid (dueL d (L.take (j + 1)) nm = z.val) := by show _ = _; rw [HT1.out, dueL_snoc, if_pos he]
          clear he
          go_wp2_with fail
          go_region
          go_wp2_with fail
          go_roundg (L.length - (j + 1))
          case measure => have := HJG.out; omega
          case rel => exact ⟨j + 1, ea, ec, by have := HJG.out; omega, by go_num, by rw [HNX.out], HJ.out.1.later (Below.refl _ _).drew, by rw [HNX.out]; exact HRV.out.later (Below.refl _ _).drew⟩
        have e1 : (z.col == nm) = false := by simpa using he
        have HNX : Hid (dueL d (L.take (j + 1)) nm = dueL d (L.take j) nm) := by show _ = _; rw [HT1.out, dueL_snoc, if_neg he]
        clear he
        go_wp2_with fail
        go_region
        go_wp2_with fail
        go_roundg (L.length - (j + 1))
        case measure => have := HJG.out; omega
        case rel => exact ⟨j + 1, da, dc, by have := HJG.out; omega, by go_num, by rw [HNX.out], HJ.out.1.later (Below.refl _ _).drew, by rw [HNX.out]; exact HJ.out.2.later (Below.refl _ _).drew⟩
      have hjd : decide ((j : Int) < (L.length : Int)) = false := by simp; omega
      have hjt : L.take j = L := List.take_of_length_le (by omega)
      rw [hjt] at HJ
      rw [hjt]
      obtain ⟨D, hD⟩ : ∃ D, D = dueL d L nm := ⟨_, rfl⟩
      have HDD : Hid (D.length ≤ 1048576) := by rw [hD]; exact due_small nm HDL.out HLE.out
      rw [← hD] at HJ HDU ⊢
      clear hjt hjg hD
      obtain ⟨y, hy⟩ : ∃ y, y = pkR tb x [nm, idN] := ⟨_, rfl⟩
      have HY : Hid (y.id = x.id ∧ y.cells = [D, [⟨4, x.id, []⟩]]) := by rw [hy, PK2.out.2]; exact ⟨rfl, by show [x.cells[k], _] = _; rw [HDU.out]⟩
      have PI : Hid (∀ W g, Below wr.heap.size wr W → W.heap[g]? = some (.cells #[.string ⟨nm.toArray⟩, .string ⟨#[95, 117, 117, 105, 100]⟩] 9) → Calls Try.prog 12 #[.agg #[.string ⟨tb.nm.toArray⟩, .slice ad.ca tb.cols.length ad.cc, .slice ad.ua tb.uq.length ad.uc, .bool tb.rt], .agg #[.int .i64 x.id, .slice xa x.cells.length xc], .slice (some ⟨g, 0, none⟩) 2 2] W (RowAnsO W y 0)) := fun W g h hg => by
        have hP := pickColumnsI tb ad.ca ad.cc ad.ua ad.uc _ x xa xc _ [nm, idN] (some ⟨g, 0, none⟩) 2 (fun _ => True) W PT.out.2 (Ls_le.2 ⟨by omega, by simp, fun i hi jj hjj => by
          obtain rfl : jj = 0 := by omega
          rcases (by simp at hi; omega : i = 0 ∨ i = 1) with rfl | rfl
          · show nm.length ≤ 1048576; have := HNL.out; omega
          · show idN.length ≤ 1048576; simp [idN]⟩) XL.out (by rw [PX1.out.1, HR.out.1]; exact HID.out.2) (HJ.out.1.has.later h) (HJ.out.1.xr.later h) ⟨_, _, rfl, .inr ⟨g, 0, rfl, trivial, by omega, fun i jj hi hjj => by
          obtain rfl : jj = 0 := by omega
          rcases (by simp at hi; omega : i = 0 ∨ i = 1) with rfl | rfl
          · exact ⟨_, cell_at (o := 0) hg rfl, rfl⟩
          · exact ⟨_, cell_at (o := 1) hg rfl, rfl⟩⟩⟩
        rw [PK2.out.1, ← hy] at hP
        exact hP
      obtain ⟨cb, co, hca, hcn⟩ := CN.out _ HJ.out.1.has
      have CE : Hid (∀ W, Below wr.heap.size wr W → W.cell? ⟨qt, 0, none⟩ = some (.string ⟨tb.nm.toArray⟩) ∧ W.cell? ⟨qt, 1, none⟩ = some (.slice (some ⟨cb, co, none⟩) tb.cols.length ad.cc) ∧ W.cell? ⟨qt, 2, none⟩ = some (.slice ad.ua tb.uq.length ad.uc) ∧ W.cell? ⟨qt, 3, none⟩ = some (.bool tb.rt) ∧ W.cell? ⟨qx, 0, none⟩ = some (.int .i64 x.id) ∧ W.cell? ⟨qx, 1, none⟩ = some (.slice xa x.cells.length xc) ∧ W.cell? ⟨cb, co + k * 8, none⟩ = some (.string ⟨nm.toArray⟩)) := fun W h => by
        have hb := heap_keptD HJ.out.1.tx h
        have hd := heap_keptD HJ.out.1.xb h
        rw [hca] at hb
        exact ⟨cell_at (o := 0) hb rfl, cell_at (o := 1) hb rfl, cell_at (o := 2) hb rfl, cell_at (o := 3) hb rfl, cell_at (o := 0) hd rfl, cell_at (o := 1) hd rfl, (h.cell (p := ⟨cb, co + k * 8, none⟩) (World.block_lt_of_cell? _ _ hcn)).trans hcn⟩
      rw [hca] at PI
      clear hy hcn PK2 CN HDU hca
      go_upto_region 22 with fail
      go_cut [17, 18] from 92 to 176 (fun s s2 wx => ∃ (qy : Nat) (ya : Option Addr) (yc : Nat), s = .pointer (some ⟨qy, 0, none⟩) ∧ s2 = .int .i64 0 ∧ Hid (Below wr.heap.size wr wx ∧ wx.heap[qy]? = some (.cells #[.int .i64 y.id, .slice ya y.cells.length yc] 34) ∧ Rd wx (fun _ => True) (dAtomSS y.cells) (.slice ya y.cells.length yc)))
      case first =>
        have B0 : Hid (Below wr.heap.size wr wr.drew) := (Below.refl _ _).drew
        refine wp_region_held_drew (S := (fun W => W.cell? ⟨qt, 0, none⟩ = some (.string ⟨tb.nm.toArray⟩) ∧ W.cell? ⟨qt, 1, none⟩ = some (.slice (some ⟨cb, co, none⟩) tb.cols.length ad.cc) ∧ W.cell? ⟨qt, 2, none⟩ = some (.slice ad.ua tb.uq.length ad.uc) ∧ W.cell? ⟨qt, 3, none⟩ = some (.bool tb.rt) ∧ W.cell? ⟨qx, 0, none⟩ = some (.int .i64 x.id) ∧ W.cell? ⟨qx, 1, none⟩ = some (.slice xa x.cells.length xc) ∧ W.cell? ⟨cb, co + k * 8, none⟩ = some (.string ⟨nm.toArray⟩))) (by kernel_rfl) ?_ (fun hHeld => ?_)
        · (exact CE.out _ (by first | exact B9.out | exact B3.out | exact B2.out | exact B1.out | exact B0.out))
        refine wpAnyH_take (i := 0) (v := ?_) rfl (by kernel_rfl) (by kernel_rfl) (by kernel_rfl) (fun _ _ _ h => h) (Or.inl ⟨by kernel_rfl, ?_⟩) (by assumption) ?_
        rotate_left
        · (intro wS hSw; (try dsimp only at hSw); go_simp <;> with_reducible rfl)
        try simp only [Act.put, tkS]
        refine wpAnyH_take (i := 1) (v := ?_) rfl (by kernel_rfl) (by kernel_rfl) (by kernel_rfl) (fun _ _ _ h => h) (Or.inl ⟨by kernel_rfl, ?_⟩) (by assumption) ?_
        rotate_left
        · (intro wS hSw; (try dsimp only at hSw); go_simp <;> with_reducible rfl)
        try simp only [Act.put, tkS]
        refine wpAnyH_take (i := 2) (v := ?_) rfl (by kernel_rfl) (by kernel_rfl) (by kernel_rfl) (fun _ _ _ h => h) (Or.inl ⟨by kernel_rfl, ?_⟩) (by assumption) ?_
        rotate_left
        · (intro wS hSw; (try dsimp only at hSw); go_simp <;> with_reducible rfl)
        try simp only [Act.put, tkS]
        refine wpAnyH_take (i := 3) (v := ?_) rfl (by kernel_rfl) (by kernel_rfl) (by kernel_rfl) (fun _ _ _ h => h) (Or.inl ⟨by kernel_rfl, ?_⟩) (by assumption) ?_
        rotate_left
        · (intro wS hSw; (try dsimp only at hSw); go_simp <;> with_reducible rfl)
        try simp only [Act.put, tkS]
        refine wpAnyH_take (i := 4) (v := ?_) rfl (by kernel_rfl) (by kernel_rfl) (by kernel_rfl) (fun _ _ _ h => h) (Or.inl ⟨by kernel_rfl, ?_⟩) (by assumption) ?_
        rotate_left
        · (intro wS hSw; (try dsimp only at hSw); go_simp <;> with_reducible rfl)
        try simp only [Act.put, tkS]
        refine wpAnyH_take (i := 5) (v := ?_) rfl (by kernel_rfl) (by kernel_rfl) (by kernel_rfl) (fun _ _ _ h => h) (Or.inl ⟨by kernel_rfl, ?_⟩) (by assumption) ?_
        rotate_left
        · (intro wS hSw; (try dsimp only at hSw); go_simp <;> with_reducible rfl)
        try simp only [Act.put, tkS]
        refine wpAnyH_take (i := 6) (v := ?_) rfl (by kernel_rfl) (by kernel_rfl) (by kernel_rfl) (fun _ _ _ h => h) (Or.inl ⟨by kernel_rfl, ?_⟩) (by assumption) ?_
        rotate_left
        · (intro wS hSw; (try dsimp only at hSw); go_simp <;> with_reducible rfl)
        try simp only [Act.put, tkS]
        refine wpAnyH_take (i := 7) (v := ?_) rfl (by kernel_rfl) (by kernel_rfl) (by kernel_rfl) (fun _ _ _ h => h) (Or.inl ⟨by kernel_rfl, ?_⟩) (by assumption) ?_
        rotate_left
        · (intro wS hSw; (try dsimp only at hSw); go_simp <;> with_reducible rfl)
        try simp only [Act.put, tkS]
        refine wpAnyH_ready (rs := [8, 13]) (by kernel_rfl) (by simp) (AllReadyH.cons rfl (fun K hK => ?_) (AllReadyH.cons rfl (fun K hK => ?_) AllReadyH.nil))
        ·
          go_simp
          have B1 : Hid (Below wr.heap.size wr (wr.alloc (.cells #[.string ⟨nm.toArray⟩, .string ⟨#[95, 117, 117, 105, 100]⟩] 9)).drew) := (by repeat' (first | exact Below.refl _ _ | refine Below.drew ?_ | refine Below.alloc ?_ (by simp <;> omega) _))
          refine hK.out _ _ ?_ (fun hHeld => ?_)
          · (exact CE.out _ (by first | exact B9.out | exact B3.out | exact B2.out | exact B1.out | exact B0.out))
          clear hK K
          try simp only [Act.put, tkS]
          refine wpAnyH_ready (rs := [9, 13]) (by kernel_rfl) (by simp) (AllReadyH.cons rfl (fun K hK => ?_) (AllReadyH.cons rfl (fun K hK => ?_) AllReadyH.nil))
          ·
            go_simp
            go_at_call 12
            refine (PI.out _ (wr.heap.size) B1.out (show (wr.alloc (.cells #[.string ⟨nm.toArray⟩, .string ⟨#[95, 117, 117, 105, 100]⟩] 9)).drew.heap[(wr.heap.size)]? = some (.cells #[.string ⟨nm.toArray⟩, .string ⟨#[95, 117, 117, 105, 100]⟩] 9) from allocs_at [(.cells #[.string ⟨nm.toArray⟩, .string ⟨#[95, 117, 117, 105, 100]⟩] 9)] wr 0 _ rfl)).mono ?_
            rintro e w5 ⟨ya, yc, rfl, ho, hB5⟩
            have B2 : Hid (Below wr.heap.size wr w5) := B1.out.trans (hB5.mono B1.out.size)
            have HO2 : Hid (Rd w5 (fun _ => True) (dAtomSS y.cells) (.slice ya y.cells.length yc)) := (Own.rd _ _ _ ho).any
            clear ho hB5
            refine hK.out _ _ ?_ (fun hHeld => ?_)
            · (exact CE.out _ (by first | exact B9.out | exact B3.out | exact B2.out | exact B1.out | exact B0.out))
            clear hK K
            try simp only [Act.put, tkS]
            refine wpAnyH_take (i := 10) (v := ?_) rfl (by kernel_rfl) (by kernel_rfl) (by kernel_rfl) (fun _ _ _ h => h) (Or.inl ⟨by kernel_rfl, ?_⟩) (by assumption) ?_
            rotate_left
            · (intro wS hSw; (try dsimp only at hSw); go_simp <;> with_reducible rfl)
            try simp only [Act.put, tkS]
            refine wpAnyH_take (i := 11) (v := ?_) rfl (by kernel_rfl) (by kernel_rfl) (by kernel_rfl) (fun _ _ _ h => h) (Or.inl ⟨by kernel_rfl, ?_⟩) (by assumption) ?_
            rotate_left
            · (intro wS hSw; (try dsimp only at hSw); go_simp <;> with_reducible rfl)
            try simp only [Act.put, tkS]
            refine wpAnyH_take (i := 12) (v := ?_) rfl (by kernel_rfl) (by kernel_rfl) (by kernel_rfl) (fun _ _ _ h => h) (Or.inl ⟨by kernel_rfl, ?_⟩) (by assumption) ?_
            rotate_left
            · (intro wS hSw; (try dsimp only at hSw); go_simp <;> with_reducible rfl)
            try simp only [Act.put, tkS]
            refine wpAnyH_ready (rs := [13]) (by kernel_rfl) (by simp) (AllReadyH.cons rfl (fun K hK => ?_) AllReadyH.nil)
            go_simp
            have B3 : Hid (Below wr.heap.size wr (w5.alloc (.cells #[.int .i64 0, .slice none 0 0] 34))) := B2.out.alloc B2.out.size _
            refine hK.out _ _ ?_ (fun hHeld => ?_)
            · (exact CE.out _ (by first | exact B9.out | exact B3.out | exact B2.out | exact B1.out | exact B0.out))
            clear hK K
            try simp only [Act.put, tkS]
            refine wpAnyH_ready (rs := [14]) (by kernel_rfl) (by simp) (AllReadyH.cons rfl (fun K hK => ?_) AllReadyH.nil)
            have HX : Hid (Below wr.heap.size wr (w5.alloc (.cells #[.int .i64 y.id, .slice ya y.cells.length yc] 34)) ∧ (w5.alloc (.cells #[.int .i64 y.id, .slice ya y.cells.length yc] 34)).heap[w5.heap.size]? = some (.cells #[.int .i64 y.id, .slice ya y.cells.length yc] 34) ∧ Rd (w5.alloc (.cells #[.int .i64 y.id, .slice ya y.cells.length yc] 34)) (fun _ => True) (dAtomSS y.cells) (.slice ya y.cells.length yc)) := ⟨B2.out.alloc B2.out.size _, heap_newD _ _, HO2.out.later (below_allocD _ _)⟩
            have B9 := Lib.hid HX.out.1
            go_simp
            refine hK.out _ _ ?_ (fun hHeld => ?_)
            · (exact CE.out _ (by first | exact B9.out | exact B3.out | exact B2.out | exact B1.out | exact B0.out))
            clear hK K
            try simp only [Act.put, tkS]
            refine wpAnyH_take (i := 15) (v := ?_) rfl (by kernel_rfl) (by kernel_rfl) (by kernel_rfl) (fun _ _ _ h => h) (Or.inl ⟨by kernel_rfl, ?_⟩) (by assumption) ?_
            rotate_left
            · (intro wS hSw; (try dsimp only at hSw); go_simp <;> with_reducible rfl)
            try simp only [Act.put, tkS]
            refine wpAnyH_done (by kernel_rfl) ?_ _
            go_wp2_with fail
            go_meet
            exact ⟨_, _, _, rfl, rfl, HX⟩
          ·
            go_simp
            have B2 : Hid (Below wr.heap.size wr ((wr.alloc (.cells #[.string ⟨nm.toArray⟩, .string ⟨#[95, 117, 117, 105, 100]⟩] 9)).alloc (.cells #[.int .i64 0, .slice none 0 0] 34)).drew) := (by repeat' (first | exact Below.refl _ _ | refine Below.drew ?_ | refine Below.alloc ?_ (by simp <;> omega) _))
            refine hK.out _ _ ?_ (fun hHeld => ?_)
            · (exact CE.out _ (by first | exact B9.out | exact B3.out | exact B2.out | exact B1.out | exact B0.out))
            clear hK K
            try simp only [Act.put, tkS]
            refine wpAnyH_ready (rs := [9]) (by kernel_rfl) (by simp) (AllReadyH.cons rfl (fun K hK => ?_) AllReadyH.nil)
            go_simp
            go_at_call 12
            refine (PI.out _ (wr.heap.size) B2.out (show ((wr.alloc (.cells #[.string ⟨nm.toArray⟩, .string ⟨#[95, 117, 117, 105, 100]⟩] 9)).alloc (.cells #[.int .i64 0, .slice none 0 0] 34)).drew.heap[(wr.heap.size)]? = some (.cells #[.string ⟨nm.toArray⟩, .string ⟨#[95, 117, 117, 105, 100]⟩] 9) from allocs_at [(.cells #[.string ⟨nm.toArray⟩, .string ⟨#[95, 117, 117, 105, 100]⟩] 9), (.cells #[.int .i64 0, .slice none 0 0] 34)] wr 0 _ rfl)).mono ?_
            rintro e w5 ⟨ya, yc, rfl, ho, hB5⟩
            have B3 : Hid (Below wr.heap.size wr w5) := B2.out.trans (hB5.mono B2.out.size)
            have HZ2 : Hid (w5.heap[(wr.heap.size + 1)]? = some (.cells #[.int .i64 0, .slice none 0 0] 34)) := heap_keptD (show ((wr.alloc (.cells #[.string ⟨nm.toArray⟩, .string ⟨#[95, 117, 117, 105, 100]⟩] 9)).alloc (.cells #[.int .i64 0, .slice none 0 0] 34)).drew.heap[(wr.heap.size + 1)]? = some (.cells #[.int .i64 0, .slice none 0 0] 34) from allocs_at [(.cells #[.string ⟨nm.toArray⟩, .string ⟨#[95, 117, 117, 105, 100]⟩] 9), (.cells #[.int .i64 0, .slice none 0 0] 34)] wr 1 _ rfl) hB5
            have LZ2 : Hid ((wr.heap.size + 1) < ((wr.alloc (.cells #[.string ⟨nm.toArray⟩, .string ⟨#[95, 117, 117, 105, 100]⟩] 9)).alloc (.cells #[.int .i64 0, .slice none 0 0] 34)).drew.heap.size) := by show _ < _; simp <;> omega
            have HO2 : Hid (Rd w5 (fun b => b ≠ (wr.heap.size + 1)) (dAtomSS y.cells) (.slice ya y.cells.length yc)) := (Own.rd _ _ _ ho).mono (fun b hb e => by have := hb.1; have := LZ2.out; omega)
            clear ho hB5
            refine hK.out _ _ ?_ (fun hHeld => ?_)
            · (exact CE.out _ (by first | exact B9.out | exact B3.out | exact B2.out | exact B1.out | exact B0.out))
            clear hK K
            try simp only [Act.put, tkS]
            refine wpAnyH_take (i := 10) (v := ?_) rfl (by kernel_rfl) (by kernel_rfl) (by kernel_rfl) (fun _ _ _ h => h) (Or.inl ⟨by kernel_rfl, ?_⟩) (by assumption) ?_
            rotate_left
            · (intro wS hSw; (try dsimp only at hSw); go_simp <;> with_reducible rfl)
            try simp only [Act.put, tkS]
            refine wpAnyH_take (i := 11) (v := ?_) rfl (by kernel_rfl) (by kernel_rfl) (by kernel_rfl) (fun _ _ _ h => h) (Or.inl ⟨by kernel_rfl, ?_⟩) (by assumption) ?_
            rotate_left
            · (intro wS hSw; (try dsimp only at hSw); go_simp <;> with_reducible rfl)
            try simp only [Act.put, tkS]
            refine wpAnyH_take (i := 12) (v := ?_) rfl (by kernel_rfl) (by kernel_rfl) (by kernel_rfl) (fun _ _ _ h => h) (Or.inl ⟨by kernel_rfl, ?_⟩) (by assumption) ?_
            rotate_left
            · (intro wS hSw; (try dsimp only at hSw); go_simp <;> with_reducible rfl)
            try simp only [Act.put, tkS]
            refine wpAnyH_ready (rs := [14]) (by kernel_rfl) (by simp) (AllReadyH.cons rfl (fun K hK => ?_) AllReadyH.nil)
            have zc0 := cell_at (o := 0) HZ2.out rfl
            have zc1 := cell_at (o := 1) HZ2.out rfl
            have zf0 := frozen_at 0 HZ2.out
            have zf1 := frozen_at 1 HZ2.out
            have HX : Hid (Below wr.heap.size wr ((w5.setCell ⟨(wr.heap.size + 1), 0, none⟩ (.int .i64 y.id)).setCell ⟨(wr.heap.size + 1), 1, none⟩ (.slice ya y.cells.length yc)) ∧ ((w5.setCell ⟨(wr.heap.size + 1), 0, none⟩ (.int .i64 y.id)).setCell ⟨(wr.heap.size + 1), 1, none⟩ (.slice ya y.cells.length yc)).heap[(wr.heap.size + 1)]? = some (.cells #[.int .i64 y.id, .slice ya y.cells.length yc] 34) ∧ Rd ((w5.setCell ⟨(wr.heap.size + 1), 0, none⟩ (.int .i64 y.id)).setCell ⟨(wr.heap.size + 1), 1, none⟩ (.slice ya y.cells.length yc)) (fun _ => True) (dAtomSS y.cells) (.slice ya y.cells.length yc)) := ⟨(B3.out.setCell (by show wr.heap.size ≤ (wr.heap.size + 1); omega) _).setCell (by show wr.heap.size ≤ (wr.heap.size + 1); omega) _, by rw [heap_set 1 _ (heap_set 0 _ HZ2.out)]; rfl, (HO2.out.frm ((frm_set _ _ _ _).trans (frm_set _ _ _ _)) (fun b hb e => hb e)).any⟩
            have B9 := Lib.hid HX.out.1
            go_simp
            clear zc0 zc1 zf0 zf1
            refine hK.out _ _ ?_ (fun hHeld => ?_)
            · (exact CE.out _ (by first | exact B9.out | exact B3.out | exact B2.out | exact B1.out | exact B0.out))
            clear hK K
            try simp only [Act.put, tkS]
            refine wpAnyH_take (i := 15) (v := ?_) rfl (by kernel_rfl) (by kernel_rfl) (by kernel_rfl) (fun _ _ _ h => h) (Or.inl ⟨by kernel_rfl, ?_⟩) (by assumption) ?_
            rotate_left
            · (intro wS hSw; (try dsimp only at hSw); go_simp <;> with_reducible rfl)
            try simp only [Act.put, tkS]
            refine wpAnyH_done (by kernel_rfl) ?_ _
            go_wp2_with fail
            go_meet
            exact ⟨_, _, _, rfl, rfl, HX⟩
        ·
          go_simp
          have B1 : Hid (Below wr.heap.size wr (wr.alloc (.cells #[.int .i64 0, .slice none 0 0] 34)).drew) := (by repeat' (first | exact Below.refl _ _ | refine Below.drew ?_ | refine Below.alloc ?_ (by simp <;> omega) _))
          refine hK.out _ _ ?_ (fun hHeld => ?_)
          · (exact CE.out _ (by first | exact B9.out | exact B3.out | exact B2.out | exact B1.out | exact B0.out))
          clear hK K
          try simp only [Act.put, tkS]
          refine wpAnyH_ready (rs := [8]) (by kernel_rfl) (by simp) (AllReadyH.cons rfl (fun K hK => ?_) AllReadyH.nil)
          go_simp
          have B2 : Hid (Below wr.heap.size wr ((wr.alloc (.cells #[.int .i64 0, .slice none 0 0] 34)).alloc (.cells #[.string ⟨nm.toArray⟩, .string ⟨#[95, 117, 117, 105, 100]⟩] 9)).drew) := (by repeat' (first | exact Below.refl _ _ | refine Below.drew ?_ | refine Below.alloc ?_ (by simp <;> omega) _))
          refine hK.out _ _ ?_ (fun hHeld => ?_)
          · (exact CE.out _ (by first | exact B9.out | exact B3.out | exact B2.out | exact B1.out | exact B0.out))
          clear hK K
          try simp only [Act.put, tkS]
          refine wpAnyH_ready (rs := [9]) (by kernel_rfl) (by simp) (AllReadyH.cons rfl (fun K hK => ?_) AllReadyH.nil)
          go_simp
          go_at_call 12
          refine (PI.out _ (wr.heap.size + 1) B2.out (show ((wr.alloc (.cells #[.int .i64 0, .slice none 0 0] 34)).alloc (.cells #[.string ⟨nm.toArray⟩, .string ⟨#[95, 117, 117, 105, 100]⟩] 9)).drew.heap[(wr.heap.size + 1)]? = some (.cells #[.string ⟨nm.toArray⟩, .string ⟨#[95, 117, 117, 105, 100]⟩] 9) from allocs_at [(.cells #[.int .i64 0, .slice none 0 0] 34), (.cells #[.string ⟨nm.toArray⟩, .string ⟨#[95, 117, 117, 105, 100]⟩] 9)] wr 1 _ rfl)).mono ?_
          rintro e w5 ⟨ya, yc, rfl, ho, hB5⟩
          have B3 : Hid (Below wr.heap.size wr w5) := B2.out.trans (hB5.mono B2.out.size)
          have HZ2 : Hid (w5.heap[(wr.heap.size)]? = some (.cells #[.int .i64 0, .slice none 0 0] 34)) := heap_keptD (show ((wr.alloc (.cells #[.int .i64 0, .slice none 0 0] 34)).alloc (.cells #[.string ⟨nm.toArray⟩, .string ⟨#[95, 117, 117, 105, 100]⟩] 9)).drew.heap[(wr.heap.size)]? = some (.cells #[.int .i64 0, .slice none 0 0] 34) from allocs_at [(.cells #[.int .i64 0, .slice none 0 0] 34), (.cells #[.string ⟨nm.toArray⟩, .string ⟨#[95, 117, 117, 105, 100]⟩] 9)] wr 0 _ rfl) hB5
          have LZ2 : Hid ((wr.heap.size) < ((wr.alloc (.cells #[.int .i64 0, .slice none 0 0] 34)).alloc (.cells #[.string ⟨nm.toArray⟩, .string ⟨#[95, 117, 117, 105, 100]⟩] 9)).drew.heap.size) := by show _ < _; simp <;> omega
          have HO2 : Hid (Rd w5 (fun b => b ≠ (wr.heap.size)) (dAtomSS y.cells) (.slice ya y.cells.length yc)) := (Own.rd _ _ _ ho).mono (fun b hb e => by have := hb.1; have := LZ2.out; omega)
          clear ho hB5
          refine hK.out _ _ ?_ (fun hHeld => ?_)
          · (exact CE.out _ (by first | exact B9.out | exact B3.out | exact B2.out | exact B1.out | exact B0.out))
          clear hK K
          try simp only [Act.put, tkS]
          refine wpAnyH_take (i := 10) (v := ?_) rfl (by kernel_rfl) (by kernel_rfl) (by kernel_rfl) (fun _ _ _ h => h) (Or.inl ⟨by kernel_rfl, ?_⟩) (by assumption) ?_
          rotate_left
          · (intro wS hSw; (try dsimp only at hSw); go_simp <;> with_reducible rfl)
          try simp only [Act.put, tkS]
          refine wpAnyH_take (i := 11) (v := ?_) rfl (by kernel_rfl) (by kernel_rfl) (by kernel_rfl) (fun _ _ _ h => h) (Or.inl ⟨by kernel_rfl, ?_⟩) (by assumption) ?_
          rotate_left
          · (intro wS hSw; (try dsimp only at hSw); go_simp <;> with_reducible rfl)
          try simp only [Act.put, tkS]
          refine wpAnyH_take (i := 12) (v := ?_) rfl (by kernel_rfl) (by kernel_rfl) (by kernel_rfl) (fun _ _ _ h => h) (Or.inl ⟨by kernel_rfl, ?_⟩) (by assumption) ?_
          rotate_left
          · (intro wS hSw; (try dsimp only at hSw); go_simp <;> with_reducible rfl)
          try simp only [Act.put, tkS]
          refine wpAnyH_ready (rs := [14]) (by kernel_rfl) (by simp) (AllReadyH.cons rfl (fun K hK => ?_) AllReadyH.nil)
          have zc0 := cell_at (o := 0) HZ2.out rfl
          have zc1 := cell_at (o := 1) HZ2.out rfl
          have zf0 := frozen_at 0 HZ2.out
          have zf1 := frozen_at 1 HZ2.out
          have HX : Hid (Below wr.heap.size wr ((w5.setCell ⟨(wr.heap.size), 0, none⟩ (.int .i64 y.id)).setCell ⟨(wr.heap.size), 1, none⟩ (.slice ya y.cells.length yc)) ∧ ((w5.setCell ⟨(wr.heap.size), 0, none⟩ (.int .i64 y.id)).setCell ⟨(wr.heap.size), 1, none⟩ (.slice ya y.cells.length yc)).heap[(wr.heap.size)]? = some (.cells #[.int .i64 y.id, .slice ya y.cells.length yc] 34) ∧ Rd ((w5.setCell ⟨(wr.heap.size), 0, none⟩ (.int .i64 y.id)).setCell ⟨(wr.heap.size), 1, none⟩ (.slice ya y.cells.length yc)) (fun _ => True) (dAtomSS y.cells) (.slice ya y.cells.length yc)) := ⟨(B3.out.setCell (by show wr.heap.size ≤ (wr.heap.size); omega) _).setCell (by show wr.heap.size ≤ (wr.heap.size); omega) _, by rw [heap_set 1 _ (heap_set 0 _ HZ2.out)]; rfl, (HO2.out.frm ((frm_set _ _ _ _).trans (frm_set _ _ _ _)) (fun b hb e => hb e)).any⟩
          have B9 := Lib.hid HX.out.1
          go_simp
          clear zc0 zc1 zf0 zf1
          refine hK.out _ _ ?_ (fun hHeld => ?_)
          · (exact CE.out _ (by first | exact B9.out | exact B3.out | exact B2.out | exact B1.out | exact B0.out))
          clear hK K
          try simp only [Act.put, tkS]
          refine wpAnyH_take (i := 15) (v := ?_) rfl (by kernel_rfl) (by kernel_rfl) (by kernel_rfl) (fun _ _ _ h => h) (Or.inl ⟨by kernel_rfl, ?_⟩) (by assumption) ?_
          rotate_left
          · (intro wS hSw; (try dsimp only at hSw); go_simp <;> with_reducible rfl)
          try simp only [Act.put, tkS]
          refine wpAnyH_done (by kernel_rfl) ?_ _
          go_wp2_with fail
          go_meet
          exact ⟨_, _, _, rfl, rfl, HX⟩
      obtain ⟨qy, ya, yc, rfl, rfl, HX⟩ := hcut
      generalize wc = wv at *
      clear CE PI
      obtain ⟨yid, ycells⟩ := y
      obtain ⟨hy1, hy2⟩ := HY.out
      dsimp only at hy1 hy2 HX
      subst hy1 hy2
      have HCV := Lib.hid (HJ.out.1.later HX.out.1)
      have HDV : Hid (Rd wv (fun _ => True) (dAtomS D) (.slice da D.length dc)) := HJ.out.2.later HX.out.1
      obtain ⟨b3, o3, hya, -, hc3⟩ := Rd.things (d := cAtomS) (n := 1) HX.out.2.2 0 (by simp)
      obtain ⟨v0, s0, hr0⟩ := Rd.spotT (d := cAtomS) (n := 1) (hya ▸ HX.out.2.2) (i := 0) (by simp) (j := 0) (by omega)
      obtain ⟨v1, s1, hr1⟩ := Rd.spotT (d := cAtomS) (n := 1) (hya ▸ HX.out.2.2) (i := 1) (by simp) (j := 0) (by omega)
      replace hr0 : Rd wv (fun _ => True) (dAtomS D) v0 := hr0
      replace hr1 : Rd wv (fun _ => True) (dAtomS [⟨4, x.id, []⟩]) v1 := hr1
      obtain ⟨za, zc, rfl⟩ := hr0.lsSlice
      obtain ⟨wa, wb, rfl⟩ := hr1.lsSlice
      obtain ⟨b4, o4, hwa, -, hc4⟩ := Rd.things (d := dAtom) (n := 3) hr1 0 (by simp)
      obtain ⟨v2, s2, hr2⟩ := hc4 1 (by omega)
      obtain rfl : v2 = .int .i64 x.id := hr2
      subst hya hwa
      simp only [Nat.zero_mul, Nat.one_mul, Nat.add_zero, Nat.mul_one] at s0 s1 s2
      have CE : Hid (∀ W, Below wv.heap.size wv W → W.cell? ⟨qy, 1, none⟩ = some (.slice (some ⟨b3, o3, none⟩) 2 yc) ∧ W.cell? ⟨b3, o3, none⟩ = some (.slice za D.length zc) ∧ W.cell? ⟨b3, o3 + 1, none⟩ = some (.slice (some ⟨b4, o4, none⟩) 1 wb) ∧ W.cell? ⟨b4, o4 + 1, none⟩ = some (.int .i64 x.id) ∧ W.cell? ⟨qr, 0, none⟩ = some (.int .i64 r.id)) := fun W h => by
        have hb := heap_keptD HX.out.2.1 h
        have hd := heap_keptD HCV.out.rb h
        exact ⟨cell_at (o := 1) hb rfl, (h.cell (p := ⟨b3, o3, none⟩) (World.block_lt_of_cell? _ _ s0)).trans s0, (h.cell (p := ⟨b3, o3 + 1, none⟩) (World.block_lt_of_cell? _ _ s1)).trans s1, (h.cell (p := ⟨b4, o4 + 1, none⟩) (World.block_lt_of_cell? _ _ s2)).trans s2, cell_at (o := 0) hd rfl⟩
      have SD : Hid (∀ W, Below wv.heap.size wv W → Calls Try.prog 13 #[.slice za D.length zc, .slice da D.length dc] W fun e w' => e = .returned (.bool true) ∧ Below W.heap.size W w') := fun W h => sameDatumS D za da zc dc _ _ W HDD.out (hr0.later h).ats (HDV.out.later h).ats
      have ri : (x.id != r.id) = false := by rw [PX1.out.1]; simp
      have B0 : Hid (Below wv.heap.size wv wv.drew) := (Below.refl _ _).drew
      clear s0 s1 s2 hr0 hr1 hc3 hc4 HX HJ HDV
      go_upto_region 23 with fail
      refine wp_region_held_drew (S := (fun W => W.cell? ⟨qy, 1, none⟩ = some (.slice (some ⟨b3, o3, none⟩) 2 yc) ∧ W.cell? ⟨b3, o3, none⟩ = some (.slice za D.length zc) ∧ W.cell? ⟨b3, o3 + 1, none⟩ = some (.slice (some ⟨b4, o4, none⟩) 1 wb) ∧ W.cell? ⟨b4, o4 + 1, none⟩ = some (.int .i64 x.id) ∧ W.cell? ⟨qr, 0, none⟩ = some (.int .i64 r.id))) (by kernel_rfl) ?_ (fun hHeld => ?_)
      · (exact CE.out _ (by first | exact B1.out | exact B0.out))
      refine wpAnyH_take (i := 0) (v := ?_) rfl (by kernel_rfl) (by kernel_rfl) (by kernel_rfl) (fun _ _ _ h => h) (Or.inl ⟨by kernel_rfl, ?_⟩) (by assumption) ?_
      rotate_left
      · (intro wS hSw; (try dsimp only at hSw); go_simp <;> with_reducible rfl)
      try simp only [Act.put, tkS]
      refine wpAnyH_take (i := 1) (v := ?_) rfl (by kernel_rfl) (by kernel_rfl) (by kernel_rfl) (fun _ _ _ h => h) (Or.inl ⟨by kernel_rfl, ?_⟩) (by assumption) ?_
      rotate_left
      · (intro wS hSw; (try dsimp only at hSw); go_simp <;> with_reducible rfl)
      try simp only [Act.put, tkS]
      refine wpAnyH_take (i := 2) (v := ?_) rfl (by kernel_rfl) (by kernel_rfl) (by kernel_rfl) (fun _ _ _ h => h) (Or.inl ⟨by kernel_rfl, ?_⟩) (by assumption) ?_
      rotate_left
      · (intro wS hSw; (try dsimp only at hSw); go_simp <;> with_reducible rfl)
      try simp only [Act.put, tkS]
      refine wpAnyH_take (i := 3) (v := ?_) rfl (by kernel_rfl) (by kernel_rfl) (by kernel_rfl) (fun _ _ _ h => h) (Or.inl ⟨by kernel_rfl, ?_⟩) (by assumption) ?_
      rotate_left
      · (intro wS hSw; (try dsimp only at hSw); go_simp <;> with_reducible rfl)
      try simp only [Act.put, tkS]
      refine wpAnyH_take (i := 4) (v := ?_) rfl (by kernel_rfl) (by kernel_rfl) (by kernel_rfl) (fun _ _ _ h => h) (Or.inl ⟨by kernel_rfl, ?_⟩) (by assumption) ?_
      rotate_left
      · (intro wS hSw; (try dsimp only at hSw); go_simp <;> with_reducible rfl)
      try simp only [Act.put, tkS]
      refine wpAnyH_take (i := 5) (v := ?_) rfl (by kernel_rfl) (by kernel_rfl) (by kernel_rfl) (fun _ _ _ h => h) (Or.inl ⟨by kernel_rfl, ?_⟩) (by assumption) ?_
      rotate_left
      · (intro wS hSw; (try dsimp only at hSw); go_simp <;> with_reducible rfl)
      try simp only [Act.put, tkS]
      refine wpAnyH_take (i := 6) (v := ?_) rfl (by kernel_rfl) (by kernel_rfl) (by kernel_rfl) (fun _ _ _ h => h) (Or.inl ⟨by kernel_rfl, ?_⟩) (by assumption) ?_
      rotate_left
      · (intro wS hSw; (try dsimp only at hSw); go_simp <;> with_reducible rfl)
      try simp only [Act.put, tkS]
      refine wpAnyH_take (i := 7) (v := ?_) rfl (by kernel_rfl) (by kernel_rfl) (by kernel_rfl) (fun _ _ _ h => h) (Or.inl ⟨by kernel_rfl, ?_⟩) (by assumption) ?_
      rotate_left
      · (intro wS hSw; (try dsimp only at hSw); go_simp <;> with_reducible rfl)
      try simp only [Act.put, tkS]
      refine wpAnyH_take (i := 8) (v := ?_) rfl (by kernel_rfl) (by kernel_rfl) (by kernel_rfl) (fun _ _ _ h => h) (Or.inl ⟨by kernel_rfl, ?_⟩) (by assumption) ?_
      rotate_left
      · (intro wS hSw; (try dsimp only at hSw); go_simp <;> with_reducible rfl)
      try simp only [Act.put, tkS]
      refine wpAnyH_take (i := 9) (v := ?_) rfl (by kernel_rfl) (by kernel_rfl) (by kernel_rfl) (fun _ _ _ h => h) (Or.inl ⟨by kernel_rfl, ?_⟩) (by assumption) ?_
      rotate_left
      · (intro wS hSw; (try dsimp only at hSw); go_simp <;> with_reducible rfl)
      try simp only [Act.put, tkS]
      refine wpAnyH_take (i := 10) (v := ?_) rfl (by kernel_rfl) (by kernel_rfl) (by kernel_rfl) (fun _ _ _ h => h) (Or.inl ⟨by kernel_rfl, ?_⟩) (by assumption) ?_
      rotate_left
      · (intro wS hSw; (try dsimp only at hSw); go_simp <;> with_reducible rfl)
      try simp only [Act.put, tkS]
      refine wpAnyH_take (i := 11) (v := ?_) rfl (by kernel_rfl) (by kernel_rfl) (by kernel_rfl) (fun _ _ _ h => h) (Or.inl ⟨by kernel_rfl, ?_⟩) (by assumption) ?_
      rotate_left
      · (intro wS hSw; (try dsimp only at hSw); go_simp <;> with_reducible rfl)
      try simp only [Act.put, tkS]
      refine wpAnyH_take (i := 12) (v := ?_) rfl (by kernel_rfl) (by kernel_rfl) (by kernel_rfl) (fun _ _ _ h => h) (Or.inl ⟨by kernel_rfl, ?_⟩) (by assumption) ?_
      rotate_left
      · (intro wS hSw; (try dsimp only at hSw); go_simp <;> with_reducible rfl)
      try simp only [Act.put, tkS]
      refine wpAnyH_take (i := 13) (v := ?_) rfl (by kernel_rfl) (by kernel_rfl) (by kernel_rfl) (fun _ _ _ h => h) (Or.inl ⟨by kernel_rfl, ?_⟩) (by assumption) ?_
      rotate_left
      · (intro wS hSw; (try dsimp only at hSw); go_simp <;> with_reducible rfl)
      try simp only [Act.put, tkS]
      refine wpAnyH_ready (rs := [14]) (by kernel_rfl) (by simp) (AllReadyH.cons rfl (fun K hK => ?_) AllReadyH.nil)
      go_simp
      (go_at_call 13; refine (SD.out _ B0.out).mono ?_; rintro e w15 ⟨rfl, hBB⟩; have B1 : Hid (Below wv.heap.size wv w15) := B0.out.trans (hBB.mono B0.out.size); clear hBB)
      refine hK.out _ _ ?_ (fun hHeld => ?_)
      · (exact CE.out _ (by first | exact B1.out | exact B0.out))
      clear hK K
      try simp only [Act.put, tkS]
      refine wpAnyH_take (i := 15) (v := ?_) rfl (by kernel_rfl) (by kernel_rfl) (by kernel_rfl) (fun _ _ _ h => h) (Or.inl ⟨by kernel_rfl, ?_⟩) (by assumption) ?_
      rotate_left
      · (intro wS hSw; (try dsimp only at hSw); go_simp <;> with_reducible rfl)
      try simp only [Act.put, tkS]
      refine wpAnyH_take (i := 16) (v := ?_) rfl (by kernel_rfl) (by kernel_rfl) (by kernel_rfl) (fun _ _ _ h => h) (Or.inl ⟨by kernel_rfl, ?_⟩) (by assumption) ?_
      rotate_left
      · (intro wS hSw; (try dsimp only at hSw); go_simp <;> with_reducible rfl)
      try simp only [Act.put, tkS]
      refine wpAnyH_take (i := 17) (v := ?_) rfl (by kernel_rfl) (by kernel_rfl) (by kernel_rfl) (fun _ _ _ h => h) (Or.inl ⟨by kernel_rfl, ?_⟩) (by assumption) ?_
      rotate_left
      · (intro wS hSw; (try dsimp only at hSw); go_simp <;> with_reducible rfl)
      try simp only [Act.put, tkS]
      refine wpAnyH_take (i := 18) (v := ?_) rfl (by kernel_rfl) (by kernel_rfl) (by kernel_rfl) (fun _ _ _ h => h) (Or.inl ⟨by kernel_rfl, ?_⟩) (by assumption) ?_
      rotate_left
      · (intro wS hSw; (try dsimp only at hSw); go_simp <;> with_reducible rfl)
      try simp only [Act.put, tkS]
      refine wpAnyH_take (i := 19) (v := ?_) rfl (by kernel_rfl) (by kernel_rfl) (by kernel_rfl) (fun _ _ _ h => h) (Or.inl ⟨by kernel_rfl, ?_⟩) (by assumption) ?_
      rotate_left
      · (intro wS hSw; (try dsimp only at hSw); go_simp <;> with_reducible rfl)
      try simp only [Act.put, tkS]
      refine wpAnyH_take (i := 20) (v := ?_) rfl (by kernel_rfl) (by kernel_rfl) (by kernel_rfl) (fun _ _ _ h => h) (Or.inl ⟨by kernel_rfl, ?_⟩) (by assumption) ?_
      rotate_left
      · (intro wS hSw; (try dsimp only at hSw); go_simp <;> with_reducible rfl)
      try simp only [Act.put, tkS]
      refine wpAnyH_take (i := 21) (v := ?_) rfl (by kernel_rfl) (by kernel_rfl) (by kernel_rfl) (fun _ _ _ h => h) (Or.inl ⟨by kernel_rfl, ?_⟩) (by assumption) ?_
      rotate_left
      · (intro wS hSw; (try dsimp only at hSw); go_simp <;> with_reducible rfl)
      try simp only [Act.put, tkS]
      refine wpAnyH_take (i := 22) (v := ?_) rfl (by kernel_rfl) (by kernel_rfl) (by kernel_rfl) (fun _ _ _ h => h) (Or.inl ⟨by kernel_rfl, ?_⟩) (by assumption) ?_
      rotate_left
      · (intro wS hSw; (try dsimp only at hSw); go_simp <;> with_reducible rfl)
      try simp only [Act.put, tkS]
      refine wpAnyH_take (i := 23) (v := ?_) rfl (by kernel_rfl) (by kernel_rfl) (by kernel_rfl) (fun _ _ _ h => h) (Or.inl ⟨by kernel_rfl, ?_⟩) (by assumption) ?_
      rotate_left
      · (intro wS hSw; (try dsimp only at hSw); go_simp <;> with_reducible rfl)
      try simp only [Act.put, tkS]
      refine wpAnyH_take (i := 24) (v := ?_) rfl (by kernel_rfl) (by kernel_rfl) (by kernel_rfl) (fun _ _ _ h => h) (Or.inl ⟨by kernel_rfl, ?_⟩) (by assumption) ?_
      rotate_left
      · (intro wS hSw; (try dsimp only at hSw); go_simp <;> with_reducible rfl)
      try simp only [Act.put, tkS]
      refine wpAnyH_take (i := 25) (v := ?_) rfl (by kernel_rfl) (by kernel_rfl) (by kernel_rfl) (fun _ _ _ h => h) (Or.inl ⟨by kernel_rfl, ?_⟩) (by assumption) ?_
      rotate_left
      · (intro wS hSw; (try dsimp only at hSw); go_simp <;> with_reducible rfl)
      try simp only [Act.put, tkS]
      refine wpAnyH_take (i := 26) (v := ?_) rfl (by kernel_rfl) (by kernel_rfl) (by kernel_rfl) (fun _ _ _ h => h) (Or.inl ⟨by kernel_rfl, ?_⟩) (by assumption) ?_
      rotate_left
      · (intro wS hSw; (try dsimp only at hSw); go_simp <;> with_reducible rfl)
      try simp only [Act.put, tkS]
      refine wpAnyH_take (i := 27) (v := ?_) rfl (by kernel_rfl) (by kernel_rfl) (by kernel_rfl) (fun _ _ _ h => h) (Or.inl ⟨by kernel_rfl, ?_⟩) (by assumption) ?_
      rotate_left
      · (intro wS hSw; (try dsimp only at hSw); go_simp <;> with_reducible rfl)
      try simp only [Act.put, tkS]
      refine wpAnyH_take (i := 28) (v := ?_) rfl (by kernel_rfl) (by kernel_rfl) (by kernel_rfl) (fun _ _ _ h => h) (Or.inl ⟨by kernel_rfl, ?_⟩) (by assumption) ?_
      rotate_left
      · (intro wS hSw; (try dsimp only at hSw); go_simp <;> with_reducible rfl)
      try simp only [Act.put, tkS]
      refine wpAnyH_take (i := 29) (v := ?_) rfl (by kernel_rfl) (by kernel_rfl) (by kernel_rfl) (fun _ _ _ h => h) (Or.inl ⟨by kernel_rfl, ?_⟩) (by assumption) ?_
      rotate_left
      · (intro wS hSw; (try dsimp only at hSw); go_simp <;> with_reducible rfl)
      try simp only [Act.put, tkS]
      refine wpAnyH_take (i := 30) (v := ?_) rfl (by kernel_rfl) (by kernel_rfl) (by kernel_rfl) (fun _ _ _ h => h) (Or.inl ⟨by kernel_rfl, ?_⟩) (by assumption) ?_
      rotate_left
      · (intro wS hSw; (try dsimp only at hSw); go_simp <;> with_reducible rfl)
      try simp only [Act.put, tkS]
      refine wpAnyH_take (i := 31) (v := ?_) rfl (by kernel_rfl) (by kernel_rfl) (by kernel_rfl) (fun _ _ _ h => h) (Or.inl ⟨by kernel_rfl, ?_⟩) (by assumption) ?_
      rotate_left
      · (intro wS hSw; (try dsimp only at hSw); go_simp <;> with_reducible rfl)
      try simp only [Act.put, tkS]
      refine wpAnyH_take (i := 32) (v := ?_) rfl (by kernel_rfl) (by kernel_rfl) (by kernel_rfl) (fun _ _ _ h => h) (Or.inl ⟨by kernel_rfl, ?_⟩) (by assumption) ?_
      rotate_left
      · (intro wS hSw; (try dsimp only at hSw); go_simp <;> with_reducible rfl)
      try simp only [Act.put, tkS]
      refine wpAnyH_take (i := 33) (v := ?_) rfl (by kernel_rfl) (by kernel_rfl) (by kernel_rfl) (fun _ _ _ h => h) (Or.inl ⟨by kernel_rfl, ?_⟩) (by assumption) ?_
      rotate_left
      · (intro wS hSw; (try dsimp only at hSw); go_simp <;> with_reducible rfl)
      try simp only [Act.put, tkS]
      refine wpAnyH_take (i := 34) (v := ?_) rfl (by kernel_rfl) (by kernel_rfl) (by kernel_rfl) (fun _ _ _ h => h) (Or.inl ⟨by kernel_rfl, ?_⟩) (by assumption) ?_
      rotate_left
      · (intro wS hSw; (try dsimp only at hSw); go_simp <;> with_reducible rfl)
      try simp only [Act.put, tkS]
      refine wpAnyH_take (i := 35) (v := ?_) rfl (by kernel_rfl) (by kernel_rfl) (by kernel_rfl) (fun _ _ _ h => h) (Or.inl ⟨by kernel_rfl, ?_⟩) (by assumption) ?_
      rotate_left
      · (intro wS hSw; (try dsimp only at hSw); go_simp <;> with_reducible rfl)
      try simp only [Act.put, tkS]
      refine wpAnyH_take (i := 36) (v := ?_) rfl (by kernel_rfl) (by kernel_rfl) (by kernel_rfl) (fun _ _ _ h => h) (Or.inl ⟨by kernel_rfl, ?_⟩) (by assumption) ?_
      rotate_left
      · (intro wS hSw; (try dsimp only at hSw); go_simp <;> with_reducible rfl)
      try simp only [Act.put, tkS]
      refine wpAnyH_done (by kernel_rfl) ?_ _
      have HF := Lib.hid (HCV.out.later B1.out)
      clear CE SD ri B0 B1 HCV
      go_wp2_with fail
      go_roundg (tb.cols.length - (k + 1))
      case measure => have := HKG.out; omega
      case rel => exact ⟨k + 1, by have := HKG.out; omega, by go_num, HF⟩
#print axioms lawFnCells
end Go.Proofs.Ytajhjjpanjpfoaa
