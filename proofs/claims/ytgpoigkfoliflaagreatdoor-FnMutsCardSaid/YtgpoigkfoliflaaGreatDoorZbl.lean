import Derived.Test.YtgpoigkfoliflaaGreatDoorZbk
import Derived.Test.YtgpoigkfoliflaaGreatDoorZTk
namespace Go.Proofs.YtgpoigkfoliflaaGreatDoor
open Go.RowKit
set_option linter.unusedSimpArgs false
structure SPS (w wr : World) (tc : Array Value) (id : Int) (cs : List (List At)) (v : Value) : Prop where
  tb : wr.heap[w.heap.size]? = some (.cells tc 27)
  rb : wr.heap[w.heap.size + 1]? = some (.cells #[.int .i64 id, v] 34)
  zr : wr.heap[w.heap.size + 1 + 1]? = some (.cells #[.int .i64 0, .slice none 0 0] 34)
  gr : SG wr (w.heap.size + 1 + 1 + 1) (fun c => w.heap.size + 1 + 1 + 1 ≤ c) 35 1 (lsF cAtomS cs) cs.length v
  bel : Below w.heap.size w wr
theorem SPS.later {w wr W : World} {tc : Array Value} {id : Int} {cs : List (List At)} {v : Value} (h : SPS w wr tc id cs v) (hB : Below wr.heap.size wr W) : SPS w W tc id cs v := ⟨heap_keptD h.tb hB, heap_keptD h.rb hB, heap_keptD h.zr hB, h.gr.later hB, h.bel.trans (hB.mono h.bel.size)⟩
theorem SPS.store {w wr W : World} {tc : Array Value} {id : Int} {cs : List (List At)} {g cap k : Nat} {o : List At} {a : Option Addr} {cp : Nat} (h : SPS w wr tc id cs (.slice (some ⟨g, 0, none⟩) cs.length cap)) (hg : w.heap.size + 1 + 1 + 1 ≤ g ∧ g < wr.heap.size) (hB : Below wr.heap.size wr W) (hk : k < cs.length) (ho : OwnAts W (fun c => wr.heap.size ≤ c ∧ c < W.heap.size) a o) :
    SPS w (W.setCell ⟨g, k, none⟩ (.slice a o.length cp)) tc id (cs.set k o) (.slice (some ⟨g, 0, none⟩) (cs.set k o).length cap) := by
  have h2 := h.later hB
  have st : ∀ b x, W.heap[b]? = some x → b < w.heap.size + 1 + 1 + 1 → (W.setCell ⟨g, k, none⟩ (.slice a o.length cp)).heap[b]? = some x := fun b x hx hb => by
    rw [Below.heap_setCell _ ⟨g, k, none⟩ _ _ (by show b ≠ g; omega)]; exact hx
  refine ⟨st _ _ h2.tb (by omega), by rw [List.length_set]; exact st _ _ h2.rb (by omega), st _ _ h2.zr (by omega), ?_, h2.bel.setCell (by show w.heap.size ≤ g; omega) _⟩
  have hw3 : w.heap.size + 1 + 1 < wr.heap.size := (Array.getElem?_eq_some_iff.1 h.zr).1
  exact h.gr.setA hB hk ((ho.own cp).rd'.mono (fun c hc => ⟨⟨by omega, hc.2⟩, by have := hc.1; omega⟩))
noncomputable def rowR (t : Tb) (r : RowV) (list : List MutV) : RowV := if (rowM t r.cells list).1 = 0 then ⟨r.id, (rowM t r.cells list).2⟩ else rowZ
theorem rowR_ok {t : Tb} {r : RowV} {list : List MutV} {cs : List (List At)} (h : rowM t r.cells list = (0, cs)) : rowR t r list = ⟨r.id, cs⟩ ∧ (rowM t r.cells list).1 = 0 := by unfold rowR; rw [h]; exact ⟨if_pos rfl, rfl⟩
theorem rowR_no {t : Tb} {r : RowV} {list : List MutV} {n : Int} {cs : List (List At)} (h : rowM t r.cells list = (n, cs)) (h0 : ¬ n = 0) : rowR t r list = rowZ ∧ (rowM t r.cells list).1 = n := by unfold rowR; rw [h]; exact ⟨if_neg h0, rfl⟩
set_option maxRecDepth 100000 in
set_option maxHeartbeats 12800000 in
theorem mrowS (t : Tb) (ca : Option Addr) (cc : Nat) (ua : Option Addr) (uc : Nat) (A : Nat → Prop) (r : RowV) (ra : Option Addr) (rc : Nat) (R : Nat → Prop) (list : List MutV) (a : Option Addr) (c : Nat) (B : Nat → Prop) (w : World) (hto : t.ok) (hlo : (dMutS list).le 1048576) (hr : (dAtomSS r.cells).le 1048576) (hI : RowI t r.cells) (hq : ∀ k (h : k < list.length), mutB list[k] = true ∧ mutC t list[k] = 0) (hT : t.Has w A ca ua) (hR : Rd w R (dAtomSS r.cells) (.slice ra r.cells.length rc)) (hL : Rd w B (dMutS list) (.slice a list.length c)) :
    Calls Tryz.prog 30 #[.agg #[.string ⟨t.nm.toArray⟩, .slice ca t.cols.length cc, .slice ua t.uq.length uc, .bool t.rt], .agg #[.int .i64 r.id, .slice ra r.cells.length rc], .slice a list.length c] w (RowAns w (rowR t r list) (rowM t r.cells list).1) := by
  have HL : Hid (∀ W, Below w.heap.size w W → Rd W B (Ls 3 dMut list) (.slice a list.length c)) := fun W h => Rd.later hL h
  have HT : Hid (t.ok ∧ ∀ W, Below w.heap.size w W → t.Has W A ca ua) := ⟨hto, fun W h => hT.later h⟩
  have HQ := Lib.hid hq
  have HI0 := Lib.hid hI
  have hll : list.length ≤ 1048576 := (Ls_le.1 hlo).2.1
  have hcl := hto.2.1
  unfold maxLen at hcl
  obtain ⟨w0, hw0⟩ : ∃ w0, w0 = (((w.alloc (.cells #[.string ⟨t.nm.toArray⟩, .slice ca t.cols.length cc, .slice ua t.uq.length uc, .bool t.rt] 27)).alloc (.cells #[.int .i64 r.id, .slice ra r.cells.length rc] 34)).alloc (.cells #[.int .i64 0, .slice none 0 0] 34)) := ⟨_, rfl⟩
  have HS0 : Hid (w0.heap.size = w.heap.size + 1 + 1 + 1) := by show _ = _; rw [hw0]; simp
  have B0 : Hid (Below w.heap.size w w0) := by rw [hw0]; exact (((Below.refl _ _).alloc (Nat.le_refl _) _).alloc (by simp) _).alloc (by simp; omega) _
  have T0 : Hid (w0.heap[w.heap.size]? = some (.cells #[.string ⟨t.nm.toArray⟩, .slice ca t.cols.length cc, .slice ua t.uq.length uc, .bool t.rt] 27)) := by rw [hw0]; exact heap_keptD (heap_keptD (heap_newD _ _) (below_allocD _ _)) (below_allocD _ _)
  have R0 : Hid (w0.heap[w.heap.size + 1]? = some (.cells #[.int .i64 r.id, .slice ra r.cells.length rc] 34)) := by
    have h := heap_newD (w.alloc (.cells #[.string ⟨t.nm.toArray⟩, .slice ca t.cols.length cc, .slice ua t.uq.length uc, .bool t.rt] 27)) (.cells #[.int .i64 r.id, .slice ra r.cells.length rc] 34)
    rw [size_allocD] at h
    rw [hw0]; exact heap_keptD h (below_allocD _ _)
  have Z0 : Hid (w0.heap[w.heap.size + 1 + 1]? = some (.cells #[.int .i64 0, .slice none 0 0] 34)) := by
    have h := heap_newD ((w.alloc (.cells #[.string ⟨t.nm.toArray⟩, .slice ca t.cols.length cc, .slice ua t.uq.length uc, .bool t.rt] 27)).alloc (.cells #[.int .i64 r.id, .slice ra r.cells.length rc] 34)) (.cells #[.int .i64 0, .slice none 0 0] 34)
    rw [size_allocD, size_allocD] at h
    rw [hw0]; exact h
  have OW := Lib.hid (ownRowG r ra rc R w0 hr (hR.later B0.out))
  have HW0 := Lib.hid hw0
  have rb0 := cell_at (o := 0) R0.out rfl
  have rb1 := cell_at (o := 1) R0.out rfl
  rw [hw0] at rb0 rb1
  clear hto hlo hr hI hq hT hR hL hw0
  go_enter Tryz.func30, Tryz.ntmps30
  go_wp2_with fail
  rw [← HW0.out]
  refine OW.out.mono ?_
  rintro e w1 ⟨oa, oc, rfl, hsg, hB1⟩
  clear rb0 rb1
  have h1R := heap_keptD R0.out hB1
  have rb0 := cell_at (o := 0) h1R rfl
  have rb1 := cell_at (o := 1) h1R rfl
  have rf0 := frozen_at 0 h1R
  have rf1 := frozen_at 1 h1R
  have ST0 : Hid (SPS w ((w1.setCell ⟨w.heap.size + 1, 0, none⟩ (.int .i64 r.id)).setCell ⟨w.heap.size + 1, 1, none⟩ (.slice oa r.cells.length oc)) #[.string ⟨t.nm.toArray⟩, .slice ca t.cols.length cc, .slice ua t.uq.length uc, .bool t.rt] r.id r.cells (.slice oa r.cells.length oc)) := by
    have hs := HS0.out
    have keep : ∀ b x, w1.heap[b]? = some x → b ≠ w.heap.size + 1 → ((w1.setCell ⟨w.heap.size + 1, 0, none⟩ (.int .i64 r.id)).setCell ⟨w.heap.size + 1, 1, none⟩ (.slice oa r.cells.length oc)).heap[b]? = some x := fun b x hx hn => by rw [Below.heap_setCell _ ⟨w.heap.size + 1, 1, none⟩ _ _ hn, Below.heap_setCell _ ⟨w.heap.size + 1, 0, none⟩ _ _ hn]; exact hx
    refine ⟨keep _ _ (heap_keptD T0.out hB1) (by omega), heap_set 1 _ (heap_set 0 _ h1R), keep _ _ (heap_keptD Z0.out hB1) (by omega), ?_, ((B0.out.trans (hB1.mono B0.out.size)).setCell (by show w.heap.size ≤ w.heap.size + 1; omega) _).setCell (by show w.heap.size ≤ w.heap.size + 1; omega) _⟩
    refine (SG.wide hsg (base' := w.heap.size + 1 + 1 + 1) (G' := fun c => w.heap.size + 1 + 1 + 1 ≤ c) (by omega) (fun c hc => by omega)).same (p := w.heap.size + 1) (by simp [World.setCell]) (fun b hn => ?_) (fun e => ?_) (fun c hc => by omega)
    · rw [Below.heap_setCell _ ⟨w.heap.size + 1, 1, none⟩ _ _ hn, Below.heap_setCell _ ⟨w.heap.size + 1, 0, none⟩ _ _ hn]
    · have := (hsg.low e).1; omega
  clear hsg hB1 h1R
  go_wp2_with fail
  clear rb0 rb1 rf0 rf1
  go_loopw [8] (fun i wr => ∃ m : Nat, m ≤ list.length ∧ i = .int .i64 m ∧ Hid (∃ cs v, SPS w wr #[.string ⟨t.nm.toArray⟩, .slice ca t.cols.length cc, .slice ua t.uq.length uc, .bool t.rt] r.id cs v ∧ RowI t cs ∧ rowM t r.cells list = rowM t cs (list.drop m))) (fun i _ => list.length - (intOf i).toNat)
  case atStart => exact ⟨0, Nat.zero_le _, rfl, _, _, ST0.out, HI0.out, by rw [List.drop_zero]⟩
  case round =>
    obtain ⟨m, hm, rfl, HX⟩ := hrel
    obtain ⟨cs, v, hS, hI, hM⟩ := HX.out
    by_cases hlt : m < list.length
    case neg =>
      have hmi : decide ((m : Int) < (list.length : Int)) = false := by simp; omega
      have HP : Hid (rowR t r list = ⟨r.id, cs⟩ ∧ (rowM t r.cells list).1 = 0) := rowR_ok (by rw [hM, List.drop_eq_nil_of_le (by omega)]; rfl)
      obtain ⟨va, vq, rfl⟩ := hS.gr.shape
      have HS := Lib.hid hS
      have r0 := cell_at (o := 0) hS.rb rfl
      have r1 := cell_at (o := 1) hS.rb rfl
      have z0 := cell_at (o := 0) hS.zr rfl
      have z1 := cell_at (o := 1) hS.zr rfl
      have g0 := frozen_at 0 hS.zr
      have g1 := frozen_at 1 hS.zr
      clear hS hI hM
      go_wp2_with fail
      refine bodyPost_ret (v := .tuple #[.agg #[.int .i64 r.id, .slice va cs.length vq], .int .i64 0]) (by simp [results, Tryz.results30, go_sem, *]) rfl ?_
      rw [HP.out.1, HP.out.2]
      refine ⟨va, vq, rfl, ?_, (HS.out.bel.setCell (by show w.heap.size ≤ w.heap.size + 1 + 1; omega) _).setCell (by show w.heap.size ≤ w.heap.size + 1 + 1; omega) _⟩
      have hr := HS.out.gr.rd (by omega) (fun g hg => (HS.out.gr.low hg).1)
      exact (hr.frm (F := (· = w.heap.size + 1 + 1)) ((frm_set _ _ _ _).trans (frm_set _ _ _ _)) (fun b hb e => by have h1 := hb.1; have e2 : b = w.heap.size + 1 + 1 := e; omega)).mono (fun b hb => ⟨by have := hb.1; omega, by simpa using hb.2⟩)
    have hmi : (m : Int) < (list.length : Int) := by omega
    obtain ⟨k, hk, hpl, hmk⟩ := mutC_place (HQ.out m hlt).2
    have hlen := hI.1
    have hkc : k < cs.length := by omega
    obtain ⟨g, cap, da, dc, rfl, hgg, gc, gf, gr⟩ := hS.gr.at hkc
    have HS := Lib.hid hS
    have HCM := Lib.hid (CanM.row hI hk (HQ.out m hlt).1 hmk)
    obtain ⟨b, off, rfl, -, hc⟩ := (HL.out _ hS.bel).things m hlt
    obtain ⟨u0, l0, r0⟩ := hc 0 (by omega)
    obtain rfl : u0 = .string ⟨list[m].col.toArray⟩ := r0
    rw [Nat.add_zero] at l0
    obtain ⟨u1, l1, r1⟩ := hc 1 (by omega)
    obtain rfl : u1 = .int .i64 list[m].fn := r1
    obtain ⟨u2, l2, r2⟩ := hc 2 (by omega)
    replace r2 : Rd wr B (dAtomS list[m].val) u2 := r2
    obtain ⟨va, vc, rfl⟩ := r2.lsSlice
    obtain ⟨b1, off1, hca, -, -⟩ := (HT.out.2 _ hS.bel).1.at k hk
    subst hca
    have LC : Hid (∀ W, Below wr.heap.size wr W → W.cell? ⟨b, off + m * 3, none⟩ = some (.string ⟨list[m].col.toArray⟩) ∧ W.cell? ⟨b, off + m * 3 + 1, none⟩ = some (.int .i64 list[m].fn) ∧ W.cell? ⟨b, off + m * 3 + 2, none⟩ = some (.slice va list[m].val.length vc)) := fun W h => ⟨cell_kept l0 h, cell_kept l1 h, cell_kept l2 h⟩
    have TCE : Hid (∀ W, Below wr.heap.size wr W → W.cell? ⟨w.heap.size, 0, none⟩ = some (.string ⟨t.nm.toArray⟩) ∧ W.cell? ⟨w.heap.size, 1, none⟩ = some (.slice (some ⟨b1, off1, none⟩) t.cols.length cc) ∧ W.cell? ⟨w.heap.size, 2, none⟩ = some (.slice ua t.uq.length uc) ∧ W.cell? ⟨w.heap.size, 3, none⟩ = some (.bool t.rt)) := fun W h => ⟨cell_at (o := 0) (HS.out.later h).tb rfl, cell_at (o := 1) (HS.out.later h).tb rfl, cell_at (o := 2) (HS.out.later h).tb rfl, cell_at (o := 3) (HS.out.later h).tb rfl⟩
    have CCE : Hid (∀ W, Below wr.heap.size wr W → W.cell? ⟨b1, off1 + k * 8, none⟩ = some (.string ⟨t.cols[k].nm.toArray⟩) ∧ W.cell? ⟨b1, off1 + k * 8 + 1, none⟩ = some (.int .i64 t.cols[k].k) ∧ W.cell? ⟨b1, off1 + k * 8 + 2, none⟩ = some (.int .i64 t.cols[k].mn) ∧ W.cell? ⟨b1, off1 + k * 8 + 3, none⟩ = some (.int .i64 t.cols[k].mx) ∧ W.cell? ⟨b1, off1 + k * 8 + 4, none⟩ = some (.int .i64 t.cols[k].lo) ∧ W.cell? ⟨b1, off1 + k * 8 + 5, none⟩ = some (.int .i64 t.cols[k].hi) ∧ W.cell? ⟨b1, off1 + k * 8 + 6, none⟩ = some (.string ⟨t.cols[k].rf.toArray⟩) ∧ W.cell? ⟨b1, off1 + k * 8 + 7, none⟩ = some (.bool t.cols[k].st)) := fun W h => by
      obtain ⟨b2, off2, e2, -, hc2⟩ := (HT.out.2 W (HS.out.bel.trans (h.mono HS.out.bel.size))).1.at k hk
      simp only [Option.some.injEq, Addr.mk.injEq, and_true] at e2
      obtain ⟨rfl, rfl⟩ := e2
      exact hc2 k hk
    have RCE : Hid (∀ W, Below wr.heap.size wr W → W.cell? ⟨w.heap.size + 1, 1, none⟩ = some (.slice (some ⟨g, 0, none⟩) cs.length cap) ∧ W.cell? ⟨g, k, none⟩ = some (.slice da cs[k].length dc)) := fun W h => ⟨cell_at (o := 1) (HS.out.later h).rb rfl, cell_kept gc h⟩
    have PL : Hid (∀ W, Below wr.heap.size wr W → Calls Tryz.prog 50 #[.agg #[.string ⟨t.nm.toArray⟩, .slice (some ⟨b1, off1, none⟩) t.cols.length cc, .slice ua t.uq.length uc, .bool t.rt], .string ⟨list[m].col.toArray⟩] W fun e w' => e = .returned (.int .i64 (k : Int)) ∧ Below W.heap.size W w') := fun W h => by
      rw [← hpl]
      exact placeS t list[m].col _ cc ua uc A W HT.out.1.2.1 (HT.out.2 W (HS.out.bel.trans (h.mono HS.out.bel.size)))
    have MU : Hid (∀ W, Below wr.heap.size wr W → Calls Tryz.prog 51 #[.agg #[.string ⟨t.cols[k].nm.toArray⟩, .int .i64 t.cols[k].k, .int .i64 t.cols[k].mn, .int .i64 t.cols[k].mx, .int .i64 t.cols[k].lo, .int .i64 t.cols[k].hi, .string ⟨t.cols[k].rf.toArray⟩, .bool t.cols[k].st], .slice da cs[k].length dc, .agg #[.string ⟨list[m].col.toArray⟩, .int .i64 list[m].fn, .slice va list[m].val.length vc]] W (AAns2 W (mutP t.cols[k] cs[k] list[m]).2 (mutP t.cols[k] cs[k] list[m]).1)) := fun W h => mutateS t.cols[k] cs[k] list[m] da dc va vc W.heap.size W HCM.out (Nat.le_refl _) (gr.later h).lt.ats (r2.later h).lt.ats
    have HST : Hid ((mutP t.cols[k] cs[k] list[m]).1 = 0 → RowI t (cs.set k (mutP t.cols[k] cs[k] list[m]).2) ∧ rowM t r.cells list = rowM t (cs.set k (mutP t.cols[k] cs[k] list[m]).2) (list.drop (m + 1))) := fun h0 => ⟨hI.set hk (mutP_ok HCM.out h0).1 (mutP_ok HCM.out h0).2.1, hM.trans (rowM_step hlt hk hlen hpl h0)⟩
    have HSP : Hid (¬ (mutP t.cols[k] cs[k] list[m]).1 = 0 → rowR t r list = rowZ ∧ (rowM t r.cells list).1 = (mutP t.cols[k] cs[k] list[m]).1) := fun h0 => rowR_no (hM.trans (rowM_stop hlt hk hlen hpl h0)) h0
    have hk1 : (k : Int) < (t.cols.length : Int) := by omega
    have hk2 : (k : Int) < (cs.length : Int) := by omega
    have HK := Lib.hid (And.intro hkc (And.intro hlen hgg))
    clear hS hI hM hpl hmk hc l0 l1 l2 r2 gr gc gf hgg HCM
    generalize cs[k] = d at *
    generalize t.cols[k] = x at *
    generalize list[m] = y at *
    clear hk hlen hkc
    go_wp2_with fail
    have CX5 : Hid (∀ W, Below wr.heap.size wr W → W.cell? ⟨w.heap.size, 0, none⟩ = some (.string ⟨t.nm.toArray⟩) ∧ W.cell? ⟨w.heap.size, 1, none⟩ = some (.slice (some ⟨b1, off1, none⟩) t.cols.length cc) ∧ W.cell? ⟨w.heap.size, 2, none⟩ = some (.slice ua t.uq.length uc) ∧ W.cell? ⟨w.heap.size, 3, none⟩ = some (.bool t.rt) ∧ W.cell? ⟨b, off + m * 3, none⟩ = some (.string ⟨y.col.toArray⟩) ∧ W.cell? ⟨b, off + m * 3 + 1, none⟩ = some (.int .i64 y.fn) ∧ W.cell? ⟨b, off + m * 3 + 2, none⟩ = some (.slice va y.val.length vc)) := fun W h => ⟨(TCE.out W h).1, (TCE.out W h).2.1, (TCE.out W h).2.2.1, (TCE.out W h).2.2.2, LC.out W h⟩
    refine wp_region_held_drew (S := (fun W => W.cell? ⟨w.heap.size, 0, none⟩ = some (.string ⟨t.nm.toArray⟩) ∧ W.cell? ⟨w.heap.size, 1, none⟩ = some (.slice (some ⟨b1, off1, none⟩) t.cols.length cc) ∧ W.cell? ⟨w.heap.size, 2, none⟩ = some (.slice ua t.uq.length uc) ∧ W.cell? ⟨w.heap.size, 3, none⟩ = some (.bool t.rt) ∧ W.cell? ⟨b, off + m * 3, none⟩ = some (.string ⟨y.col.toArray⟩) ∧ W.cell? ⟨b, off + m * 3 + 1, none⟩ = some (.int .i64 y.fn) ∧ W.cell? ⟨b, off + m * 3 + 2, none⟩ = some (.slice va y.val.length vc))) (by kernel_rfl) ?_ (fun hHeld => ?_)
    · (first | exact CX5.out _ (Below.refl _ _) | exact CX5.out _ (Below.refl _ _).drew | exact CX5.out _ BW.out)
    refine wpAnyH_take (i := 0) (v := ?_) rfl (by kernel_rfl) (by kernel_rfl) (by kernel_rfl) (fun _ _ _ h => h) (Or.inl ⟨by kernel_rfl, ?_⟩) (by assumption) ?_
    rotate_left
    · (intro wS hSw; (try dsimp only at hSw); go_simp <;> with_reducible rfl)
    try simp only [Act.put, tkS]
    refine wpAnyH_take (i := 1) (v := ?_) rfl (by kernel_rfl) (by kernel_rfl) (by kernel_rfl) (fun _ _ _ h => h) (Or.inl ⟨by kernel_rfl, ?_⟩) (by assumption) ?_
    rotate_left
    · (intro wS hSw; (try dsimp only at hSw); go_simp <;> with_reducible rfl)
    try simp only [Act.put, tkS]
    refine wpAnyH_take (i := 2) (v := ?_) rfl (by kernel_rfl) (by kernel_rfl) (by kernel_rfl) (fun _ _ _ h => h) (Or.inl ⟨by kernel_rfl, ?_⟩) (by assumption) ?_
    rotate_left
    · (intro wS hSw; (try dsimp only at hSw); go_simp <;> with_reducible rfl)
    try simp only [Act.put, tkS]
    refine wpAnyH_take (i := 3) (v := ?_) rfl (by kernel_rfl) (by kernel_rfl) (by kernel_rfl) (fun _ _ _ h => h) (Or.inl ⟨by kernel_rfl, ?_⟩) (by assumption) ?_
    rotate_left
    · (intro wS hSw; (try dsimp only at hSw); go_simp <;> with_reducible rfl)
    try simp only [Act.put, tkS]
    refine wpAnyH_take (i := 4) (v := ?_) rfl (by kernel_rfl) (by kernel_rfl) (by kernel_rfl) (fun _ _ _ h => h) (Or.inl ⟨by kernel_rfl, ?_⟩) (by assumption) ?_
    rotate_left
    · (intro wS hSw; (try dsimp only at hSw); go_simp <;> with_reducible rfl)
    try simp only [Act.put, tkS]
    refine wpAnyH_take (i := 5) (v := ?_) rfl (by kernel_rfl) (by kernel_rfl) (by kernel_rfl) (fun _ _ _ h => h) (Or.inl ⟨by kernel_rfl, ?_⟩) (by assumption) ?_
    rotate_left
    · (intro wS hSw; (try dsimp only at hSw); go_simp <;> with_reducible rfl)
    try simp only [Act.put, tkS]
    refine wpAnyH_ready (rs := [6]) (by kernel_rfl) (by simp) (AllReadyH.cons rfl (fun K hK => ?_) AllReadyH.nil)
    go_simp
    (go_at_call 50; refine (PL.out _ (Below.refl _ _).drew).mono ?_; rintro e w2 ⟨rfl, hB⟩; have BW : Hid (Below wr.heap.size wr w2) := (Below.refl _ _).drew.trans hB; clear hB)
    refine hK.out _ _ ?_ (fun hHeld => ?_)
    · (first | exact CX5.out _ (Below.refl _ _) | exact CX5.out _ (Below.refl _ _).drew | exact CX5.out _ BW.out)
    clear hK K
    try simp only [Act.put, tkS]
    refine wpAnyH_take (i := 7) (v := ?_) rfl (by kernel_rfl) (by kernel_rfl) (by kernel_rfl) (fun _ _ _ h => h) (Or.inl ⟨by kernel_rfl, ?_⟩) (by assumption) ?_
    rotate_left
    · (intro wS hSw; (try dsimp only at hSw); go_simp <;> with_reducible rfl)
    try simp only [Act.put, tkS]
    refine wpAnyH_done (by kernel_rfl) ?_ _
    go_wp2_with fail
    have CX6 : Hid (∀ W, Below wr.heap.size wr W → W.cell? ⟨w.heap.size, 1, none⟩ = some (.slice (some ⟨b1, off1, none⟩) t.cols.length cc) ∧ W.cell? ⟨b1, off1 + k * 8, none⟩ = some (.string ⟨x.nm.toArray⟩) ∧ W.cell? ⟨b1, off1 + k * 8 + 1, none⟩ = some (.int .i64 x.k) ∧ W.cell? ⟨b1, off1 + k * 8 + 2, none⟩ = some (.int .i64 x.mn) ∧ W.cell? ⟨b1, off1 + k * 8 + 3, none⟩ = some (.int .i64 x.mx) ∧ W.cell? ⟨b1, off1 + k * 8 + 4, none⟩ = some (.int .i64 x.lo) ∧ W.cell? ⟨b1, off1 + k * 8 + 5, none⟩ = some (.int .i64 x.hi) ∧ W.cell? ⟨b1, off1 + k * 8 + 6, none⟩ = some (.string ⟨x.rf.toArray⟩) ∧ W.cell? ⟨b1, off1 + k * 8 + 7, none⟩ = some (.bool x.st) ∧ W.cell? ⟨w.heap.size + 1, 1, none⟩ = some (.slice (some ⟨g, 0, none⟩) cs.length cap) ∧ W.cell? ⟨g, k, none⟩ = some (.slice da d.length dc) ∧ W.cell? ⟨b, off + m * 3, none⟩ = some (.string ⟨y.col.toArray⟩) ∧ W.cell? ⟨b, off + m * 3 + 1, none⟩ = some (.int .i64 y.fn) ∧ W.cell? ⟨b, off + m * 3 + 2, none⟩ = some (.slice va y.val.length vc)) := fun W h => by
      obtain ⟨e0, e1, e2, e3, e4, e5, e6, e7⟩ := CCE.out W h
      obtain ⟨f0, f1⟩ := RCE.out W h
      obtain ⟨i0, i1, i2⟩ := LC.out W h
      exact ⟨(TCE.out W h).2.1, e0, e1, e2, e3, e4, e5, e6, e7, f0, f1, i0, i1, i2⟩
    refine wp_region_held_drew (S := (fun W => W.cell? ⟨w.heap.size, 1, none⟩ = some (.slice (some ⟨b1, off1, none⟩) t.cols.length cc) ∧ W.cell? ⟨b1, off1 + k * 8, none⟩ = some (.string ⟨x.nm.toArray⟩) ∧ W.cell? ⟨b1, off1 + k * 8 + 1, none⟩ = some (.int .i64 x.k) ∧ W.cell? ⟨b1, off1 + k * 8 + 2, none⟩ = some (.int .i64 x.mn) ∧ W.cell? ⟨b1, off1 + k * 8 + 3, none⟩ = some (.int .i64 x.mx) ∧ W.cell? ⟨b1, off1 + k * 8 + 4, none⟩ = some (.int .i64 x.lo) ∧ W.cell? ⟨b1, off1 + k * 8 + 5, none⟩ = some (.int .i64 x.hi) ∧ W.cell? ⟨b1, off1 + k * 8 + 6, none⟩ = some (.string ⟨x.rf.toArray⟩) ∧ W.cell? ⟨b1, off1 + k * 8 + 7, none⟩ = some (.bool x.st) ∧ W.cell? ⟨w.heap.size + 1, 1, none⟩ = some (.slice (some ⟨g, 0, none⟩) cs.length cap) ∧ W.cell? ⟨g, k, none⟩ = some (.slice da d.length dc) ∧ W.cell? ⟨b, off + m * 3, none⟩ = some (.string ⟨y.col.toArray⟩) ∧ W.cell? ⟨b, off + m * 3 + 1, none⟩ = some (.int .i64 y.fn) ∧ W.cell? ⟨b, off + m * 3 + 2, none⟩ = some (.slice va y.val.length vc))) (by kernel_rfl) ?_ (fun hHeld => ?_)
    · (first | exact CX6.out _ BW.out | exact CX6.out _ BW.out.drew | exact CX6.out _ BW3.out)
    refine wpAnyH_take (i := 0) (v := ?_) rfl (by kernel_rfl) (by kernel_rfl) (by kernel_rfl) (fun _ _ _ h => h) (Or.inl ⟨by kernel_rfl, ?_⟩) (by assumption) ?_
    rotate_left
    · (intro wS hSw; (try dsimp only at hSw); go_simp <;> with_reducible rfl)
    try simp only [Act.put, tkS]
    refine wpAnyH_take (i := 1) (v := ?_) rfl (by kernel_rfl) (by kernel_rfl) (by kernel_rfl) (fun _ _ _ h => h) (Or.inl ⟨by kernel_rfl, ?_⟩) (by assumption) ?_
    rotate_left
    · (intro wS hSw; (try dsimp only at hSw); go_simp <;> with_reducible rfl)
    try simp only [Act.put, tkS]
    refine wpAnyH_take (i := 2) (v := ?_) rfl (by kernel_rfl) (by kernel_rfl) (by kernel_rfl) (fun _ _ _ h => h) (Or.inl ⟨by kernel_rfl, ?_⟩) (by assumption) ?_
    rotate_left
    · (intro wS hSw; (try dsimp only at hSw); go_simp <;> with_reducible rfl)
    try simp only [Act.put, tkS]
    refine wpAnyH_take (i := 3) (v := ?_) rfl (by kernel_rfl) (by kernel_rfl) (by kernel_rfl) (fun _ _ _ h => h) (Or.inl ⟨by kernel_rfl, ?_⟩) (by assumption) ?_
    rotate_left
    · (intro wS hSw; (try dsimp only at hSw); go_simp <;> with_reducible rfl)
    try simp only [Act.put, tkS]
    refine wpAnyH_take (i := 4) (v := ?_) rfl (by kernel_rfl) (by kernel_rfl) (by kernel_rfl) (fun _ _ _ h => h) (Or.inl ⟨by kernel_rfl, ?_⟩) (by assumption) ?_
    rotate_left
    · (intro wS hSw; (try dsimp only at hSw); go_simp <;> with_reducible rfl)
    try simp only [Act.put, tkS]
    refine wpAnyH_take (i := 5) (v := ?_) rfl (by kernel_rfl) (by kernel_rfl) (by kernel_rfl) (fun _ _ _ h => h) (Or.inl ⟨by kernel_rfl, ?_⟩) (by assumption) ?_
    rotate_left
    · (intro wS hSw; (try dsimp only at hSw); go_simp <;> with_reducible rfl)
    try simp only [Act.put, tkS]
    refine wpAnyH_take (i := 6) (v := ?_) rfl (by kernel_rfl) (by kernel_rfl) (by kernel_rfl) (fun _ _ _ h => h) (Or.inl ⟨by kernel_rfl, ?_⟩) (by assumption) ?_
    rotate_left
    · (intro wS hSw; (try dsimp only at hSw); go_simp <;> with_reducible rfl)
    try simp only [Act.put, tkS]
    refine wpAnyH_take (i := 7) (v := ?_) rfl (by kernel_rfl) (by kernel_rfl) (by kernel_rfl) (fun _ _ _ h => h) (Or.inl ⟨by kernel_rfl, ?_⟩) (by assumption) ?_
    rotate_left
    · (intro wS hSw; (try dsimp only at hSw); go_simp <;> with_reducible rfl)
    try simp only [Act.put, tkS]
    refine wpAnyH_take (i := 8) (v := ?_) rfl (by kernel_rfl) (by kernel_rfl) (by kernel_rfl) (fun _ _ _ h => h) (Or.inl ⟨by kernel_rfl, ?_⟩) (by assumption) ?_
    rotate_left
    · (intro wS hSw; (try dsimp only at hSw); go_simp <;> with_reducible rfl)
    try simp only [Act.put, tkS]
    refine wpAnyH_take (i := 9) (v := ?_) rfl (by kernel_rfl) (by kernel_rfl) (by kernel_rfl) (fun _ _ _ h => h) (Or.inl ⟨by kernel_rfl, ?_⟩) (by assumption) ?_
    rotate_left
    · (intro wS hSw; (try dsimp only at hSw); go_simp <;> with_reducible rfl)
    try simp only [Act.put, tkS]
    refine wpAnyH_take (i := 10) (v := ?_) rfl (by kernel_rfl) (by kernel_rfl) (by kernel_rfl) (fun _ _ _ h => h) (Or.inl ⟨by kernel_rfl, ?_⟩) (by assumption) ?_
    rotate_left
    · (intro wS hSw; (try dsimp only at hSw); go_simp <;> with_reducible rfl)
    try simp only [Act.put, tkS]
    refine wpAnyH_take (i := 11) (v := ?_) rfl (by kernel_rfl) (by kernel_rfl) (by kernel_rfl) (fun _ _ _ h => h) (Or.inl ⟨by kernel_rfl, ?_⟩) (by assumption) ?_
    rotate_left
    · (intro wS hSw; (try dsimp only at hSw); go_simp <;> with_reducible rfl)
    try simp only [Act.put, tkS]
    refine wpAnyH_take (i := 12) (v := ?_) rfl (by kernel_rfl) (by kernel_rfl) (by kernel_rfl) (fun _ _ _ h => h) (Or.inl ⟨by kernel_rfl, ?_⟩) (by assumption) ?_
    rotate_left
    · (intro wS hSw; (try dsimp only at hSw); go_simp <;> with_reducible rfl)
    try simp only [Act.put, tkS]
    refine wpAnyH_take (i := 13) (v := ?_) rfl (by kernel_rfl) (by kernel_rfl) (by kernel_rfl) (fun _ _ _ h => h) (Or.inl ⟨by kernel_rfl, ?_⟩) (by assumption) ?_
    rotate_left
    · (intro wS hSw; (try dsimp only at hSw); go_simp <;> with_reducible rfl)
    try simp only [Act.put, tkS]
    refine wpAnyH_ready (rs := [14]) (by kernel_rfl) (by simp) (AllReadyH.cons rfl (fun K hK => ?_) AllReadyH.nil)
    go_simp
    (go_at_call 51; refine (MU.out _ BW.out.drew).mono ?_; rintro e w3 ⟨na, nc, rfl, ho, hB⟩; have BW3 : Hid (Below wr.heap.size wr w3) := BW.out.drew.trans (hB.mono BW.out.drew.size); have HO : Hid (OwnAts w3 (fun c => wr.heap.size ≤ c ∧ c < w3.heap.size) na (mutP x d y).2) := ho.same (fun _ _ => rfl) (fun _ hb => ⟨Nat.le_trans BW.out.drew.size hb.1, hb.2⟩); clear ho hB)
    refine hK.out _ _ ?_ (fun hHeld => ?_)
    · (first | exact CX6.out _ BW.out | exact CX6.out _ BW.out.drew | exact CX6.out _ BW3.out)
    clear hK K
    try simp only [Act.put, tkS]
    refine wpAnyH_take (i := 15) (v := ?_) rfl (by kernel_rfl) (by kernel_rfl) (by kernel_rfl) (fun _ _ _ h => h) (Or.inl ⟨by kernel_rfl, ?_⟩) (by assumption) ?_
    rotate_left
    · (intro wS hSw; (try dsimp only at hSw); go_simp <;> with_reducible rfl)
    try simp only [Act.put, tkS]
    refine wpAnyH_take (i := 16) (v := ?_) rfl (by kernel_rfl) (by kernel_rfl) (by kernel_rfl) (fun _ _ _ h => h) (Or.inl ⟨by kernel_rfl, ?_⟩) (by assumption) ?_
    rotate_left
    · (intro wS hSw; (try dsimp only at hSw); go_simp <;> with_reducible rfl)
    try simp only [Act.put, tkS]
    refine wpAnyH_take (i := 17) (v := ?_) rfl (by kernel_rfl) (by kernel_rfl) (by kernel_rfl) (fun _ _ _ h => h) (Or.inl ⟨by kernel_rfl, ?_⟩) (by assumption) ?_
    rotate_left
    · (intro wS hSw; (try dsimp only at hSw); go_simp <;> with_reducible rfl)
    try simp only [Act.put, tkS]
    refine wpAnyH_take (i := 18) (v := ?_) rfl (by kernel_rfl) (by kernel_rfl) (by kernel_rfl) (fun _ _ _ h => h) (Or.inl ⟨by kernel_rfl, ?_⟩) (by assumption) ?_
    rotate_left
    · (intro wS hSw; (try dsimp only at hSw); go_simp <;> with_reducible rfl)
    try simp only [Act.put, tkS]
    refine wpAnyH_take (i := 19) (v := ?_) rfl (by kernel_rfl) (by kernel_rfl) (by kernel_rfl) (fun _ _ _ h => h) (Or.inl ⟨by kernel_rfl, ?_⟩) (by assumption) ?_
    rotate_left
    · (intro wS hSw; (try dsimp only at hSw); go_simp <;> with_reducible rfl)
    try simp only [Act.put, tkS]
    refine wpAnyH_done (by kernel_rfl) ?_ _
    have HS3 := Lib.hid (HS.out.later BW3.out)
    generalize hmp : mutP x d y = mp at *
    clear hmp
    obtain ⟨mc, mo⟩ := mp
    dsimp only at HST HSP HO ⊢
    by_cases h0 : mc = 0
    case neg =>
      have HP := Lib.hid (HSP.out h0)
      have hne : (mc != 0) = true := by simpa using h0
      have z0 := cell_at (o := 0) HS3.out.zr rfl
      have zf0 := frozen_at 0 HS3.out.zr
      have z1 := cell_at (o := 1) HS3.out.zr rfl
      have zf1 := frozen_at 1 HS3.out.zr
      clear h0 HST HSP PL MU
      go_wp2_with fail
      refine bodyPost_ret (v := .tuple #[.agg #[.int .i64 0, .slice none 0 0], .int .i64 mc]) (by simp [results, Tryz.results30, go_sem, *]) rfl ?_
      rw [HP.out.1, HP.out.2]
      exact ⟨none, 0, rfl, Rd.lsNil _ _, (HS3.out.bel.setCell (by show w.heap.size ≤ w.heap.size + 1 + 1; omega) _).setCell (by show w.heap.size ≤ w.heap.size + 1 + 1; omega) _⟩
    have HN := Lib.hid (HST.out h0)
    subst h0
    have HS4 := Lib.hid (HS.out.store (cp := nc) HK.out.2.2 BW3.out HK.out.1 HO.out)
    have q1 := (RCE.out _ BW3.out).1
    have q2 := (RCE.out _ BW3.out).2
    obtain ⟨g9, cap9, da9, dc9, e9, -, -, gf, -⟩ := HS3.out.gr.at (k := k) HK.out.1
    simp only [Value.slice.injEq, Option.some.injEq, Addr.mk.injEq, and_true, true_and] at e9
    obtain ⟨rfl, rfl⟩ := e9
    clear HST HSP PL MU
    go_wp2_with fail
    go_roundw
    case rel => exact ⟨m + 1, by omega, by go_num, _, _, HS4.out, HN.out.1, HN.out.2⟩
    case measure => simp [intOf]; omega
end Go.Proofs.YtgpoigkfoliflaaGreatDoor
