import Derived.Test.YtajhjjpanjpfoaaZbq
import Derived.Test.YtajhjjpanjpfoaaZbf
import Derived.Test.YtajhjjpanjpfoaaZau
import Derived.Test.YtajhjjpanjpfoaaZba
import Derived.Test.YtajhjjpanjpfoaaZbr
import Derived.Test.YtajhjjpanjpfoaaZTk
namespace Go.Proofs.Ytajhjjpanjpfoaa
open Go.RowKit
set_option linter.unusedSimpArgs false
theorem cell_keptX {w w' : World} {b o : Nat} {v : Value} (h : w.cell? ⟨b, o, none⟩ = some v) (hB : Below w.heap.size w w') : w'.cell? ⟨b, o, none⟩ = some v := (hB.cell (p := ⟨b, o, none⟩) (World.block_lt_of_cell? _ _ h)).trans h
noncomputable def rowW (t : Tb) : List (List At) → List SetV → Int × List (List At)
  | cs, [] => (0, cs)
  | cs, x :: l => if fitC (t.cols.getD (placeC t.cols x.col).toNat clZ) x.val = 0 then rowW t (cs.set (placeC t.cols x.col).toNat x.val) l else (fitC (t.cols.getD (placeC t.cols x.col).toNat clZ) x.val, [])
theorem rowW_step {t : Tb} {cs : List (List At)} {list : List SetV} {m k : Nat} (hm : m < list.length) (hk : k < t.cols.length) (hp : placeC t.cols list[m].col = (k : Int)) (h0 : fitC t.cols[k] list[m].val = 0) : rowW t cs (list.drop m) = rowW t (cs.set k list[m].val) (list.drop (m + 1)) := by
  rw [List.drop_eq_getElem_cons hm]
  conv => lhs; unfold rowW
  rw [hp, Int.toNat_natCast]
  have e1 : t.cols.getD k clZ = t.cols[k] := by rw [List.getD_eq_getElem?_getD, List.getElem?_eq_getElem hk]; rfl
  rw [e1, if_pos h0]
theorem rowW_stop {t : Tb} {cs : List (List At)} {list : List SetV} {m k : Nat} (hm : m < list.length) (hk : k < t.cols.length) (hp : placeC t.cols list[m].col = (k : Int)) (h0 : ¬ fitC t.cols[k] list[m].val = 0) : rowW t cs (list.drop m) = (fitC t.cols[k] list[m].val, []) := by
  rw [List.drop_eq_getElem_cons hm]
  unfold rowW
  rw [hp, Int.toNat_natCast]
  have e1 : t.cols.getD k clZ = t.cols[k] := by rw [List.getD_eq_getElem?_getD, List.getElem?_eq_getElem hk]; rfl
  rw [e1, if_neg h0]
noncomputable def rowWR (t : Tb) (r : RowV) (list : List SetV) : RowV := if (rowW t r.cells list).1 = 0 then ⟨r.id, (rowW t r.cells list).2⟩ else rowZ
theorem rowW_ok {t : Tb} {r : RowV} {list : List SetV} {cs : List (List At)} (h : rowW t r.cells list = (0, cs)) : rowWR t r list = ⟨r.id, cs⟩ ∧ (rowW t r.cells list).1 = 0 := by unfold rowWR; rw [h]; exact ⟨if_pos rfl, rfl⟩
theorem rowW_no {t : Tb} {r : RowV} {list : List SetV} {n : Int} {cs : List (List At)} (h : rowW t r.cells list = (n, cs)) (h0 : ¬ n = 0) : rowWR t r list = rowZ ∧ (rowW t r.cells list).1 = n := by unfold rowWR; rw [h]; exact ⟨if_neg h0, rfl⟩
def valsB (list : List SetV) : Bool := list.all valB && decide (list.length ≤ 6)
theorem vals_all {list : List SetV} (h : valsB list = true) : list.length ≤ 6 ∧ ∀ k (hk : k < list.length), valB list[k] = true := by
  unfold valsB at h
  simp only [Bool.and_eq_true, decide_eq_true_eq] at h
  exact ⟨h.2, fun k hk => List.all_eq_true.1 h.1 _ (List.getElem_mem hk)⟩
theorem val_set {x : SetV} (h : valB x = true) : setB x = true ∧ x.nms.length = 0 := by
  unfold valB at h
  simp only [Bool.and_eq_true, decide_eq_true_eq] at h
  exact h
noncomputable def seC (t : Tb) (r : RowV) (list : List SetV) : Int := if 4096 < list.length then 2 else if rokM t r = true ∧ valsB list = true then (if setsC t list = 0 then (rowW t r.cells list).1 else setsC t list) else 1
noncomputable def seR (t : Tb) (r : RowV) (list : List SetV) : RowV := if ¬ 4096 < list.length ∧ rokM t r = true ∧ valsB list = true ∧ setsC t list = 0 then rowWR t r list else rowZ
theorem se_long {t : Tb} {r : RowV} {list : List SetV} (h : 4096 < list.length) : seR t r list = rowZ ∧ seC t r list = 2 := by
  unfold seR seC; rw [if_neg (fun hn => hn.1 h), if_pos h]; exact ⟨rfl, rfl⟩
theorem se_bad {t : Tb} {r : RowV} {list : List SetV} (h : ¬ 4096 < list.length) (hb : ¬ (rokM t r = true ∧ valsB list = true)) : seR t r list = rowZ ∧ seC t r list = 1 := by
  unfold seR seC; rw [if_neg (fun hn => hb ⟨hn.2.1, hn.2.2.1⟩), if_neg h, if_neg hb]; exact ⟨rfl, rfl⟩
theorem se_code {t : Tb} {r : RowV} {list : List SetV} (h : ¬ 4096 < list.length) (hb : rokM t r = true ∧ valsB list = true) (hc : ¬ setsC t list = 0) : seR t r list = rowZ ∧ seC t r list = setsC t list := by
  unfold seR seC; rw [if_neg (fun hn => hc hn.2.2.2), if_neg h, if_pos hb, if_neg hc]; exact ⟨rfl, rfl⟩
theorem se_ok {t : Tb} {r : RowV} {list : List SetV} (h : ¬ 4096 < list.length) (hb : rokM t r = true ∧ valsB list = true) (hc : setsC t list = 0) : seR t r list = rowWR t r list ∧ seC t r list = (rowW t r.cells list).1 := by
  unfold seR seC; rw [if_pos ⟨h, hb.1, hb.2, hc⟩, if_neg h, if_pos hb, if_pos hc]; exact ⟨rfl, rfl⟩
theorem rok_lenS {t : Tb} {r : RowV} (h : rokM t r = true) : r.cells.length = t.cols.length := by
  unfold rokM at h
  simp only [Bool.and_eq_true] at h
  exact (row_of h.2).len
structure SQS (w wr : World) (tc : Array Value) (id : Int) (cs : List (List At)) (v : Value) : Prop where
  tb : wr.heap[w.heap.size]? = some (.cells tc 27)
  rb : wr.heap[w.heap.size + 1]? = some (.cells #[.int .i64 id, v] 34)
  zr : wr.heap[w.heap.size + 1 + 1]? = some (.cells #[.int .i64 0, .slice none 0 0] 34)
  gr : SG wr (w.heap.size + 1 + 1 + 1) (fun c => w.heap.size + 1 + 1 + 1 ≤ c) 42 1 (lsF cAtomS cs) cs.length v
  bel : Below w.heap.size w wr
theorem SQS.later {w wr W : World} {tc : Array Value} {id : Int} {cs : List (List At)} {v : Value} (h : SQS w wr tc id cs v) (hB : Below wr.heap.size wr W) : SQS w W tc id cs v := ⟨heap_keptD h.tb hB, heap_keptD h.rb hB, heap_keptD h.zr hB, h.gr.later hB, h.bel.trans (hB.mono h.bel.size)⟩
theorem SQS.store {w wr W : World} {tc : Array Value} {id : Int} {cs : List (List At)} {g cap k : Nat} {o : List At} {a : Option Addr} {cp : Nat} (h : SQS w wr tc id cs (.slice (some ⟨g, 0, none⟩) cs.length cap)) (hg : w.heap.size + 1 + 1 + 1 ≤ g ∧ g < wr.heap.size) (hB : Below wr.heap.size wr W) (hk : k < cs.length) (ho : Rd W (fun c => wr.heap.size ≤ c ∧ c < W.heap.size) (dAtomS o) (.slice a o.length cp)) :
    SQS w (W.setCell ⟨g, k, none⟩ (.slice a o.length cp)) tc id (cs.set k o) (.slice (some ⟨g, 0, none⟩) (cs.set k o).length cap) := by
  have h2 := h.later hB
  have st : ∀ b x, W.heap[b]? = some x → b < w.heap.size + 1 + 1 + 1 → (W.setCell ⟨g, k, none⟩ (.slice a o.length cp)).heap[b]? = some x := fun b x hx hb => by
    rw [Below.heap_setCell _ ⟨g, k, none⟩ _ _ (by show b ≠ g; omega)]; exact hx
  refine ⟨st _ _ h2.tb (by omega), by rw [List.length_set]; exact st _ _ h2.rb (by omega), st _ _ h2.zr (by omega), ?_, h2.bel.setCell (by show w.heap.size ≤ g; omega) _⟩
  have hw3 : w.heap.size + 1 + 1 < wr.heap.size := (Array.getElem?_eq_some_iff.1 h.zr).1
  exact h.gr.setA hB hk (ho.mono (fun c hc => ⟨⟨by omega, hc.2⟩, by have := hc.1; omega⟩))
set_option maxRecDepth 100000 in
set_option maxHeartbeats 12800000 in
theorem setRowL (t : Tb) (ca : Option Addr) (cc : Nat) (ua : Option Addr) (uc : Nat) (A : Nat → Prop) (r : RowV) (ra : Option Addr) (rc : Nat) (R : Nat → Prop) (list : List SetV) (a : Option Addr) (c : Nat) (B : Nat → Prop) (w : World) (hto : t.ok) (hlo : (dSetS list).le 1048576) (hr : (dAtomSS r.cells).le 1048576) (hlen : r.cells.length = t.cols.length) (hq : ∀ k (h : k < list.length), setK t (list.take k) list[k] = 0) (hT : t.Has w A ca ua) (hR : Rd w R (dAtomSS r.cells) (.slice ra r.cells.length rc)) (hL : Rd w B (dSetS list) (.slice a list.length c)) :
    Calls Try.prog 28 #[.agg #[.string ⟨t.nm.toArray⟩, .slice ca t.cols.length cc, .slice ua t.uq.length uc, .bool t.rt], .agg #[.int .i64 r.id, .slice ra r.cells.length rc], .slice a list.length c] w (RowAns w (rowWR t r list) (rowW t r.cells list).1) := by
  have HL : Hid (∀ W, Below w.heap.size w W → Rd W B (Ls 3 dSet list) (.slice a list.length c)) := fun W h => Rd.later hL h
  have HT : Hid (t.ok ∧ ∀ W, Below w.heap.size w W → t.Has W A ca ua) := ⟨hto, fun W h => hT.later h⟩
  have HQ := Lib.hid hq
  have HLN := Lib.hid hlen
  have HLO := Lib.hid hlo
  have hll : list.length ≤ 1048576 := (Ls_le.1 hlo).2.1
  have hcl := hto.2.1
  unfold maxLen at hcl
  obtain ⟨w0, hw0⟩ : ∃ w0, w0 = (((w.alloc (.cells #[.string ⟨t.nm.toArray⟩, .slice ca t.cols.length cc, .slice ua t.uq.length uc, .bool t.rt] 27)).alloc (.cells #[.int .i64 r.id, .slice ra r.cells.length rc] 34)).alloc (.cells #[.int .i64 0, .slice none 0 0] 34)) := ⟨_, rfl⟩
  have HS0 : Hid (w0.heap.size = w.heap.size + 1 + 1 + 1) := by show _ = _; rw [hw0]; simp
  have MB0 : Hid (MB3 w w0 #[.string ⟨t.nm.toArray⟩, .slice ca t.cols.length cc, .slice ua t.uq.length uc, .bool t.rt] #[.int .i64 r.id, .slice ra r.cells.length rc] #[.int .i64 0, .slice none 0 0]) := by rw [hw0]; exact mb3 w _ _ _
  have OW := Lib.hid (ownRowG r ra rc R w0 hr (hR.later MB0.out.bel))
  have HW0 := Lib.hid hw0
  have rb0 := cell_at (o := 0) MB0.out.rb rfl
  have rb1 := cell_at (o := 1) MB0.out.rb rfl
  rw [hw0] at rb0 rb1
  clear hto hlo hr hq hT hR hL hw0 hlen
  go_enter Try.func28, Try.ntmps28
  go_wp2_with fail
  rw [← HW0.out]
  refine OW.out.mono ?_
  rintro e w1 ⟨oa, oc, rfl, hsg, hB1⟩
  clear rb0 rb1
  have h1R := heap_keptD MB0.out.rb hB1
  have rb0 := cell_at (o := 0) h1R rfl
  have rb1 := cell_at (o := 1) h1R rfl
  have rf0 := frozen_at 0 h1R
  have rf1 := frozen_at 1 h1R
  have ST0 : Hid (SQS w ((w1.setCell ⟨w.heap.size + 1, 0, none⟩ (.int .i64 r.id)).setCell ⟨w.heap.size + 1, 1, none⟩ (.slice oa r.cells.length oc)) #[.string ⟨t.nm.toArray⟩, .slice ca t.cols.length cc, .slice ua t.uq.length uc, .bool t.rt] r.id r.cells (.slice oa r.cells.length oc)) := by
    have hs := HS0.out
    have keep : ∀ b x, w1.heap[b]? = some x → b ≠ w.heap.size + 1 → ((w1.setCell ⟨w.heap.size + 1, 0, none⟩ (.int .i64 r.id)).setCell ⟨w.heap.size + 1, 1, none⟩ (.slice oa r.cells.length oc)).heap[b]? = some x := fun b x hx hn => by rw [Below.heap_setCell _ ⟨w.heap.size + 1, 1, none⟩ _ _ hn, Below.heap_setCell _ ⟨w.heap.size + 1, 0, none⟩ _ _ hn]; exact hx
    refine ⟨keep _ _ (heap_keptD MB0.out.tb hB1) (by omega), heap_set 1 _ (heap_set 0 _ h1R), keep _ _ (heap_keptD MB0.out.zr hB1) (by omega), ?_, ((MB0.out.bel.trans (hB1.mono MB0.out.bel.size)).setCell (by show w.heap.size ≤ w.heap.size + 1; omega) _).setCell (by show w.heap.size ≤ w.heap.size + 1; omega) _⟩
    refine (SG.wide hsg (base' := w.heap.size + 1 + 1 + 1) (G' := fun c => w.heap.size + 1 + 1 + 1 ≤ c) (by omega) (fun c hc => by omega)).same (p := w.heap.size + 1) (by simp [World.setCell]) (fun b hn => ?_) (fun e => ?_) (fun c hc => by omega)
    · rw [Below.heap_setCell _ ⟨w.heap.size + 1, 1, none⟩ _ _ hn, Below.heap_setCell _ ⟨w.heap.size + 1, 0, none⟩ _ _ hn]
    · have := (hsg.low e).1; omega
  clear hsg hB1 h1R
  go_wp2_with fail
  clear rb0 rb1 rf0 rf1 OW MB0 HW0 HS0
  go_loopw [8] (fun i wr => ∃ m : Nat, m ≤ list.length ∧ i = .int .i64 m ∧ Hid (∃ cs v, SQS w wr #[.string ⟨t.nm.toArray⟩, .slice ca t.cols.length cc, .slice ua t.uq.length uc, .bool t.rt] r.id cs v ∧ cs.length = t.cols.length ∧ rowW t r.cells list = rowW t cs (list.drop m))) (fun i _ => list.length - (intOf i).toNat)
  case atStart => exact ⟨0, Nat.zero_le _, rfl, _, _, ST0.out, HLN.out, by rw [List.drop_zero]⟩
  case round =>
    obtain ⟨m, hm, rfl, HX⟩ := hrel
    obtain ⟨cs, v, hS, hlen, hM⟩ := HX.out
    by_cases hlt : m < list.length
    case neg =>
      have hmi : decide ((m : Int) < (list.length : Int)) = false := by simp; omega
      have HP := Lib.hid (rowW_ok (r := r) (by rw [hM, List.drop_eq_nil_of_le (by omega)]; rfl))
      obtain ⟨va, vq, rfl⟩ := hS.gr.shape
      have HS := Lib.hid hS
      have r0 := cell_at (o := 0) hS.rb rfl
      have r1 := cell_at (o := 1) hS.rb rfl
      have z0 := cell_at (o := 0) hS.zr rfl
      have z1 := cell_at (o := 1) hS.zr rfl
      have g0 := frozen_at 0 hS.zr
      have g1 := frozen_at 1 hS.zr
      clear hS hM hlen
      go_wp2_with fail
      refine bodyPost_ret (v := .tuple #[.agg #[.int .i64 r.id, .slice va cs.length vq], .int .i64 0]) (by simp [results, Try.results28, go_sem, *]) rfl ?_
      rw [HP.out.1, HP.out.2]
      refine ⟨va, vq, rfl, ?_, (HS.out.bel.setCell (by show w.heap.size ≤ w.heap.size + 1 + 1; omega) _).setCell (by show w.heap.size ≤ w.heap.size + 1 + 1; omega) _⟩
      have hr := HS.out.gr.rd (by omega) (fun g hg => (HS.out.gr.low hg).1)
      exact (hr.frm (F := (· = w.heap.size + 1 + 1)) ((frm_set _ _ _ _).trans (frm_set _ _ _ _)) (fun b hb e => by have h1 := hb.1; have e2 : b = w.heap.size + 1 + 1 := e; omega)).mono (fun b hb => ⟨by have := hb.1; omega, by simpa using hb.2⟩)
    have hmi : (m : Int) < (list.length : Int) := by omega
    obtain ⟨k, hk, hpl⟩ := setK_place (HQ.out m hlt)
    have hkc : k < cs.length := by omega
    obtain ⟨b, off, rfl, -, hc⟩ := (HL.out _ hS.bel).things m hlt
    obtain ⟨u0, l0, r0⟩ := hc 0 (by omega)
    obtain rfl : u0 = .string ⟨list[m].col.toArray⟩ := r0
    rw [Nat.add_zero] at l0
    obtain ⟨u1, l1, r1⟩ := hc 1 (by omega)
    replace r1 : Rd wr B (dAtomS list[m].val) u1 := r1
    obtain ⟨va, vc, rfl⟩ := r1.lsSlice
    obtain ⟨u2, l2, r2⟩ := hc 2 (by omega)
    replace r2 : Rd wr B (dStringS list[m].nms) u2 := r2
    obtain ⟨na, nc, rfl⟩ := r2.lsSlice
    obtain ⟨b1, off1, hca, -, -⟩ := (HT.out.2 _ hS.bel).1.at k hk
    subst hca
    obtain ⟨g, cap, da, dc, rfl, hgg, gc, gf, -⟩ := hS.gr.at hkc
    have HS := Lib.hid hS
    have TCE : Hid (∀ W, Below wr.heap.size wr W → W.cell? ⟨w.heap.size, 0, none⟩ = some (.string ⟨t.nm.toArray⟩) ∧ W.cell? ⟨w.heap.size, 1, none⟩ = some (.slice (some ⟨b1, off1, none⟩) t.cols.length cc) ∧ W.cell? ⟨w.heap.size, 2, none⟩ = some (.slice ua t.uq.length uc) ∧ W.cell? ⟨w.heap.size, 3, none⟩ = some (.bool t.rt)) := fun W h => ⟨cell_at (o := 0) (HS.out.later h).tb rfl, cell_at (o := 1) (HS.out.later h).tb rfl, cell_at (o := 2) (HS.out.later h).tb rfl, cell_at (o := 3) (HS.out.later h).tb rfl⟩
    have CCE : Hid (∀ W, Below wr.heap.size wr W → W.cell? ⟨b1, off1 + k * 8, none⟩ = some (.string ⟨t.cols[k].nm.toArray⟩) ∧ W.cell? ⟨b1, off1 + k * 8 + 1, none⟩ = some (.int .i64 t.cols[k].k) ∧ W.cell? ⟨b1, off1 + k * 8 + 2, none⟩ = some (.int .i64 t.cols[k].mn) ∧ W.cell? ⟨b1, off1 + k * 8 + 3, none⟩ = some (.int .i64 t.cols[k].mx) ∧ W.cell? ⟨b1, off1 + k * 8 + 4, none⟩ = some (.int .i64 t.cols[k].lo) ∧ W.cell? ⟨b1, off1 + k * 8 + 5, none⟩ = some (.int .i64 t.cols[k].hi) ∧ W.cell? ⟨b1, off1 + k * 8 + 6, none⟩ = some (.string ⟨t.cols[k].rf.toArray⟩) ∧ W.cell? ⟨b1, off1 + k * 8 + 7, none⟩ = some (.bool t.cols[k].st)) := fun W h => by
      obtain ⟨b2, off2, e2, -, hc2⟩ := (HT.out.2 W (HS.out.bel.trans (h.mono HS.out.bel.size))).1.at k hk
      simp only [Option.some.injEq, Addr.mk.injEq, and_true] at e2
      obtain ⟨rfl, rfl⟩ := e2
      exact hc2 k hk
    have LC : Hid (∀ W, Below w.heap.size w W → W.cell? ⟨b, off + m * 3, none⟩ = some (.string ⟨list[m].col.toArray⟩) ∧ W.cell? ⟨b, off + m * 3 + 1, none⟩ = some (.slice va list[m].val.length vc)) := fun W h => by
      have hl0 : b < w.heap.size := by
        obtain ⟨u, e, -⟩ := (HL.out w (Below.refl _ _)).spotT hlt (j := 0) (by omega)
        exact World.block_lt_of_cell? w _ e
      have e0 : W.cell? ⟨b, off + m * 3, none⟩ = wr.cell? ⟨b, off + m * 3, none⟩ := (h.cell (p := ⟨b, off + m * 3, none⟩) hl0).trans (hS.bel.cell (p := ⟨b, off + m * 3, none⟩) hl0).symm
      have e1 : W.cell? ⟨b, off + m * 3 + 1, none⟩ = wr.cell? ⟨b, off + m * 3 + 1, none⟩ := (h.cell (p := ⟨b, off + m * 3 + 1, none⟩) hl0).trans (hS.bel.cell (p := ⟨b, off + m * 3 + 1, none⟩) hl0).symm
      exact ⟨e0.trans l0, e1.trans l1⟩
    have PL : Hid (∀ W, Below wr.heap.size wr W → Calls Try.prog 47 #[.agg #[.string ⟨t.nm.toArray⟩, .slice (some ⟨b1, off1, none⟩) t.cols.length cc, .slice ua t.uq.length uc, .bool t.rt], .string ⟨list[m].col.toArray⟩] W fun e w' => e = .returned (.int .i64 (k : Int)) ∧ Below W.heap.size W w') := fun W h => by
      rw [← hpl]
      exact placeS t list[m].col _ cc ua uc A W HT.out.1.2.1 (HT.out.2 W (HS.out.bel.trans (h.mono HS.out.bel.size)))
    have HVL := Lib.hid (le_set HLO.out hlt)
    have FT : Hid (∀ W, Below wr.heap.size wr W → Calls Try.prog 49 #[.agg #[.string ⟨t.cols[k].nm.toArray⟩, .int .i64 t.cols[k].k, .int .i64 t.cols[k].mn, .int .i64 t.cols[k].mx, .int .i64 t.cols[k].lo, .int .i64 t.cols[k].hi, .string ⟨t.cols[k].rf.toArray⟩, .bool t.cols[k].st], .slice va list[m].val.length vc] W fun e w' => e = .returned (.int .i64 (fitC t.cols[k] list[m].val)) ∧ Below W.heap.size W w') := fun W h => fitsS t.cols[k] list[m].val va vc W.heap.size W (by have := (Ls_le.1 HVL.out.2.1).2.1; unfold maxLen; omega) (Nat.le_refl _) (r1.later h).lt.ats
    have HST : Hid (fitC t.cols[k] list[m].val = 0 → (cs.set k list[m].val).length = t.cols.length ∧ rowW t r.cells list = rowW t (cs.set k list[m].val) (list.drop (m + 1))) := fun h0 => ⟨by rw [List.length_set]; exact hlen, hM.trans (rowW_step hlt hk hpl h0)⟩
    have HSP : Hid (¬ fitC t.cols[k] list[m].val = 0 → rowWR t r list = rowZ ∧ (rowW t r.cells list).1 = fitC t.cols[k] list[m].val) := fun h0 => rowW_no (hM.trans (rowW_stop hlt hk hpl h0)) h0
    have AP : Hid (∀ W g2, Below wr.heap.size wr W → ∃ a8 c8 w8, (Builtin.append_ #[42, 42] 42 #[.slice (some ⟨g2, 0, none⟩) 0 0, .slice va list[m].val.length vc]).run Try.prog W = .ok (.slice a8 list[m].val.length c8) w8 ∧ Rd w8 (fun b => W.heap.size ≤ b ∧ b < w8.heap.size) (dAtomS list[m].val) (.slice a8 list[m].val.length c8) ∧ Below W.heap.size W w8) := fun W g2 h => app_emptyA list[m].val g2 va vc B W _ (Ls_le.1 HVL.out.2.1).2.1 (r1.later h)
    have hk1 : (k : Int) < (t.cols.length : Int) := by omega
    have hk2 : (k : Int) < (cs.length : Int) := by omega
    have HK := Lib.hid (And.intro hkc (And.intro hlen hgg))
    have GCE : Hid (∀ W, Below wr.heap.size wr W → W.cell? ⟨g, k, none⟩ = some (.slice da cs[k].length dc)) := fun W h => cell_keptX gc h
    clear hS hM hpl hc r1 r2 gc gf hgg
    generalize cs[k] = d at *
    generalize t.cols[k] = x at *
    generalize list[m] = y at *
    clear hk hkc l0 l1 l2
    have BWR : Hid (Below w.heap.size w wr) := HS.out.bel
    go_wp2_with fail
    have CX5 : Hid (∀ W, Below wr.heap.size wr W → W.cell? ⟨w.heap.size, 0, none⟩ = some (.string ⟨t.nm.toArray⟩) ∧ W.cell? ⟨w.heap.size, 1, none⟩ = some (.slice (some ⟨b1, off1, none⟩) t.cols.length cc) ∧ W.cell? ⟨w.heap.size, 2, none⟩ = some (.slice ua t.uq.length uc) ∧ W.cell? ⟨w.heap.size, 3, none⟩ = some (.bool t.rt) ∧ W.cell? ⟨b, off + m * 3, none⟩ = some (.string ⟨y.col.toArray⟩)) := fun W h => ⟨(TCE.out W h).1, (TCE.out W h).2.1, (TCE.out W h).2.2.1, (TCE.out W h).2.2.2, (LC.out W (BWR.out.trans (h.mono BWR.out.size))).1⟩
    refine wp_region_held_drew (S := (fun W => W.cell? ⟨w.heap.size, 0, none⟩ = some (.string ⟨t.nm.toArray⟩) ∧ W.cell? ⟨w.heap.size, 1, none⟩ = some (.slice (some ⟨b1, off1, none⟩) t.cols.length cc) ∧ W.cell? ⟨w.heap.size, 2, none⟩ = some (.slice ua t.uq.length uc) ∧ W.cell? ⟨w.heap.size, 3, none⟩ = some (.bool t.rt) ∧ W.cell? ⟨b, off + m * 3, none⟩ = some (.string ⟨y.col.toArray⟩))) (by kernel_rfl) ?_ (fun hHeld => ?_)
    · (first | exact CX5.out _ (Below.refl _ _) | exact CX5.out _ (Below.refl _ _).drew | exact CX5.out _ BW.out)
    refine wpAnyH_take (i := 0) (v := ?_) rfl (by kernel_rfl) (by kernel_rfl) (by kernel_rfl) (fun _ _ _ h => h) (Or.inl ⟨by kernel_rfl, ?_⟩) (by assumption) ?_
    rotate_left
    · (intro wS hSw; (try dsimp only at hSw); go_simp <;> with_reducible rfl)
    try simp only [Act.put, tkS]
    refine wpAnyH_take (i := 1) (v := ?_) rfl (by kernel_rfl) (by kernel_rfl) (by kernel_rfl) (fun _ _ _ h => h) (Or.inl ⟨by kernel_rfl, ?_⟩) (by assumption) ?_
    rotate_left
    · (intro wS hSw; (try dsimp only at hSw); go_simp <;> with_reducible rfl)
    try simp only [Act.put, tkS]
    refine wpAnyH_take (i := 2) (v := ?_) rfl (by kernel_rfl) (by kernel_rfl) (by kernel_rfl) (fun _ _ _ h => h) (Or.inl ⟨by kernel_rfl, ?_⟩) (by assumption) ?_
    rotate_left
    · (intro wS hSw; (try dsimp only at hSw); go_simp <;> with_reducible rfl)
    try simp only [Act.put, tkS]
    refine wpAnyH_take (i := 3) (v := ?_) rfl (by kernel_rfl) (by kernel_rfl) (by kernel_rfl) (fun _ _ _ h => h) (Or.inl ⟨by kernel_rfl, ?_⟩) (by assumption) ?_
    rotate_left
    · (intro wS hSw; (try dsimp only at hSw); go_simp <;> with_reducible rfl)
    try simp only [Act.put, tkS]
    refine wpAnyH_take (i := 4) (v := ?_) rfl (by kernel_rfl) (by kernel_rfl) (by kernel_rfl) (fun _ _ _ h => h) (Or.inl ⟨by kernel_rfl, ?_⟩) (by assumption) ?_
    rotate_left
    · (intro wS hSw; (try dsimp only at hSw); go_simp <;> with_reducible rfl)
    try simp only [Act.put, tkS]
    refine wpAnyH_take (i := 5) (v := ?_) rfl (by kernel_rfl) (by kernel_rfl) (by kernel_rfl) (fun _ _ _ h => h) (Or.inl ⟨by kernel_rfl, ?_⟩) (by assumption) ?_
    rotate_left
    · (intro wS hSw; (try dsimp only at hSw); go_simp <;> with_reducible rfl)
    try simp only [Act.put, tkS]
    refine wpAnyH_ready (rs := [6]) (by kernel_rfl) (by simp) (AllReadyH.cons rfl (fun K hK => ?_) AllReadyH.nil)
    go_simp
    (go_at_call 47; refine (PL.out _ (Below.refl _ _).drew).mono ?_; rintro e w2 ⟨rfl, hB⟩; have BW : Hid (Below wr.heap.size wr w2) := (Below.refl _ _).drew.trans hB; clear hB)
    refine hK.out _ _ ?_ (fun hHeld => ?_)
    · (first | exact CX5.out _ (Below.refl _ _) | exact CX5.out _ (Below.refl _ _).drew | exact CX5.out _ BW.out)
    clear hK K
    try simp only [Act.put, tkS]
    refine wpAnyH_take (i := 7) (v := ?_) rfl (by kernel_rfl) (by kernel_rfl) (by kernel_rfl) (fun _ _ _ h => h) (Or.inl ⟨by kernel_rfl, ?_⟩) (by assumption) ?_
    rotate_left
    · (intro wS hSw; (try dsimp only at hSw); go_simp <;> with_reducible rfl)
    try simp only [Act.put, tkS]
    refine wpAnyH_done (by kernel_rfl) ?_ _
    go_wp2_with fail
    have CX6 : Hid (∀ W, Below wr.heap.size wr W → W.cell? ⟨w.heap.size, 1, none⟩ = some (.slice (some ⟨b1, off1, none⟩) t.cols.length cc) ∧ W.cell? ⟨b1, off1 + k * 8, none⟩ = some (.string ⟨x.nm.toArray⟩) ∧ W.cell? ⟨b1, off1 + k * 8 + 1, none⟩ = some (.int .i64 x.k) ∧ W.cell? ⟨b1, off1 + k * 8 + 2, none⟩ = some (.int .i64 x.mn) ∧ W.cell? ⟨b1, off1 + k * 8 + 3, none⟩ = some (.int .i64 x.mx) ∧ W.cell? ⟨b1, off1 + k * 8 + 4, none⟩ = some (.int .i64 x.lo) ∧ W.cell? ⟨b1, off1 + k * 8 + 5, none⟩ = some (.int .i64 x.hi) ∧ W.cell? ⟨b1, off1 + k * 8 + 6, none⟩ = some (.string ⟨x.rf.toArray⟩) ∧ W.cell? ⟨b1, off1 + k * 8 + 7, none⟩ = some (.bool x.st) ∧ W.cell? ⟨b, off + m * 3 + 1, none⟩ = some (.slice va y.val.length vc)) := fun W h => by
      obtain ⟨e0, e1, e2, e3, e4, e5, e6, e7⟩ := CCE.out W h
      exact ⟨(TCE.out W h).2.1, e0, e1, e2, e3, e4, e5, e6, e7, (LC.out W (BWR.out.trans (h.mono BWR.out.size))).2⟩
    refine wp_region_held_drew (S := (fun W => W.cell? ⟨w.heap.size, 1, none⟩ = some (.slice (some ⟨b1, off1, none⟩) t.cols.length cc) ∧ W.cell? ⟨b1, off1 + k * 8, none⟩ = some (.string ⟨x.nm.toArray⟩) ∧ W.cell? ⟨b1, off1 + k * 8 + 1, none⟩ = some (.int .i64 x.k) ∧ W.cell? ⟨b1, off1 + k * 8 + 2, none⟩ = some (.int .i64 x.mn) ∧ W.cell? ⟨b1, off1 + k * 8 + 3, none⟩ = some (.int .i64 x.mx) ∧ W.cell? ⟨b1, off1 + k * 8 + 4, none⟩ = some (.int .i64 x.lo) ∧ W.cell? ⟨b1, off1 + k * 8 + 5, none⟩ = some (.int .i64 x.hi) ∧ W.cell? ⟨b1, off1 + k * 8 + 6, none⟩ = some (.string ⟨x.rf.toArray⟩) ∧ W.cell? ⟨b1, off1 + k * 8 + 7, none⟩ = some (.bool x.st) ∧ W.cell? ⟨b, off + m * 3 + 1, none⟩ = some (.slice va y.val.length vc))) (by kernel_rfl) ?_ (fun hHeld => ?_)
    · (first | exact CX6.out _ BW.out | exact CX6.out _ BW.out.drew | exact CX6.out _ BW3.out)
    refine wpAnyH_take (i := 0) (v := ?_) rfl (by kernel_rfl) (by kernel_rfl) (by kernel_rfl) (fun _ _ _ h => h) (Or.inl ⟨by kernel_rfl, ?_⟩) (by assumption) ?_
    rotate_left
    · (intro wS hSw; (try dsimp only at hSw); go_simp <;> with_reducible rfl)
    try simp only [Act.put, tkS]
    refine wpAnyH_take (i := 1) (v := ?_) rfl (by kernel_rfl) (by kernel_rfl) (by kernel_rfl) (fun _ _ _ h => h) (Or.inl ⟨by kernel_rfl, ?_⟩) (by assumption) ?_
    rotate_left
    · (intro wS hSw; (try dsimp only at hSw); go_simp <;> with_reducible rfl)
    try simp only [Act.put, tkS]
    refine wpAnyH_take (i := 2) (v := ?_) rfl (by kernel_rfl) (by kernel_rfl) (by kernel_rfl) (fun _ _ _ h => h) (Or.inl ⟨by kernel_rfl, ?_⟩) (by assumption) ?_
    rotate_left
    · (intro wS hSw; (try dsimp only at hSw); go_simp <;> with_reducible rfl)
    try simp only [Act.put, tkS]
    refine wpAnyH_take (i := 3) (v := ?_) rfl (by kernel_rfl) (by kernel_rfl) (by kernel_rfl) (fun _ _ _ h => h) (Or.inl ⟨by kernel_rfl, ?_⟩) (by assumption) ?_
    rotate_left
    · (intro wS hSw; (try dsimp only at hSw); go_simp <;> with_reducible rfl)
    try simp only [Act.put, tkS]
    refine wpAnyH_take (i := 4) (v := ?_) rfl (by kernel_rfl) (by kernel_rfl) (by kernel_rfl) (fun _ _ _ h => h) (Or.inl ⟨by kernel_rfl, ?_⟩) (by assumption) ?_
    rotate_left
    · (intro wS hSw; (try dsimp only at hSw); go_simp <;> with_reducible rfl)
    try simp only [Act.put, tkS]
    refine wpAnyH_take (i := 5) (v := ?_) rfl (by kernel_rfl) (by kernel_rfl) (by kernel_rfl) (fun _ _ _ h => h) (Or.inl ⟨by kernel_rfl, ?_⟩) (by assumption) ?_
    rotate_left
    · (intro wS hSw; (try dsimp only at hSw); go_simp <;> with_reducible rfl)
    try simp only [Act.put, tkS]
    refine wpAnyH_take (i := 6) (v := ?_) rfl (by kernel_rfl) (by kernel_rfl) (by kernel_rfl) (fun _ _ _ h => h) (Or.inl ⟨by kernel_rfl, ?_⟩) (by assumption) ?_
    rotate_left
    · (intro wS hSw; (try dsimp only at hSw); go_simp <;> with_reducible rfl)
    try simp only [Act.put, tkS]
    refine wpAnyH_take (i := 7) (v := ?_) rfl (by kernel_rfl) (by kernel_rfl) (by kernel_rfl) (fun _ _ _ h => h) (Or.inl ⟨by kernel_rfl, ?_⟩) (by assumption) ?_
    rotate_left
    · (intro wS hSw; (try dsimp only at hSw); go_simp <;> with_reducible rfl)
    try simp only [Act.put, tkS]
    refine wpAnyH_take (i := 8) (v := ?_) rfl (by kernel_rfl) (by kernel_rfl) (by kernel_rfl) (fun _ _ _ h => h) (Or.inl ⟨by kernel_rfl, ?_⟩) (by assumption) ?_
    rotate_left
    · (intro wS hSw; (try dsimp only at hSw); go_simp <;> with_reducible rfl)
    try simp only [Act.put, tkS]
    refine wpAnyH_take (i := 9) (v := ?_) rfl (by kernel_rfl) (by kernel_rfl) (by kernel_rfl) (fun _ _ _ h => h) (Or.inl ⟨by kernel_rfl, ?_⟩) (by assumption) ?_
    rotate_left
    · (intro wS hSw; (try dsimp only at hSw); go_simp <;> with_reducible rfl)
    try simp only [Act.put, tkS]
    refine wpAnyH_ready (rs := [10]) (by kernel_rfl) (by simp) (AllReadyH.cons rfl (fun K hK => ?_) AllReadyH.nil)
    go_simp
    (go_at_call 49; refine (FT.out _ BW.out.drew).mono ?_; rintro e w3 ⟨rfl, hB⟩; have BW3 : Hid (Below wr.heap.size wr w3) := BW.out.drew.trans (hB.mono BW.out.drew.size); clear hB)
    refine hK.out _ _ ?_ (fun hHeld => ?_)
    · (first | exact CX6.out _ BW.out | exact CX6.out _ BW.out.drew | exact CX6.out _ BW3.out)
    clear hK K
    try simp only [Act.put, tkS]
    refine wpAnyH_take (i := 11) (v := ?_) rfl (by kernel_rfl) (by kernel_rfl) (by kernel_rfl) (fun _ _ _ h => h) (Or.inl ⟨by kernel_rfl, ?_⟩) (by assumption) ?_
    rotate_left
    · (intro wS hSw; (try dsimp only at hSw); go_simp <;> with_reducible rfl)
    try simp only [Act.put, tkS]
    refine wpAnyH_done (by kernel_rfl) ?_ _
    have HS3 := Lib.hid (HS.out.later BW3.out)
    generalize fitC x y.val = mc at *
    by_cases h0 : mc = 0
    case neg =>
      have HP := Lib.hid (HSP.out h0)
      have hne : (mc != 0) = true := by simpa using h0
      have z0 := cell_at (o := 0) HS3.out.zr rfl
      have zf0 := frozen_at 0 HS3.out.zr
      have z1 := cell_at (o := 1) HS3.out.zr rfl
      have zf1 := frozen_at 1 HS3.out.zr
      clear h0 HST HSP PL FT
      go_wp2_with fail
      refine bodyPost_ret (v := .tuple #[.agg #[.int .i64 0, .slice none 0 0], .int .i64 mc]) (by simp [results, Try.results28, go_sem, *]) rfl ?_
      rw [HP.out.1, HP.out.2]
      exact ⟨none, 0, rfl, Rd.lsNil _ _, (HS3.out.bel.setCell (by show w.heap.size ≤ w.heap.size + 1 + 1; omega) _).setCell (by show w.heap.size ≤ w.heap.size + 1 + 1; omega) _⟩
    have HN := Lib.hid (HST.out h0)
    subst h0
    clear HST HSP PL FT
    have KBX : Hid (∀ W, Below wr.heap.size wr W → Below w.heap.size w W ∧ W.heap[w.heap.size + 1]? = some (.cells #[.int .i64 r.id, .slice (some ⟨g, 0, none⟩) cs.length cap] 34)) := fun W h => ⟨(HS.out.later h).bel, (HS.out.later h).rb⟩
    have CX9 : Hid (∀ W, (Below w.heap.size w W ∧ W.heap[w.heap.size + 1]? = some (.cells #[.int .i64 r.id, .slice (some ⟨g, 0, none⟩) cs.length cap] 34)) → W.cell? ⟨w.heap.size + 1, 1, none⟩ = some (.slice (some ⟨g, 0, none⟩) cs.length cap) ∧ W.cell? ⟨b, off + m * 3 + 1, none⟩ = some (.slice va y.val.length vc)) := fun W h => ⟨cell_at (o := 1) h.2 rfl, (LC.out W h.1).2⟩
    have BN0 : Hid (Below w.heap.size w w3.drew ∧ w3.drew.heap[w.heap.size + 1]? = some (.cells #[.int .i64 r.id, .slice (some ⟨g, 0, none⟩) cs.length cap] 34)) := KBX.out _ BW3.out.drew
    have bN1 : Below wr.heap.size wr (w3.alloc (.cells #[] 51)).drew := (BW3.out.alloc BW3.out.size _).drew
    have BN1 : Hid (Below w.heap.size w (w3.alloc (.cells #[] 51)).drew ∧ (w3.alloc (.cells #[] 51)).drew.heap[w.heap.size + 1]? = some (.cells #[.int .i64 r.id, .slice (some ⟨g, 0, none⟩) cs.length cap] 34)) := KBX.out _ bN1
    obtain ⟨a8, c8, w8, hr8, hrd8, hB8⟩ := AP.out _ w3.heap.size bN1
    have bN8 : Below wr.heap.size wr w8 := bN1.trans (hB8.mono bN1.size)
    have BN8 : Hid (Below w.heap.size w w8 ∧ w8.heap[w.heap.size + 1]? = some (.cells #[.int .i64 r.id, .slice (some ⟨g, 0, none⟩) cs.length cap] 34)) := KBX.out _ bN8
    have hst := HS.out.store HK.out.2.2 bN8 HK.out.1 (hrd8.mono (fun b hb => ⟨Nat.le_trans bN1.size hb.1, hb.2⟩))
    have BN9 : Hid (Below w.heap.size w (w8.setCell ⟨g, k, none⟩ (.slice a8 y.val.length c8)) ∧ (w8.setCell ⟨g, k, none⟩ (.slice a8 y.val.length c8)).heap[w.heap.size + 1]? = some (.cells #[.int .i64 r.id, .slice (some ⟨g, 0, none⟩) cs.length cap] 34)) := ⟨hst.bel, by have h := hst.rb; rw [List.length_set] at h; exact h⟩
    have HS4 := Lib.hid hst
    have RUN9 := Lib.hid hr8
    have q2 := GCE.out _ bN8
    obtain ⟨g9, cap9, da9, dc9, e9, -, -, gf, -⟩ := (HS.out.later bN8).gr.at (k := k) HK.out.1
    simp only [Value.slice.injEq, Option.some.injEq, Addr.mk.injEq, and_true, true_and] at e9
    obtain ⟨rfl, rfl⟩ := e9
    clear hst hr8 hrd8 hB8 bN8 bN1
    go_wp2_with fail
    refine wp_region_held_drew (S := (fun W => W.cell? ⟨w.heap.size + 1, 1, none⟩ = some (.slice (some ⟨g, 0, none⟩) cs.length cap) ∧ W.cell? ⟨b, off + m * 3 + 1, none⟩ = some (.slice va y.val.length vc))) (by kernel_rfl) ?_ (fun hHeld => ?_)
    · (exact CX9.out _ (by first | exact BN0.out | exact BN1.out | exact BN8.out | exact BN9.out))
    refine wpAnyH_take (i := 0) (v := ?_) rfl (by kernel_rfl) (by kernel_rfl) (by kernel_rfl) (fun _ _ _ h => h) (Or.inl ⟨by kernel_rfl, ?_⟩) (by assumption) ?_
    rotate_left
    · (intro wS hSw; (try dsimp only at hSw); go_simp <;> with_reducible rfl)
    try simp only [Act.put, tkS]
    refine wpAnyH_take (i := 1) (v := ?_) rfl (by kernel_rfl) (by kernel_rfl) (by kernel_rfl) (fun _ _ _ h => h) (Or.inl ⟨by kernel_rfl, ?_⟩) (by assumption) ?_
    rotate_left
    · (intro wS hSw; (try dsimp only at hSw); go_simp <;> with_reducible rfl)
    try simp only [Act.put, tkS]
    refine wpAnyH_take (i := 2) (v := ?_) rfl (by kernel_rfl) (by kernel_rfl) (by kernel_rfl) (fun _ _ _ h => h) (Or.inl ⟨by kernel_rfl, ?_⟩) (by assumption) ?_
    rotate_left
    · (intro wS hSw; (try dsimp only at hSw); go_simp <;> with_reducible rfl)
    try simp only [Act.put, tkS]
    refine wpAnyH_take (i := 4) (v := ?_) rfl (by kernel_rfl) (by kernel_rfl) (by kernel_rfl) (fun _ _ _ h => h) (Or.inl ⟨by kernel_rfl, ?_⟩) (by assumption) ?_
    rotate_left
    · (intro wS hSw; (try dsimp only at hSw); go_simp <;> with_reducible rfl)
    try simp only [Act.put, tkS]
    refine wpAnyH_take (i := 5) (v := ?_) rfl (by kernel_rfl) (by kernel_rfl) (by kernel_rfl) (fun _ _ _ h => h) (Or.inl ⟨by kernel_rfl, ?_⟩) (by assumption) ?_
    rotate_left
    · (intro wS hSw; (try dsimp only at hSw); go_simp <;> with_reducible rfl)
    try simp only [Act.put, tkS]
    refine wpAnyH_take (i := 6) (v := ?_) rfl (by kernel_rfl) (by kernel_rfl) (by kernel_rfl) (fun _ _ _ h => h) (Or.inl ⟨by kernel_rfl, ?_⟩) (by assumption) ?_
    rotate_left
    · (intro wS hSw; (try dsimp only at hSw); go_simp <;> with_reducible rfl)
    try simp only [Act.put, tkS]
    refine wpAnyH_take (i := 7) (v := ?_) rfl (by kernel_rfl) (by kernel_rfl) (by kernel_rfl) (fun _ _ _ h => h) (Or.inl ⟨by kernel_rfl, ?_⟩) (by assumption) ?_
    rotate_left
    · (intro wS hSw; (try dsimp only at hSw); go_simp <;> with_reducible rfl)
    try simp only [Act.put, tkS]
    refine wpAnyH_take (i := 8) (v := ?_) rfl (by kernel_rfl) (by kernel_rfl) (by kernel_rfl) (fun _ _ _ h => h) (Or.inl ⟨by kernel_rfl, ?_⟩) (by assumption) ?_
    rotate_left
    · (intro wS hSw; (try dsimp only at hSw); go_simp <;> with_reducible rfl)
    try simp only [Act.put, tkS]
    refine wpAnyH_ready (rs := [3]) (by kernel_rfl) (by simp) (AllReadyH.cons rfl (fun K hK => ?_) AllReadyH.nil)
    go_simp
    refine hK.out _ _ ?_ (fun hHeld => ?_)
    · (exact CX9.out _ (by first | exact BN0.out | exact BN1.out | exact BN8.out | exact BN9.out))
    clear hK K
    try simp only [Act.put, tkS]
    refine wpAnyH_ready (rs := [9]) (by kernel_rfl) (by simp) (AllReadyH.cons rfl (fun K hK => ?_) AllReadyH.nil)
    refine step_append_is rfl (.tmp 44) (.tmp 49) 42 rfl _ _ (by rfl) (by rfl) _ _ RUN9.out ?_
    refine hK.out _ _ ?_ (fun hHeld => ?_)
    · (exact CX9.out _ (by first | exact BN0.out | exact BN1.out | exact BN8.out | exact BN9.out))
    clear hK K
    try simp only [Act.put, tkS]
    refine wpAnyH_take (i := 10) (v := ?_) rfl (by kernel_rfl) (by kernel_rfl) (by kernel_rfl) (fun _ _ _ h => h) (Or.inl ⟨by kernel_rfl, ?_⟩) (by assumption) ?_
    rotate_left
    · (intro wS hSw; (try dsimp only at hSw); go_simp <;> with_reducible rfl)
    try simp only [Act.put, tkS]
    refine wpAnyH_ready (rs := [11]) (by kernel_rfl) (by simp) (AllReadyH.cons rfl (fun K hK => ?_) AllReadyH.nil)
    go_simp
    refine hK.out _ _ ?_ (fun hHeld => ?_)
    · (exact CX9.out _ (by first | exact BN0.out | exact BN1.out | exact BN8.out | exact BN9.out))
    clear hK K
    try simp only [Act.put, tkS]
    refine wpAnyH_done (by kernel_rfl) ?_ _
    go_wp2_with fail
    go_roundw
    case rel => exact ⟨m + 1, by omega, by go_num, _, _, HS4.out, HN.out.1, HN.out.2⟩
    case measure => simp [intOf]; omega
set_option maxRecDepth 100000 in
set_option maxHeartbeats 12800000 in
theorem setRowS (t : Tb) (ca : Option Addr) (cc : Nat) (ua : Option Addr) (uc : Nat) (A : Nat → Prop) (r : RowV) (ra : Option Addr) (rc : Nat) (R : Nat → Prop) (list : List SetV) (a : Option Addr) (c : Nat) (B : Nat → Prop) (w : World) (hto : t.ok) (hlo : (dSetS list).le 1048576) (hr : (dAtomSS r.cells).le 1048576) (hT : t.Has w A ca ua) (hR : Rd w R (dAtomSS r.cells) (.slice ra r.cells.length rc)) (hL : Rd w B (dSetS list) (.slice a list.length c)) :
    Calls Try.prog 9 #[.agg #[.string ⟨t.nm.toArray⟩, .slice ca t.cols.length cc, .slice ua t.uq.length uc, .bool t.rt], .agg #[.int .i64 r.id, .slice ra r.cells.length rc], .slice a list.length c] w (RowAns w (seR t r list) (seC t r list)) := by
  have hlm : (dSetS list).le maxLen := D.le.mono (by unfold maxLen; omega) _ hlo
  have hrm : (dAtomSS r.cells).le maxLen := D.le.mono (by unfold maxLen; omega) _ hr
  have hll : list.length ≤ 1048576 := (Ls_le.1 hlo).2.1
  have RO : Hid (∀ W, MB3 w W #[.string ⟨t.nm.toArray⟩, .slice ca t.cols.length cc, .slice ua t.uq.length uc, .bool t.rt] #[.int .i64 r.id, .slice ra r.cells.length rc] #[.int .i64 0, .slice none 0 0] → Calls Try.prog 25 #[.agg #[.string ⟨t.nm.toArray⟩, .slice ca t.cols.length cc, .slice ua t.uq.length uc, .bool t.rt], .agg #[.int .i64 r.id, .slice ra r.cells.length rc]] W fun e w' => e = .returned (.bool (rokM t r)) ∧ MB3 w w' #[.string ⟨t.nm.toArray⟩, .slice ca t.cols.length cc, .slice ua t.uq.length uc, .bool t.rt] #[.int .i64 r.id, .slice ra r.cells.length rc] #[.int .i64 0, .slice none 0 0]) := fun W h => by
    obtain ⟨X, hX⟩ := (hR.later h.bel).rowX
    exact (rowOKs t ca cc ua uc r.id r.cells ra rc X A W.heap.size W hto (le_sets hrm) (hT.later h.bel) (Nat.le_refl _) hX).mono (fun e w' ⟨he, hB⟩ => ⟨he, h.later hB⟩)
  have HL : Hid (∀ W, Below w.heap.size w W → Rd W B (Ls 3 dSet list) (.slice a list.length c)) := fun W h => Rd.later hL h
  have HLO := Lib.hid hlm
  have SS : Hid (∀ W, MB3 w W #[.string ⟨t.nm.toArray⟩, .slice ca t.cols.length cc, .slice ua t.uq.length uc, .bool t.rt] #[.int .i64 r.id, .slice ra r.cells.length rc] #[.int .i64 0, .slice none 0 0] → Calls Try.prog 27 #[.agg #[.string ⟨t.nm.toArray⟩, .slice ca t.cols.length cc, .slice ua t.uq.length uc, .bool t.rt], .slice a list.length c] W fun e w' => e = .returned (.int .i64 (setsC t list)) ∧ MB3 w w' #[.string ⟨t.nm.toArray⟩, .slice ca t.cols.length cc, .slice ua t.uq.length uc, .bool t.rt] #[.int .i64 r.id, .slice ra r.cells.length rc] #[.int .i64 0, .slice none 0 0]) := fun W h => (setsS t ca cc ua uc A list a c B W hto hlm (hT.later h.bel) (hL.later h.bel)).mono (fun e w' ⟨he, hB⟩ => ⟨he, h.later hB⟩)
  have RW : Hid (rokM t r = true → (∀ k (h : k < list.length), setK t (list.take k) list[k] = 0) → ∀ W, MB3 w W #[.string ⟨t.nm.toArray⟩, .slice ca t.cols.length cc, .slice ua t.uq.length uc, .bool t.rt] #[.int .i64 r.id, .slice ra r.cells.length rc] #[.int .i64 0, .slice none 0 0] → Calls Try.prog 28 #[.agg #[.string ⟨t.nm.toArray⟩, .slice ca t.cols.length cc, .slice ua t.uq.length uc, .bool t.rt], .agg #[.int .i64 r.id, .slice ra r.cells.length rc], .slice a list.length c] W (RowAns W (rowWR t r list) (rowW t r.cells list).1)) := fun hro hq W h => setRowL t ca cc ua uc A r ra rc R list a c B W hto hlo hr (rok_lenS hro) hq (hT.later h.bel) (hR.later h.bel) (hL.later h.bel)
  have hb := mb3 w #[.string ⟨t.nm.toArray⟩, .slice ca t.cols.length cc, .slice ua t.uq.length uc, .bool t.rt] #[.int .i64 r.id, .slice ra r.cells.length rc] #[.int .i64 0, .slice none 0 0]
  have HB := Lib.hid hb
  have x0 := cell_at (o := 0) hb.tb rfl
  have x1 := cell_at (o := 1) hb.tb rfl
  have x2 := cell_at (o := 2) hb.tb rfl
  have x3 := cell_at (o := 3) hb.tb rfl
  have y0 := cell_at (o := 0) hb.rb rfl
  have y1 := cell_at (o := 1) hb.rb rfl
  have z0 := cell_at (o := 0) hb.zr rfl
  have z1 := cell_at (o := 1) hb.zr rfl
  have f0 := frozen_at 0 hb.zr
  have f1 := frozen_at 1 hb.zr
  clear hlm hrm hto hlo hr hT hR hL hb
  by_cases h4 : 4096 < list.length
  case pos =>
    have HP := Lib.hid (se_long (t := t) (r := r) h4)
    have hd : decide (4096 < (list.length : Int)) = true := decide_eq_true (by omega)
    clear h4
    go_enter Try.func9, Try.ntmps9
    go_wp2_with fail
    refine bodyPost_ret (v := .tuple #[.agg #[.int .i64 0, .slice none 0 0], .int .i64 2]) (by simp [results, Try.results9, go_sem, *]) rfl ?_
    rw [HP.out.1, HP.out.2]
    exact ⟨none, 0, rfl, Rd.lsNil _ _, by first | exact HB.out.bel | exact (HB.out.bel.setCell (by show w.heap.size ≤ w.heap.size + 1 + 1; omega) _).setCell (by show w.heap.size ≤ w.heap.size + 1 + 1; omega) _⟩
  have hd : decide (4096 < (list.length : Int)) = false := decide_eq_false (by omega)
  have H4 := Lib.hid h4
  clear h4
  cases hro : rokM t r
  case false =>
    have HP := Lib.hid (se_bad (t := t) (r := r) H4.out (fun h => by rw [hro] at h; cases h.1))
    rw [hro] at RO
    clear hro
    go_enter Try.func9, Try.ntmps9
    go_wp2_with fail
    refine (RO.out _ HB.out).mono ?_
    rintro e w1 ⟨rfl, hb⟩
    have HB1 := Lib.hid hb
    clear x0 x1 x2 x3 y0 y1 z0 z1 f0 f1
    have x0 := cell_at (o := 0) hb.tb rfl
    have x1 := cell_at (o := 1) hb.tb rfl
    have x2 := cell_at (o := 2) hb.tb rfl
    have x3 := cell_at (o := 3) hb.tb rfl
    have y0 := cell_at (o := 0) hb.rb rfl
    have y1 := cell_at (o := 1) hb.rb rfl
    have z0 := cell_at (o := 0) hb.zr rfl
    have z1 := cell_at (o := 1) hb.zr rfl
    have f0 := frozen_at 0 hb.zr
    have f1 := frozen_at 1 hb.zr
    clear hb
    go_wp2_with fail
    refine bodyPost_ret (v := .tuple #[.agg #[.int .i64 0, .slice none 0 0], .int .i64 1]) (by simp [results, Try.results9, go_sem, *]) rfl ?_
    rw [HP.out.1, HP.out.2]
    exact ⟨none, 0, rfl, Rd.lsNil _ _, by first | exact HB1.out.bel | exact (HB1.out.bel.setCell (by show w.heap.size ≤ w.heap.size + 1 + 1; omega) _).setCell (by show w.heap.size ≤ w.heap.size + 1 + 1; omega) _⟩
  have HRO := Lib.hid hro
  rw [hro] at RO
  clear hro
  by_cases h6 : 6 < list.length
  case pos =>
    have HP := Lib.hid (se_bad (t := t) (r := r) H4.out (fun h => by have := (vals_all h.2).1; omega))
    have hd6 : decide (6 < (list.length : Int)) = true := decide_eq_true (by omega)
    clear h6
    go_enter Try.func9, Try.ntmps9
    go_wp2_with fail
    refine (RO.out _ HB.out).mono ?_
    rintro e w1 ⟨rfl, hb⟩
    have HB1 := Lib.hid hb
    clear x0 x1 x2 x3 y0 y1 z0 z1 f0 f1
    have x0 := cell_at (o := 0) hb.tb rfl
    have x1 := cell_at (o := 1) hb.tb rfl
    have x2 := cell_at (o := 2) hb.tb rfl
    have x3 := cell_at (o := 3) hb.tb rfl
    have y0 := cell_at (o := 0) hb.rb rfl
    have y1 := cell_at (o := 1) hb.rb rfl
    have z0 := cell_at (o := 0) hb.zr rfl
    have z1 := cell_at (o := 1) hb.zr rfl
    have f0 := frozen_at 0 hb.zr
    have f1 := frozen_at 1 hb.zr
    clear hb
    go_wp2_with fail
    refine bodyPost_ret (v := .tuple #[.agg #[.int .i64 0, .slice none 0 0], .int .i64 1]) (by simp [results, Try.results9, go_sem, *]) rfl ?_
    rw [HP.out.1, HP.out.2]
    exact ⟨none, 0, rfl, Rd.lsNil _ _, by first | exact HB1.out.bel | exact (HB1.out.bel.setCell (by show w.heap.size ≤ w.heap.size + 1 + 1; omega) _).setCell (by show w.heap.size ≤ w.heap.size + 1 + 1; omega) _⟩
  have hd6 : decide (6 < (list.length : Int)) = false := decide_eq_false (by omega)
  have H6 := Lib.hid h6
  clear h6
  go_enter Try.func9, Try.ntmps9
  go_wp2_with fail
  refine (RO.out _ HB.out).mono ?_
  rintro e w1 ⟨rfl, hb⟩
  have HB1 := Lib.hid hb
  clear x0 x1 x2 x3 y0 y1 z0 z1 f0 f1
  have x0 := cell_at (o := 0) hb.tb rfl
  have x1 := cell_at (o := 1) hb.tb rfl
  have x2 := cell_at (o := 2) hb.tb rfl
  have x3 := cell_at (o := 3) hb.tb rfl
  have y0 := cell_at (o := 0) hb.rb rfl
  have y1 := cell_at (o := 1) hb.rb rfl
  have z0 := cell_at (o := 0) hb.zr rfl
  have z1 := cell_at (o := 1) hb.zr rfl
  have f0 := frozen_at 0 hb.zr
  have f1 := frozen_at 1 hb.zr
  clear hb
  go_wp2_with fail
  clear x0 x1 x2 x3 y0 y1 z0 z1 f0 f1
  go_loopw [8] (fun i wr => ∃ k : Nat, k ≤ list.length ∧ i = .int .i64 k ∧ Hid ((∀ m (h : m < list.length), m < k → valB list[m] = true) ∧ MB3 w wr #[.string ⟨t.nm.toArray⟩, .slice ca t.cols.length cc, .slice ua t.uq.length uc, .bool t.rt] #[.int .i64 r.id, .slice ra r.cells.length rc] #[.int .i64 0, .slice none 0 0])) (fun i _ => list.length - (intOf i).toNat)
  case atStart => exact ⟨0, Nat.zero_le _, rfl, fun m _ h => absurd h (by omega), HB1.out⟩
  case round =>
    obtain ⟨k, hk, rfl, HW⟩ := hrel
    by_cases hlt : k < list.length
    case neg =>
      have hki : decide ((k : Int) < (list.length : Int)) = false := by simp; omega
      have HVB : Hid (valsB list = true) := fewN_yes (fun m h => HW.out.1 m h (by omega)) (by have := H6.out; omega)
      have HB2 := Lib.hid HW.out.2
      have hb := HB2.out
      have x0 := cell_at (o := 0) hb.tb rfl
      have x1 := cell_at (o := 1) hb.tb rfl
      have x2 := cell_at (o := 2) hb.tb rfl
      have x3 := cell_at (o := 3) hb.tb rfl
      have y0 := cell_at (o := 0) hb.rb rfl
      have y1 := cell_at (o := 1) hb.rb rfl
      have z0 := cell_at (o := 0) hb.zr rfl
      have z1 := cell_at (o := 1) hb.zr rfl
      have f0 := frozen_at 0 hb.zr
      have f1 := frozen_at 1 hb.zr
      clear hb
      by_cases h0 : setsC t list = 0
      case neg =>
        have HP := Lib.hid (se_code H4.out ⟨HRO.out, HVB.out⟩ h0)
        have hne : (setsC t list != 0) = true := by simpa using h0
        clear h0
        go_wp2_with fail
        refine (SS.out _ HB2.out).mono ?_
        rintro e w3 ⟨rfl, hb⟩
        have HB3 := Lib.hid hb
        clear x0 x1 x2 x3 y0 y1 z0 z1 f0 f1
        have x0 := cell_at (o := 0) hb.tb rfl
        have x1 := cell_at (o := 1) hb.tb rfl
        have x2 := cell_at (o := 2) hb.tb rfl
        have x3 := cell_at (o := 3) hb.tb rfl
        have y0 := cell_at (o := 0) hb.rb rfl
        have y1 := cell_at (o := 1) hb.rb rfl
        have z0 := cell_at (o := 0) hb.zr rfl
        have z1 := cell_at (o := 1) hb.zr rfl
        have f0 := frozen_at 0 hb.zr
        have f1 := frozen_at 1 hb.zr
        clear hb
        go_wp2_with fail
        refine bodyPost_ret (v := .tuple #[.agg #[.int .i64 0, .slice none 0 0], .int .i64 (setsC t list)]) (by simp [results, Try.results9, go_sem, *]) rfl ?_
        rw [HP.out.1, HP.out.2]
        exact ⟨none, 0, rfl, Rd.lsNil _ _, by first | exact HB3.out.bel | exact (HB3.out.bel.setCell (by show w.heap.size ≤ w.heap.size + 1 + 1; omega) _).setCell (by show w.heap.size ≤ w.heap.size + 1 + 1; omega) _⟩
      have HP := Lib.hid (se_ok H4.out ⟨HRO.out, HVB.out⟩ h0)
      have HE := Lib.hid (setsC_all h0)
      rw [h0] at SS
      clear h0
      go_wp2_with fail
      refine (SS.out _ HB2.out).mono ?_
      rintro e w3 ⟨rfl, hb⟩
      have HB3 := Lib.hid hb
      clear x0 x1 x2 x3 y0 y1 z0 z1 f0 f1
      have x0 := cell_at (o := 0) hb.tb rfl
      have x1 := cell_at (o := 1) hb.tb rfl
      have x2 := cell_at (o := 2) hb.tb rfl
      have x3 := cell_at (o := 3) hb.tb rfl
      have y0 := cell_at (o := 0) hb.rb rfl
      have y1 := cell_at (o := 1) hb.rb rfl
      have z0 := cell_at (o := 0) hb.zr rfl
      have z1 := cell_at (o := 1) hb.zr rfl
      have f0 := frozen_at 0 hb.zr
      have f1 := frozen_at 1 hb.zr
      clear hb
      go_wp2_with fail
      refine (RW.out HRO.out HE.out _ HB3.out).mono ?_
      rintro e w4 ⟨oa, oc, rfl, hrd, hB⟩
      have HB4 := Lib.hid (HB3.out.later hB)
      have HRD : Hid (Rd w4 (fun b => w.heap.size + 1 + 1 + 1 ≤ b ∧ b < w4.heap.size) (dAtomSS (rowWR t r list).cells) (.slice oa (rowWR t r list).cells.length oc)) := hrd.mono (fun b hb => ⟨by have h1 := hb.1; have h2 := (Array.getElem?_eq_some_iff.1 HB3.out.zr).1; omega, hb.2⟩)
      clear hrd hB
      clear x0 x1 x2 x3 y0 y1 z0 z1 f0 f1
      generalize rowWR t r list = y at *
      generalize (rowW t r.cells list).1 = n at *
      have z0 := cell_at (o := 0) HB4.out.zr rfl
      have f0 := frozen_at 0 HB4.out.zr
      have z1 := cell_at (o := 1) HB4.out.zr rfl
      have f1 := frozen_at 1 HB4.out.zr
      go_wp2_with fail
      refine bodyPost_ret (v := .tuple #[.agg #[.int .i64 y.id, .slice oa y.cells.length oc], .int .i64 n]) (by simp [results, Try.results9, go_sem, *]) rfl ?_
      rw [HP.out.1, HP.out.2]
      refine ⟨oa, oc, rfl, ?_, (HB4.out.bel.setCell (by show w.heap.size ≤ w.heap.size + 1 + 1; omega) _).setCell (by show w.heap.size ≤ w.heap.size + 1 + 1; omega) _⟩
      exact (HRD.out.frm (F := (· = w.heap.size + 1 + 1)) ((frm_set _ _ _ _).trans (frm_set _ _ _ _)) (fun b hb e => by have h1 := hb.1; have e2 : b = w.heap.size + 1 + 1 := e; omega)).mono (fun b hb => ⟨by have := hb.1; omega, by simpa using hb.2⟩)
    have hki : (k : Int) < (list.length : Int) := by omega
    obtain ⟨b, off, rfl, -, hc⟩ := (HL.out _ HW.out.2.bel).things k hlt
    obtain ⟨u0, c0, r0⟩ := hc 0 (by omega)
    obtain rfl : u0 = .string ⟨list[k].col.toArray⟩ := r0
    rw [Nat.add_zero] at c0
    obtain ⟨u1, c1, r1⟩ := hc 1 (by omega)
    replace r1 : Rd wr B (dAtomS list[k].val) u1 := r1
    obtain ⟨va, vc, rfl⟩ := r1.lsSlice
    obtain ⟨u2, c2, r2⟩ := hc 2 (by omega)
    replace r2 : Rd wr B (dStringS list[k].nms) u2 := r2
    obtain ⟨na, nc, rfl⟩ := r2.lsSlice
    clear hc
    have HLE := Lib.hid (le_set HLO.out hlt)
    have hnl : list[k].nms.length ≤ maxLen := (Ls_le.1 HLE.out.2.2).2.1
    unfold maxLen at hnl
    have CO := Lib.hid (setS list[k] va vc na nc B B wr HLE.out.1 HLE.out.2.1 HLE.out.2.2 r1 r2)
    have HNO : Hid (valB list[k] = false → ¬ (rokM t r = true ∧ valsB list = true)) := fun h hn => by have := (vals_all hn.2).2 k hlt; rw [h] at this; cases this
    have HNX : Hid (valB list[k] = true → ∀ m (h : m < list.length), m < k + 1 → valB list[m] = true) := fun he m h hm => by
      by_cases e : m = k
      · subst e; exact he
      · exact HW.out.1 m h (by omega)
    have CKC : Hid (∀ W, Below wr.heap.size wr W → W.cell? ⟨b, off + k * 3 + 2, none⟩ = some (.slice na list[k].nms.length nc)) := fun W h => cell_keptX c2 h
    clear r1 r2 HLE
    generalize list[k] = y at *
    go_wp2_with fail
    refine CO.out.mono ?_
    rintro e w5 ⟨rfl, hB⟩
    have HB5 := Lib.hid (HW.out.2.later hB)
    have c9 := CKC.out _ hB
    clear hB c0 c1 c2 CO CKC
    cases hsb : setB y
    case false =>
      have HVF : valB y = false := by unfold valB; rw [hsb]; rfl
      clear hsb
      have HP := Lib.hid (se_bad (t := t) (r := r) H4.out (HNO.out HVF))
      have z0 := cell_at (o := 0) HB5.out.zr rfl
      have f0 := frozen_at 0 HB5.out.zr
      have z1 := cell_at (o := 1) HB5.out.zr rfl
      have f1 := frozen_at 1 HB5.out.zr
      clear HNO HNX HVF
      go_wp2_with fail
      refine bodyPost_ret (v := .tuple #[.agg #[.int .i64 0, .slice none 0 0], .int .i64 1]) (by simp [results, Try.results9, go_sem, *]) rfl ?_
      rw [HP.out.1, HP.out.2]
      exact ⟨none, 0, rfl, Rd.lsNil _ _, by first | exact HB5.out.bel | exact (HB5.out.bel.setCell (by show w.heap.size ≤ w.heap.size + 1 + 1; omega) _).setCell (by show w.heap.size ≤ w.heap.size + 1 + 1; omega) _⟩
    by_cases hn0 : 0 < y.nms.length
    case pos =>
      have HVF : valB y = false := by unfold valB; rw [decide_eq_false (by omega), Bool.and_false]
      have e1 : decide (0 < y.nms.length) = true := decide_eq_true hn0
      clear hsb hn0
      have HP := Lib.hid (se_bad (t := t) (r := r) H4.out (HNO.out HVF))
      have z0 := cell_at (o := 0) HB5.out.zr rfl
      have f0 := frozen_at 0 HB5.out.zr
      have z1 := cell_at (o := 1) HB5.out.zr rfl
      have f1 := frozen_at 1 HB5.out.zr
      clear HNO HNX HVF
      go_wp2_with fail
      refine bodyPost_ret (v := .tuple #[.agg #[.int .i64 0, .slice none 0 0], .int .i64 1]) (by simp [results, Try.results9, go_sem, *]) rfl ?_
      rw [HP.out.1, HP.out.2]
      exact ⟨none, 0, rfl, Rd.lsNil _ _, by first | exact HB5.out.bel | exact (HB5.out.bel.setCell (by show w.heap.size ≤ w.heap.size + 1 + 1; omega) _).setCell (by show w.heap.size ≤ w.heap.size + 1 + 1; omega) _⟩
    have HN := Lib.hid (HNX.out (by unfold valB; rw [hsb, decide_eq_true (by omega)]; rfl))
    have e1 : decide (0 < y.nms.length) = false := decide_eq_false hn0
    clear hsb hn0 HNO HNX
    go_wp2_with fail
    go_roundw
    case rel => exact ⟨k + 1, by omega, by go_num, HN.out, HB5.out⟩
    case measure => simp [intOf]; omega
end Go.Proofs.Ytajhjjpanjpfoaa
