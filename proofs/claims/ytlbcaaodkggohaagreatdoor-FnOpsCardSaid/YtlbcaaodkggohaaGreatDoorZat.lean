import Derived.Test.YtlbcaaodkggohaaGreatDoorZas
import Derived.Deep.CutRange
import Derived.Deep.LoopGhost
import Derived.Test.YtlbcaaodkggohaaGreatDoorZTk
namespace Go.Proofs.YtlbcaaodkggohaaGreatDoor
open Go.RowKit
set_option linter.unusedSimpArgs false
variable {V W W' : World} {p S : Nat} {a : Option Addr} {l : List UInt8} {c m m' s : Nat}
theorem plT_cols : ∀ t, t < 3 → (2 ≤ (plT t).cols.length ∧ (plT t).cols.length ≤ 3) ∧ ∀ cl ∈ (plT t).cols, (1 ≤ cl.k ∧ cl.k ≤ 4) ∧ cl.nm.length ≤ 40 := by
 intro t ht; rcases (by omega : t = 0 ∨ t = 1 ∨ t = 2) with rfl | rfl | rfl
 ·
  refine ⟨by simp [plT], fun cl h => ?_⟩; simp only [plT, List.mem_cons, List.not_mem_nil, or_false] at h; rcases h with rfl | rfl <;> simp
 ·
  refine ⟨by simp [plT], fun cl h => ?_⟩; simp only [plT, List.mem_cons, List.not_mem_nil, or_false] at h; rcases h with rfl | rfl | rfl <;> simp
 ·
  refine ⟨by simp [plT], fun cl h => ?_⟩; simp only [plT, List.mem_cons, List.not_mem_nil, or_false] at h; rcases h with rfl | rfl | rfl <;> simp
structure QMs (V W : World) (p S : Nat) (a : Option Addr) (l : List UInt8) (c m qc : Nat) (cl : Cl) : Prop where
 src : ∃ s, Src W p S a l c m s
 fr : Frm (· = p) V W
 cb : W.heap[qc]? = some (.cells #[.string ⟨cl.nm.toArray⟩, .int .i64 cl.k, .int .i64 cl.mn, .int .i64 cl.mx, .int .i64 cl.lo, .int .i64 cl.hi, .string ⟨cl.rf.toArray⟩, .bool cl.st] 44)
 ge : p < V.heap.size ∧ V.heap.size ≤ qc
variable {qc qm : Nat} {cl : Cl} {x : MutV} {va : Option Addr} {vc : Nat}
theorem QMs.draw (h : QMs V W p S a l c m qc cl) (hF : Frm (· = p) W W') (hS : ∃ s', Src W' p S a l c m' s') : QMs V W' p S a l c m' qc cl :=
 ⟨hS, h.fr.trans hF, keepF h.cb hF (by have := h.ge; omega), h.ge⟩
theorem QMs.lt (h : QMs V W p S a l c m qc cl) : qc < W.heap.size := (Array.getElem?_eq_some_iff.1 h.cb).1
structure QMt (V W : World) (p S : Nat) (a : Option Addr) (l : List UInt8) (c m qc qm : Nat) (cl : Cl) (x : MutV) (va : Option Addr) (vc : Nat) : Prop where
 ms : QMs V W p S a l c m qc cl
 bx : W.heap[qm]? = some (.cells #[.string ⟨x.col.toArray⟩, .int .i64 x.fn, .slice va x.val.length vc] 114)
 rv : Rd W (fun b => (V.heap.size ≤ b ∧ b ≠ qm) ∧ b < W.heap.size) (dAtomS x.val) (.slice va x.val.length vc)
 ge : V.heap.size ≤ qm ∧ qm ≠ qc
theorem QMt.draw (h : QMt V W p S a l c m qc qm cl x va vc) (hF : Frm (· = p) W W') (hS : ∃ s', Src W' p S a l c m' s') : QMt V W' p S a l c m' qc qm cl x va vc :=
 ⟨h.ms.draw hF hS, keepF h.bx hF (by have := h.ge; have := h.ms.ge; omega), (h.rv.frm hF (fun b hb e => by have e' : b = p := e; have := h.ms.ge; omega)).mono (fun b hb => ⟨hb.1, Nat.lt_of_lt_of_le hb.2 hF.size⟩), h.ge⟩
theorem QMt.later (h : QMt V W p S a l c m qc qm cl x va vc) (hB : Below W.heap.size W W') : QMt V W' p S a l c m qc qm cl x va vc := by
 obtain ⟨s, hs⟩ := h.ms.src; exact h.draw (Frm.of_below hB) ⟨s, hs.on hB⟩
theorem QMt.put (h : QMt V W p S a l c m qc qm cl x va vc) (o : Nat) (u : Value) {y : MutV} {va' : Option Addr} {vc' : Nat} (hb : (W.setCell ⟨qm, o, none⟩ u).heap[qm]? = some (.cells #[.string ⟨y.col.toArray⟩, .int .i64 y.fn, .slice va' y.val.length vc'] 114))
  (hv : Rd W (fun b => (V.heap.size ≤ b ∧ b ≠ qm) ∧ b < W.heap.size) (dAtomS y.val) (.slice va' y.val.length vc')) : QMt V (W.setCell ⟨qm, o, none⟩ u) p S a l c m qc qm cl y va' vc' := by
 obtain ⟨s, hs⟩ := h.ms.src; have hg := h.ge; have hp := h.ms.ge; have hF : Frm (· = qm) W (W.setCell ⟨qm, o, none⟩ u) := frm_set _ _ _ _; have sz : (W.setCell ⟨qm, o, none⟩ u).heap.size = W.heap.size := by simp [World.setCell]
 refine ⟨⟨⟨s, hs.frm hF (by omega) (fun b hb e => by have := hs.le; have e' : b = qm := e; omega)⟩, frm_over h.ms.fr (by omega) hF, ?_, hp⟩, hb, ?_, hg⟩
 ·
  rw [hF.block _ h.ms.lt (show ¬ qc = qm by omega)]; exact h.ms.cb
 ·
  rw [sz]; exact hv.frm hF (fun b hb e => hb.1.2 e)
def MutA (W : World) (p S : Nat) (a : Option Addr) (l : List UInt8) (c m : Nat) (e : Ending) (W' : World) : Prop := ∃ (x : MutV) (va : Option Addr) (vc m' s' : Nat), e = .returned (.agg #[.string ⟨x.col.toArray⟩, .int .i64 x.fn, .slice va x.val.length vc]) ∧ mutB x = true ∧ (∀ j, j < 3 → (dMut x j).le 1048576) ∧ Rd W' (fun b => W.heap.size ≤ b ∧ b < W'.heap.size) (dAtomS x.val) (.slice va x.val.length vc) ∧ m' ≤ m + 20 ∧ Src W' p S a l c m' s' ∧ Frm (· = p) W W'
theorem mut_right {x : MutV} {k : Nat} (hf : 1 ≤ x.fn ∧ x.fn ≤ 7) (hn : x.col.length ≤ 40) (hk : 1 ≤ k ∧ k ≤ 4) (hd : Drn k x.val) (h8 : x.val.length ≤ 8) : mutB x = true ∧ ∀ j, j < 3 → (dMut x j).le 1048576 := by
 refine ⟨?_, fun j hj => ?_⟩
 ·
  unfold mutB; rw [Dk.datum (k := (k : Int)) hd h8, decide_eq_true hn]; unfold inB; rw [decide_eq_true hf]; rfl
 ·
  rcases (by omega : j = 0 ∨ j = 1 ∨ j = 2) with rfl | rfl | rfl
  ·
   show x.col.length ≤ 1048576; omega
  ·
   exact iOK_small (by omega)
  ·
   exact ats_leK (by omega) (fun z hz => ⟨by rw [(hd.2 z hz).1]; omega, (hd.2 z hz).2⟩)
set_option maxRecDepth 100000 in
set_option maxHeartbeats 12800000 in
theorem srcMut (t : Nat) (ht : t < 3) (h : Src W p S a l c m s) (hm : m < 900000) :
  Calls Tryz.prog 71 #[.pointer (some ⟨p, 0, none⟩), .int .i64 (t : Int)] W (MutA W p S a l c m) := by
 have hpl : p < W.heap.size := (Array.getElem?_eq_some_iff.1 h.box).1; have PL := Lib.hid (plainT (W.alloc (.cells #[.string ⟨#[]⟩, .int .i64 0, .slice none 0 0] 114))); have HS0 : Hid (∀ W2, Below W.heap.size W W2 → ∃ s, Src W2 p S a l c m s) := fun W2 hB => ⟨s, h.on hB⟩
 have HM := Lib.hid hm; have HPT := Lib.hid (plT_cols t ht); have ht3 : (t : Int) < 3 := by omega
 clear h hm; (go_enter Tryz.func71, Tryz.ntmps71); (go_wp2_with fail); refine PL.out.mono ?_; rintro e w1 ⟨A, rb, off, rfl, hT, hB1⟩; obtain ⟨⟨c0, c1, c2, c3⟩, hth⟩ := hT t ht; have hA0 := below_allocD W (.cells #[.string ⟨#[]⟩, .int .i64 0, .slice none 0 0] 114); have hz1 : w1.heap[W.heap.size]? = some (.cells #[.string ⟨#[]⟩, .int .i64 0, .slice none 0 0] 114) := heap_keptD (heap_newD W (.cells #[.string ⟨#[]⟩, .int .i64 0, .slice none 0 0] 114)) hB1; have hB : Below W.heap.size W w1 := hA0.trans (hB1.mono hA0.size); have hsz : W.heap.size < w1.heap.size := (Array.getElem?_eq_some_iff.1 hz1).1; clear hT PL; generalize plT t = tb at *; generalize A t = ad at *
 have TF : Hid (∀ W2, Frm (· = p) (w1.alloc (.cells #[.string ⟨tb.nm.toArray⟩, .slice ad.ca tb.cols.length ad.cc, .slice ad.ua tb.uq.length ad.uc, .bool tb.rt] 48)) W2 → W2.heap[w1.heap.size]? = some (.cells #[.string ⟨tb.nm.toArray⟩, .slice ad.ca tb.cols.length ad.cc, .slice ad.ua tb.uq.length ad.uc, .bool tb.rt] 48) ∧ Cols W2 (fun _ => True) ad.ca tb.cols ∧ W2.heap[W.heap.size]? = some (.cells #[.string ⟨#[]⟩, .int .i64 0, .slice none 0 0] 114)) := fun W2 hF => by
  have hA := below_allocD w1 (.cells #[.string ⟨tb.nm.toArray⟩, .slice ad.ca tb.cols.length ad.cc, .slice ad.ua tb.uq.length ad.uc, .bool tb.rt] 48); refine ⟨keepF (heap_newD _ _) hF (by omega), ?_, keepF (heap_keptD hz1 hA) hF (by omega)⟩; exact Rw.same (Cols.later hth.1 hA) (fun b hb => hF.block b (Nat.lt_of_lt_of_le hb.2 hA.size) (by have := hA0.size; omega)) (fun _ _ => trivial)
 have HV : Hid (Frm (· = p) W (w1.alloc (.cells #[.string ⟨tb.nm.toArray⟩, .slice ad.ca tb.cols.length ad.cc, .slice ad.ua tb.uq.length ad.uc, .bool tb.rt] 48)) ∧ W.heap.size < (w1.alloc (.cells #[.string ⟨tb.nm.toArray⟩, .slice ad.ca tb.cols.length ad.cc, .slice ad.ua tb.uq.length ad.uc, .bool tb.rt] 48)).heap.size ∧ p < W.heap.size ∧ ∃ s, Src (w1.alloc (.cells #[.string ⟨tb.nm.toArray⟩, .slice ad.ca tb.cols.length ad.cc, .slice ad.ua tb.uq.length ad.uc, .bool tb.rt] 48)) p S a l c m s) := ⟨(Frm.of_below hB).trans (Frm.of_below (below_allocD _ _)), Nat.lt_of_lt_of_le hsz (below_allocD _ _).size, hpl, HS0.out _ (hB.trans ((below_allocD w1 (.cells #[.string ⟨tb.nm.toArray⟩, .slice ad.ca tb.cols.length ad.cc, .slice ad.ua tb.uq.length ad.uc, .bool tb.rt] 48)).mono hB.size))⟩; have hfd : ∀ w : World, (Instr.field 25 (.agg #[.slice (some ⟨rb, off, none⟩) 3 3]) 0).run Tryz.prog w = .ok (.slice (some ⟨rb, off, none⟩) 3 3) w := fun _ => by kernel_rfl
 clear HS0 hth hB ht hB1 hA0 hz1 hsz hpl; (go_wp2_with fail); clear c0 c1 c2 c3 ht3 hfd; obtain ⟨V, hV⟩ : ∃ V, V = (w1.alloc (.cells #[.string ⟨tb.nm.toArray⟩, .slice ad.ca tb.cols.length ad.cc, .slice ad.ua tb.uq.length ad.uc, .bool tb.rt] 48)) := ⟨_, rfl⟩; rw [← hV] at TF HV ⊢; clear hV; obtain ⟨qt, hqt⟩ : ∃ n, n = w1.heap.size := ⟨_, rfl⟩; rw [← hqt] at TF ⊢; clear hqt; obtain ⟨cb, co, hca, -, -⟩ := Cols.at (TF.out V (Frm.refl _ _)).2.1 0 (by have := HPT.out.1; omega)
 have CO : Hid (∀ W2, Frm (· = p) V W2 → W2.cell? ⟨qt, 1, none⟩ = some (.slice (some ⟨cb, co, none⟩) tb.cols.length ad.cc) ∧ ∀ i (h : i < tb.cols.length), ColAt W2 cb (co + i * 8) tb.cols[i]) := fun W2 hF => by
  obtain ⟨h1, h2, -⟩ := TF.out W2 hF; obtain ⟨cb2, co2, e, -, hc⟩ := Cols.at h2 0 (by have := HPT.out.1; omega); rw [hca] at e h1
  cases e
  exact ⟨cell_at (o := 1) h1 rfl, hc⟩
 have NX : Hid (∀ W2 mm n, (∃ s, Src W2 p S a l c mm s) → mm < 1000000 → 1 < n → n ≤ 256 → Calls Tryz.prog 28 #[.pointer (some ⟨p, 0, none⟩), .int .i64 ((n : Nat) : Int)] W2 (NextAns W2 p S a l c mm n)) := fun W2 mm n ⟨s, h⟩ hb h1 h2 => srcNext h hb n h1 h2
 have CH : Hid (∀ W2 mm n, (∃ s, Src W2 p S a l c mm s) → mm < 1000000 → 1 < n → n ≤ 256 → Calls Tryz.prog 26 #[.pointer (some ⟨p, 0, none⟩), .int .i64 ((n : Nat) : Int)] W2 (ChanceW W2 p S a l c mm)) := fun W2 mm n ⟨s, h⟩ hb h1 h2 => srcChanceW h hb n h1 h2
 clear hca; go_cut [6] from 8 to 63 (fun s wx => ∃ (qc : Nat) (cl : Cl), s = .pointer (some ⟨qc, 0, none⟩) ∧ Hid (QMs V wx p S a l c (m + 1) qc cl ∧ (1 ≤ cl.k ∧ cl.k ≤ 4) ∧ cl.nm.length ≤ 40))
 case first =>
  have CE : Hid (∀ W2, Frm (· = p) V W2 → W2.cell? ⟨qt, 1, none⟩ = some (.slice (some ⟨cb, co, none⟩) tb.cols.length ad.cc)) := fun W2 h => (CO.out W2 h).1
  have NL : Hid (∀ W2, (∃ s, Src W2 p S a l c m s) → Calls Tryz.prog 28 #[.pointer (some ⟨p, 0, none⟩), .int .i64 (tb.cols.length : Int)] W2 (NextAns W2 p S a l c m tb.cols.length)) := fun W2 h => NX.out W2 m _ h (by have := HM.out; omega) (by have := HPT.out.1; omega) (by have := HPT.out.1; omega)
  have F0 : Hid (Frm (· = p) V V.drew) := Frm.of_below (Below.refl _ _).drew; have S0 : Hid (∃ s, Src V.drew p S a l c m s) := by obtain ⟨s, hs⟩ := HV.out.2.2.2; exact ⟨s, hs.drew1⟩
  refine wp_region_held_drew (S := (fun W => W.cell? ⟨qt, 1, none⟩ = some (.slice (some ⟨cb, co, none⟩) tb.cols.length ad.cc))) (by kernel_rfl) ?_ (fun hHeld => ?_)
  ·
   (exact CE.out _ (by first | exact FX.out | exact F3.out | exact F2.out | exact F1.out | exact F0.out))
  refine tkB (i := 0) ?_; refine tkB (i := 1) ?_; refine tkB (i := 2) ?_; refine tkB (i := 3) ?_; refine tkB (i := 4) ?_; refine tkB (i := 5) ?_; refine wpAnyH_ready (rs := [6, 9]) (by kernel_rfl) (by simp) (AllReadyH.cons rfl (fun K hK => ?_) (AllReadyH.cons rfl (fun K hK => ?_) AllReadyH.nil))
  ·
   go_simp; (go_at_call 28); refine (NL.out _ S0.out).mono ?_; rintro e w4 ⟨r, s4, rfl, hr, hS4, hF4⟩; have F1 : Hid (Frm (· = p) V w4) := F0.out.trans hF4; have HS4 := Lib.hid hS4; have HRL := Lib.hid hr; have hri : (r : Int) < (tb.cols.length : Int) := by omega
   have hck := (CO.out _ F1.out).2 r hr; obtain ⟨cl, hcl⟩ : ∃ cl : Cl, cl = tb.cols[r]'hr := ⟨_, rfl⟩; have HCL : Hid ((1 ≤ cl.k ∧ cl.k ≤ 4) ∧ cl.nm.length ≤ 40) := by rw [hcl]; exact HPT.out.2 _ (List.getElem_mem hr)
   rw [← hcl] at hck; obtain ⟨k0, k1, k2, k3, k4, k5, k6, k7⟩ := hck; clear hS4 hF4 hcl hr; refine hK.out _ _ ?_ (fun hHeld => ?_)
   ·
    (exact CE.out _ (by first | exact FX.out | exact F3.out | exact F2.out | exact F1.out | exact F0.out))
   clear hK K; (try simp only [Act.put, tkS]); refine tkB (i := 7) ?_; refine wpAnyH_ready (rs := [8, 9]) (by kernel_rfl) (by simp) (AllReadyH.cons rfl (fun K hK => ?_) (AllReadyH.cons rfl (fun K hK => ?_) AllReadyH.nil))
   ·
    go_simp; have F2 := F1; refine hK.out _ _ ?_ (fun hHeld => ?_)
    ·
     (exact CE.out _ (by first | exact FX.out | exact F3.out | exact F2.out | exact F1.out | exact F0.out))
    clear hK K; (try simp only [Act.put, tkS]); refine tkR (i := 9) (fun K hK => ?_); go_simp; have F3 : Hid (Frm (· = p) V (w4.alloc (.cells #[.string ⟨#[]⟩, .int .i64 0, .int .i64 0, .int .i64 0, .int .i64 0, .int .i64 0, .string ⟨#[]⟩, .bool false] 44))) := F2.out.trans (Frm.of_below (below_allocD _ _)); refine hK.out _ _ ?_ (fun hHeld => ?_)
    ·
     (exact CE.out _ (by first | exact FX.out | exact F3.out | exact F2.out | exact F1.out | exact F0.out))
    clear hK K; (try simp only [Act.put, tkS]); refine tkR (i := 10) (fun K hK => ?_); have HX : Hid (QMs V (w4.alloc (.cells #[.string ⟨cl.nm.toArray⟩, .int .i64 cl.k, .int .i64 cl.mn, .int .i64 cl.mx, .int .i64 cl.lo, .int .i64 cl.hi, .string ⟨cl.rf.toArray⟩, .bool cl.st] 44)) p S a l c (m + 1) w4.heap.size cl) := ⟨⟨s4, HS4.out.on (below_allocD _ _)⟩, F1.out.trans (Frm.of_below (below_allocD _ _)), heap_newD _ _, by have h4 := HV.out; omega, F1.out.size⟩; have FX : Hid (Frm (· = p) V (w4.alloc (.cells #[.string ⟨cl.nm.toArray⟩, .int .i64 cl.k, .int .i64 cl.mn, .int .i64 cl.mx, .int .i64 cl.lo, .int .i64 cl.hi, .string ⟨cl.rf.toArray⟩, .bool cl.st] 44))) := HX.out.fr; go_simp; refine hK.out _ _ ?_ (fun hHeld => ?_)
    ·
     (exact CE.out _ (by first | exact FX.out | exact F3.out | exact F2.out | exact F1.out | exact F0.out))
    clear hK K; (try simp only [Act.put, tkS]); refine wpAnyH_done (by kernel_rfl) ?_ _; (go_wp2_with fail); go_meet; exact ⟨_, _, rfl, HX.out, HCL.out⟩
   ·
    go_simp; have F2 : Hid (Frm (· = p) V (w4.alloc (.cells #[.string ⟨#[]⟩, .int .i64 0, .int .i64 0, .int .i64 0, .int .i64 0, .int .i64 0, .string ⟨#[]⟩, .bool false] 44))) := F1.out.trans (Frm.of_below (below_allocD _ _)); refine hK.out _ _ ?_ (fun hHeld => ?_)
    ·
     (exact CE.out _ (by first | exact FX.out | exact F3.out | exact F2.out | exact F1.out | exact F0.out))
    clear hK K; (try simp only [Act.put, tkS]); refine tkR (i := 8) (fun K hK => ?_); have hAB := below_allocD w4 (.cells #[.string ⟨#[]⟩, .int .i64 0, .int .i64 0, .int .i64 0, .int .i64 0, .int .i64 0, .string ⟨#[]⟩, .bool false] 44); have j0 := (hAB.cell (p := ⟨cb, co + r * 8, none⟩) (World.block_lt_of_cell? _ _ k0)).trans k0; have j1 := (hAB.cell (p := ⟨cb, co + r * 8 + 1, none⟩) (World.block_lt_of_cell? _ _ k1)).trans k1; have j2 := (hAB.cell (p := ⟨cb, co + r * 8 + 2, none⟩) (World.block_lt_of_cell? _ _ k2)).trans k2; have j3 := (hAB.cell (p := ⟨cb, co + r * 8 + 3, none⟩) (World.block_lt_of_cell? _ _ k3)).trans k3; have j4 := (hAB.cell (p := ⟨cb, co + r * 8 + 4, none⟩) (World.block_lt_of_cell? _ _ k4)).trans k4; have j5 := (hAB.cell (p := ⟨cb, co + r * 8 + 5, none⟩) (World.block_lt_of_cell? _ _ k5)).trans k5; have j6 := (hAB.cell (p := ⟨cb, co + r * 8 + 6, none⟩) (World.block_lt_of_cell? _ _ k6)).trans k6; have j7 := (hAB.cell (p := ⟨cb, co + r * 8 + 7, none⟩) (World.block_lt_of_cell? _ _ k7)).trans k7; clear hAB; go_simp; have F3 := F2; refine hK.out _ _ ?_ (fun hHeld => ?_)
    ·
     (exact CE.out _ (by first | exact FX.out | exact F3.out | exact F2.out | exact F1.out | exact F0.out))
    clear hK K; (try simp only [Act.put, tkS]); refine tkR (i := 10) (fun K hK => ?_); have HX : Hid (QMs V (w4.alloc (.cells #[.string ⟨cl.nm.toArray⟩, .int .i64 cl.k, .int .i64 cl.mn, .int .i64 cl.mx, .int .i64 cl.lo, .int .i64 cl.hi, .string ⟨cl.rf.toArray⟩, .bool cl.st] 44)) p S a l c (m + 1) w4.heap.size cl) := ⟨⟨s4, HS4.out.on (below_allocD _ _)⟩, F1.out.trans (Frm.of_below (below_allocD _ _)), heap_newD _ _, by have h4 := HV.out; omega, F1.out.size⟩; have FX : Hid (Frm (· = p) V (w4.alloc (.cells #[.string ⟨cl.nm.toArray⟩, .int .i64 cl.k, .int .i64 cl.mn, .int .i64 cl.mx, .int .i64 cl.lo, .int .i64 cl.hi, .string ⟨cl.rf.toArray⟩, .bool cl.st] 44))) := HX.out.fr; go_simp; refine hK.out _ _ ?_ (fun hHeld => ?_)
    ·
     (exact CE.out _ (by first | exact FX.out | exact F3.out | exact F2.out | exact F1.out | exact F0.out))
    clear hK K; (try simp only [Act.put, tkS]); refine wpAnyH_done (by kernel_rfl) ?_ _; (go_wp2_with fail); go_meet; exact ⟨_, _, rfl, HX.out, HCL.out⟩
  ·
   go_simp; have fb1 : Below V.heap.size V (V.alloc (.cells #[.string ⟨#[]⟩, .int .i64 0, .int .i64 0, .int .i64 0, .int .i64 0, .int .i64 0, .string ⟨#[]⟩, .bool false] 44)).drew := ((Below.refl _ _).alloc (Nat.le_refl _) _).drew; have F1 : Hid (Frm (· = p) V (V.alloc (.cells #[.string ⟨#[]⟩, .int .i64 0, .int .i64 0, .int .i64 0, .int .i64 0, .int .i64 0, .string ⟨#[]⟩, .bool false] 44)).drew) := Frm.of_below fb1; have S1 : Hid (∃ s, Src (V.alloc (.cells #[.string ⟨#[]⟩, .int .i64 0, .int .i64 0, .int .i64 0, .int .i64 0, .int .i64 0, .string ⟨#[]⟩, .bool false] 44)).drew p S a l c m s) := by obtain ⟨s, hs⟩ := HV.out.2.2.2; exact ⟨s, hs.on fb1⟩
   clear fb1; refine hK.out _ _ ?_ (fun hHeld => ?_)
   ·
    (exact CE.out _ (by first | exact FX.out | exact F3.out | exact F2.out | exact F1.out | exact F0.out))
   clear hK K; (try simp only [Act.put, tkS]); refine tkR (i := 6) (fun K hK => ?_); go_simp; (go_at_call 28); refine (NL.out _ S1.out).mono ?_; rintro e w4 ⟨r, s4, rfl, hr, hS4, hF4⟩; have F2 : Hid (Frm (· = p) V w4) := F1.out.trans hF4; have HS4 := Lib.hid hS4; have HRL := Lib.hid hr; have hri : (r : Int) < (tb.cols.length : Int) := by omega
   have hck := (CO.out _ F2.out).2 r hr; obtain ⟨cl, hcl⟩ : ∃ cl : Cl, cl = tb.cols[r]'hr := ⟨_, rfl⟩; have HCL : Hid ((1 ≤ cl.k ∧ cl.k ≤ 4) ∧ cl.nm.length ≤ 40) := by rw [hcl]; exact HPT.out.2 _ (List.getElem_mem hr)
   rw [← hcl] at hck; obtain ⟨k0, k1, k2, k3, k4, k5, k6, k7⟩ := hck; have HZ : Hid (w4.heap[V.heap.size]? = some (.cells #[.string ⟨#[]⟩, .int .i64 0, .int .i64 0, .int .i64 0, .int .i64 0, .int .i64 0, .string ⟨#[]⟩, .bool false] 44)) := keepF (show ((V.alloc (.cells #[.string ⟨#[]⟩, .int .i64 0, .int .i64 0, .int .i64 0, .int .i64 0, .int .i64 0, .string ⟨#[]⟩, .bool false] 44)).drew).heap[V.heap.size]? = some (.cells #[.string ⟨#[]⟩, .int .i64 0, .int .i64 0, .int .i64 0, .int .i64 0, .int .i64 0, .string ⟨#[]⟩, .bool false] 44) from heap_newD _ _) hF4 (by have := HV.out; omega); clear hS4 hF4 hcl hr; refine hK.out _ _ ?_ (fun hHeld => ?_)
   ·
    (exact CE.out _ (by first | exact FX.out | exact F3.out | exact F2.out | exact F1.out | exact F0.out))
   clear hK K; (try simp only [Act.put, tkS]); refine tkB (i := 7) ?_; refine tkR (i := 8) (fun K hK => ?_); go_simp; have F3 := F2; refine hK.out _ _ ?_ (fun hHeld => ?_)
   ·
    (exact CE.out _ (by first | exact FX.out | exact F3.out | exact F2.out | exact F1.out | exact F0.out))
   clear hK K; (try simp only [Act.put, tkS]); refine tkR (i := 10) (fun K hK => ?_)
   have HX : Hid (QMs V ((((((((w4.setCell ⟨V.heap.size, 0, none⟩ (.string ⟨cl.nm.toArray⟩)).setCell ⟨V.heap.size, 1, none⟩ (.int .i64 cl.k)).setCell ⟨V.heap.size, 2, none⟩ (.int .i64 cl.mn)).setCell ⟨V.heap.size, 3, none⟩ (.int .i64 cl.mx)).setCell ⟨V.heap.size, 4, none⟩ (.int .i64 cl.lo)).setCell ⟨V.heap.size, 5, none⟩ (.int .i64 cl.hi)).setCell ⟨V.heap.size, 6, none⟩ (.string ⟨cl.rf.toArray⟩)).setCell ⟨V.heap.size, 7, none⟩ (.bool cl.st)) p S a l c (m + 1) V.heap.size cl) := by
    have hF : Frm (· = V.heap.size) w4 ((((((((w4.setCell ⟨V.heap.size, 0, none⟩ (.string ⟨cl.nm.toArray⟩)).setCell ⟨V.heap.size, 1, none⟩ (.int .i64 cl.k)).setCell ⟨V.heap.size, 2, none⟩ (.int .i64 cl.mn)).setCell ⟨V.heap.size, 3, none⟩ (.int .i64 cl.mx)).setCell ⟨V.heap.size, 4, none⟩ (.int .i64 cl.lo)).setCell ⟨V.heap.size, 5, none⟩ (.int .i64 cl.hi)).setCell ⟨V.heap.size, 6, none⟩ (.string ⟨cl.rf.toArray⟩)).setCell ⟨V.heap.size, 7, none⟩ (.bool cl.st)) := (((((((frm_set _ _ _ _).trans (frm_set _ _ _ _)).trans (frm_set _ _ _ _)).trans (frm_set _ _ _ _)).trans (frm_set _ _ _ _)).trans (frm_set _ _ _ _)).trans (frm_set _ _ _ _)).trans (frm_set _ _ _ _); have h4 := HV.out; exact ⟨⟨s4, HS4.out.frm hF (by omega) (fun b hb e => by have := HS4.out.le; have e2 : b = V.heap.size := e; omega)⟩, frm_over F3.out (Nat.le_refl _) hF, by rw [heap_set 7 _ (heap_set 6 _ (heap_set 5 _ (heap_set 4 _ (heap_set 3 _ (heap_set 2 _ (heap_set 1 _ (heap_set 0 _ HZ.out)))))))]; rfl, by omega, Nat.le_refl _⟩
   have FX : Hid (Frm (· = p) V ((((((((w4.setCell ⟨V.heap.size, 0, none⟩ (.string ⟨cl.nm.toArray⟩)).setCell ⟨V.heap.size, 1, none⟩ (.int .i64 cl.k)).setCell ⟨V.heap.size, 2, none⟩ (.int .i64 cl.mn)).setCell ⟨V.heap.size, 3, none⟩ (.int .i64 cl.mx)).setCell ⟨V.heap.size, 4, none⟩ (.int .i64 cl.lo)).setCell ⟨V.heap.size, 5, none⟩ (.int .i64 cl.hi)).setCell ⟨V.heap.size, 6, none⟩ (.string ⟨cl.rf.toArray⟩)).setCell ⟨V.heap.size, 7, none⟩ (.bool cl.st))) := HX.out.fr; obtain ⟨z0, z1, z2, z3, z4, z5, z6, z7⟩ := ck8 0 1 2 3 4 5 6 7 HZ.out; obtain ⟨zf0, zf1, zf2, zf3, zf4, zf5, zf6, zf7⟩ := fk8 0 1 2 3 4 5 6 7 HZ.out; go_simp; clear z0 zf0 z1 zf1 z2 zf2 z3 zf3 z4 zf4 z5 zf5 z6 zf6 z7 zf7; refine hK.out _ _ ?_ (fun hHeld => ?_)
   ·
    (exact CE.out _ (by first | exact FX.out | exact F3.out | exact F2.out | exact F1.out | exact F0.out))
   clear hK K; (try simp only [Act.put, tkS]); refine wpAnyH_done (by kernel_rfl) ?_ _; (go_wp2_with fail); go_meet; exact ⟨_, _, rfl, HX.out, HCL.out⟩
 obtain ⟨qc, cl, rfl, HX⟩ := hcut; generalize wc = wa at *; have HCK := Lib.hid HX.out.2; have HX1 := Lib.hid HX.out.1; clear HX; (go_wp2_with fail); refine (CH.out _ _ 2 HX1.out.src (by have := HM.out; omega) (by omega) (by omega)).mono ?_; rintro e w3 ⟨b3, s3, rfl, hS, hF⟩; have HX2 : Hid (QMs V w3 p S a l c (m + 1 + 1) qc cl) := HX1.out.draw hF ⟨s3, hS⟩; clear hS hF HX1; (go_upto_if 23 with fail); go_cut [] from 8 to 63 (fun wx => ∃ (cl : Cl) (m2 : Nat), Hid (QMs V wx p S a l c m2 qc cl ∧ ((1 ≤ cl.k ∧ cl.k ≤ 4) ∧ cl.nm.length ≤ 40) ∧ m2 ≤ m + 4))
 case first =>
  cases b3
  ·
   (go_wp2_with fail; go_meet; exact ⟨cl, m + 1 + 1, HX2.out, HCK.out, by omega⟩)
  ·
   obtain ⟨n1, hn1⟩ : ∃ n : Nat, n + 1 = tb.cols.length := ⟨tb.cols.length - 1, by have := HPT.out.1; omega⟩; have f1 : IntKind.i64.wrap ((tb.cols.length : Int) - 1) = (n1 : Int) := by have := HPT.out.1; rw [IntKind.wrap_i64]; omega
   have HN1 := Lib.hid hn1; clear hn1; have CE : Hid (∀ W2, Frm (· = p) V W2 → W2.cell? ⟨qt, 1, none⟩ = some (.slice (some ⟨cb, co, none⟩) tb.cols.length ad.cc)) := fun W2 h => (CO.out W2 h).1
   have NL : Hid (∀ W2, (∃ s, Src W2 p S a l c (m + 1 + 1) s) → Calls Tryz.prog 28 #[.pointer (some ⟨p, 0, none⟩), .int .i64 2] W2 (NextAns W2 p S a l c (m + 1 + 1) 2)) := fun W2 h => NX.out W2 _ 2 h (by have := HM.out; omega) (by omega) (by omega)
   have F0 : Hid (Frm (· = p) V w3.drew) := HX2.out.fr.drew1; have HX3 : Hid (QMs V w3.drew p S a l c (m + 1 + 1) qc cl) := HX2.out.draw (Frm.of_below (Below.refl _ _).drew) (by obtain ⟨s, hs⟩ := HX2.out.src; exact ⟨s, hs.drew1⟩); clear HX2; (go_upto_region 4 with fail); refine wp_region_held_drew (S := (fun W => W.cell? ⟨qt, 1, none⟩ = some (.slice (some ⟨cb, co, none⟩) tb.cols.length ad.cc))) (by kernel_rfl) ?_ (fun hHeld => ?_)
   ·
    (exact CE.out _ (by first | exact FX.out | exact F1.out | exact F0.out))
   refine tkB (i := 0) ?_; refine tkB (i := 1) ?_; refine tkB (i := 2) ?_; refine tkB (i := 3) ?_; refine tkB (i := 4) ?_; refine tkB (i := 5) ?_; refine tkB (i := 6) ?_; refine tkR (i := 7) (fun K hK => ?_); go_simp; (go_at_call 28); refine (NL.out _ HX3.out.src).mono ?_; rintro e w4 ⟨r, s4, rfl, hr, hS4, hF4⟩; have HX4 : Hid (QMs V w4 p S a l c (m + 1 + 1 + 1) qc cl) := HX3.out.draw hF4 ⟨s4, hS4⟩; have F1 : Hid (Frm (· = p) V w4) := HX4.out.fr; obtain ⟨i, hi⟩ : ∃ i : Nat, i = n1 - r := ⟨_, rfl⟩; have h11 := HN1.out; have h12 := HPT.out.1; have f2 : IntKind.i64.wrap ((n1 : Int) - (r : Int)) = (i : Int) := by rw [IntKind.wrap_i64]; omega
   have hil : i < tb.cols.length := by omega
   have hii : (i : Int) < (tb.cols.length : Int) := by omega
   have hck := (CO.out _ F1.out).2 i hil; obtain ⟨c5, hc5⟩ : ∃ cl : Cl, cl = tb.cols[i]'hil := ⟨_, rfl⟩; have HCL : Hid ((1 ≤ c5.k ∧ c5.k ≤ 4) ∧ c5.nm.length ≤ 40) := by rw [hc5]; exact HPT.out.2 _ (List.getElem_mem hil)
   rw [← hc5] at hck; obtain ⟨k0, k1, k2, k3, k4, k5, k6, k7⟩ := hck; clear hS4 hF4 hc5 hr hi h11 h12 HX3; refine hK.out _ _ ?_ (fun hHeld => ?_)
   ·
    (exact CE.out _ (by first | exact FX.out | exact F1.out | exact F0.out))
   clear hK K; (try simp only [Act.put, tkS]); refine tkB (i := 8) ?_; refine tkB (i := 9) ?_; refine tkR (i := 10) (fun K hK => ?_); go_simp; refine hK.out _ _ ?_ (fun hHeld => ?_)
   ·
    (exact CE.out _ (by first | exact FX.out | exact F1.out | exact F0.out))
   clear hK K; (try simp only [Act.put, tkS]); refine tkR (i := 11) (fun K hK => ?_)
   have HX5 : Hid (QMs V ((((((((w4.setCell ⟨qc, 0, none⟩ (.string ⟨c5.nm.toArray⟩)).setCell ⟨qc, 1, none⟩ (.int .i64 c5.k)).setCell ⟨qc, 2, none⟩ (.int .i64 c5.mn)).setCell ⟨qc, 3, none⟩ (.int .i64 c5.mx)).setCell ⟨qc, 4, none⟩ (.int .i64 c5.lo)).setCell ⟨qc, 5, none⟩ (.int .i64 c5.hi)).setCell ⟨qc, 6, none⟩ (.string ⟨c5.rf.toArray⟩)).setCell ⟨qc, 7, none⟩ (.bool c5.st)) p S a l c (m + 1 + 1 + 1) qc c5) := by
    have hF : Frm (· = qc) w4 ((((((((w4.setCell ⟨qc, 0, none⟩ (.string ⟨c5.nm.toArray⟩)).setCell ⟨qc, 1, none⟩ (.int .i64 c5.k)).setCell ⟨qc, 2, none⟩ (.int .i64 c5.mn)).setCell ⟨qc, 3, none⟩ (.int .i64 c5.mx)).setCell ⟨qc, 4, none⟩ (.int .i64 c5.lo)).setCell ⟨qc, 5, none⟩ (.int .i64 c5.hi)).setCell ⟨qc, 6, none⟩ (.string ⟨c5.rf.toArray⟩)).setCell ⟨qc, 7, none⟩ (.bool c5.st)) := (((((((frm_set _ _ _ _).trans (frm_set _ _ _ _)).trans (frm_set _ _ _ _)).trans (frm_set _ _ _ _)).trans (frm_set _ _ _ _)).trans (frm_set _ _ _ _)).trans (frm_set _ _ _ _)).trans (frm_set _ _ _ _); have h4 := HX4.out.ge; obtain ⟨s4, hs4⟩ := HX4.out.src; exact ⟨⟨s4, hs4.frm hF (by omega) (fun b hb e => by have := hs4.le; have e2 : b = qc := e; omega)⟩, frm_over F1.out h4.2 hF, by rw [heap_set 7 _ (heap_set 6 _ (heap_set 5 _ (heap_set 4 _ (heap_set 3 _ (heap_set 2 _ (heap_set 1 _ (heap_set 0 _ HX4.out.cb)))))))]; rfl, h4⟩
   have FX : Hid (Frm (· = p) V ((((((((w4.setCell ⟨qc, 0, none⟩ (.string ⟨c5.nm.toArray⟩)).setCell ⟨qc, 1, none⟩ (.int .i64 c5.k)).setCell ⟨qc, 2, none⟩ (.int .i64 c5.mn)).setCell ⟨qc, 3, none⟩ (.int .i64 c5.mx)).setCell ⟨qc, 4, none⟩ (.int .i64 c5.lo)).setCell ⟨qc, 5, none⟩ (.int .i64 c5.hi)).setCell ⟨qc, 6, none⟩ (.string ⟨c5.rf.toArray⟩)).setCell ⟨qc, 7, none⟩ (.bool c5.st))) := HX5.out.fr; obtain ⟨z0, z1, z2, z3, z4, z5, z6, z7⟩ := ck8 0 1 2 3 4 5 6 7 HX4.out.cb; obtain ⟨zf0, zf1, zf2, zf3, zf4, zf5, zf6, zf7⟩ := fk8 0 1 2 3 4 5 6 7 HX4.out.cb; go_simp; clear z0 zf0 z1 zf1 z2 zf2 z3 zf3 z4 zf4 z5 zf5 z6 zf6 z7 zf7; refine hK.out _ _ ?_ (fun hHeld => ?_)
   ·
    (exact CE.out _ (by first | exact FX.out | exact F1.out | exact F0.out))
   clear hK K; (try simp only [Act.put, tkS]); refine wpAnyH_done (by kernel_rfl) ?_ _; (go_wp2_with fail); go_meet; exact ⟨_, _, HX5.out, HCL.out, by omega⟩
 obtain ⟨cl2, m2, HY⟩ := hcut; generalize wc = wb at *; have HCL := Lib.hid HY.out.2.1; have HY1 := Lib.hid HY.out.1; have HM2 := Lib.hid HY.out.2.2; clear HY HCK; obtain ⟨kk, hkk⟩ : ∃ n : Nat, (n : Int) = cl2.k := ⟨cl2.k.toNat, by have := HCL.out.1; omega⟩; have DV : Hid (∀ W2 mm, (∃ s, Src W2 p S a l c mm s) → mm < 990000 → Calls Tryz.prog 68 #[.pointer (some ⟨p, 0, none⟩), .int .i64 cl2.k] W2 (DatumV W2 p S a l c mm kk)) := fun W2 mm ⟨s, h⟩ hb => by rw [← hkk]; exact srcDatumV h hb (by have := HCL.out.1; omega) (by have := HCL.out.1; omega)
 have HKK : Hid (1 ≤ kk ∧ kk ≤ 4) := by have := HCL.out.1; show _ ∧ _; omega
 clear hkk; (go_upto_region 5 with fail); go_cut [7] from 8 to 63 (fun s wx => ∃ (qm : Nat) (x : MutV) (va : Option Addr) (vc m3 : Nat), s = .pointer (some ⟨qm, 0, none⟩) ∧ Hid (QMt V wx p S a l c m3 qc qm cl2 x va vc ∧ (x.col.length ≤ 40 ∧ (1 ≤ x.fn ∧ x.fn ≤ 7) ∧ x.val.length ≤ 8 ∧ ∃ k : Nat, (1 ≤ k ∧ k ≤ 4) ∧ Drn k x.val) ∧ m3 ≤ m + 12))
 case first =>
  have CE : Hid (∀ W2, Frm (· = p) wb W2 → W2.cell? ⟨qc, 0, none⟩ = some (.string ⟨cl2.nm.toArray⟩) ∧ W2.cell? ⟨qc, 1, none⟩ = some (.int .i64 cl2.k)) := fun W2 hF => by
   have hb := keepF HY1.out.cb hF (by have := HY1.out.ge; omega); exact ⟨cell_at (o := 0) hb rfl, cell_at (o := 1) hb rfl⟩
  have NL : Hid (∀ W2, (∃ s, Src W2 p S a l c m2 s) → Calls Tryz.prog 28 #[.pointer (some ⟨p, 0, none⟩), .int .i64 2] W2 (NextAns W2 p S a l c m2 2)) := fun W2 h => NX.out W2 _ 2 h (by have := HM.out; have := HM2.out; omega) (by omega) (by omega)
  have DL2 : Hid (∀ W2, (∃ s, Src W2 p S a l c (m2 + 1) s) → Calls Tryz.prog 68 #[.pointer (some ⟨p, 0, none⟩), .int .i64 cl2.k] W2 (DatumV W2 p S a l c (m2 + 1) kk)) := fun W2 h => DV.out W2 _ h (by have := HM.out; have := HM2.out; omega)
  have F0 : Hid (Frm (· = p) wb wb.drew) := Frm.of_below (Below.refl _ _).drew; have S0 : Hid (∃ s, Src wb.drew p S a l c m2 s) := by obtain ⟨s, hs⟩ := HY1.out.src; exact ⟨s, hs.drew1⟩
  have HQ : Hid (qc < wb.heap.size ∧ V.heap.size ≤ wb.heap.size ∧ p < V.heap.size ∧ V.heap.size ≤ qc) := ⟨HY1.out.lt, HY1.out.fr.size, HY1.out.ge⟩; refine wp_region_held_drew (S := (fun W => W.cell? ⟨qc, 0, none⟩ = some (.string ⟨cl2.nm.toArray⟩) ∧ W.cell? ⟨qc, 1, none⟩ = some (.int .i64 cl2.k))) (by kernel_rfl) ?_ (fun hHeld => ?_)
  ·
   (exact CE.out _ (by first | exact FX.out | exact F3.out | exact F2.out | exact F1.out | exact F0.out))
  refine tkB (i := 0) ?_; refine tkB (i := 1) ?_; refine tkB (i := 2) ?_; refine tkB (i := 5) ?_; refine tkB (i := 6) ?_; refine tkB (i := 7) ?_; refine wpAnyH_ready (rs := [3, 10]) (by kernel_rfl) (by simp) (AllReadyH.cons rfl (fun K hK => ?_) (AllReadyH.cons rfl (fun K hK => ?_) AllReadyH.nil))
  ·
   go_simp; (go_at_call 28); refine (NL.out _ S0.out).mono ?_; rintro e w5 ⟨r, s5, rfl, hr, hS5, hF5⟩; have F1 : Hid (Frm (· = p) wb w5) := F0.out.trans hF5; have S1 : Hid (∃ s, Src w5 p S a l c (m2 + 1) s) := ⟨s5, hS5⟩; obtain ⟨f, hf⟩ : ∃ f : Int, f = 6 + (r : Int) := ⟨_, rfl⟩; have ff : IntKind.i64.wrap (6 + (r : Int)) = f := by rw [IntKind.wrap_i64]; omega
   have HFN : Hid (1 ≤ f ∧ f ≤ 7) := by show _ ∧ _; omega
   clear hS5 hF5 hr hf; refine hK.out _ _ ?_ (fun hHeld => ?_)
   ·
    (exact CE.out _ (by first | exact FX.out | exact F3.out | exact F2.out | exact F1.out | exact F0.out))
   clear hK K; (try simp only [Act.put, tkS]); refine tkB (i := 4) ?_; refine wpAnyH_ready (rs := [8, 10]) (by kernel_rfl) (by simp) (AllReadyH.cons rfl (fun K hK => ?_) (AllReadyH.cons rfl (fun K hK => ?_) AllReadyH.nil))
   ·
    go_simp; (go_at_call 68); refine (DL2.out _ S1.out).mono ?_; rintro e w6 ⟨g6, cp6, D6, m6, s6, rfl, hl6, hd6, ha6, hg6, hlt6, hcp6, hm6, hS6, hF6⟩; have F2 : Hid (Frm (· = p) wb w6) := F1.out.trans hF6; have HS6 := Lib.hid hS6; have HD6 : Hid (D6.length ≤ 8 ∧ Drn kk D6 ∧ m6 ≤ m + 12) := ⟨by omega, hd6, by have := HM2.out; omega⟩; have HO : Hid (w5.heap.size ≤ g6 ∧ g6 < w6.heap.size) := ⟨hg6, hlt6⟩; have HAT : Hid (Ats w6 (· = g6) (some ⟨g6, 0, none⟩) D6) := ha6; clear hl6 hd6 ha6 hg6 hlt6 hcp6 hm6 hS6 hF6; refine hK.out _ _ ?_ (fun hHeld => ?_)
    ·
     (exact CE.out _ (by first | exact FX.out | exact F3.out | exact F2.out | exact F1.out | exact F0.out))
    clear hK K; (try simp only [Act.put, tkS]); refine tkB (i := 9) ?_; refine tkR (i := 10) (fun K hK => ?_); go_simp; have F3 : Hid (Frm (· = p) wb (w6.alloc (.cells #[.string ⟨#[]⟩, .int .i64 0, .slice none 0 0] 114))) := F2.out.trans (Frm.of_below (below_allocD _ _)); refine hK.out _ _ ?_ (fun hHeld => ?_)
    ·
     (exact CE.out _ (by first | exact FX.out | exact F3.out | exact F2.out | exact F1.out | exact F0.out))
    clear hK K; (try simp only [Act.put, tkS]); refine tkR (i := 11) (fun K hK => ?_)
    have HX6 : Hid (QMt V (w6.alloc (.cells #[.string ⟨cl2.nm.toArray⟩, .int .i64 f, .slice (some ⟨g6, 0, none⟩) D6.length cp6] 114)) p S a l c m6 qc w6.heap.size cl2 ⟨cl2.nm, f, D6⟩ (some ⟨g6, 0, none⟩) cp6) := by
     have hA := below_allocD w6 (.cells #[.string ⟨cl2.nm.toArray⟩, .int .i64 f, .slice (some ⟨g6, 0, none⟩) D6.length cp6] 114); have h1 := HO.out; have h2 := HQ.out; have h3 := F2.out.size; have h5 := F1.out.size; exact ⟨HY1.out.draw (F2.out.trans (Frm.of_below hA)) ⟨s6, HS6.out.on hA⟩, heap_newD _ _, ((ats_rd HAT.out cp6).later hA).mono (fun b hb => by have e8 : b = g6 := hb; have := hA.size; omega), by omega, by omega⟩
    have FX : Hid (Frm (· = p) wb (w6.alloc (.cells #[.string ⟨cl2.nm.toArray⟩, .int .i64 f, .slice (some ⟨g6, 0, none⟩) D6.length cp6] 114))) := F2.out.trans (Frm.of_below (below_allocD _ _)); go_simp; refine hK.out _ _ ?_ (fun hHeld => ?_)
    ·
     (exact CE.out _ (by first | exact FX.out | exact F3.out | exact F2.out | exact F1.out | exact F0.out))
    clear hK K; (try simp only [Act.put, tkS]); refine wpAnyH_done (by kernel_rfl) ?_ _; (go_wp2_with fail); go_meet; exact ⟨_, _, _, _, _, rfl, HX6.out, ⟨HCL.out.2, HFN.out, HD6.out.1, kk, HKK.out, HD6.out.2.1⟩, HD6.out.2.2⟩
   ·
    go_simp; have F2 : Hid (Frm (· = p) wb (w5.alloc (.cells #[.string ⟨#[]⟩, .int .i64 0, .slice none 0 0] 114))) := F1.out.trans (Frm.of_below (below_allocD _ _)); have S2 : Hid (∃ s, Src (w5.alloc (.cells #[.string ⟨#[]⟩, .int .i64 0, .slice none 0 0] 114)) p S a l c (m2 + 1) s) := by obtain ⟨s, hs⟩ := S1.out; exact ⟨s, hs.on (below_allocD _ _)⟩
    refine hK.out _ _ ?_ (fun hHeld => ?_)
    ·
     (exact CE.out _ (by first | exact FX.out | exact F3.out | exact F2.out | exact F1.out | exact F0.out))
    clear hK K; (try simp only [Act.put, tkS]); refine tkR (i := 8) (fun K hK => ?_); go_simp; (go_at_call 68); refine (DL2.out _ S2.out).mono ?_; rintro e w6 ⟨g6, cp6, D6, m6, s6, rfl, hl6, hd6, ha6, hg6, hlt6, hcp6, hm6, hS6, hF6⟩; have F3 : Hid (Frm (· = p) wb w6) := F2.out.trans hF6; have HS6 := Lib.hid hS6; have HD6 : Hid (D6.length ≤ 8 ∧ Drn kk D6 ∧ m6 ≤ m + 12) := ⟨by omega, hd6, by have := HM2.out; omega⟩; have HZ2 : Hid (w6.heap[w5.heap.size]? = some (.cells #[.string ⟨#[]⟩, .int .i64 0, .slice none 0 0] 114)) := keepF (heap_newD _ _) hF6 (by have := HQ.out; have := F1.out.size; omega); have LZ2 : Hid (w5.heap.size < (w5.alloc (.cells #[.string ⟨#[]⟩, .int .i64 0, .slice none 0 0] 114)).heap.size) := by show _ < _; simp
    have HO : Hid (g6 ≠ w5.heap.size ∧ w5.heap.size ≤ g6 ∧ g6 < w6.heap.size) := ⟨by have := LZ2.out; omega, by have := LZ2.out; omega, hlt6⟩; have HAT : Hid (Ats w6 (· = g6) (some ⟨g6, 0, none⟩) D6) := ha6; clear hl6 hd6 ha6 hg6 hlt6 hcp6 hm6 hS6 hF6; refine hK.out _ _ ?_ (fun hHeld => ?_)
    ·
     (exact CE.out _ (by first | exact FX.out | exact F3.out | exact F2.out | exact F1.out | exact F0.out))
    clear hK K; (try simp only [Act.put, tkS]); refine tkB (i := 9) ?_; refine tkR (i := 11) (fun K hK => ?_); obtain ⟨z0, z1, z2⟩ := ck3 0 1 2 HZ2.out; obtain ⟨zf0, zf1, zf2⟩ := fk3 0 1 2 HZ2.out; have FX : Hid (Frm (· = p) wb (((w6.setCell ⟨w5.heap.size, 0, none⟩ (.string ⟨cl2.nm.toArray⟩)).setCell ⟨w5.heap.size, 1, none⟩ (.int .i64 f)).setCell ⟨w5.heap.size, 2, none⟩ (.slice (some ⟨g6, 0, none⟩) D6.length cp6))) := frm_over F3.out (b := w5.heap.size) (by exact F1.out.size) (((frm_set _ _ _ _).trans (frm_set _ _ _ _)).trans (frm_set _ _ _ _))
    have HX6 : Hid (QMt V (((w6.setCell ⟨w5.heap.size, 0, none⟩ (.string ⟨cl2.nm.toArray⟩)).setCell ⟨w5.heap.size, 1, none⟩ (.int .i64 f)).setCell ⟨w5.heap.size, 2, none⟩ (.slice (some ⟨g6, 0, none⟩) D6.length cp6)) p S a l c m6 qc w5.heap.size cl2 ⟨cl2.nm, f, D6⟩ (some ⟨g6, 0, none⟩) cp6) := by
     have hF : Frm (· = w5.heap.size) w6 (((w6.setCell ⟨w5.heap.size, 0, none⟩ (.string ⟨cl2.nm.toArray⟩)).setCell ⟨w5.heap.size, 1, none⟩ (.int .i64 f)).setCell ⟨w5.heap.size, 2, none⟩ (.slice (some ⟨g6, 0, none⟩) D6.length cp6)) := ((frm_set _ _ _ _).trans (frm_set _ _ _ _)).trans (frm_set _ _ _ _); have h1 := HO.out; have h2 := HQ.out; have h3 := F3.out.size; have h5 := F1.out.size; have h6 := hF.size; refine ⟨HY1.out.draw FX.out ⟨s6, HS6.out.frm hF (by omega) (fun b hb e => by have := HS6.out.le; have e2 : b = w5.heap.size := e; omega)⟩, by rw [heap_set 2 _ (heap_set 1 _ (heap_set 0 _ HZ2.out))]; rfl, ((ats_rd HAT.out cp6).frm hF (fun b hb e => by have e8 : b = g6 := hb; have e2 : b = w5.heap.size := e; omega)).mono (fun b hb => by have e8 : b = g6 := hb; omega), by omega, by omega⟩
    go_simp; clear z0 z1 z2 zf0 zf1 zf2; refine hK.out _ _ ?_ (fun hHeld => ?_)
    ·
     (exact CE.out _ (by first | exact FX.out | exact F3.out | exact F2.out | exact F1.out | exact F0.out))
    clear hK K; (try simp only [Act.put, tkS]); refine wpAnyH_done (by kernel_rfl) ?_ _; (go_wp2_with fail); go_meet; exact ⟨_, _, _, _, _, rfl, HX6.out, ⟨HCL.out.2, HFN.out, HD6.out.1, kk, HKK.out, HD6.out.2.1⟩, HD6.out.2.2⟩
  ·
   go_simp; have fb1 : Below wb.heap.size wb (wb.alloc (.cells #[.string ⟨#[]⟩, .int .i64 0, .slice none 0 0] 114)).drew := ((Below.refl _ _).alloc (Nat.le_refl _) _).drew; have F1 : Hid (Frm (· = p) wb (wb.alloc (.cells #[.string ⟨#[]⟩, .int .i64 0, .slice none 0 0] 114)).drew) := Frm.of_below fb1; have S1 : Hid (∃ s, Src (wb.alloc (.cells #[.string ⟨#[]⟩, .int .i64 0, .slice none 0 0] 114)).drew p S a l c m2 s) := by obtain ⟨s, hs⟩ := HY1.out.src; exact ⟨s, hs.on fb1⟩
   clear fb1; refine hK.out _ _ ?_ (fun hHeld => ?_)
   ·
    (exact CE.out _ (by first | exact FX.out | exact F3.out | exact F2.out | exact F1.out | exact F0.out))
   clear hK K; (try simp only [Act.put, tkS]); refine tkR (i := 3) (fun K hK => ?_); go_simp; (go_at_call 28); refine (NL.out _ S1.out).mono ?_; rintro e w5 ⟨r, s5, rfl, hr, hS5, hF5⟩; have F2 : Hid (Frm (· = p) wb w5) := F1.out.trans hF5; have S2 : Hid (∃ s, Src w5 p S a l c (m2 + 1) s) := ⟨s5, hS5⟩; obtain ⟨f, hf⟩ : ∃ f : Int, f = 6 + (r : Int) := ⟨_, rfl⟩; have ff : IntKind.i64.wrap (6 + (r : Int)) = f := by rw [IntKind.wrap_i64]; omega
   have HFN : Hid (1 ≤ f ∧ f ≤ 7) := by show _ ∧ _; omega
   have HZ : Hid (w5.heap[wb.heap.size]? = some (.cells #[.string ⟨#[]⟩, .int .i64 0, .slice none 0 0] 114)) := keepF (show ((wb.alloc (.cells #[.string ⟨#[]⟩, .int .i64 0, .slice none 0 0] 114)).drew).heap[wb.heap.size]? = some (.cells #[.string ⟨#[]⟩, .int .i64 0, .slice none 0 0] 114) from heap_newD _ _) hF5 (by have := HQ.out; omega); have LZ : Hid (wb.heap.size < w5.heap.size) := (Array.getElem?_eq_some_iff.1 HZ.out).1; clear hS5 hF5 hr hf; refine hK.out _ _ ?_ (fun hHeld => ?_)
   ·
    (exact CE.out _ (by first | exact FX.out | exact F3.out | exact F2.out | exact F1.out | exact F0.out))
   clear hK K; (try simp only [Act.put, tkS]); refine tkB (i := 4) ?_; refine tkR (i := 8) (fun K hK => ?_); go_simp; (go_at_call 68); refine (DL2.out _ S2.out).mono ?_; rintro e w6 ⟨g6, cp6, D6, m6, s6, rfl, hl6, hd6, ha6, hg6, hlt6, hcp6, hm6, hS6, hF6⟩; have F3 : Hid (Frm (· = p) wb w6) := F2.out.trans hF6; have HS6 := Lib.hid hS6; have HD6 : Hid (D6.length ≤ 8 ∧ Drn kk D6 ∧ m6 ≤ m + 12) := ⟨by omega, hd6, by have := HM2.out; omega⟩; have HZ2 : Hid (w6.heap[wb.heap.size]? = some (.cells #[.string ⟨#[]⟩, .int .i64 0, .slice none 0 0] 114)) := keepF HZ.out hF6 (by have := HQ.out; omega); have LZ2 : Hid (wb.heap.size < w5.heap.size) := LZ.out; have HO : Hid (g6 ≠ wb.heap.size ∧ wb.heap.size ≤ g6 ∧ g6 < w6.heap.size) := ⟨by have := LZ2.out; omega, by have := LZ2.out; omega, hlt6⟩; have HAT : Hid (Ats w6 (· = g6) (some ⟨g6, 0, none⟩) D6) := ha6; clear hl6 hd6 ha6 hg6 hlt6 hcp6 hm6 hS6 hF6; refine hK.out _ _ ?_ (fun hHeld => ?_)
   ·
    (exact CE.out _ (by first | exact FX.out | exact F3.out | exact F2.out | exact F1.out | exact F0.out))
   clear hK K; (try simp only [Act.put, tkS]); refine tkB (i := 9) ?_; refine tkR (i := 11) (fun K hK => ?_); obtain ⟨z0, z1, z2⟩ := ck3 0 1 2 HZ2.out; obtain ⟨zf0, zf1, zf2⟩ := fk3 0 1 2 HZ2.out; have FX : Hid (Frm (· = p) wb (((w6.setCell ⟨wb.heap.size, 0, none⟩ (.string ⟨cl2.nm.toArray⟩)).setCell ⟨wb.heap.size, 1, none⟩ (.int .i64 f)).setCell ⟨wb.heap.size, 2, none⟩ (.slice (some ⟨g6, 0, none⟩) D6.length cp6))) := frm_over F3.out (b := wb.heap.size) (by omega) (((frm_set _ _ _ _).trans (frm_set _ _ _ _)).trans (frm_set _ _ _ _))
   have HX6 : Hid (QMt V (((w6.setCell ⟨wb.heap.size, 0, none⟩ (.string ⟨cl2.nm.toArray⟩)).setCell ⟨wb.heap.size, 1, none⟩ (.int .i64 f)).setCell ⟨wb.heap.size, 2, none⟩ (.slice (some ⟨g6, 0, none⟩) D6.length cp6)) p S a l c m6 qc wb.heap.size cl2 ⟨cl2.nm, f, D6⟩ (some ⟨g6, 0, none⟩) cp6) := by
    have hF : Frm (· = wb.heap.size) w6 (((w6.setCell ⟨wb.heap.size, 0, none⟩ (.string ⟨cl2.nm.toArray⟩)).setCell ⟨wb.heap.size, 1, none⟩ (.int .i64 f)).setCell ⟨wb.heap.size, 2, none⟩ (.slice (some ⟨g6, 0, none⟩) D6.length cp6)) := ((frm_set _ _ _ _).trans (frm_set _ _ _ _)).trans (frm_set _ _ _ _); have h1 := HO.out; have h2 := HQ.out; have h3 := F3.out.size; have h5 := F1.out.size; have h6 := hF.size; refine ⟨HY1.out.draw FX.out ⟨s6, HS6.out.frm hF (by omega) (fun b hb e => by have := HS6.out.le; have e2 : b = wb.heap.size := e; omega)⟩, by rw [heap_set 2 _ (heap_set 1 _ (heap_set 0 _ HZ2.out))]; rfl, ((ats_rd HAT.out cp6).frm hF (fun b hb e => by have e8 : b = g6 := hb; have e2 : b = wb.heap.size := e; omega)).mono (fun b hb => by have e8 : b = g6 := hb; omega), by omega, by omega⟩
   go_simp; clear z0 z1 z2 zf0 zf1 zf2; refine hK.out _ _ ?_ (fun hHeld => ?_)
   ·
    (exact CE.out _ (by first | exact FX.out | exact F3.out | exact F2.out | exact F1.out | exact F0.out))
   clear hK K; (try simp only [Act.put, tkS]); refine wpAnyH_done (by kernel_rfl) ?_ _; (go_wp2_with fail); go_meet; exact ⟨_, _, _, _, _, rfl, HX6.out, ⟨HCL.out.2, HFN.out, HD6.out.1, kk, HKK.out, HD6.out.2.1⟩, HD6.out.2.2⟩
 obtain ⟨qm, x, va, vc, m3, rfl, HZ⟩ := hcut; generalize wc = wd at *; clear DV HKK HY1; have HZ1 := Lib.hid HZ.out.1; have HRT := Lib.hid HZ.out.2; clear HZ
 have FIN : Hid (∀ (W2 : World) (y : MutV) (ya : Option Addr) (yc m4 : Nat), QMt V W2 p S a l c m4 qc qm cl2 y ya yc → y.col.length ≤ 40 ∧ (1 ≤ y.fn ∧ y.fn ≤ 7) ∧ y.val.length ≤ 8 ∧ (∃ k : Nat, (1 ≤ k ∧ k ≤ 4) ∧ Drn k y.val) → m4 ≤ m + 20 → MutA W p S a l c m (.returned (.agg #[.string ⟨y.col.toArray⟩, .int .i64 y.fn, .slice ya y.val.length yc])) (((W2.setCell ⟨W.heap.size, 0, none⟩ (.string ⟨y.col.toArray⟩)).setCell ⟨W.heap.size, 1, none⟩ (.int .i64 y.fn)).setCell ⟨W.heap.size, 2, none⟩ (.slice ya y.val.length yc))) := fun W2 y ya yc m4 h hr h4 => by
  obtain ⟨h1, h2, h3, k, hk, hd⟩ := hr; obtain ⟨r1, r2⟩ := mut_right h2 h1 hk hd h3; have hv := HV.out; obtain ⟨s9, hs9⟩ := h.ms.src; have hF : Frm (· = W.heap.size) W2 (((W2.setCell ⟨W.heap.size, 0, none⟩ (.string ⟨y.col.toArray⟩)).setCell ⟨W.heap.size, 1, none⟩ (.int .i64 y.fn)).setCell ⟨W.heap.size, 2, none⟩ (.slice ya y.val.length yc)) := ((frm_set _ _ _ _).trans (frm_set _ _ _ _)).trans (frm_set _ _ _ _); refine ⟨y, ya, yc, m4, s9, rfl, r1, r2, ?_, h4, hs9.frm hF (by omega) (fun b hb e => by have := hs9.le; have e2 : b = W.heap.size := e; omega), frm_over (hv.1.trans h.ms.fr) (Nat.le_refl _) hF⟩; exact (h.rv.frm hF (fun b hb e => by have e2 : b = W.heap.size := e; omega)).mono (fun b hb => ⟨by omega, Nat.lt_of_lt_of_le hb.2 hF.size⟩)
 have hcb := HZ1.out.ms.cb; have kc := cell_at (o := 1) hcb rfl; clear hcb
 by_cases hk1 : cl2.k = 1
 case neg =>
  have g1 : (cl2.k == 1) = false := by simpa using hk1
  clear hk1; have hb9 := HZ1.out.bx; obtain ⟨y0, y1, y2⟩ := ck3 0 1 2 hb9; have hr9 := (TF.out _ HZ1.out.ms.fr).2.2; obtain ⟨c0, c1, c2⟩ := ck3 0 1 2 hr9; obtain ⟨zz0, zz1, zz2⟩ := fk3 0 1 2 hr9; clear hb9 hr9; have HFIN := Lib.hid (FIN.out _ _ _ _ _ HZ1.out HRT.out.1 (by have := HRT.out.2; omega)); (go_wp2_with fail); refine bodyPost_ret (v := .agg #[.string ⟨x.col.toArray⟩, .int .i64 x.fn, .slice va x.val.length vc]) (by simp [results, Tryz.results71, go_sem, c0, c1, c2]) rfl ?_; exact HFIN.out
 have g1 : (cl2.k == 1) = true := by simpa using hk1
 clear hk1; (go_wp2_with fail); refine (CH.out _ _ 4 HZ1.out.ms.src (by have := HM.out; have := HRT.out.2; omega) (by omega) (by omega)).mono ?_; rintro e w6 ⟨b6, s6, rfl, hS, hF⟩; have HZ2 : Hid (QMt V w6 p S a l c (m3 + 1) qc qm cl2 x va vc) := HZ1.out.draw hF ⟨s6, hS⟩; clear hS hF HZ1 kc
 cases b6
 case true =>
  have hb9 := HZ2.out.bx; obtain ⟨y0, y1, y2⟩ := ck3 0 1 2 hb9; have hr9 := (TF.out _ HZ2.out.ms.fr).2.2; obtain ⟨c0, c1, c2⟩ := ck3 0 1 2 hr9; obtain ⟨zz0, zz1, zz2⟩ := fk3 0 1 2 hr9; clear hb9 hr9; have HFIN := Lib.hid (FIN.out _ _ _ _ _ HZ2.out HRT.out.1 (by have := HRT.out.2; omega)); (go_wp2_with fail); refine bodyPost_ret (v := .agg #[.string ⟨x.col.toArray⟩, .int .i64 x.fn, .slice va x.val.length vc]) (by simp [results, Tryz.results71, go_sem, c0, c1, c2]) rfl ?_; exact HFIN.out
 case false =>
  (go_wp2_with fail); refine (NX.out _ _ 5 HZ2.out.ms.src (by have := HM.out; have := HRT.out.2; omega) (by omega) (by omega)).mono ?_; rintro e w7 ⟨r7, s7, rfl, hr7, hS, hF⟩; have HZ3 := Lib.hid (HZ2.out.draw hF ⟨s7, hS⟩); obtain ⟨f, hf⟩ : ∃ f : Int, f = 1 + (r7 : Int) := ⟨_, rfl⟩; have ff : IntKind.i64.wrap (1 + (r7 : Int)) = f := by rw [IntKind.wrap_i64]; omega
  have HFN : Hid (1 ≤ f ∧ f ≤ 7) := by show _ ∧ _; omega
  have hb2 := HZ3.out.bx; have z1 := cell_at (o := 1) hb2 rfl; have fz1 := frozen_at 1 hb2; have HZ4 : Hid (QMt V (w7.setCell ⟨qm, 1, none⟩ (.int .i64 f)) p S a l c (m3 + 1 + 1) qc qm cl2 ⟨x.col, f, x.val⟩ va vc) := HZ3.out.put 1 _ (y := ⟨x.col, f, x.val⟩) (by rw [heap_set 1 _ hb2]; rfl) HZ3.out.rv; clear hb2 hS hF hr7 hf HZ2 HZ3; (go_wp2_with fail); clear z1 fz1; refine (NX.out _ _ 9 HZ4.out.ms.src (by have := HM.out; have := HRT.out.2; omega) (by omega) (by omega)).mono ?_; rintro e w8 ⟨r8, s8, rfl, hr8, hS, hF⟩; obtain ⟨n8, hn8⟩ : ∃ n : Int, n = (r8 : Int) - 3 := ⟨_, rfl⟩; have fn8 : IntKind.i64.wrap ((r8 : Int) - 3) = n8 := by rw [IntKind.wrap_i64]; omega
  have HN8 : Hid (-4 ≤ n8 ∧ n8 ≤ 8) := by show _ ∧ _; omega
  have HZ5 := Lib.hid ((HZ4.out.draw hF ⟨s8, hS⟩).later (below_allocD w8 (.cells #[.int .i64 1, .int .i64 n8, .string ⟨#[]⟩] 132))); have hge : V.heap.size ≤ w8.heap.size ∧ qm < w8.heap.size := ⟨(HZ4.out.draw hF ⟨s8, hS⟩).ms.fr.size, (Array.getElem?_eq_some_iff.1 (HZ4.out.draw hF ⟨s8, hS⟩).bx).1⟩; have hb2 := HZ5.out.bx; have z1 := cell_at (o := 2) hb2 rfl; have fz1 := frozen_at 2 hb2
  have HR8 : Hid (Rd (w8.alloc (.cells #[.int .i64 1, .int .i64 n8, .string ⟨#[]⟩] 132)) (fun b => (V.heap.size ≤ b ∧ b ≠ qm) ∧ b < (w8.alloc (.cells #[.int .i64 1, .int .i64 n8, .string ⟨#[]⟩] 132)).heap.size) (dAtomS [⟨1, n8, []⟩]) (.slice (some ⟨w8.heap.size, 0, none⟩) [(⟨1, n8, []⟩ : At)].length 1)) := ats_rd (L := [⟨1, n8, []⟩]) (.inr ⟨w8.heap.size, 0, rfl, ⟨⟨hge.1, by omega⟩, by simp⟩, fun m hm => by
   have hn := heap_newD w8 (.cells #[.int .i64 1, .int .i64 n8, .string ⟨#[]⟩] 132); rcases (by simp at hm; omega : m = 0 ∨ m = 1 ∨ m = 2) with rfl | rfl | rfl
   ·
    exact cell_at (o := 0) hn rfl
   ·
    exact cell_at (o := 1) hn rfl
   ·
    exact cell_at (o := 2) hn rfl⟩) 1
  have HZ6 : Hid (QMt V ((w8.alloc (.cells #[.int .i64 1, .int .i64 n8, .string ⟨#[]⟩] 132)).setCell ⟨qm, 2, none⟩ (.slice (some ⟨w8.heap.size, 0, none⟩) 1 1)) p S a l c (m3 + 1 + 1 + 1) qc qm cl2 ⟨x.col, f, [⟨1, n8, []⟩]⟩ (some ⟨w8.heap.size, 0, none⟩) 1) := HZ5.out.put 2 _ (y := ⟨x.col, f, [⟨1, n8, []⟩]⟩) (by rw [heap_set 2 _ hb2]; rfl) HR8.out; have HR9 : Hid (x.col.length ≤ 40 ∧ (1 ≤ f ∧ f ≤ 7) ∧ ([(⟨1, n8, []⟩ : At)]).length ≤ 8 ∧ ∃ k : Nat, (1 ≤ k ∧ k ≤ 4) ∧ Drn k [⟨1, n8, []⟩]) := ⟨HRT.out.1.1, HFN.out, by simp, 1, by omega, by first | exact rise_one _ | simp [Rise], fun z hz => by rw [List.mem_singleton.1 hz]; exact ⟨rfl, atN_ok (.inl ⟨rfl, HN8.out⟩)⟩⟩; clear hb2 hS hF hr8 hn8 HZ4 HZ5 hge HR8; have hb9 := HZ6.out.bx; obtain ⟨y0, y1, y2⟩ := ck3 0 1 2 hb9; have hr9 := (TF.out _ HZ6.out.ms.fr).2.2; obtain ⟨c0, c1, c2⟩ := ck3 0 1 2 hr9; obtain ⟨zz0, zz1, zz2⟩ := fk3 0 1 2 hr9; clear hb9 hr9; have HFIN := Lib.hid (FIN.out _ _ _ _ _ HZ6.out HR9.out (by have := HRT.out.2; omega)); (go_wp2_with fail); refine bodyPost_ret (v := .agg #[.string ⟨x.col.toArray⟩, .int .i64 f, .slice (some ⟨w8.heap.size, 0, none⟩) 1 1]) (by simp [results, Tryz.results71, go_sem, c0, c1, c2]) rfl ?_; exact HFIN.out
end Go.Proofs.YtlbcaaodkggohaaGreatDoor
