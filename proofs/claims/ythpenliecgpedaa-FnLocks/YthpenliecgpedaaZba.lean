import Derived.Test.YthpenliecgpedaaZaw
import Derived.Test.YthpenliecgpedaaZax
import Derived.Test.YthpenliecgpedaaZay
import Derived.Test.YthpenliecgpedaaZaz
import Derived.Test.YthpenliecgpedaaZTk
namespace Go.Proofs.Ythpenliecgpedaa
open Go.RowKit Go.MuLone
set_option linter.unusedSimpArgs false
structure TW (base pb : Nat) (w W : World) (st : Int) (es : List LE) (v : Value) : Prop where
  bx : W.heap[pb]? = some (.cells #[.int .i32 st, .int .u32 0, v] 80)
  tb : LTab base W es v
  nb : ∀ g, (v.ownBlock = some g ∨ ∃ i, ∃ hi : i < es.length, es[i].u.ownBlock = some g) → g ≠ pb
  lo : base ≤ pb
  bel : Below base w W
theorem TW.later {base pb : Nat} {w W W' : World} {st : Int} {es : List LE} {v : Value} (h : TW base pb w W st es v) (hB : Below W.heap.size W W') (hw : base ≤ W.heap.size) : TW base pb w W' st es v :=
  ⟨heap_keptD h.bx hB, h.tb.later hB, h.nb, h.lo, h.bel.trans (hB.mono hw)⟩
theorem TW.st {base pb : Nat} {w W : World} {st : Int} {es : List LE} {v : Value} (h : TW base pb w W st es v) (s' : Int) : TW base pb w (W.setCell ⟨pb, 0, none⟩ (.int .i32 s')) s' es v :=
  ⟨by rw [heap_set 0 _ h.bx]; rfl, h.tb.same (fun g hg => Below.heap_setCell _ ⟨pb, 0, none⟩ _ _ (by show g ≠ pb; exact h.nb g hg)), h.nb, h.lo, h.bel.setCell (by exact h.lo) _⟩
theorem TW.c0 {base pb : Nat} {w W : World} {st : Int} {es : List LE} {v : Value} (h : TW base pb w W st es v) : W.cell? ⟨pb, 0, none⟩ = some (.int .i32 st) := cell_at (o := 0) h.bx rfl
theorem TW.z0 {base pb : Nat} {w W : World} {st : Int} {es : List LE} {v : Value} (h : TW base pb w W st es v) (o : Nat) : W.frozen? ⟨pb, o, none⟩ = false := frozen_at o h.bx
theorem TW.c2 {base pb : Nat} {w W : World} {st : Int} {es : List LE} {v : Value} (h : TW base pb w W st es v) : W.cell? ⟨pb, 2, none⟩ = some v := cell_at (o := 2) h.bx rfl
structure FT (w wr : World) (l : List LkV) (es : List LE) (k : Nat) : Prop where
  row : ∃ f, wr.rowIs w.heap.size 54 (l.length * 2) f ∧ ∀ i (h : i < es.length), f (i * 2) = .string ⟨es[i].x.nm.toArray⟩ ∧ f (i * 2 + 1) = es[i].u
  el : LEs w.heap.size wr es
  dv : ∀ i (h : i < es.length) g, es[i].u.ownBlock = some g → g ≠ w.heap.size
  nm : lks es = l.take k
  bel : Below w.heap.size w wr
theorem FT.len {w wr : World} {l : List LkV} {es : List LE} {k : Nat} (h : FT w wr l es k) (hk : k ≤ l.length) : es.length = k := by
  have h1 := congrArg List.length h.nm; rw [lks_len, List.length_take] at h1; omega
theorem FT.step {w wr W2 : World} {l : List LkV} {es : List LE} {k : Nat} (h : FT w wr l es k) (hk : k < l.length) (hB : Below wr.heap.size wr W2) (u : Value) (hu : QOw w.heap.size W2 l[k].qu u) (hn : ∀ g, u.ownBlock = some g → wr.heap.size ≤ g) :
    FT w ((W2.setCell ⟨w.heap.size, k * 2, none⟩ (.string ⟨l[k].nm.toArray⟩)).setCell ⟨w.heap.size, k * 2 + 1, none⟩ u) l (es ++ [⟨l[k], u⟩]) (k + 1) := by
  obtain ⟨f, hr, hf⟩ := h.row
  have hel := h.len (by omega)
  have hlt := hr.lt
  have hr2 := ((hr.of_block (hB.block _ hlt)).set (k * 2) (.string ⟨l[k].nm.toArray⟩)).set (k * 2 + 1) u
  have hoth : ∀ b, b ≠ w.heap.size → ((W2.setCell ⟨w.heap.size, k * 2, none⟩ (.string ⟨l[k].nm.toArray⟩)).setCell ⟨w.heap.size, k * 2 + 1, none⟩ u).heap[b]? = W2.heap[b]? := fun b hb => by
    rw [Below.heap_setCell _ ⟨w.heap.size, k * 2 + 1, none⟩ _ _ (by show b ≠ w.heap.size; exact hb), Below.heap_setCell _ ⟨w.heap.size, k * 2, none⟩ _ _ (by show b ≠ w.heap.size; exact hb)]
  have hlo : ∀ i (hi : i < es.length) g, es[i].u.ownBlock = some g → g < wr.heap.size := fun i hi g hg => ((h.el.qs i hi).low hg).2
  refine ⟨⟨_, hr2, fun i hi => ?_⟩, ⟨fun i hi => ?_, fun i hi j hj g h1 h2 => ?_⟩, fun i hi g h1 => ?_, ?_, ?_⟩
  · rw [List.length_append] at hi
    by_cases e : i < es.length
    · rw [List.getElem_append_left e]
      exact ⟨by rw [if_neg (by omega), if_neg (by omega)]; exact (hf i e).1, by rw [if_neg (by omega), if_neg (by omega)]; exact (hf i e).2⟩
    · have e2 : i = k := by simp at hi; omega
      subst e2
      rw [List.getElem_append_right (by omega)]
      simp only [hel, Nat.sub_self, List.getElem_cons_zero]
      exact ⟨by rw [if_neg (by omega)]; simp, by simp⟩
  · rw [List.length_append] at hi
    by_cases e : i < es.length
    · rw [List.getElem_append_left e]
      exact (h.el.qs i e).same (fun g hg => by rw [hoth g (h.dv i e g hg)]; exact hB.block g (hlo i e g hg))
    · rw [List.getElem_append_right (by omega)]
      have e3 : i - es.length = 0 := by simp at hi; omega
      simp only [e3, List.getElem_cons_zero]
      exact hu.same (fun g hg => hoth g (by have := hn g hg; omega))
  · rw [List.length_append] at hi hj
    by_cases e : i < es.length
    · rw [List.getElem_append_left e] at h1
      by_cases e2 : j < es.length
      · rw [List.getElem_append_left e2] at h2
        exact h.el.dd i e j e2 g h1 h2
      · rw [List.getElem_append_right (by omega)] at h2
        have e3 : j - es.length = 0 := by simp at hj; omega
        simp only [e3, List.getElem_cons_zero] at h2
        have := hn g h2; have := hlo i e g h1; omega
    · rw [List.getElem_append_right (by omega)] at h1
      have e3 : i - es.length = 0 := by simp at hi; omega
      simp only [e3, List.getElem_cons_zero] at h1
      by_cases e2 : j < es.length
      · rw [List.getElem_append_left e2] at h2
        have := hn g h1; have := hlo j e2 g h2; omega
      · simp at hi hj; omega
  · rw [List.length_append] at hi
    by_cases e : i < es.length
    · rw [List.getElem_append_left e] at h1; exact h.dv i e g h1
    · rw [List.getElem_append_right (by omega)] at h1
      have e3 : i - es.length = 0 := by simp at hi; omega
      simp only [e3, List.getElem_cons_zero] at h1
      have := hn g h1; omega
  · rw [lks_app, h.nm, List.take_succ_eq_append_getElem hk]; rfl
  · have hs := h.bel.size
    exact ((h.bel.trans (hB.mono hs)).setCell (Nat.le_refl _) _).setCell (Nat.le_refl _) _
theorem FT.done {w wr : World} {l : List LkV} {es : List LE} (h : FT w wr l es l.length) (hl : l.length ≤ 100000) : LTab w.heap.size wr es (.slice (some ⟨w.heap.size, 0, none⟩) l.length l.length) := by
  have hel := h.len (Nat.le_refl _)
  refine ⟨?_, h.el, fun i hi g h1 h2 => h.dv i hi g h1 (by cases h2; rfl)⟩
  obtain ⟨f, ⟨c, hb, hn, hc⟩, hf⟩ := h.row
  rw [hel]
  refine ⟨by rw [lcs_len, hel], .inr ⟨_, l.length, c, rfl, Nat.le_refl _, hb, Nat.le_refl _, by unfold maxLen; omega, hn, ?_⟩⟩
  rw [List.take_of_length_le (by rw [Array.length_toList, hn]; exact Nat.le_refl _)]
  refine List.ext_getElem? (fun j => ?_)
  rw [Array.getElem?_toList]
  by_cases hj : j < l.length * 2
  · rw [hc j hj]
    obtain ⟨a1, a2⟩ := lcs_at es (j / 2) (by omega)
    obtain ⟨b1, b2⟩ := hf (j / 2) (by omega)
    rcases (by omega : j = j / 2 * 2 ∨ j = j / 2 * 2 + 1) with e | e
    · rw [e, b1, a1]
    · rw [e, b2, a2]
  · rw [Array.getElem?_eq_none (by omega), List.getElem?_eq_none (by rw [lcs_len]; omega)]
set_option maxRecDepth 100000 in
set_option maxHeartbeats 6400000 in
theorem tabOfI (l : List LkV) (a : Option Addr) (c : Nat) (B : Nat → Prop) (w : World) (hl : l.length ≤ 6) (hq : ∀ k (h : k < l.length), 0 < l[k].qu.length ∧ l[k].qu.length ≤ 1000) (hS : Rd w B (dLockS l) (.slice a l.length c)) :
    Calls Try.prog 24 #[.slice a l.length c] w fun e w' => ∃ pb es, e = .returned (.pointer (some ⟨pb, 0, none⟩)) ∧ lks es = l ∧ TW w.heap.size pb w w' 0 es (.slice (some ⟨w.heap.size, 0, none⟩) l.length l.length) := by
  have HS : Hid (∀ W, Below w.heap.size w W → Rd W B (dLockS l) (.slice a l.length c)) := fun W h => Rd.later hS h
  have HQ := Lib.hid hq
  have HL := Lib.hid hl
  have H0 : Hid (FT w (w.alloc (.cells (madeCells #[.string ⟨#[]⟩, .slice none 0 0] (l.length * 2)) 54)) l [] 0) := ⟨⟨_, (TS.start w #[.string ⟨#[]⟩, .slice none 0 0] 54 2 l.length (lsF dLock l)).row.choose_spec, fun i h => absurd h (by simp)⟩, LEs.nil _ _, fun i h => absurd h (by simp), rfl, below_allocD _ _⟩
  have hmk := run_mkLockS l.length (by omega)
  clear hS hq
  go_enter Try.func24, Try.ntmps24
  go_wp2_with fail
  clear hmk
  go_loopw [11] (fun iv wr => ∃ (k : Nat) (es : List LE), k ≤ l.length ∧ iv = .int .i64 k ∧ Hid (FT w wr l es k)) (fun iv _ => l.length - (intOf iv).toNat)
  case atStart => exact ⟨0, [], Nat.zero_le _, rfl, H0.out⟩
  case round =>
    clear H0
    obtain ⟨k, es, hk, rfl, HW⟩ := hrel
    by_cases hlt : k < l.length
    case neg =>
      have hki : decide ((k : Int) < (l.length : Int)) = false := by simp; omega
      have hkk : k = l.length := by omega
      have HT : Hid (LTab w.heap.size wr es (.slice (some ⟨w.heap.size, 0, none⟩) l.length l.length) ∧ lks es = l ∧ Below w.heap.size w wr ∧ w.heap.size < wr.heap.size) := by
        have h1 := HW.out
        rw [hkk] at h1
        obtain ⟨f, hr, -⟩ := h1.row
        exact ⟨h1.done (by have := HL.out; omega), by have h2 := h1.nm; rw [List.take_of_length_le (Nat.le_refl _)] at h2; exact h2, h1.bel, hr.lt⟩
      have FIN : Hid (TW w.heap.size wr.heap.size w (wr.alloc (.cells #[.int .i32 0, .int .u32 0, .slice (some ⟨w.heap.size, 0, none⟩) l.length l.length] 80)) 0 es (.slice (some ⟨w.heap.size, 0, none⟩) l.length l.length)) :=
        ⟨heap_newD _ _, HT.out.1.later (below_allocD _ _), fun g hg => by have := (HT.out.1.low hg).2; omega, HT.out.2.2.1.size, HT.out.2.2.1.trans ((below_allocD _ _).mono HT.out.2.2.1.size)⟩
      clear hkk
      go_wp2_with fail
      go_ret
      exact ⟨_, es, rfl, HT.out.2.1, FIN.out⟩
    have hki : (k : Int) < (l.length : Int) := by omega
    have hk0 : (0 : Int) ≤ (k : Int) := by omega
    obtain ⟨b, off, qa, qc, rfl, -, hqr, hc⟩ := lockAt (HS.out _ (Below.refl _ _)) hlt
    have hq0 := HQ.out k hlt
    obtain ⟨g, o, rfl, -, hcq⟩ := intAt hqr hq0.1
    have c0 := (hc _ HW.out.bel).1
    have c1 := (hc _ HW.out.bel).2
    have hXn := heap_newD wr (.cells #[.string ⟨l[k].nm.toArray⟩, .slice (some ⟨g, o, none⟩) l[k].qu.length qc] 54)
    have D0 : Below wr.heap.size wr (wr.alloc (.cells #[.string ⟨l[k].nm.toArray⟩, .slice (some ⟨g, o, none⟩) l[k].qu.length qc] 54)) := below_allocD _ _
    have s0 : (wr.alloc (.cells #[.string ⟨l[k].nm.toArray⟩, .slice (some ⟨g, o, none⟩) l[k].qu.length qc] 54)).heap.size = wr.heap.size + 1 := size_allocD _ _
    obtain ⟨qa', qc', W1, hr1, hu1, hF1, hn1⟩ := QOw.app (V := (wr.alloc (.cells #[.string ⟨l[k].nm.toArray⟩, .slice (some ⟨g, o, none⟩) l[k].qu.length qc] 54)).drew) (QOw.nil w.heap.size _) l[k].qu ⟨g, o, none⟩ qc (fun j hj => by
      rw [Addr.add_mid]; exact hcq j hj _ (HW.out.bel.trans ((D0.mono HW.out.bel.size).drew))) (Nat.le_trans HW.out.bel.size D0.size) (by simp; omega)
    simp only [List.length_nil, Nat.zero_add, List.nil_append] at hr1 hu1 hn1
    have E1 : Below (wr.heap.size + 1) (wr.alloc (.cells #[.string ⟨l[k].nm.toArray⟩, .slice (some ⟨g, o, none⟩) l[k].qu.length qc] 54)) W1 := ⟨hF1.os, hF1.tape, hF1.output, hF1.size, fun x hx => hF1.block x (by rw [← s0] at hx; exact hx) (fun e => by cases e)⟩
    have D2 : Below wr.heap.size wr W1 := D0.trans (E1.mono (by omega))
    have hu2 : ∀ y, Value.ownBlock (.slice qa' l[k].qu.length qc') = some y → wr.heap.size ≤ y := fun y hy => by
      rcases hn1 y hy with h1 | h1
      · cases h1
      · have h2 : wr.heap.size + 1 ≤ y := by rw [← s0]; exact h1
        omega
    have HN : Hid (FT w ((W1.setCell ⟨w.heap.size, k * 2, none⟩ (.string ⟨l[k].nm.toArray⟩)).setCell ⟨w.heap.size, k * 2 + 1, none⟩ (.slice qa' l[k].qu.length qc')) l (es ++ [⟨l[k], .slice qa' l[k].qu.length qc'⟩]) (k + 1)) := HW.out.step hlt D2 _ hu1 hu2
    obtain ⟨f, hrow, -⟩ := HW.out.row
    have hrow1 := hrow.of_block (D2.block _ hrow.lt)
    have e0 := hrow1.cell (i := k * 2) (by omega)
    have y0 := hrow1.frozen (k * 2)
    have e1 := hrow1.cell (i := k * 2 + 1) (by omega)
    have y1 := hrow1.frozen (k * 2 + 1)
    have hne : w.heap.size ≠ wr.heap.size := by have := hrow.lt; omega
    have CE : Hid (∀ W, Below (wr.heap.size + 1) (wr.alloc (.cells #[.string ⟨l[k].nm.toArray⟩, .slice (some ⟨g, o, none⟩) l[k].qu.length qc] 54)) W → W.cell? ⟨wr.heap.size, 0, none⟩ = some (.string ⟨l[k].nm.toArray⟩) ∧ W.cell? ⟨wr.heap.size, 1, none⟩ = some (.slice (some ⟨g, o, none⟩) l[k].qu.length qc)) := fun W h => by
      have h1 : W.heap[wr.heap.size]? = some (.cells #[.string ⟨l[k].nm.toArray⟩, .slice (some ⟨g, o, none⟩) l[k].qu.length qc] 54) := (h.block wr.heap.size (by omega)).trans hXn
      exact ⟨cell_at (o := 0) h1 rfl, cell_at (o := 1) h1 rfl⟩
    have C9 : Hid (((W1.setCell ⟨w.heap.size, k * 2, none⟩ (.string ⟨l[k].nm.toArray⟩)).setCell ⟨w.heap.size, k * 2 + 1, none⟩ (.slice qa' l[k].qu.length qc')).cell? ⟨wr.heap.size, 0, none⟩ = some (.string ⟨l[k].nm.toArray⟩) ∧ ((W1.setCell ⟨w.heap.size, k * 2, none⟩ (.string ⟨l[k].nm.toArray⟩)).setCell ⟨w.heap.size, k * 2 + 1, none⟩ (.slice qa' l[k].qu.length qc')).cell? ⟨wr.heap.size, 1, none⟩ = some (.slice (some ⟨g, o, none⟩) l[k].qu.length qc)) := by
      have h1 : ((W1.setCell ⟨w.heap.size, k * 2, none⟩ (.string ⟨l[k].nm.toArray⟩)).setCell ⟨w.heap.size, k * 2 + 1, none⟩ (.slice qa' l[k].qu.length qc')).heap[wr.heap.size]? = some (.cells #[.string ⟨l[k].nm.toArray⟩, .slice (some ⟨g, o, none⟩) l[k].qu.length qc] 54) := by
        rw [Below.heap_setCell _ ⟨w.heap.size, k * 2 + 1, none⟩ _ _ (by show wr.heap.size ≠ w.heap.size; omega), Below.heap_setCell _ ⟨w.heap.size, k * 2, none⟩ _ _ (by show wr.heap.size ≠ w.heap.size; omega)]
        exact (E1.block wr.heap.size (by omega)).trans hXn
      exact ⟨cell_at (o := 0) h1 rfl, cell_at (o := 1) h1 rfl⟩
    have B0 : Hid (Below (wr.heap.size + 1) (wr.alloc (.cells #[.string ⟨l[k].nm.toArray⟩, .slice (some ⟨g, o, none⟩) l[k].qu.length qc] 54)) (wr.alloc (.cells #[.string ⟨l[k].nm.toArray⟩, .slice (some ⟨g, o, none⟩) l[k].qu.length qc] 54))) := by have h1 := Below.refl (wr.alloc (.cells #[.string ⟨l[k].nm.toArray⟩, .slice (some ⟨g, o, none⟩) l[k].qu.length qc] 54)).heap.size (wr.alloc (.cells #[.string ⟨l[k].nm.toArray⟩, .slice (some ⟨g, o, none⟩) l[k].qu.length qc] 54)); rw [s0] at h1; exact h1
    have B1 := Lib.hid E1
    have RUN1 := Lib.hid hr1
    clear hr1 hu1 hF1 hn1 s0 hu2 hcq hqr hc D0 D2 E1 hrow hrow1 hXn HW hne
    generalize l[k] = x at *
    go_wp2_with fail
    refine wp_region_held_drew (S := (fun W => W.cell? ⟨wr.heap.size, 0, none⟩ = some (.string ⟨x.nm.toArray⟩) ∧ W.cell? ⟨wr.heap.size, 1, none⟩ = some (.slice (some ⟨g, o, none⟩) x.qu.length qc))) (by kernel_rfl) ?_ (fun hHeld => ?_)
    · (first | exact CE.out _ B0.out | exact CE.out _ B0.out.drew | exact CE.out _ B1.out | exact C9.out)
    refine tkB (i := 0) ?_
    refine tkB (i := 1) ?_
    refine tkB (i := 2) ?_
    refine tkB (i := 3) ?_
    refine tkB (i := 4) ?_
    refine tkB (i := 5) ?_
    refine tkR (i := 6) (fun K hK => ?_)
    refine step_appIs rfl (.const (.slice none 0 0)) (.tmp 21) 52 rfl _ _ (by rfl) (by rfl) _ _ RUN1.out ?_
    refine hK.out _ _ ?_ (fun hHeld => ?_)
    · (first | exact CE.out _ B0.out | exact CE.out _ B0.out.drew | exact CE.out _ B1.out | exact C9.out)
    clear hK K
    try simp only [Act.put, tkS]
    refine tkB (i := 7) ?_
    refine tkB (i := 8) ?_
    refine tkR (i := 9) (fun K hK => ?_)
    go_simp
    refine hK.out _ _ ?_ (fun hHeld => ?_)
    · (first | exact CE.out _ B0.out | exact CE.out _ B0.out.drew | exact CE.out _ B1.out | exact C9.out)
    clear hK K
    try simp only [Act.put, tkS]
    refine wpAnyH_done (by kernel_rfl) ?_ _
    go_wp2_with fail
    go_roundw
    case rel => exact ⟨k + 1, _, by omega, by go_num, HN.out⟩
    case measure => simp [intOf]; omega
set_option maxRecDepth 100000 in
set_option maxHeartbeats 3200000 in
theorem allI (base pb : Nat) (w W : World) (es : List LE) (v : Value) (hv : ∃ a n c, v = .slice a n c) (h : TW base pb w W 0 es v) :
    Calls Try.prog 26 #[.pointer (some ⟨pb, 0, none⟩)] W fun e w' => e = .returned v ∧ TW base pb w w' 0 es v := by
  have H1 := Lib.hid (h.st 1)
  have H2 := Lib.hid ((h.st 1).st 0)
  have h0 := h.c0
  have f0 := h.z0 0
  have x2 := H1.out.c2
  obtain ⟨va, vn, vc, rfl⟩ := hv
  go_enter_defers Try.func26, Try.ntmps26
  go_wp2_with (go_at_call 46; refine (lock_free muLib ⟨pb, 0, none⟩ _ h0 f0).mono ?_; rintro e w' ⟨rfl, rfl⟩)
  refine leaves_cons (f := 47) (args := #[.pointer (some ⟨pb, 0, none⟩)]) (by simp) (by simp [go_sem]) ?_
  refine (unlock_deferred muLib ⟨pb, 0, none⟩ .returning _ H1.out.c0 (H1.out.z0 0)).mono ?_
  rintro e u' w'' ⟨rfl, rfl, rfl⟩
  exact ⟨_, results_tmp rfl _ _ _, rfl, H2.out⟩
set_option maxHeartbeats 3200000 in
theorem placeLkI (base pb : Nat) (w W : World) (st : Int) (es : List LE) (a : Option Addr) (c : Nat) (s : List UInt8) (h : TW base pb w W st es (.slice a (lks es).length c)) (hl : (lks es).length ≤ 1000) (hu : UpL (lks es)) :
    Calls Try.prog 48 #[.pointer (some ⟨pb, 0, none⟩), .string ⟨s.toArray⟩] W (BinL (lks es) s W) := by
  have CB := Lib.hid (binL (lks es) a c s _ W (by omega) hu h.tb.own.rd')
  have x2 := h.c2
  clear h
  go_enter Try.func48, Try.ntmps48
  go_wp2_with (go_at_call 72; refine CB.out.mono ?_; rintro e w1 ⟨pp, f, rfl, hF⟩)
  go_ret2
  exact ⟨pp, f, rfl, hF⟩
end Go.Proofs.Ythpenliecgpedaa
