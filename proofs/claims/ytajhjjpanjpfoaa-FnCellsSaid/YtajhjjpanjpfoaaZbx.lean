import Derived.Test.YtajhjjpanjpfoaaZbw
import Derived.Test.YtajhjjpanjpfoaaZTk
namespace Go.Proofs.Ytajhjjpanjpfoaa
open Go.RowKit
set_option linter.unusedSimpArgs false
theorem ts_later {wr w1 : World} {T : TypeId} {n L : Nat} {f : Nat → Nat → D} {b i : Nat} (h : TS wr T n L f b i) (hB : Below wr.heap.size wr w1) : TS w1 T n L f b i := by
  obtain ⟨g, X, hr, hX, hd, hx⟩ := h
  exact ⟨g, X, hr.of_block (hB.block _ hr.lt), fun i' j c h => ⟨(hX i' j c h).1, (hX i' j c h).2.1, Nat.lt_of_lt_of_le (hX i' j c h).2.2 hB.size⟩, hd, fun i' j h1 h2 => (hx i' j h1 h2).later hB⟩
structure FS (w wr : World) (tc : Array Value) (id : Int) (L : Nat) (f : Nat → Nat → D) (b k : Nat) : Prop where
  tb : wr.heap[w.heap.size]? = some (.cells tc 27)
  zr : wr.heap[w.heap.size + 1]? = some (.cells #[.int .i64 0, .slice none 0 0] 34)
  fx : wr.heap[b + 1]? = some (.cells #[.int .i64 id, .slice (some ⟨b, 0, none⟩) L L] 34)
  lo : w.heap.size + 1 + 1 ≤ b
  ts : TS wr 42 1 L f b k
  bel : Below w.heap.size w wr
theorem FS.first {w W : World} {tc : Array Value} {id : Int} {L : Nat} {f : Nat → Nat → D} (h : MB2 w W tc #[.int .i64 0, .slice none 0 0]) : FS w ((W.alloc (.cells (madeCells #[.slice none 0 0] L) 42)).alloc (.cells #[.int .i64 id, .slice (some ⟨W.heap.size, 0, none⟩) L L] 34)) tc id L f W.heap.size 0 := by
  have hB : Below W.heap.size W ((W.alloc (.cells (madeCells #[.slice none 0 0] L) 42)).alloc (.cells #[.int .i64 id, .slice (some ⟨W.heap.size, 0, none⟩) L L] 34)) := (below_allocD _ _).trans ((below_allocD _ _).mono (by simp))
  have h2 := h.later hB
  have hn := heap_newD (W.alloc (.cells (madeCells #[.slice none 0 0] L) 42)) (.cells #[.int .i64 id, .slice (some ⟨W.heap.size, 0, none⟩) L L] 34)
  rw [size_allocD] at hn
  refine ⟨h2.tb, h2.zr, hn, (Array.getElem?_eq_some_iff.1 h.zr).1, ?_, h2.bel⟩
  have hts := TS.start W #[.slice none 0 0] 42 1 L f
  rw [Nat.mul_one] at hts
  exact ts_later hts (below_allocD _ _)
theorem FS.step {w wr W : World} {tc : Array Value} {id : Int} {L : Nat} {f : Nat → Nat → D} {b k : Nat} (h : FS w wr tc id L f b k) (hk : k < L) (hB : Below wr.heap.size wr W) (u : Value) (hu : Own W (f k 0) (fun c => wr.heap.size ≤ c ∧ c < W.heap.size) u) : FS w (W.setCell ⟨b, k, none⟩ u) tc id L f b (k + 1) ∧ (∃ x, W.cell? ⟨b, k, none⟩ = some x) ∧ W.frozen? ⟨b, k, none⟩ = false := by
  have hlo := h.lo
  have st : ∀ c x, W.heap[c]? = some x → c ≠ b → (W.setCell ⟨b, k, none⟩ u).heap[c]? = some x := fun c x hx hc => by
    rw [Below.heap_setCell _ ⟨b, k, none⟩ _ _ hc]; exact hx
  have hs := h.ts.step hB (fun _ => u) ⟨fun j c => j = 0 ∧ wr.heap.size ≤ c ∧ c < W.heap.size, fun _ _ h => h.2, fun _ _ _ h h' => by omega, fun j hj => by
    obtain rfl : j = 0 := by omega
    exact hu.mono (fun c h => ⟨rfl, h⟩)⟩
  simp only [putN, Nat.mul_one, Nat.add_zero] at hs
  obtain ⟨g, hg⟩ := h.ts.row
  have hg1 := hg.of_block (hB.block _ hg.lt)
  rw [Nat.mul_one] at hg1
  refine ⟨⟨st _ _ (heap_keptD h.tb hB) (by omega), st _ _ (heap_keptD h.zr hB) (by omega), st _ _ (heap_keptD h.fx hB) (by omega), hlo, hs, (h.bel.trans (hB.mono h.bel.size)).setCell (by show w.heap.size ≤ b; omega) _⟩, ⟨_, hg1.cell (i := k) hk⟩, hg1.frozen k⟩
set_option maxRecDepth 100000 in
set_option maxHeartbeats 6400000 in
theorem freshRowI (t : Tb) (ca : Option Addr) (cc : Nat) (ua : Option Addr) (uc : Nat) (A : Nat → Prop) (id : Int) (w : World) (hto : t.ok) (hT : t.Has w A ca ua) :
    Calls Try.prog 6 #[.agg #[.string ⟨t.nm.toArray⟩, .slice ca t.cols.length cc, .slice ua t.uq.length uc, .bool t.rt], .int .i64 id] w (RowAnsO w (frR t id) (frC t id)) := by
  have TA : Hid (∀ W, MB2 w W #[.string ⟨t.nm.toArray⟩, .slice ca t.cols.length cc, .slice ua t.uq.length uc, .bool t.rt] #[.int .i64 0, .slice none 0 0] → Calls Try.prog 14 #[.agg #[.string ⟨t.nm.toArray⟩, .slice ca t.cols.length cc, .slice ua t.uq.length uc, .bool t.rt]] W fun e w' => e = .returned (.bool (tabB t)) ∧ MB2 w w' #[.string ⟨t.nm.toArray⟩, .slice ca t.cols.length cc, .slice ua t.uq.length uc, .bool t.rt] #[.int .i64 0, .slice none 0 0]) := fun W h => (tableI t ca cc ua uc A W hto (hT.later h.bel)).mono (fun e w' ⟨he, hB⟩ => ⟨he, h.later hB⟩)
  have IN : Hid (∀ W, Calls Try.prog 15 #[.int .i64 id] W fun e w' => e = .returned (.bool (inB 1 id 1000000)) ∧ w' = W) := fun W => idOKi id W
  have HT : Hid (t.ok ∧ ∀ W, Below w.heap.size w W → t.Has W A ca ua) := ⟨hto, fun W h => hT.later h⟩
  have hb := mb2 w #[.string ⟨t.nm.toArray⟩, .slice ca t.cols.length cc, .slice ua t.uq.length uc, .bool t.rt] #[.int .i64 0, .slice none 0 0]
  have HB := Lib.hid hb
  have x0 := cell_at (o := 0) hb.tb rfl
  have x1 := cell_at (o := 1) hb.tb rfl
  have x2 := cell_at (o := 2) hb.tb rfl
  have x3 := cell_at (o := 3) hb.tb rfl
  have z0 := cell_at (o := 0) hb.zr rfl
  have f0 := frozen_at 0 hb.zr
  have z1 := cell_at (o := 1) hb.zr rfl
  have f1 := frozen_at 1 hb.zr
  clear hto hT hb
  cases hta : tabB t
  case false =>
    have HP := Lib.hid (fr_bad (id := id) hta)
    rw [hta] at TA
    clear hta
    go_enter Try.func6, Try.ntmps6
    go_wp2_with fail
    refine (TA.out _ HB.out).mono ?_
    rintro e w1 ⟨rfl, hb⟩
    have HB1 := Lib.hid hb
    clear x0 x1 x2 x3 z0 z1 f0 f1
    have x0 := cell_at (o := 0) hb.tb rfl
    have x1 := cell_at (o := 1) hb.tb rfl
    have x2 := cell_at (o := 2) hb.tb rfl
    have x3 := cell_at (o := 3) hb.tb rfl
    have z0 := cell_at (o := 0) hb.zr rfl
    have f0 := frozen_at 0 hb.zr
    have z1 := cell_at (o := 1) hb.zr rfl
    have f1 := frozen_at 1 hb.zr
    clear hb
    go_wp2_with fail
    refine bodyPost_ret (v := .tuple #[.agg #[.int .i64 0, .slice none 0 0], .int .i64 1]) (by simp [results, Try.results6, go_sem, *]) rfl ?_
    rw [HP.out.1, HP.out.2]
    exact ⟨none, 0, rfl, ⟨none, 0, rfl, .inl rfl⟩, by first | exact HB1.out.bel | exact (HB1.out.bel.setCell (by show w.heap.size ≤ w.heap.size + 1; omega) _).setCell (by show w.heap.size ≤ w.heap.size + 1; omega) _⟩
  cases hin : inB 1 id 1000000
  case false =>
    have HP := Lib.hid (fr_rng hta hin)
    rw [hta] at TA
    rw [hin] at IN
    clear hta hin
    go_enter Try.func6, Try.ntmps6
    go_wp2_with fail
    refine (TA.out _ HB.out).mono ?_
    rintro e w1 ⟨rfl, hb⟩
    have HB1 := Lib.hid hb
    clear x0 x1 x2 x3 z0 z1 f0 f1
    have x0 := cell_at (o := 0) hb.tb rfl
    have x1 := cell_at (o := 1) hb.tb rfl
    have x2 := cell_at (o := 2) hb.tb rfl
    have x3 := cell_at (o := 3) hb.tb rfl
    have z0 := cell_at (o := 0) hb.zr rfl
    have f0 := frozen_at 0 hb.zr
    have z1 := cell_at (o := 1) hb.zr rfl
    have f1 := frozen_at 1 hb.zr
    clear hb
    go_wp2_with fail
    refine (IN.out _).mono ?_
    rintro e w2 ⟨rfl, rfl⟩
    go_wp2_with fail
    refine bodyPost_ret (v := .tuple #[.agg #[.int .i64 0, .slice none 0 0], .int .i64 4]) (by simp [results, Try.results6, go_sem, *]) rfl ?_
    rw [HP.out.1, HP.out.2]
    exact ⟨none, 0, rfl, ⟨none, 0, rfl, .inl rfl⟩, by first | exact HB1.out.bel | exact (HB1.out.bel.setCell (by show w.heap.size ≤ w.heap.size + 1; omega) _).setCell (by show w.heap.size ≤ w.heap.size + 1; omega) _⟩
  have HP := Lib.hid (fr_ok hta hin)
  have H6 := Lib.hid (tab_of hta)
  rw [hta] at TA
  rw [hin] at IN
  clear hta hin
  go_enter Try.func6, Try.ntmps6
  go_wp2_with fail
  refine (TA.out _ HB.out).mono ?_
  rintro e w1 ⟨rfl, hb⟩
  have HB1 := Lib.hid hb
  clear x0 x1 x2 x3 z0 z1 f0 f1
  have x0 := cell_at (o := 0) hb.tb rfl
  have x1 := cell_at (o := 1) hb.tb rfl
  have x2 := cell_at (o := 2) hb.tb rfl
  have x3 := cell_at (o := 3) hb.tb rfl
  have z0 := cell_at (o := 0) hb.zr rfl
  have f0 := frozen_at 0 hb.zr
  have z1 := cell_at (o := 1) hb.zr rfl
  have f1 := frozen_at 1 hb.zr
  clear hb
  go_wp2_with fail
  refine (IN.out _).mono ?_
  rintro e w2 ⟨rfl, rfl⟩
  have hcl := H6.out.len.2
  have hmk := run_mkAtomSS t.cols.length (by omega) w2
  rw [Nat.mul_one] at hmk
  obtain ⟨b0, hb0⟩ : ∃ b0, b0 = w2.heap.size := ⟨_, rfl⟩
  have ST0 : Hid (FS w ((w2.alloc (.cells (madeCells #[.slice none 0 0] t.cols.length) 42)).alloc (.cells #[.int .i64 id, .slice (some ⟨w2.heap.size, 0, none⟩) t.cols.length t.cols.length] 34)) #[.string ⟨t.nm.toArray⟩, .slice ca t.cols.length cc, .slice ua t.uq.length uc, .bool t.rt] id t.cols.length (lsF cAtomS (t.cols.map dfL)) b0 0) := by rw [hb0]; exact FS.first HB1.out
  have HMB := Lib.hid hb0
  have n2 := cell_at (o := 1) ST0.out.tb rfl
  clear hb0
  go_wp2_with fail
  rw [← HMB.out]
  have ST2 := ST0.out
  rw [← HMB.out] at ST2
  have ST1 := Lib.hid ST2
  clear ST2
  clear x0 x1 x2 x3 z0 z1 f0 f1
  clear hmk n2 HB HB1 TA IN HMB ST0
  go_loopw [25] (fun i wr => ∃ k : Nat, k ≤ t.cols.length ∧ i = .int .i64 k ∧ Hid (FS w wr #[.string ⟨t.nm.toArray⟩, .slice ca t.cols.length cc, .slice ua t.uq.length uc, .bool t.rt] id t.cols.length (lsF cAtomS (t.cols.map dfL)) b0 k)) (fun i _ => t.cols.length - (intOf i).toNat)
  case atStart => exact ⟨0, Nat.zero_le _, rfl, ST1.out⟩
  case round =>
    obtain ⟨k, hk, rfl, HS⟩ := hrel
    by_cases hlt : k < t.cols.length
    case neg =>
      have hkd : decide ((k : Int) < (t.cols.length : Int)) = false := by simp; omega
      have HKM : Hid (k = t.cols.length) := by show k = _; omega
      have z0 := cell_at (o := 0) HS.out.zr rfl
      have z1 := cell_at (o := 1) HS.out.zr rfl
      have f0 := cell_at (o := 0) HS.out.fx rfl
      have f1 := cell_at (o := 1) HS.out.fx rfl
      have g0 := frozen_at 0 HS.out.zr
      have g1 := frozen_at 1 HS.out.zr
      go_wp2_with fail
      refine bodyPost_ret (v := .tuple #[.agg #[.int .i64 id, .slice (some ⟨b0, 0, none⟩) t.cols.length t.cols.length], .int .i64 0]) (by simp [results, Try.results6, go_sem, *]) rfl ?_
      rw [HP.out.1, HP.out.2]
      have hs := HS.out
      rw [HKM.out] at hs
      have hown := TS.done (by omega) hs.ts
      have hlo := hs.lo
      refine ⟨_, t.cols.length, by rw [List.length_map], ?_, (HS.out.bel.setCell (by show w.heap.size ≤ w.heap.size + 1; omega) _).setCell (by show w.heap.size ≤ w.heap.size + 1; omega) _⟩
      unfold dAtomSS Ls
      rw [List.length_map]
      exact (hown.frm (F := (· = w.heap.size + 1)) ((frm_set _ _ _ _).trans (frm_set _ _ _ _)) (fun b hb e => by have h1 := hb.1; have e2 : b = w.heap.size + 1 := e; omega)).mono (fun b hb => ⟨by have := hb.1; omega, by simpa using hb.2⟩)
    have hki : (k : Int) < (t.cols.length : Int) := by omega
    obtain ⟨b, off, hca, -, -⟩ := (HT.out.2 _ HS.out.bel).1.at k hlt
    subst hca
    have CE : Hid (∀ W, (W.heap[w.heap.size]? = some (.cells #[.string ⟨t.nm.toArray⟩, .slice (some ⟨b, off, none⟩) t.cols.length cc, .slice ua t.uq.length uc, .bool t.rt] 27) ∧ W.heap[b0 + 1]? = some (.cells #[.int .i64 id, .slice (some ⟨b0, 0, none⟩) t.cols.length t.cols.length] 34) ∧ Below w.heap.size w W) → W.cell? ⟨b0 + 1, 1, none⟩ = some (.slice (some ⟨b0, 0, none⟩) t.cols.length t.cols.length) ∧ W.cell? ⟨w.heap.size, 1, none⟩ = some (.slice (some ⟨b, off, none⟩) t.cols.length cc) ∧ W.cell? ⟨b, off + k * 8, none⟩ = some (.string ⟨t.cols[k].nm.toArray⟩) ∧ W.cell? ⟨b, off + k * 8 + 1, none⟩ = some (.int .i64 t.cols[k].k) ∧ W.cell? ⟨b, off + k * 8 + 2, none⟩ = some (.int .i64 t.cols[k].mn) ∧ W.cell? ⟨b, off + k * 8 + 3, none⟩ = some (.int .i64 t.cols[k].mx) ∧ W.cell? ⟨b, off + k * 8 + 4, none⟩ = some (.int .i64 t.cols[k].lo) ∧ W.cell? ⟨b, off + k * 8 + 5, none⟩ = some (.int .i64 t.cols[k].hi) ∧ W.cell? ⟨b, off + k * 8 + 6, none⟩ = some (.string ⟨t.cols[k].rf.toArray⟩) ∧ W.cell? ⟨b, off + k * 8 + 7, none⟩ = some (.bool t.cols[k].st)) := fun W h => by
      obtain ⟨b2, off2, e2, -, hc2⟩ := (HT.out.2 W h.2.2).1.at k hlt
      simp only [Option.some.injEq, Addr.mk.injEq, and_true] at e2
      obtain ⟨rfl, rfl⟩ := e2
      exact ⟨cell_at (o := 1) h.2.1 rfl, cell_at (o := 1) h.1 rfl, hc2 k hlt⟩
    have KB : Hid (∀ V, Below wr.heap.size wr V → (V.heap[w.heap.size]? = some (.cells #[.string ⟨t.nm.toArray⟩, .slice (some ⟨b, off, none⟩) t.cols.length cc, .slice ua t.uq.length uc, .bool t.rt] 27) ∧ V.heap[b0 + 1]? = some (.cells #[.int .i64 id, .slice (some ⟨b0, 0, none⟩) t.cols.length t.cols.length] 34) ∧ Below w.heap.size w V)) := fun V hB => ⟨heap_keptD HS.out.tb hB, heap_keptD HS.out.fx hB, HS.out.bel.trans (hB.mono HS.out.bel.size)⟩
    have BW0 : Hid (wr.drew.heap[w.heap.size]? = some (.cells #[.string ⟨t.nm.toArray⟩, .slice (some ⟨b, off, none⟩) t.cols.length cc, .slice ua t.uq.length uc, .bool t.rt] 27) ∧ wr.drew.heap[b0 + 1]? = some (.cells #[.int .i64 id, .slice (some ⟨b0, 0, none⟩) t.cols.length t.cols.length] 34) ∧ Below w.heap.size w wr.drew) := KB.out _ (Below.refl _ _).drew
    have hok := HT.out.1.2.2.1 t.cols[k] (List.getElem_mem hlt)
    have DF : Hid (∀ W, Calls Try.prog 16 #[.agg #[.string ⟨t.cols[k].nm.toArray⟩, .int .i64 t.cols[k].k, .int .i64 t.cols[k].mn, .int .i64 t.cols[k].mx, .int .i64 t.cols[k].lo, .int .i64 t.cols[k].hi, .string ⟨t.cols[k].rf.toArray⟩, .bool t.cols[k].st]] W (DAns2 W (dfL t.cols[k]) 0)) := fun W => by
      have hc := (H6.out.cols k hlt).1
      have h := defaultOfI t.cols[k] W hok.1 hok.2
      have e1 : dfR t.cols[k] = dfL t.cols[k] := by unfold dfR; rw [if_pos hc]
      have e2 : dfC t.cols[k] = 0 := by unfold dfC; rw [if_pos hc]
      rw [e1, e2] at h; exact h
    have PU : Hid (∀ V a8 c8, Below wr.heap.size wr V → OwnAts V (fun b => wr.heap.size ≤ b ∧ b < V.heap.size) a8 (dfL t.cols[k]) → FS w (V.setCell ⟨b0, k, none⟩ (.slice a8 (dfL t.cols[k]).length c8)) #[.string ⟨t.nm.toArray⟩, .slice (some ⟨b, off, none⟩) t.cols.length cc, .slice ua t.uq.length uc, .bool t.rt] id t.cols.length (lsF cAtomS (t.cols.map dfL)) b0 (k + 1) ∧ (∃ x, V.cell? ⟨b0, k, none⟩ = some x) ∧ V.frozen? ⟨b0, k, none⟩ = false) := fun V a8 c8 hB ho => HS.out.step hlt hB _ (by rw [dfF hlt]; exact ho.own c8)
    clear hok
    generalize t.cols[k] = x at *
    go_wp2_with fail
    refine wp_region_held_drew (S := (fun W => W.cell? ⟨b0 + 1, 1, none⟩ = some (.slice (some ⟨b0, 0, none⟩) t.cols.length t.cols.length) ∧ W.cell? ⟨w.heap.size, 1, none⟩ = some (.slice (some ⟨b, off, none⟩) t.cols.length cc) ∧ W.cell? ⟨b, off + k * 8, none⟩ = some (.string ⟨x.nm.toArray⟩) ∧ W.cell? ⟨b, off + k * 8 + 1, none⟩ = some (.int .i64 x.k) ∧ W.cell? ⟨b, off + k * 8 + 2, none⟩ = some (.int .i64 x.mn) ∧ W.cell? ⟨b, off + k * 8 + 3, none⟩ = some (.int .i64 x.mx) ∧ W.cell? ⟨b, off + k * 8 + 4, none⟩ = some (.int .i64 x.lo) ∧ W.cell? ⟨b, off + k * 8 + 5, none⟩ = some (.int .i64 x.hi) ∧ W.cell? ⟨b, off + k * 8 + 6, none⟩ = some (.string ⟨x.rf.toArray⟩) ∧ W.cell? ⟨b, off + k * 8 + 7, none⟩ = some (.bool x.st))) (by kernel_rfl) ?_ (fun hHeld => ?_)
    · (exact CE.out _ (by first | exact BW0.out | exact BW1.out | exact BW5.out))
    refine wpAnyH_take (i := 0) (v := ?_) rfl (by kernel_rfl) (by kernel_rfl) (by kernel_rfl) (fun _ _ _ h => h) (Or.inl ⟨by kernel_rfl, ?_⟩) (by assumption) ?_
    rotate_left
    · (intro wS hSw; (try dsimp only at hSw); go_simp <;> with_reducible rfl)
    try simp only [Act.put, tkS]
    refine wpAnyH_take (i := 1) (v := ?_) rfl (by kernel_rfl) (by kernel_rfl) (by kernel_rfl) (fun _ _ _ h => h) (Or.inl ⟨by kernel_rfl, ?_⟩) (by assumption) ?_
    rotate_left
    · (intro wS hSw; (try dsimp only at hSw); go_simp <;> with_reducible rfl)
    try simp only [Act.put, tkS]
    refine wpAnyH_take (i := 2) (v := ?_) rfl (by kernel_rfl) (by kernel_rfl) (by kernel_rfl) (fun _ _ _ h => h) (Or.inl ⟨by kernel_rfl, ?_⟩) (by assumption) ?_
    rotate_left
    · (intro wS hSw; (try dsimp only at hSw); go_simp <;> with_reducible rfl)
    try simp only [Act.put, tkS]
    refine wpAnyH_take (i := 3) (v := ?_) rfl (by kernel_rfl) (by kernel_rfl) (by kernel_rfl) (fun _ _ _ h => h) (Or.inl ⟨by kernel_rfl, ?_⟩) (by assumption) ?_
    rotate_left
    · (intro wS hSw; (try dsimp only at hSw); go_simp <;> with_reducible rfl)
    try simp only [Act.put, tkS]
    refine wpAnyH_take (i := 4) (v := ?_) rfl (by kernel_rfl) (by kernel_rfl) (by kernel_rfl) (fun _ _ _ h => h) (Or.inl ⟨by kernel_rfl, ?_⟩) (by assumption) ?_
    rotate_left
    · (intro wS hSw; (try dsimp only at hSw); go_simp <;> with_reducible rfl)
    try simp only [Act.put, tkS]
    refine wpAnyH_take (i := 5) (v := ?_) rfl (by kernel_rfl) (by kernel_rfl) (by kernel_rfl) (fun _ _ _ h => h) (Or.inl ⟨by kernel_rfl, ?_⟩) (by assumption) ?_
    rotate_left
    · (intro wS hSw; (try dsimp only at hSw); go_simp <;> with_reducible rfl)
    try simp only [Act.put, tkS]
    refine wpAnyH_take (i := 6) (v := ?_) rfl (by kernel_rfl) (by kernel_rfl) (by kernel_rfl) (fun _ _ _ h => h) (Or.inl ⟨by kernel_rfl, ?_⟩) (by assumption) ?_
    rotate_left
    · (intro wS hSw; (try dsimp only at hSw); go_simp <;> with_reducible rfl)
    try simp only [Act.put, tkS]
    refine wpAnyH_take (i := 7) (v := ?_) rfl (by kernel_rfl) (by kernel_rfl) (by kernel_rfl) (fun _ _ _ h => h) (Or.inl ⟨by kernel_rfl, ?_⟩) (by assumption) ?_
    rotate_left
    · (intro wS hSw; (try dsimp only at hSw); go_simp <;> with_reducible rfl)
    try simp only [Act.put, tkS]
    refine wpAnyH_ready (rs := [8]) (by kernel_rfl) (by simp) (AllReadyH.cons rfl (fun K hK => ?_) AllReadyH.nil)
    go_simp
    go_at_call 16
    refine (DF.out _).mono ?_
    rintro e w5 ⟨a8, c8, rfl, ho, hB⟩
    have bW1 : Below wr.heap.size wr w5 := (Below.refl _ _).drew.trans hB
    have BW1 : Hid (w5.heap[w.heap.size]? = some (.cells #[.string ⟨t.nm.toArray⟩, .slice (some ⟨b, off, none⟩) t.cols.length cc, .slice ua t.uq.length uc, .bool t.rt] 27) ∧ w5.heap[b0 + 1]? = some (.cells #[.int .i64 id, .slice (some ⟨b0, 0, none⟩) t.cols.length t.cols.length] 34) ∧ Below w.heap.size w w5) := KB.out _ bW1
    obtain ⟨hst, ⟨x9, t4⟩, z4⟩ := PU.out w5 a8 c8 bW1 (ho.same (fun _ _ => rfl) (fun _ hb => hb))
    have HST := Lib.hid hst
    have BW5 : Hid ((w5.setCell ⟨b0, k, none⟩ (.slice a8 (dfL x).length c8)).heap[w.heap.size]? = some (.cells #[.string ⟨t.nm.toArray⟩, .slice (some ⟨b, off, none⟩) t.cols.length cc, .slice ua t.uq.length uc, .bool t.rt] 27) ∧ (w5.setCell ⟨b0, k, none⟩ (.slice a8 (dfL x).length c8)).heap[b0 + 1]? = some (.cells #[.int .i64 id, .slice (some ⟨b0, 0, none⟩) t.cols.length t.cols.length] 34) ∧ Below w.heap.size w (w5.setCell ⟨b0, k, none⟩ (.slice a8 (dfL x).length c8))) := ⟨hst.tb, hst.fx, hst.bel⟩
    clear hst ho hB bW1
    refine hK.out _ _ ?_ (fun hHeld => ?_)
    · (exact CE.out _ (by first | exact BW0.out | exact BW1.out | exact BW5.out))
    clear hK K
    try simp only [Act.put, tkS]
    refine wpAnyH_take (i := 9) (v := ?_) rfl (by kernel_rfl) (by kernel_rfl) (by kernel_rfl) (fun _ _ _ h => h) (Or.inl ⟨by kernel_rfl, ?_⟩) (by assumption) ?_
    rotate_left
    · (intro wS hSw; (try dsimp only at hSw); go_simp <;> with_reducible rfl)
    try simp only [Act.put, tkS]
    refine wpAnyH_take (i := 10) (v := ?_) rfl (by kernel_rfl) (by kernel_rfl) (by kernel_rfl) (fun _ _ _ h => h) (Or.inl ⟨by kernel_rfl, ?_⟩) (by assumption) ?_
    rotate_left
    · (intro wS hSw; (try dsimp only at hSw); go_simp <;> with_reducible rfl)
    try simp only [Act.put, tkS]
    refine wpAnyH_take (i := 11) (v := ?_) rfl (by kernel_rfl) (by kernel_rfl) (by kernel_rfl) (fun _ _ _ h => h) (Or.inl ⟨by kernel_rfl, ?_⟩) (by assumption) ?_
    rotate_left
    · (intro wS hSw; (try dsimp only at hSw); go_simp <;> with_reducible rfl)
    try simp only [Act.put, tkS]
    refine wpAnyH_take (i := 12) (v := ?_) rfl (by kernel_rfl) (by kernel_rfl) (by kernel_rfl) (fun _ _ _ h => h) (Or.inl ⟨by kernel_rfl, ?_⟩) (by assumption) ?_
    rotate_left
    · (intro wS hSw; (try dsimp only at hSw); go_simp <;> with_reducible rfl)
    try simp only [Act.put, tkS]
    refine wpAnyH_ready (rs := [13]) (by kernel_rfl) (by simp) (AllReadyH.cons rfl (fun K hK => ?_) AllReadyH.nil)
    go_simp
    refine hK.out _ _ ?_ (fun hHeld => ?_)
    · (exact CE.out _ (by first | exact BW0.out | exact BW1.out | exact BW5.out))
    clear hK K
    try simp only [Act.put, tkS]
    refine wpAnyH_done (by kernel_rfl) ?_ _
    go_wp2_with fail
    go_roundw
    case rel => exact ⟨k + 1, by omega, by go_num, HST.out⟩
    case measure => simp [intOf]; omega
end Go.Proofs.Ytajhjjpanjpfoaa
