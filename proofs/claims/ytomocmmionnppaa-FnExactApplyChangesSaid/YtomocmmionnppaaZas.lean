import Derived.Test.YtomocmmionnppaaZam
import Derived.Test.YtomocmmionnppaaZaj
import Derived.Deep.RegionHeld3
import Derived.Test.YtomocmmionnppaaZTk
namespace Go.Proofs.Ytomocmmionnppaa
open Go.RowKit
set_option linter.unusedSimpArgs false
theorem TS.late {wr wa wq : World} {T : TypeId} {n L : Nat} {f : Nat → Nat → D} {b i : Nat} (h : TS wr T n L f b i) (hB : Below wr.heap.size wr wa) (us : Nat → Value) (hq : Below wr.heap.size (putN wa b (i * n) us n) wq) (ho : Owns wq n (f i) us (fun c => wr.heap.size ≤ c ∧ c < wq.heap.size)) : TS wq T n L f b (i + 1) := by
  obtain ⟨g, X, hr, hX, hd, hx⟩ := h
  obtain ⟨Y, hY, hyd, hy⟩ := ho
  have hbl := hr.lt
  have hsz := hB.size
  have hsq := hq.size
  rw [putN_size] at hsq
  refine ⟨_, fun i' j c => if i' = i then j < n ∧ Y j c else X i' j c, (rowIs_putN (hr.of_block (hB.block _ hr.lt)) (i * n) us n).of_block (hq.block b hbl), fun i' j c hc => ?_, fun i1 j i2 j' c h1 h2 => ?_, fun i' j hi' hj => ?_⟩
  · by_cases e : i' = i
    · simp only [e, if_true] at hc
      have := hY j c hc.2
      omega
    · simp only [e, if_false] at hc
      have := hX i' j c hc
      omega
  · by_cases e1 : i1 = i <;> by_cases e2 : i2 = i
    · simp only [e1, e2, if_true] at h1 h2
      exact ⟨by omega, hyd j j' c h1.2 h2.2⟩
    · simp only [e1, e2, if_true, if_false] at h1 h2
      have := hY j c h1.2; have := hX i2 j' c h2
      omega
    · simp only [e1, e2, if_true, if_false] at h1 h2
      have := hY j' c h2.2; have := hX i1 j c h1
      omega
    · simp only [e1, e2, if_false] at h1 h2
      exact hd i1 j i2 j' c h1 h2
  · by_cases e : i' = i
    · subst e
      simp only [if_true]
      rw [if_pos (by omega), show i' * n + j - i' * n = j by omega]
      exact (hy j hj).mono (fun c hc => ⟨hj, hc⟩)
    · simp only [e, if_false]
      have hlt : i' < i := by omega
      have hspot : i' * n + j < i * n := by
        obtain ⟨k, rfl⟩ : ∃ k, i = i' + 1 + k := ⟨i - i' - 1, by omega⟩
        have : (i' + 1 + k) * n = i' * n + n + k * n := by rw [Nat.add_mul, Nat.add_mul, Nat.one_mul]
        omega
      rw [if_neg (by omega)]
      refine Own.same (f i' j) (X i' j) _ _ (fun c hc => ?_) (fun c hc => hc) (hx i' j hlt hj)
      have := hX i' j c hc
      rw [hq.block c (by omega), putN_block _ _ _ _ (by omega) n, hB.block c (by omega)]
theorem TS.apart {wr : World} {T : TypeId} {n L : Nat} {f : Nat → Nat → D} {b i p : Nat} (h : TS wr T n L f b i) (hp : p < b) (o : Nat) (v : Value) : TS (wr.setCell ⟨p, o, none⟩ v) T n L f b i := by
  obtain ⟨g, X, hr, hX, hd, hx⟩ := h
  refine ⟨g, X, hr.of_block (Below.heap_setCell _ _ _ _ (by show b ≠ p; omega)), fun i' j c hc => by simpa [World.setCell] using hX i' j c hc, hd, fun i' j hi hj => ?_⟩
  refine Own.same (f i' j) (X i' j) _ _ (fun c hc => ?_) (fun c hc => hc) (hx i' j hi hj)
  exact Below.heap_setCell _ _ _ _ (by have := hX i' j c hc; show c ≠ p; omega)
structure CSt (w wr : World) (x : StV) (a : Option Addr) (c i : Nat) : Prop where
  bx : wr.heap[w.heap.size]? = some (.cells #[.slice a x.tables.length c, .int .i64 x.next] 30)
  rv : wr.heap[w.heap.size + 1]? = some (.cells #[.slice none 0 0, .int .i64 0] 30)
  ts : TS wr 73 1 x.tables.length (lsF cRowS x.tables) (w.heap.size + 1 + 1) i
  ex : ∀ j (h : j < x.tables.length), j < i → ∃ q g, w.heap.size + 1 + 1 < q ∧ wr.cell? ⟨w.heap.size + 1 + 1, j, none⟩ = some (.slice (some ⟨q, 0, none⟩) x.tables[j].length x.tables[j].length) ∧ wr.rowIs q 53 (x.tables[j].length * 2) g
  bel : Below w.heap.size w wr
theorem CSt.first (w : World) (x : StV) (a : Option Addr) (c : Nat) : CSt w (((w.alloc (.cells #[.slice a x.tables.length c, .int .i64 x.next] 30)).alloc (.cells #[.slice none 0 0, .int .i64 0] 30)).alloc (.cells (madeCells #[.slice none 0 0] x.tables.length) 73)) x a c 0 := by
  have h3 : ∀ (V : World) (o : Obj) (b : Nat) (x : Obj), V.heap[b]? = some x → (V.alloc o).heap[b]? = some x := fun V o b x h => heap_keptD h (below_allocD _ _)
  have s1 := size_allocD w (.cells #[.slice a x.tables.length c, .int .i64 x.next] 30)
  have e1 := heap_newD (w.alloc (.cells #[.slice a x.tables.length c, .int .i64 x.next] 30)) (.cells #[.slice none 0 0, .int .i64 0] 30)
  have s2 := size_allocD (w.alloc (.cells #[.slice a x.tables.length c, .int .i64 x.next] 30)) (.cells #[.slice none 0 0, .int .i64 0] 30)
  rw [s1] at e1 s2
  refine ⟨h3 _ _ _ _ (h3 _ _ _ _ (heap_newD _ _)), h3 _ _ _ _ e1, ?_, fun j _ h => absurd h (by omega), ?_⟩
  · have := TS.start ((w.alloc (.cells #[.slice a x.tables.length c, .int .i64 x.next] 30)).alloc (.cells #[.slice none 0 0, .int .i64 0] 30)) #[.slice none 0 0] 73 1 x.tables.length (lsF cRowS x.tables)
    rw [Nat.mul_one, s2] at this
    exact this
  · exact (((Below.refl _ _).alloc (Nat.le_refl _) _).alloc (by simp) _).alloc (by simp; omega) _
set_option maxRecDepth 100000 in
set_option maxHeartbeats 12800000 in
theorem copyStoreI (x : StV) (a : Option Addr) (c : Nat) (B : Nat → Prop) (w : World) (ho : (dRowSS x.tables).le 1048576) (hS : Rd w B (dRowSS x.tables) (.slice a x.tables.length c)) :
    Calls Try.prog 25 #[.agg #[.slice a x.tables.length c, .int .i64 x.next]] w fun e w' => ∃ q : Nat, e = .returned (.agg #[.slice (some ⟨q, 0, none⟩) x.tables.length x.tables.length, .int .i64 x.next]) ∧ w.heap.size ≤ q ∧ TS w' 73 1 x.tables.length (lsF cRowS x.tables) q x.tables.length ∧ (∀ j (h : j < x.tables.length), ∃ p g, q < p ∧ w'.cell? ⟨q, j, none⟩ = some (.slice (some ⟨p, 0, none⟩) x.tables[j].length x.tables[j].length) ∧ w'.rowIs p 53 (x.tables[j].length * 2) g) ∧ Below w.heap.size w w' := by
  have hl : x.tables.length ≤ 1048576 := (Ls_le.1 ho).2.1
  have HX : Hid (∀ i (h : i < x.tables.length) j, j < 1 → (cRowS x.tables[i] j).le 1048576) := (Ls_le.1 ho).2.2
  have HS : Hid (∀ W, Below w.heap.size w W → Rd W B (Ls 1 cRowS x.tables) (.slice a x.tables.length c)) := fun W h => Rd.later hS h
  have hmk := run_mkRowSS x.tables.length hl
  have hf := CSt.first w x a c
  have hbs := boxD 30 w #[.slice a x.tables.length c, .int .i64 x.next]
  have H0 := Lib.hid hf
  clear hS ho hbs hf
  go_enter Try.func25, Try.ntmps25
  go_wp2_with fail
  clear hmk
  go_loopw [14] (fun t wr => ∃ i : Nat, i ≤ x.tables.length ∧ t = .int .i64 i ∧ Hid (CSt w wr x a c i)) (fun t _ => x.tables.length - (intOf t).toNat)
  case atStart => exact ⟨0, Nat.zero_le _, rfl, H0.out⟩
  case round =>
    obtain ⟨i, hi, rfl, HN⟩ := hrel
    by_cases hlt : i < x.tables.length
    case neg =>
      have hkd : decide ((i : Int) < (x.tables.length : Int)) = false := by simp; omega
      have hkm : i = x.tables.length := by omega
      have HKM := Lib.hid hkm
      have b1 := cell_at (o := 1) HN.out.bx rfl
      have r0 := cell_at (o := 0) HN.out.rv rfl
      have r1 := cell_at (o := 1) HN.out.rv rfl
      have g0 := frozen_at 0 HN.out.rv
      have g1 := frozen_at 1 HN.out.rv
      clear hkm
      go_wp2_with fail
      refine bodyPost_ret (v := .agg #[.slice (some ⟨w.heap.size + 1 + 1, 0, none⟩) x.tables.length x.tables.length, .int .i64 x.next]) (by simp [results, Try.results25, go_sem, *]) rfl ?_
      refine ⟨w.heap.size + 1 + 1, rfl, by omega, ?_, fun j hj => ?_, (HN.out.bel.setCell (by simp <;> omega) _).setCell (by simp <;> omega) _⟩
      case refine_2 =>
        obtain ⟨q, g, hq, hc, hr⟩ := HN.out.ex j hj (by have := HKM.out; omega)
        refine ⟨q, g, hq, ?_, ?_⟩
        · rw [World.cell?_of_block (w := wr) (a := ⟨w.heap.size + 1 + 1, j, none⟩)]
          · exact hc
          · rw [Below.heap_setCell _ _ _ _ (by show w.heap.size + 1 + 1 ≠ w.heap.size + 1; omega), Below.heap_setCell _ _ _ _ (by show w.heap.size + 1 + 1 ≠ w.heap.size + 1; omega)]
        · refine hr.of_block ?_
          rw [Below.heap_setCell _ _ _ _ (by show q ≠ w.heap.size + 1; omega), Below.heap_setCell _ _ _ _ (by show q ≠ w.heap.size + 1; omega)]
      have hts := HN.out.ts
      rw [HKM.out] at hts
      exact (hts.apart (p := w.heap.size + 1) (by omega) _ _).apart (p := w.heap.size + 1) (by omega) _ _
    have hki : (i : Int) < (x.tables.length : Int) := by omega
    obtain ⟨b, off, rfl, -, hc⟩ := (HS.out _ HN.out.bel).things i hlt
    obtain ⟨u0, c0, r0⟩ := hc 0 (by omega)
    replace r0 : Rd wr B (dRowS x.tables[i]) u0 := r0
    obtain ⟨ra, rq, rfl⟩ := r0.lsSlice
    rw [Nat.mul_one] at c0
    replace c0 : wr.cell? ⟨b, off + i, none⟩ = _ := c0
    have HLL : Hid ((dRowS x.tables[i]).le 1048576) := HX.out i hlt 0 (by omega)
    have hll : x.tables[i].length ≤ 1048576 := (Ls_le.1 HLL.out).2.1
    have HFA : Hid (lsF cRowS x.tables i = cRowS x.tables[i]) := lsF_at hlt
    have hmk := run_mkRowS x.tables[i].length hll
    have hrow := HN.out.ts.row
    obtain ⟨g, hg⟩ := hrow
    rw [Nat.mul_one] at hg
    obtain ⟨wa, hwa⟩ : ∃ wa, wa = wr.alloc (.cells (madeCells #[.int .i64 0, .slice none 0 0] (x.tables[i].length * 2)) 53) := ⟨_, rfl⟩
    have hba : Below wr.heap.size wr wa := by rw [hwa]; exact below_allocD _ _
    have hga := hg.of_block (hba.block _ hg.lt)
    have e0 := hga.cell (i := i) hlt
    have z0 := hga.frozen i
    obtain ⟨wb, hwb⟩ : ∃ wb, wb = wa.setCell ⟨w.heap.size + 1 + 1, i, none⟩ (.slice (some ⟨wr.heap.size, 0, none⟩) x.tables[i].length x.tables[i].length) := ⟨_, rfl⟩
    have hlo : w.heap.size + 1 + 1 < wr.heap.size := hg.lt
    have HLO := Lib.hid hlo
    have hsz : wb.heap.size = wr.heap.size + 1 := by rw [hwb, hwa]; simp
    have HBB : Hid (wr.heap.size ≤ wb.heap.size) := by show _ ≤ _; omega
    have hgb := hga.set i (.slice (some ⟨wr.heap.size, 0, none⟩) x.tables[i].length x.tables[i].length)
    rw [← hwb] at hgb
    have hcb : wb.cell? ⟨w.heap.size + 1 + 1, i, none⟩ = some (.slice (some ⟨wr.heap.size, 0, none⟩) x.tables[i].length x.tables[i].length) := by rw [hgb.cell (i := i) hlt]; simp
    have CE : Hid (∀ W, Below wr.heap.size wb W → W.cell? ⟨w.heap.size + 1 + 1, i, none⟩ = some (.slice (some ⟨wr.heap.size, 0, none⟩) x.tables[i].length x.tables[i].length)) := fun W h => (h.cell (p := ⟨w.heap.size + 1 + 1, i, none⟩) hlo).trans hcb
    have hob : ∀ d, d < wr.heap.size → d ≠ w.heap.size + 1 + 1 → wb.heap[d]? = wr.heap[d]? := fun d hd hne => by
      rw [hwb, Below.heap_setCell _ _ _ _ hne, hba.block d hd]
    have HBW : Hid (Below w.heap.size w wb) := by rw [hwb]; exact (HN.out.bel.trans (hba.mono HN.out.bel.size)).setCell (by show w.heap.size ≤ w.heap.size + 1 + 1; omega) _
    have HOB := Lib.hid hob
    have HF : Hid (∀ W, Below wr.heap.size wb W → Rd W B (Ls 2 dRow x.tables[i]) (.slice ra x.tables[i].length rq)) := fun W h => by
      have h1 : Below w.heap.size w W := HBW.out.trans (h.mono (by omega))
      obtain ⟨u2, e2, r2⟩ := (HS.out W h1).spotT hlt (j := 0) (by omega)
      rw [Nat.mul_one, Nat.add_zero] at e2
      replace r2 : Rd W B (Ls 2 dRow x.tables[i]) u2 := r2
      obtain ⟨u3, e3, -⟩ := (HS.out w (Below.refl _ _)).spotT hlt (j := 0) (by omega)
      rw [Nat.mul_one, Nat.add_zero] at e3
      have hlb := World.block_lt_of_cell? w ⟨b, off + i, none⟩ e3
      have h5 := h1.cell (p := ⟨b, off + i, none⟩) hlb
      have h6 := HN.out.bel.cell (p := ⟨b, off + i, none⟩) hlb
      rw [h5, ← h6, c0] at e2
      cases e2
      exact r2
    have HTL : Hid (∀ W, Below wr.heap.size wb W → Own W (dRowS x.tables[i]) (fun d => wr.heap.size ≤ d ∧ d < W.heap.size) (.slice (some ⟨wr.heap.size, 0, none⟩) x.tables[i].length x.tables[i].length) → TS W 73 1 x.tables.length (lsF cRowS x.tables) (w.heap.size + 1 + 1) (i + 1)) := fun W h ho => by
      refine HN.out.ts.late hba (fun _ => .slice (some ⟨wr.heap.size, 0, none⟩) x.tables[i].length x.tables[i].length) (wq := W) ?_ ⟨fun j d => j = 0 ∧ wr.heap.size ≤ d ∧ d < W.heap.size, fun _ _ h => h.2, fun _ _ _ h h' => by omega, fun j hj => ?_⟩
      · simp only [putN, Nat.mul_one, Nat.add_zero]
        rw [← hwb]; exact h
      · rw [HFA.out]
        obtain rfl : j = 0 := by omega
        exact ho.mono (fun d h => ⟨rfl, h⟩)
    have HEX : Hid (∀ W, Below wr.heap.size wb W → (∃ g, W.rowIs wr.heap.size 53 (x.tables[i].length * 2) g) → ∀ j (h : j < x.tables.length), j < i + 1 → ∃ q g, w.heap.size + 1 + 1 < q ∧ W.cell? ⟨w.heap.size + 1 + 1, j, none⟩ = some (.slice (some ⟨q, 0, none⟩) x.tables[j].length x.tables[j].length) ∧ W.rowIs q 53 (x.tables[j].length * 2) g) := fun W h hrr j hj hji => by
      by_cases e : j = i
      · subst e
        obtain ⟨g2, h2⟩ := hrr
        exact ⟨_, g2, hlo, CE.out W h, h2⟩
      · obtain ⟨q, g2, hq, hc2, hr2⟩ := HN.out.ex j hj (by omega)
        refine ⟨q, g2, hq, ?_, hr2.of_block ?_⟩
        · rw [h.cell (p := ⟨w.heap.size + 1 + 1, j, none⟩) hlo, hgb.cell (i := j) hj, if_neg e]
          rw [hg.cell (i := j) hj] at hc2
          exact hc2
        · rw [h.block q hr2.lt, HOB.out q hr2.lt (by omega)]
    have HI : Hid (TS wb 53 2 x.tables[i].length (lsF dRow x.tables[i]) wr.heap.size 0) := by
      have h0 := TS.start wr #[.int .i64 0, .slice none 0 0] 53 2 x.tables[i].length (lsF dRow x.tables[i])
      rw [← hwa] at h0
      rw [hwb]
      exact h0.apart (p := w.heap.size + 1 + 1) (by omega) _ _
    have HWB := Lib.hid hwb
    rw [hwa] at e0 z0 HWB
    clear hc r0 hg hga hwa hba hwb hgb hcb hob hsz hlo
    generalize x.tables[i] = l at *
    go_wp2_with fail
    rw [← HWB.out]
    clear c0 hmk e0 z0 HWB
    generalize wr = wo at *
    go_loopw [27] (fun t wq => ∃ k : Nat, k ≤ l.length ∧ t = .int .i64 k ∧ Hid (Below wo.heap.size wb wq ∧ TS wq 53 2 l.length (lsF dRow l) wo.heap.size k)) (fun t _ => l.length - (intOf t).toNat)
    case atStart => exact ⟨0, Nat.zero_le _, rfl, Below.refl _ _, HI.out⟩
    case round =>
      obtain ⟨k, hk, rfl, HQ⟩ := hrel
      by_cases hkl : k < l.length
      case neg =>
        have hkd : decide ((k : Int) < (l.length : Int)) = false := by simp; omega
        have hkm : k = l.length := by omega
        subst hkm
        have HST : Hid (CSt w wr x (some ⟨b, off, none⟩) c (i + 1)) := ⟨by rw [HQ.out.1.block _ (by have := HLO.out; omega), HOB.out _ (by have := HLO.out; omega) (by omega)]; exact HN.out.bx, by rw [HQ.out.1.block _ (by have := HLO.out; omega), HOB.out _ (by have := HLO.out; omega) (by omega)]; exact HN.out.rv, HTL.out _ HQ.out.1 (TS.done (by omega) HQ.out.2), HEX.out _ HQ.out.1 HQ.out.2.row, HBW.out.trans (HQ.out.1.mono (by have := HLO.out; omega))⟩
        go_wp2_with fail
        go_roundw
        case rel => exact ⟨i + 1, by omega, by go_num, HST.out⟩
        case measure => simp [intOf]; omega
      have hk1 : (k : Int) < (l.length : Int) := by omega
      obtain ⟨rb, roff, rfl, -, hcc⟩ := (HF.out _ HQ.out.1).things k hkl
      obtain ⟨u0, e0, q0⟩ := hcc 0 (by omega)
      obtain rfl : u0 = .int .i64 l[k].id := q0
      obtain ⟨u1, e1, q1⟩ := hcc 1 (by omega)
      replace q1 : Rd wr B (dAtomSS l[k].cells) u1 := q1
      obtain ⟨sa, sq, rfl⟩ := q1.lsSlice
      have CR0 := Lib.hid (fun W (h : Below wr.heap.size wr W) => copyRowI l[k] rb (roff + k * 2) sa sq B W ((Ls_le.1 HLL.out).2.2 k hkl 1 (by omega)) (q1.later h) ((h.cell (p := ⟨rb, roff + k * 2, none⟩) (World.block_lt_of_cell? wr ⟨rb, roff + k * 2, none⟩ e0)).trans e0) ((h.cell (p := ⟨rb, roff + k * 2 + 1, none⟩) (World.block_lt_of_cell? wr ⟨rb, roff + k * 2 + 1, none⟩ e1)).trans e1))
      have CR := Lib.hid (CR0.out wr.drew (Below.refl _ _).drew)
      have HFK : Hid (lsF dRow l k = dRow l[k]) := lsF_at hkl
      clear q1 hcc e0 e1 CR0
      generalize l[k] = y at *
      go_wp2_with fail
      refine wp_region_held_drew (S := (fun W => W.cell? ⟨w.heap.size + 1 + 1, i, none⟩ = some (.slice (some ⟨wo.heap.size, 0, none⟩) l.length l.length))) (by kernel_rfl) ?_ (fun hHeld => ?_)
      · (first | exact CE.out _ HQ.out.1 | exact CE.out _ HQ.out.1.drew | exact CE.out _ BW1.out | exact CE.out _ BW2.out)
      refine wpAnyH_take (i := 0) (v := ?_) rfl (by kernel_rfl) (by kernel_rfl) (by kernel_rfl) (fun _ _ _ h => h) (Or.inl ⟨by kernel_rfl, ?_⟩) (by assumption) ?_
      rotate_left
      · (intro wS hSw; (try dsimp only at hSw); go_simp <;> with_reducible rfl)
      try simp only [Act.put, tkS]
      refine wpAnyH_take (i := 1) (v := ?_) rfl (by kernel_rfl) (by kernel_rfl) (by kernel_rfl) (fun _ _ _ h => h) (Or.inl ⟨by kernel_rfl, ?_⟩) (by assumption) ?_
      rotate_left
      · (intro wS hSw; (try dsimp only at hSw); go_simp <;> with_reducible rfl)
      try simp only [Act.put, tkS]
      refine wpAnyH_take (i := 2) (v := ?_) rfl (by kernel_rfl) (by kernel_rfl) (by kernel_rfl) (fun _ _ _ h => h) (Or.inl ⟨by kernel_rfl, ?_⟩) (by assumption) ?_
      rotate_left
      · (intro wS hSw; (try dsimp only at hSw); go_simp <;> with_reducible rfl)
      try simp only [Act.put, tkS]
      refine wpAnyH_take (i := 3) (v := ?_) rfl (by kernel_rfl) (by kernel_rfl) (by kernel_rfl) (fun _ _ _ h => h) (Or.inl ⟨by kernel_rfl, ?_⟩) (by assumption) ?_
      rotate_left
      · (intro wS hSw; (try dsimp only at hSw); go_simp <;> with_reducible rfl)
      try simp only [Act.put, tkS]
      refine wpAnyH_take (i := 4) (v := ?_) rfl (by kernel_rfl) (by kernel_rfl) (by kernel_rfl) (fun _ _ _ h => h) (Or.inl ⟨by kernel_rfl, ?_⟩) (by assumption) ?_
      rotate_left
      · (intro wS hSw; (try dsimp only at hSw); go_simp <;> with_reducible rfl)
      try simp only [Act.put, tkS]
      refine wpAnyH_take (i := 5) (v := ?_) rfl (by kernel_rfl) (by kernel_rfl) (by kernel_rfl) (fun _ _ _ h => h) (Or.inl ⟨by kernel_rfl, ?_⟩) (by assumption) ?_
      rotate_left
      · (intro wS hSw; (try dsimp only at hSw); go_simp <;> with_reducible rfl)
      try simp only [Act.put, tkS]
      refine wpAnyH_take (i := 6) (v := ?_) rfl (by kernel_rfl) (by kernel_rfl) (by kernel_rfl) (fun _ _ _ h => h) (Or.inl ⟨by kernel_rfl, ?_⟩) (by assumption) ?_
      rotate_left
      · (intro wS hSw; (try dsimp only at hSw); go_simp <;> with_reducible rfl)
      try simp only [Act.put, tkS]
      refine wpAnyH_take (i := 7) (v := ?_) rfl (by kernel_rfl) (by kernel_rfl) (by kernel_rfl) (fun _ _ _ h => h) (Or.inl ⟨by kernel_rfl, ?_⟩) (by assumption) ?_
      rotate_left
      · (intro wS hSw; (try dsimp only at hSw); go_simp <;> with_reducible rfl)
      try simp only [Act.put, tkS]
      refine wpAnyH_ready (rs := [8]) (by kernel_rfl) (by simp) (AllReadyH.cons rfl (fun K hK => ?_) AllReadyH.nil)
      go_simp
      go_at_call 47
      refine CR.out.mono ?_
      rintro e w1 ⟨q, rfl, hown, hB1⟩
      replace hB1 : Below wr.heap.size wr w1 := (Below.refl _ _).drew.trans hB1
      replace hown : Own w1 _ (fun c => wr.heap.size ≤ c ∧ c < w1.heap.size) _ := hown
      have oc : Owns w1 2 (dRow y) (vat [.int .i64 y.id, .slice (some ⟨q, 0, none⟩) y.cells.length y.cells.length]) (fun c => wr.heap.size ≤ c ∧ c < w1.heap.size) := ⟨fun j c => j = 1 ∧ wr.heap.size ≤ c ∧ c < w1.heap.size, fun _ _ h => h.2, fun _ _ _ h h' => by omega, fun j hj => by
        rcases (by omega : j = 0 ∨ j = 1) with rfl | rfl
        · rfl
        · exact hown.mono (fun c h => ⟨rfl, h⟩)⟩
      have hst : TS ((w1.setCell ⟨wo.heap.size, k * 2, none⟩ (.int .i64 y.id)).setCell ⟨wo.heap.size, k * 2 + 1, none⟩ (.slice (some ⟨q, 0, none⟩) y.cells.length y.cells.length)) 53 2 l.length (lsF dRow l) wo.heap.size (k + 1) := HQ.out.2.step hB1 (vat [.int .i64 y.id, .slice (some ⟨q, 0, none⟩) y.cells.length y.cells.length]) (by rw [HFK.out]; exact oc)
      have hb1 : Below wo.heap.size wb w1 := HQ.out.1.trans (hB1.mono (Nat.le_trans HBB.out HQ.out.1.size))
      have BW1 := Lib.hid hb1
      have BW2 : Hid (Below wo.heap.size wb ((w1.setCell ⟨wo.heap.size, k * 2, none⟩ (.int .i64 y.id)).setCell ⟨wo.heap.size, k * 2 + 1, none⟩ (.slice (some ⟨q, 0, none⟩) y.cells.length y.cells.length))) := (hb1.setCell (Nat.le_refl _) _).setCell (Nat.le_refl _) _
      have HST := Lib.hid hst
      obtain ⟨g, hg⟩ := HQ.out.2.row
      have hg1 := hg.of_block (hB1.block _ hg.lt)
      have e0 := hg1.cell (i := k * 2) (by omega)
      have z0 := hg1.frozen (k * 2)
      have e1 := hg1.cell (i := k * 2 + 1) (by omega)
      have z1 := hg1.frozen (k * 2 + 1)
      clear hg hg1 hB1 hown oc hst hb1
      refine hK.out _ _ ?_ (fun hHeld => ?_)
      · (first | exact CE.out _ HQ.out.1 | exact CE.out _ HQ.out.1.drew | exact CE.out _ BW1.out | exact CE.out _ BW2.out)
      clear hK K
      try simp only [Act.put, tkS]
      refine wpAnyH_take (i := 9) (v := ?_) rfl (by kernel_rfl) (by kernel_rfl) (by kernel_rfl) (fun _ _ _ h => h) (Or.inl ⟨by kernel_rfl, ?_⟩) (by assumption) ?_
      rotate_left
      · (intro wS hSw; (try dsimp only at hSw); go_simp <;> with_reducible rfl)
      try simp only [Act.put, tkS]
      refine wpAnyH_ready (rs := [10]) (by kernel_rfl) (by simp) (AllReadyH.cons rfl (fun K hK => ?_) AllReadyH.nil)
      go_simp
      skip
      refine hK.out _ _ ?_ (fun hHeld => ?_)
      · (first | exact CE.out _ HQ.out.1 | exact CE.out _ HQ.out.1.drew | exact CE.out _ BW1.out | exact CE.out _ BW2.out)
      clear hK K
      try simp only [Act.put, tkS]
      refine wpAnyH_done (by kernel_rfl) ?_ _
      go_wp2_with fail
      go_roundw
      case rel => exact ⟨k + 1, by omega, by go_num, BW2.out, HST.out⟩
      case measure => simp [intOf]; omega
end Go.Proofs.Ytomocmmionnppaa
