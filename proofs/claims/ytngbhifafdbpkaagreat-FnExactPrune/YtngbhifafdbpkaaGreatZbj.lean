import Derived.Test.YtngbhifafdbpkaaGreatZbd
import Derived.Test.YtngbhifafdbpkaaGreatZax
import Derived.Deep.RegionHeld3
import Derived.Test.YtngbhifafdbpkaaGreatZbi
namespace Go.Proofs.YtngbhifafdbpkaaGreat
open Go.RowKit
set_option linter.unusedSimpArgs false
set_option maxRecDepth 100000 in
set_option maxHeartbeats 6400000 in
theorem copyRowsI (l : List RowV) (a : Option Addr) (c : Nat) (B : Nat → Prop) (w : World) (ho : (dRowS l).le 1048576) (hS : Rd w B (dRowS l) (.slice a l.length c)) :
    Calls Tryz.prog 45 #[.slice a l.length c] w fun e w' => ∃ g, e = .returned (.slice (some ⟨w.heap.size, 0, none⟩) l.length l.length) ∧ Own w' (dRowS l) (fun d => w.heap.size ≤ d ∧ d < w'.heap.size) (.slice (some ⟨w.heap.size, 0, none⟩) l.length l.length) ∧ w'.rowIs w.heap.size 77 (l.length * 2) g ∧ Below w.heap.size w w' := by
  have hl : l.length ≤ 1048576 := (Ls_le.1 ho).2.1
  have HLL := Lib.hid ho
  have HF : Hid (∀ W, Below w.heap.size w W → Rd W B (Ls 2 dRow l) (.slice a l.length c)) := fun W h => Rd.later hS h
  have hmk := run_mkRowS l.length hl
  have HI : Hid (Below w.heap.size w (w.alloc (.cells (madeCells #[.int .i64 0, .slice none 0 0] (l.length * 2)) 77)) ∧ TS (w.alloc (.cells (madeCells #[.int .i64 0, .slice none 0 0] (l.length * 2)) 77)) 77 2 l.length (lsF dRow l) w.heap.size 0) := ⟨below_allocD _ _, TS.start w #[.int .i64 0, .slice none 0 0] 77 2 l.length (lsF dRow l)⟩
  clear hS ho
  go_enter Tryz.func45, Tryz.ntmps45
  go_wp2_with fail
  clear hmk
  go_loopw [10] (fun t wq => ∃ k : Nat, k ≤ l.length ∧ t = .int .i64 k ∧ Hid (Below w.heap.size w wq ∧ TS wq 77 2 l.length (lsF dRow l) w.heap.size k)) (fun t _ => l.length - (intOf t).toNat)
  case atStart => exact ⟨0, Nat.zero_le _, rfl, HI.out⟩
  case round =>
    obtain ⟨k, hk, rfl, HQ⟩ := hrel
    by_cases hkl : k < l.length
    case neg =>
      have hkd : decide ((k : Int) < (l.length : Int)) = false := by simp; omega
      have hkm : k = l.length := by omega
      have HKM := Lib.hid hkm
      clear hkm
      go_wp2_with fail
      go_ret
      have hts := HQ.out.2
      rw [HKM.out] at hts
      obtain ⟨g, hg⟩ := hts.row
      exact ⟨g, rfl, TS.done (by omega) hts, hg, HQ.out.1⟩
    have hk1 : (k : Int) < (l.length : Int) := by omega
    obtain ⟨rb, roff, rfl, -, hcc⟩ := (HF.out _ HQ.out.1).things k hkl
    obtain ⟨u0, e0, q0⟩ := hcc 0 (by omega)
    obtain rfl : u0 = .int .i64 l[k].id := q0
    obtain ⟨u1, e1, q1⟩ := hcc 1 (by omega)
    replace q1 : Rd wr B (dAtomSS l[k].cells) u1 := q1
    obtain ⟨sa, sq, rfl⟩ := q1.lsSlice
    have CR := Lib.hid (copyRowI l[k] rb (roff + k * 2) sa sq B wr ((Ls_le.1 HLL.out).2.2 k hkl 1 (by omega)) q1 e0 e1)
    have HFK : Hid (lsF dRow l k = dRow l[k]) := lsF_at hkl
    clear q1 hcc e0 e1
    generalize l[k] = y at *
    go_wp2_with fail
    refine CR.out.mono ?_
    rintro e w1 ⟨q, rfl, hown, hB1⟩
    have oc : Owns w1 2 (dRow y) (vat [.int .i64 y.id, .slice (some ⟨q, 0, none⟩) y.cells.length y.cells.length]) (fun c => wr.heap.size ≤ c ∧ c < w1.heap.size) := ⟨fun j c => j = 1 ∧ wr.heap.size ≤ c ∧ c < w1.heap.size, fun _ _ h => h.2, fun _ _ _ h h' => by omega, fun j hj => by
      rcases (by omega : j = 0 ∨ j = 1) with rfl | rfl
      · rfl
      · exact hown.mono (fun c h => ⟨rfl, h⟩)⟩
    have hst : TS ((w1.setCell ⟨w.heap.size, k * 2, none⟩ (.int .i64 y.id)).setCell ⟨w.heap.size, k * 2 + 1, none⟩ (.slice (some ⟨q, 0, none⟩) y.cells.length y.cells.length)) 77 2 l.length (lsF dRow l) w.heap.size (k + 1) := HQ.out.2.step hB1 (vat [.int .i64 y.id, .slice (some ⟨q, 0, none⟩) y.cells.length y.cells.length]) (by rw [HFK.out]; exact oc)
    have BW2 : Hid (Below w.heap.size w ((w1.setCell ⟨w.heap.size, k * 2, none⟩ (.int .i64 y.id)).setCell ⟨w.heap.size, k * 2 + 1, none⟩ (.slice (some ⟨q, 0, none⟩) y.cells.length y.cells.length))) := ((HQ.out.1.trans (hB1.mono HQ.out.1.size)).setCell (Nat.le_refl _) _).setCell (Nat.le_refl _) _
    have HST := Lib.hid hst
    obtain ⟨g, hg⟩ := HQ.out.2.row
    have hg1 := hg.of_block (hB1.block _ hg.lt)
    have e0 := hg1.cell (i := k * 2) (by omega)
    have z0 := hg1.frozen (k * 2)
    have e1 := hg1.cell (i := k * 2 + 1) (by omega)
    have z1 := hg1.frozen (k * 2 + 1)
    clear hg hg1 hB1 hown oc hst
    go_wp2_with fail
    go_roundw
    case rel => exact ⟨k + 1, by omega, by go_num, BW2.out, HST.out⟩
    case measure => simp [intOf]; omega
theorem TS.apart {wr : World} {T : TypeId} {n L : Nat} {f : Nat → Nat → D} {b i p : Nat} (h : TS wr T n L f b i) (hp : p < b) (o : Nat) (v : Value) : TS (wr.setCell ⟨p, o, none⟩ v) T n L f b i := by
  obtain ⟨g, X, hr, hX, hd, hx⟩ := h
  refine ⟨g, X, hr.of_block (Below.heap_setCell _ _ _ _ (by show b ≠ p; omega)), fun i' j c hc => by simpa [World.setCell] using hX i' j c hc, hd, fun i' j hi hj => ?_⟩
  refine Own.same (f i' j) (X i' j) _ _ (fun c hc => ?_) (fun c hc => hc) (hx i' j hi hj)
  exact Below.heap_setCell _ _ _ _ (by have := hX i' j c hc; show c ≠ p; omega)
structure CSt (w wr : World) (x : StV) (a : Option Addr) (c i : Nat) : Prop where
  bx : wr.heap[w.heap.size]? = some (.cells #[.slice a x.tables.length c, .int .i64 x.next] 32)
  rv : wr.heap[w.heap.size + 1]? = some (.cells #[.slice none 0 0, .int .i64 0] 32)
  ts : TS wr 74 1 x.tables.length (lsF cRowS x.tables) (w.heap.size + 1 + 1) i
  ex : ∀ j (h : j < x.tables.length), j < i → ∃ q g, w.heap.size + 1 + 1 < q ∧ wr.cell? ⟨w.heap.size + 1 + 1, j, none⟩ = some (.slice (some ⟨q, 0, none⟩) x.tables[j].length x.tables[j].length) ∧ wr.rowIs q 77 (x.tables[j].length * 2) g
  bel : Below w.heap.size w wr
theorem CSt.first (w : World) (x : StV) (a : Option Addr) (c : Nat) : CSt w (((w.alloc (.cells #[.slice a x.tables.length c, .int .i64 x.next] 32)).alloc (.cells #[.slice none 0 0, .int .i64 0] 32)).alloc (.cells (madeCells #[.slice none 0 0] x.tables.length) 74)) x a c 0 := by
  have h3 : ∀ (V : World) (o : Obj) (b : Nat) (x : Obj), V.heap[b]? = some x → (V.alloc o).heap[b]? = some x := fun V o b x h => heap_keptD h (below_allocD _ _)
  have s1 := size_allocD w (.cells #[.slice a x.tables.length c, .int .i64 x.next] 32)
  have e1 := heap_newD (w.alloc (.cells #[.slice a x.tables.length c, .int .i64 x.next] 32)) (.cells #[.slice none 0 0, .int .i64 0] 32)
  have s2 := size_allocD (w.alloc (.cells #[.slice a x.tables.length c, .int .i64 x.next] 32)) (.cells #[.slice none 0 0, .int .i64 0] 32)
  rw [s1] at e1 s2
  refine ⟨h3 _ _ _ _ (h3 _ _ _ _ (heap_newD _ _)), h3 _ _ _ _ e1, ?_, fun j _ h => absurd h (by omega), ?_⟩
  · have := TS.start ((w.alloc (.cells #[.slice a x.tables.length c, .int .i64 x.next] 32)).alloc (.cells #[.slice none 0 0, .int .i64 0] 32)) #[.slice none 0 0] 74 1 x.tables.length (lsF cRowS x.tables)
    rw [Nat.mul_one, s2] at this
    exact this
  · exact (((Below.refl _ _).alloc (Nat.le_refl _) _).alloc (by simp) _).alloc (by simp; omega) _
set_option maxRecDepth 100000 in
set_option maxHeartbeats 12800000 in
theorem copyStoreI (x : StV) (a : Option Addr) (c : Nat) (B : Nat → Prop) (w : World) (ho : (dRowSS x.tables).le 1048576) (hS : Rd w B (dRowSS x.tables) (.slice a x.tables.length c)) :
    Calls Tryz.prog 23 #[.agg #[.slice a x.tables.length c, .int .i64 x.next]] w fun e w' => ∃ q : Nat, e = .returned (.agg #[.slice (some ⟨q, 0, none⟩) x.tables.length x.tables.length, .int .i64 x.next]) ∧ w.heap.size ≤ q ∧ TS w' 74 1 x.tables.length (lsF cRowS x.tables) q x.tables.length ∧ (∀ j (h : j < x.tables.length), ∃ p g, q < p ∧ w'.cell? ⟨q, j, none⟩ = some (.slice (some ⟨p, 0, none⟩) x.tables[j].length x.tables[j].length) ∧ w'.rowIs p 77 (x.tables[j].length * 2) g) ∧ Below w.heap.size w w' := by
  have hl : x.tables.length ≤ 1048576 := (Ls_le.1 ho).2.1
  have HX : Hid (∀ i (h : i < x.tables.length) j, j < 1 → (cRowS x.tables[i] j).le 1048576) := (Ls_le.1 ho).2.2
  have HS : Hid (∀ W, Below w.heap.size w W → Rd W B (Ls 1 cRowS x.tables) (.slice a x.tables.length c)) := fun W h => Rd.later hS h
  have hmk := run_mkRowSS x.tables.length hl
  have hf := CSt.first w x a c
  have hbs := boxD 32 w #[.slice a x.tables.length c, .int .i64 x.next]
  have H0 := Lib.hid hf
  clear hS ho hbs hf
  go_enter Tryz.func23, Tryz.ntmps23
  go_wp2_with fail
  clear hmk
  go_loopw [13] (fun t wr => ∃ i : Nat, i ≤ x.tables.length ∧ t = .int .i64 i ∧ Hid (CSt w wr x a c i)) (fun t _ => x.tables.length - (intOf t).toNat)
  case atStart => exact ⟨0, Nat.zero_le _, rfl, H0.out⟩
  case round =>
    obtain ⟨i, hi, rfl, HN⟩ := hrel
    by_cases hlt : i < x.tables.length
    case neg =>
      have hkd : decide ((i : Int) < (x.tables.length : Int)) = false := by simp; omega
      have hkm : i = x.tables.length := by omega
      have HKM := Lib.hid hkm
      have b1 := cell_at (o := 1) HN.out.bx rfl
      have r0 := cell_at (o := 0) HN.out.rv rfl
      have r1 := cell_at (o := 1) HN.out.rv rfl
      have g0 := frozen_at 0 HN.out.rv
      have g1 := frozen_at 1 HN.out.rv
      clear hkm
      go_wp2_with fail
      refine bodyPost_ret (v := .agg #[.slice (some ⟨w.heap.size + 1 + 1, 0, none⟩) x.tables.length x.tables.length, .int .i64 x.next]) (by simp [results, Tryz.results23, go_sem, *]) rfl ?_
      refine ⟨w.heap.size + 1 + 1, rfl, by omega, ?_, fun j hj => ?_, (HN.out.bel.setCell (by simp <;> omega) _).setCell (by simp <;> omega) _⟩
      case refine_2 =>
        obtain ⟨q, g, hq, hc, hr⟩ := HN.out.ex j hj (by have := HKM.out; omega)
        refine ⟨q, g, hq, ?_, ?_⟩
        · rw [World.cell?_of_block (w := wr) (a := ⟨w.heap.size + 1 + 1, j, none⟩)]
          · exact hc
          · rw [Below.heap_setCell _ _ _ _ (by show w.heap.size + 1 + 1 ≠ w.heap.size + 1; omega), Below.heap_setCell _ _ _ _ (by show w.heap.size + 1 + 1 ≠ w.heap.size + 1; omega)]
        · refine hr.of_block ?_
          rw [Below.heap_setCell _ _ _ _ (by show q ≠ w.heap.size + 1; omega), Below.heap_setCell _ _ _ _ (by show q ≠ w.heap.size + 1; omega)]
      have hts := HN.out.ts
      rw [HKM.out] at hts
      exact (hts.apart (p := w.heap.size + 1) (by omega) _ _).apart (p := w.heap.size + 1) (by omega) _ _
    have hki : (i : Int) < (x.tables.length : Int) := by omega
    obtain ⟨b, off, rfl, -, hc⟩ := (HS.out _ HN.out.bel).things i hlt
    obtain ⟨u0, c0, r0⟩ := hc 0 (by omega)
    replace r0 : Rd wr B (dRowS x.tables[i]) u0 := r0
    obtain ⟨ra, rq, rfl⟩ := r0.lsSlice
    rw [Nat.mul_one] at c0
    replace c0 : wr.cell? ⟨b, off + i, none⟩ = _ := c0
    have HFA : Hid (lsF cRowS x.tables i = cRowS x.tables[i]) := lsF_at hlt
    have CR := Lib.hid (copyRowsI x.tables[i] ra rq B wr (HX.out i hlt 0 (by omega)) r0)
    clear hc r0
    obtain ⟨l, hxl⟩ : ∃ l, l = x.tables[i] := ⟨_, rfl⟩
    rw [← hxl] at CR c0 HFA
    have HXL := Lib.hid hxl
    clear hxl
    go_wp2_with fail
    refine CR.out.mono ?_
    rintro e w1 ⟨gg, rfl, ho1, hr1, hB1⟩
    have hbs := HN.out.bel.size
    have hlo : w.heap.size + 1 + 1 < wr.heap.size := by obtain ⟨g, hg⟩ := HN.out.ts.row; exact hg.lt
    have hst : TS (w1.setCell ⟨w.heap.size + 1 + 1, i, none⟩ (.slice (some ⟨wr.heap.size, 0, none⟩) l.length l.length)) 74 1 x.tables.length (lsF cRowS x.tables) (w.heap.size + 1 + 1) (i + 1) := by
      have := HN.out.ts.step hB1 (fun _ => .slice (some ⟨wr.heap.size, 0, none⟩) l.length l.length) ⟨fun j c => j = 0 ∧ wr.heap.size ≤ c ∧ c < w1.heap.size, fun _ _ h => h.2, fun _ _ _ h h' => by omega, fun j hj => by
        rw [HFA.out]
        obtain rfl : j = 0 := by omega
        exact ho1.mono (fun c h => ⟨rfl, h⟩)⟩
      simp only [putN, Nat.mul_one, Nat.add_zero] at this
      exact this
    obtain ⟨g, hg⟩ := HN.out.ts.row
    rw [Nat.mul_one] at hg
    have hg1 := hg.of_block (hB1.block _ hg.lt)
    have t0 := hg1.cell (i := i) hlt
    have z0 := hg1.frozen i
    have hgb := hg1.set i (.slice (some ⟨wr.heap.size, 0, none⟩) l.length l.length)
    have hob : ∀ d, d < wr.heap.size → d ≠ w.heap.size + 1 + 1 → (w1.setCell ⟨w.heap.size + 1 + 1, i, none⟩ (.slice (some ⟨wr.heap.size, 0, none⟩) l.length l.length)).heap[d]? = wr.heap[d]? := fun d hd hne => by
      rw [Below.heap_setCell _ _ _ _ hne, hB1.block d hd]
    have HST : Hid (CSt w (w1.setCell ⟨w.heap.size + 1 + 1, i, none⟩ (.slice (some ⟨wr.heap.size, 0, none⟩) l.length l.length)) x (some ⟨b, off, none⟩) c (i + 1)) := ⟨by rw [hob _ (by omega) (by omega)]; exact HN.out.bx, by rw [hob _ (by omega) (by omega)]; exact HN.out.rv, hst, fun j hj hji => by
        by_cases e : j = i
        · have hcj := hgb.cell (i := i) hlt
          rw [if_pos rfl, HXL.out] at hcj
          have hrj := hr1.of_block (Below.heap_setCell w1 ⟨w.heap.size + 1 + 1, i, none⟩ (.slice (some ⟨wr.heap.size, 0, none⟩) l.length l.length) wr.heap.size (by show wr.heap.size ≠ w.heap.size + 1 + 1; omega))
          rw [HXL.out] at hrj
          subst e
          exact ⟨wr.heap.size, gg, hlo, by rw [HXL.out]; exact hcj, by rw [HXL.out]; exact hrj⟩
        · obtain ⟨q, g2, hq, hc2, hr2⟩ := HN.out.ex j hj (by omega)
          refine ⟨q, g2, hq, ?_, hr2.of_block (hob q hr2.lt (by omega))⟩
          rw [hgb.cell (i := j) hj, if_neg e]
          rw [hg.cell (i := j) hj] at hc2
          exact hc2, (HN.out.bel.trans (hB1.mono HN.out.bel.size)).setCell (by show w.heap.size ≤ w.heap.size + 1 + 1; omega) _⟩
    clear hg hg1 hgb hob hst hB1 ho1 hr1 hbs hlo HFA CR c0
    go_wp2_with fail
    go_roundw
    case rel => exact ⟨i + 1, by omega, by go_num, HST.out⟩
    case measure => simp [intOf]; omega
end Go.Proofs.YtngbhifafdbpkaaGreat
namespace Go.Proofs.YtngbhifafdbpkaaGreat
open Go.RowKit
set_option linter.unusedSimpArgs false
theorem frm_below {w w' : World} {F : Nat → Prop} (h : Below w.heap.size w w') : Frm F w w' := ⟨h.os, h.tape, h.output, h.size, fun b hb _ => h.block b hb⟩
end Go.Proofs.YtngbhifafdbpkaaGreat
namespace Go.Proofs.YtngbhifafdbpkaaGreat
open Go.RowKit
set_option linter.unusedSimpArgs false
theorem erase_at {l : List RowV} {k a : Nat} (hk : k < l.length) (ha : a < (l.eraseIdx k).length) : (l.eraseIdx k)[a] = l[if a < k then a else a + 1]'(by rw [List.length_eraseIdx_of_lt hk] at ha; split <;> omega) := by
  rw [List.getElem_eraseIdx]
  split <;> rfl
end Go.Proofs.YtngbhifafdbpkaaGreat
namespace Go.Proofs.YtngbhifafdbpkaaGreat
open Go.RowKit
set_option linter.unusedSimpArgs false
theorem row_one {w : World} {B : Nat → Prop} {y : RowV} {j : Nat} {u : Value} (hj : j < 2) (h : Rd w B (dRow y j) u) : u.oneCell' = true := by
  rcases (by omega : j = 0 ∨ j = 1) with rfl | rfl
  · obtain rfl : u = .int .i64 y.id := h
    rfl
  · replace h : Rd w B (dAtomSS y.cells) u := h
    obtain ⟨a, c, rfl⟩ := h.lsSlice
    rfl
structure LdB (w W : World) (v : Value) (n : Int) : Prop where
  bx : W.heap[w.heap.size]? = some (.cells #[v, .int .i64 n] 32)
  rv : W.heap[w.heap.size + 1]? = some (.cells #[.slice none 0 0, .int .i64 0] 32)
  bel : Below w.heap.size w W
theorem LdB.first (w : World) (v : Value) (n : Int) : LdB w ((w.alloc (.cells #[v, .int .i64 n] 32)).alloc (.cells #[.slice none 0 0, .int .i64 0] 32)) v n := by
  refine ⟨heap_keptD (heap_newD _ _) (below_allocD _ _), ?_, (below_allocD _ _).trans ((below_allocD _ _).mono (by simp))⟩
  have h := heap_newD (w.alloc (.cells #[v, .int .i64 n] 32)) (.cells #[.slice none 0 0, .int .i64 0] 32)
  rw [size_allocD] at h
  exact h
theorem LdB.later {w W W' : World} {v : Value} {n : Int} (h : LdB w W v n) (hB : Below W.heap.size W W') : LdB w W' v n := ⟨heap_keptD h.bx hB, heap_keptD h.rv hB, h.bel.trans (hB.mono h.bel.size)⟩
end Go.Proofs.YtngbhifafdbpkaaGreat
