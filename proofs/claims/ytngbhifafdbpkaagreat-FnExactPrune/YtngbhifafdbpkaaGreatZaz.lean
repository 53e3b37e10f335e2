import Derived.Test.YtngbhifafdbpkaaGreatZay
import Derived.Test.YtngbhifafdbpkaaGreatZTk
namespace Go.Proofs.YtngbhifafdbpkaaGreat
open Go.RowKit
set_option linter.unusedSimpArgs false
def goodR (t : Tb) (rows : List RowV) (next : Int) (k : Nat) (h : k < rows.length) : Prop := rowB t rows[k].id rows[k].cells = true ∧ rows[k].id < next ∧ ∀ j (hj : j + 1 = k), (rows[j]'(by omega)).id < rows[k].id
theorem rows_good {t : Tb} {rows : List RowV} {next : Int} (h12 : rows.length ≤ 12) (h : ∀ k (hk : k < rows.length), goodR t rows next k hk) : RowsP t rows next :=
  ⟨h12, fun i hi => (h (i + 1) hi).2.2 i rfl, fun i hi => ⟨(h i hi).2.1, (h i hi).1⟩⟩
theorem good_rows {t : Tb} {rows : List RowV} {next : Int} (h : RowsP t rows next) : ∀ k (hk : k < rows.length), goodR t rows next k hk := fun k hk =>
  ⟨(h.2.2 k hk).2, (h.2.2 k hk).1, fun j hj => by subst hj; exact h.2.1 j hk⟩
set_option maxRecDepth 100000 in
set_option maxHeartbeats 12800000 in
theorem formS (l : List Tb) (sa : Option Addr) (sc : Nat) (A : Nat → Prop) (x : StV) (xa : Option Addr) (xc : Nat) (B : Nat → Prop) (w : World) (hlo : (dTableS l).le maxLen) (ho : (dRowSS x.tables).le maxLen) (hT : Rd w A (dTableS l) (.slice sa l.length sc)) (hR : Rd w B (dRowSS x.tables) (.slice xa x.tables.length xc)) :
    Calls Tryz.prog 18 #[.agg #[.slice sa l.length sc], .agg #[.slice xa x.tables.length xc, .int .i64 x.next]] w fun e w' => e = .returned (.bool (formB l x)) ∧ Below w.heap.size w w' := by
  have HL : Hid (∀ W, Below w.heap.size w W → Rd W B (Ls 1 cRowS x.tables) (.slice xa x.tables.length xc)) := fun W h => Rd.later hR h
  have HT : Hid (∀ W, Below w.heap.size w W → Rd W A (Ls 4 dTable l) (.slice sa l.length sc)) := fun W h => Rd.later hT h
  have HO := Lib.hid (And.intro hlo ho)
  have hll : l.length ≤ maxLen := (Ls_le.1 hlo).2.1
  have hxl : x.tables.length ≤ maxLen := (Ls_le.1 ho).2.1
  unfold maxLen at hll hxl
  have hb := boxE 37 32 w #[.slice sa l.length sc] #[.slice xa x.tables.length xc, .int .i64 x.next]
  have x0 := cell_at (o := 0) hb.a rfl
  have y0 := cell_at (o := 0) hb.b rfl
  have y1 := cell_at (o := 1) hb.b rfl
  have HB := Lib.hid hb
  have IO := Lib.hid (fun W => inS x.next 1 1000000 W)
  clear hlo ho hT hR hb
  by_cases hlen : x.tables.length = l.length
  case neg =>
    have HR : Hid (formB l x = false) := form_no (fun h => hlen h.1)
    have hd : ((x.tables.length : Int) != (l.length : Int)) = true := by simp; omega
    clear hlen
    go_enter Tryz.func18, Tryz.ntmps18
    go_wp2_with fail
    go_ret
    exact ⟨ret_b HR.out.symm, HB.out.bel⟩
  have HLEN := Lib.hid hlen
  have hd : ((x.tables.length : Int) != (l.length : Int)) = false := by simp; omega
  clear hlen
  cases hi : inB 1 x.next 1000000
  case false =>
    have HR : Hid (formB l x = false) := form_no (fun h => by rw [h.2.1] at hi; cases hi)
    rw [hi] at IO
    clear hi
    go_enter Tryz.func18, Tryz.ntmps18
    go_wp2_with fail
    refine (IO.out _).mono ?_
    rintro e w2 ⟨rfl, rfl⟩
    go_wp2_with fail
    go_ret
    exact ⟨ret_b HR.out.symm, HB.out.bel⟩
  have HI := Lib.hid hi
  rw [hi] at IO
  clear hi
  go_enter Tryz.func18, Tryz.ntmps18
  go_wp2_with fail
  refine (IO.out _).mono ?_
  rintro e w2 ⟨rfl, rfl⟩
  go_wp2_with fail
  clear x0 y0 y1
  go_loopw [5] (fun i wr => ∃ k : Nat, k ≤ x.tables.length ∧ i = .int .i64 k ∧ Hid ((∀ m (h : m < l.length) (h' : m < x.tables.length), m < k → RowsP l[m] x.tables[m] x.next) ∧ BoxE 37 32 w wr #[.slice sa l.length sc] #[.slice xa x.tables.length xc, .int .i64 x.next])) (fun i _ => x.tables.length - (intOf i).toNat)
  case atStart => exact ⟨0, Nat.zero_le _, rfl, fun m _ _ h => absurd h (by omega), HB.out⟩
  case round =>
    obtain ⟨k, hk, rfl, HW⟩ := hrel
    have y0 := cell_at (o := 0) HW.out.2.b rfl
    by_cases hlt' : k < x.tables.length
    case neg =>
      have hki : decide ((k : Int) < (x.tables.length : Int)) = false := by simp; omega
      have HR : Hid (formB l x = true) := form_yes ⟨HLEN.out, HI.out, fun m h h' => HW.out.1 m h h' (by omega)⟩
      go_wp2_with fail
      go_ret
      exact ⟨ret_b HR.out.symm, HW.out.2.bel⟩
    have hlt : k < l.length := by have := HLEN.out; omega
    have hki : (k : Int) < (l.length : Int) := by omega
    have hkj : (k : Int) < (x.tables.length : Int) := by omega
    generalize wr = wo at *
    obtain ⟨b, off, rfl, -, hc⟩ := (HL.out _ HW.out.2.bel).things k hlt'
    obtain ⟨u0, c0, r0⟩ := hc 0 (by omega)
    replace r0 : Rd wo B (dRowS x.tables[k]) u0 := r0
    obtain ⟨ra, rq, rfl⟩ := r0.lsSlice
    rw [Nat.mul_one, Nat.add_zero] at c0
    obtain ⟨tb, toff, rfl, -, ht⟩ := (HT.out _ HW.out.2.bel).things k hlt
    obtain ⟨t0, d0, e0⟩ := ht 0 (by omega)
    obtain rfl : t0 = .string ⟨l[k].nm.toArray⟩ := e0
    rw [Nat.add_zero] at d0
    obtain ⟨t1, d1, e1⟩ := ht 1 (by omega)
    replace e1 : Rd wo A (dColumnS l[k].cols) t1 := e1
    obtain ⟨ca, cc, rfl⟩ := e1.lsSlice
    obtain ⟨t2, d2, e2⟩ := ht 2 (by omega)
    replace e2 : Rd wo A (dIntS l[k].uq) t2 := e2
    obtain ⟨ua, uc, rfl⟩ := e2.lsSlice
    obtain ⟨t3, d3, e3⟩ := ht 3 (by omega)
    obtain rfl : t3 = .bool l[k].rt := e3
    have HKL := Lib.hid (And.intro ((Ls_le.1 HO.out.2).2.2 k hlt' 0 (by omega)) ((le_tables HO.out.1).2 l[k] (List.getElem_mem hlt)))
    have HTT : Hid (∀ W, Below wo.heap.size wo W → l[k].Has W A ca ua) := fun W h => Rd.hasT (e1.later h) (e2.later h)
    have HRR : Hid (∀ W, Below wo.heap.size wo W → Rd W B (Ls 2 dRow x.tables[k]) (.slice ra x.tables[k].length rq)) := fun W h => Rd.later r0 h
    have HNO : Hid (¬ RowsP l[k] x.tables[k] x.next → formB l x = false) := fun hn => form_no (fun h => hn (h.2.2 k hlt hlt'))
    have HNX : Hid (RowsP l[k] x.tables[k] x.next → ∀ m (h : m < l.length) (h' : m < x.tables.length), m < k + 1 → RowsP l[m] x.tables[m] x.next) := fun he m h h' hm => by
      by_cases e : m = k
      · subst e; exact he
      · exact HW.out.1 m h h' (by omega)
    have CX : Hid (∀ W, Below wo.heap.size wo W → (W.cell? ⟨w.heap.size, 0, none⟩ = some (.slice (some ⟨tb, toff, none⟩) l.length sc) ∧ W.cell? ⟨w.heap.size + 1, 0, none⟩ = some (.slice (some ⟨b, off, none⟩) x.tables.length xc) ∧ W.cell? ⟨w.heap.size + 1, 1, none⟩ = some (.int .i64 x.next)) ∧ W.cell? ⟨b, off + k, none⟩ = some (.slice ra x.tables[k].length rq) ∧ W.cell? ⟨tb, toff + k * 4, none⟩ = some (.string ⟨l[k].nm.toArray⟩) ∧ W.cell? ⟨tb, toff + k * 4 + 1, none⟩ = some (.slice ca l[k].cols.length cc) ∧ W.cell? ⟨tb, toff + k * 4 + 2, none⟩ = some (.slice ua l[k].uq.length uc) ∧ W.cell? ⟨tb, toff + k * 4 + 3, none⟩ = some (.bool l[k].rt)) := fun W h => ⟨⟨cell_at (o := 0) (HW.out.2.later h).a rfl, cell_at (o := 0) (HW.out.2.later h).b rfl, cell_at (o := 1) (HW.out.2.later h).b rfl⟩, (h.cell (p := ⟨b, off + k, none⟩) (World.block_lt_of_cell? _ _ c0)).trans c0, (h.cell (p := ⟨tb, toff + k * 4, none⟩) (World.block_lt_of_cell? _ _ d0)).trans d0, (h.cell (p := ⟨tb, toff + k * 4 + 1, none⟩) (World.block_lt_of_cell? _ _ d1)).trans d1, (h.cell (p := ⟨tb, toff + k * 4 + 2, none⟩) (World.block_lt_of_cell? _ _ d2)).trans d2, (h.cell (p := ⟨tb, toff + k * 4 + 3, none⟩) (World.block_lt_of_cell? _ _ d3)).trans d3⟩
    clear hc ht d0 d1 d2 d3 r0 e1 e2
    generalize l[k] = t at *
    generalize x.tables[k] = rows at *
    by_cases h12 : 12 < rows.length
    case pos =>
      have HR := Lib.hid (HNO.out (fun h => by have := h.1; omega))
      have hd12 : decide (12 < (rows.length : Int)) = true := decide_eq_true (by omega)
      clear h12 HNO HNX
      go_wp2_with fail
      go_ret
      exact ⟨ret_b HR.out.symm, HW.out.2.bel⟩
    have hd12 : decide (12 < (rows.length : Int)) = false := decide_eq_false (by omega)
    have hr12 : rows.length ≤ 12 := by omega
    clear h12
    go_wp2_with fail
    clear y0 c0
    go_loopw [6] (fun i wr => ∃ m : Nat, m ≤ rows.length ∧ i = .int .i64 m ∧ Hid ((∀ j (h : j < rows.length), j < m → goodR t rows x.next j h) ∧ Below wo.heap.size wo wr)) (fun i _ => rows.length - (intOf i).toNat)
    case atStart => exact ⟨0, Nat.zero_le _, rfl, fun m _ h => absurd h (by omega), Below.refl _ _⟩
    case round =>
      obtain ⟨m, hm, rfl, HV⟩ := hrel
      have y0 := (CX.out _ HV.out.2).1.2.1
      have y2 := (CX.out _ HV.out.2).2.1
      by_cases hlt2 : m < rows.length
      case neg =>
        have hmi : decide ((m : Int) < (rows.length : Int)) = false := by simp; omega
        have HN := Lib.hid (HNX.out (rows_good hr12 (fun j h => HV.out.1 j h (by omega))))
        have HBN := Lib.hid (HW.out.2.later HV.out.2)
        clear HNO HNX
        go_wp2_with fail
        go_roundw
        case rel => exact ⟨k + 1, by omega, by go_num, HN.out, HBN.out⟩
        case measure => simp [intOf]; omega
      have hmi : (m : Int) < (rows.length : Int) := by omega
      obtain ⟨rb, roff, rfl, -, hc⟩ := (HRR.out _ HV.out.2).things m hlt2
      obtain ⟨v0, i0, j0⟩ := hc 0 (by omega)
      obtain rfl : v0 = .int .i64 rows[m].id := j0
      rw [Nat.add_zero] at i0
      obtain ⟨v1, i1, j1⟩ := hc 1 (by omega)
      replace j1 : Rd wr B (dAtomSS rows[m].cells) v1 := j1
      obtain ⟨va, vq, rfl⟩ := j1.lsSlice
      have HSO := Lib.hid (le_sets ((Ls_le.1 HKL.out.1).2.2 m hlt2 1 (by omega)))
      have RF : Hid (∀ W, Below wr.heap.size wr W → Calls Tryz.prog 35 #[.agg #[.string ⟨t.nm.toArray⟩, .slice ca t.cols.length cc, .slice ua t.uq.length uc, .bool t.rt], .agg #[.int .i64 rows[m].id, .slice va rows[m].cells.length vq]] W fun e w' => e = .returned (.bool (rowB t rows[m].id rows[m].cells)) ∧ Below W.heap.size W w') := fun W h => by
        obtain ⟨X, hX⟩ := (j1.later h).lt.sets
        exact rowS t ca cc ua uc rows[m].id rows[m].cells va vq X A W.heap.size W HKL.out.2 HSO.out (HTT.out W (HV.out.2.trans (h.mono HV.out.2.size))) (Nat.le_refl _) hX
      have HPRE : Hid (∀ W, Below wo.heap.size wo W → ∀ j (h : j < rows.length), W.cell? ⟨rb, roff + j * 2, none⟩ = some (.int .i64 rows[j].id)) := fun W h j hj => by
        obtain ⟨z0, k0, g0⟩ := (HRR.out _ h).spotT hj (j := 0) (by omega)
        obtain rfl : z0 = .int .i64 rows[j].id := g0
        rw [Nat.add_zero] at k0
        exact k0
      have HBAD : Hid (¬ goodR t rows x.next m hlt2 → formB l x = false) := fun hn => HNO.out (fun h => hn (good_rows h m hlt2))
      have HNXT : Hid (goodR t rows x.next m hlt2 → ∀ j (h : j < rows.length), j < m + 1 → goodR t rows x.next j h) := fun he j h hj => by
        by_cases e : j = m
        · subst e; exact he
        · exact HV.out.1 j h (by omega)
      have HGD : Hid (goodR t rows x.next m hlt2 ↔ rowB t rows[m].id rows[m].cells = true ∧ rows[m].id < x.next ∧ ∀ j (hj : j + 1 = m), (rows[j]'(by omega)).id < rows[m].id) := Iff.rfl
      clear hc j1
      generalize hid : rows[m].id = id at *
      generalize hcl : rows[m].cells = cells at *
      clear hid hcl
      have NB : Hid (∀ W, Below (wr.alloc (.cells #[.int .i64 id, .slice va cells.length vq] 77)).heap.size (wr.alloc (.cells #[.int .i64 id, .slice va cells.length vq] 77)) W → ((W.cell? ⟨w.heap.size, 0, none⟩ = some (.slice (some ⟨tb, toff, none⟩) l.length sc) ∧ W.cell? ⟨w.heap.size + 1, 0, none⟩ = some (.slice (some ⟨b, off, none⟩) x.tables.length xc) ∧ W.cell? ⟨w.heap.size + 1, 1, none⟩ = some (.int .i64 x.next)) ∧ W.cell? ⟨b, off + k, none⟩ = some (.slice (some ⟨rb, roff, none⟩) rows.length rq) ∧ W.cell? ⟨tb, toff + k * 4, none⟩ = some (.string ⟨t.nm.toArray⟩) ∧ W.cell? ⟨tb, toff + k * 4 + 1, none⟩ = some (.slice ca t.cols.length cc) ∧ W.cell? ⟨tb, toff + k * 4 + 2, none⟩ = some (.slice ua t.uq.length uc) ∧ W.cell? ⟨tb, toff + k * 4 + 3, none⟩ = some (.bool t.rt)) ∧ W.cell? ⟨wr.heap.size, 0, none⟩ = some (.int .i64 id) ∧ W.cell? ⟨wr.heap.size, 1, none⟩ = some (.slice va cells.length vq)) := fun W h => ⟨CX.out W ((HV.out.2.trans ((below_allocD _ _).mono HV.out.2.size)).trans (h.mono (HV.out.2.trans ((below_allocD _ _).mono HV.out.2.size)).size)), cell_at (o := 0) (heap_keptD (heap_newD _ _) h) rfl, cell_at (o := 1) (heap_keptD (heap_newD _ _) h) rfl⟩
      have HBN : Hid (∀ W, Below (wr.alloc (.cells #[.int .i64 id, .slice va cells.length vq] 77)).heap.size (wr.alloc (.cells #[.int .i64 id, .slice va cells.length vq] 77)) W → Below wo.heap.size wo W) := fun W h => (HV.out.2.trans ((below_allocD _ _).mono HV.out.2.size)).trans (h.mono (HV.out.2.trans ((below_allocD _ _).mono HV.out.2.size)).size)
      cases hr : rowB t id cells
      case false =>
        have HR := Lib.hid (HBAD.out (fun h => by have := (HGD.out.1 h).1; rw [hr] at this; cases this))
        rw [hr] at RF
        clear hr HBAD HNXT HGD HNO HNX
        go_wp2_with fail
        refine wp_region_held_drew (S := (fun W => ((W.cell? ⟨w.heap.size, 0, none⟩ = some (.slice (some ⟨tb, toff, none⟩) l.length sc) ∧ W.cell? ⟨w.heap.size + 1, 0, none⟩ = some (.slice (some ⟨b, off, none⟩) x.tables.length xc) ∧ W.cell? ⟨w.heap.size + 1, 1, none⟩ = some (.int .i64 x.next)) ∧ W.cell? ⟨b, off + k, none⟩ = some (.slice (some ⟨rb, roff, none⟩) rows.length rq) ∧ W.cell? ⟨tb, toff + k * 4, none⟩ = some (.string ⟨t.nm.toArray⟩) ∧ W.cell? ⟨tb, toff + k * 4 + 1, none⟩ = some (.slice ca t.cols.length cc) ∧ W.cell? ⟨tb, toff + k * 4 + 2, none⟩ = some (.slice ua t.uq.length uc) ∧ W.cell? ⟨tb, toff + k * 4 + 3, none⟩ = some (.bool t.rt)) ∧ W.cell? ⟨wr.heap.size, 0, none⟩ = some (.int .i64 id) ∧ W.cell? ⟨wr.heap.size, 1, none⟩ = some (.slice va cells.length vq))) (by kernel_rfl) ?_ (fun hHeld => ?_)
        · (first | exact NB.out _ (Below.refl _ _) | exact NB.out _ (Below.refl _ _).drew | exact NB.out _ BW.out)
        refine tkB (i := 0) ?_
        refine tkB (i := 1) ?_
        refine tkB (i := 2) ?_
        refine tkB (i := 3) ?_
        refine tkB (i := 4) ?_
        refine tkB (i := 5) ?_
        refine tkR (i := 6) (fun K hK => ?_)
        go_simp
        go_at_call 35
        refine (RF.out _ ((below_allocD _ _).drew)).mono ?_
        rintro e w3 ⟨rfl, hB3⟩
        have BW : Hid (Below (wr.alloc (.cells #[.int .i64 id, .slice va cells.length vq] 77)).heap.size (wr.alloc (.cells #[.int .i64 id, .slice va cells.length vq] 77)) w3) := (Below.refl _ _).drew.trans hB3
        clear hB3
        refine hK.out _ _ ?_ (fun hHeld => ?_)
        · (first | exact NB.out _ (Below.refl _ _) | exact NB.out _ (Below.refl _ _).drew | exact NB.out _ BW.out)
        clear hK K
        try simp only [Act.put, tkS]
        refine tkB (i := 7) ?_
        refine tkB (i := 8) ?_
        refine tkV (i := 9) ?_
        refine tkV (i := 10) ?_
        refine tkV (i := 11) ?_
        refine tkV (i := 12) ?_
        refine tkV (i := 13) ?_
        refine tkB (i := 14) ?_
        refine tkB (i := 15) ?_
        refine tkV (i := 16) ?_
        refine tkV (i := 17) ?_
        refine tkV (i := 18) ?_
        refine tkV (i := 19) ?_
        refine tkV (i := 20) ?_
        refine tkV (i := 21) ?_
        refine tkV (i := 22) ?_
        refine tkV (i := 23) ?_
        refine tkV (i := 24) ?_
        refine tkV (i := 25) ?_
        refine tkV (i := 26) ?_
        refine tkV (i := 27) ?_
        refine tkV (i := 28) ?_
        refine tkV (i := 29) ?_
        refine tkV (i := 30) ?_
        refine tkV (i := 31) ?_
        refine tkV (i := 32) ?_
        refine tkB (i := 33) ?_
        refine wpAnyH_done (by kernel_rfl) ?_ _
        have HB3 := Lib.hid (HW.out.2.later (HBN.out _ BW.out)).bel
        go_wp2_with fail
        go_ret
        exact ⟨ret_b HR.out.symm, HB3.out⟩
      rw [hr] at RF
      by_cases hn : id < x.next
      case neg =>
        have HR := Lib.hid (HBAD.out (fun h => hn (HGD.out.1 h).2.1))
        have hge : decide (x.next ≤ id) = true := decide_eq_true (by omega)
        clear hr hn HBAD HNXT HGD HNO HNX
        go_wp2_with fail
        refine wp_region_held_drew (S := (fun W => ((W.cell? ⟨w.heap.size, 0, none⟩ = some (.slice (some ⟨tb, toff, none⟩) l.length sc) ∧ W.cell? ⟨w.heap.size + 1, 0, none⟩ = some (.slice (some ⟨b, off, none⟩) x.tables.length xc) ∧ W.cell? ⟨w.heap.size + 1, 1, none⟩ = some (.int .i64 x.next)) ∧ W.cell? ⟨b, off + k, none⟩ = some (.slice (some ⟨rb, roff, none⟩) rows.length rq) ∧ W.cell? ⟨tb, toff + k * 4, none⟩ = some (.string ⟨t.nm.toArray⟩) ∧ W.cell? ⟨tb, toff + k * 4 + 1, none⟩ = some (.slice ca t.cols.length cc) ∧ W.cell? ⟨tb, toff + k * 4 + 2, none⟩ = some (.slice ua t.uq.length uc) ∧ W.cell? ⟨tb, toff + k * 4 + 3, none⟩ = some (.bool t.rt)) ∧ W.cell? ⟨wr.heap.size, 0, none⟩ = some (.int .i64 id) ∧ W.cell? ⟨wr.heap.size, 1, none⟩ = some (.slice va cells.length vq))) (by kernel_rfl) ?_ (fun hHeld => ?_)
        · (first | exact NB.out _ (Below.refl _ _) | exact NB.out _ (Below.refl _ _).drew | exact NB.out _ BW.out)
        refine tkB (i := 0) ?_
        refine tkB (i := 1) ?_
        refine tkB (i := 2) ?_
        refine tkB (i := 3) ?_
        refine tkB (i := 4) ?_
        refine tkB (i := 5) ?_
        refine tkR (i := 6) (fun K hK => ?_)
        go_simp
        go_at_call 35
        refine (RF.out _ ((below_allocD _ _).drew)).mono ?_
        rintro e w3 ⟨rfl, hB3⟩
        have BW : Hid (Below (wr.alloc (.cells #[.int .i64 id, .slice va cells.length vq] 77)).heap.size (wr.alloc (.cells #[.int .i64 id, .slice va cells.length vq] 77)) w3) := (Below.refl _ _).drew.trans hB3
        clear hB3
        refine hK.out _ _ ?_ (fun hHeld => ?_)
        · (first | exact NB.out _ (Below.refl _ _) | exact NB.out _ (Below.refl _ _).drew | exact NB.out _ BW.out)
        clear hK K
        try simp only [Act.put, tkS]
        refine tkB (i := 7) ?_
        refine tkB (i := 8) ?_
        refine tkB (i := 9) ?_
        refine tkB (i := 10) ?_
        refine tkB (i := 11) ?_
        refine tkB (i := 12) ?_
        refine tkB (i := 13) ?_
        refine tkB (i := 14) ?_
        refine tkB (i := 15) ?_
        refine tkV (i := 16) ?_
        refine tkV (i := 17) ?_
        refine tkV (i := 18) ?_
        refine tkV (i := 19) ?_
        refine tkV (i := 20) ?_
        refine tkV (i := 21) ?_
        refine tkV (i := 22) ?_
        refine tkV (i := 23) ?_
        refine tkV (i := 24) ?_
        refine tkV (i := 25) ?_
        refine tkV (i := 26) ?_
        refine tkV (i := 27) ?_
        refine tkV (i := 28) ?_
        refine tkV (i := 29) ?_
        refine tkV (i := 30) ?_
        refine tkV (i := 31) ?_
        refine tkV (i := 32) ?_
        refine tkB (i := 33) ?_
        refine wpAnyH_done (by kernel_rfl) ?_ _
        have HB3 := Lib.hid (HW.out.2.later (HBN.out _ BW.out)).bel
        go_wp2_with fail
        go_ret
        exact ⟨ret_b HR.out.symm, HB3.out⟩
      have hge : decide (x.next ≤ id) = false := decide_eq_false (by omega)
      by_cases hm0 : m = 0
      case pos =>
        have HN := Lib.hid (HNXT.out (HGD.out.2 ⟨hr, hn, fun j hj => by omega⟩))
        have hm1 : decide (0 < m) = false := decide_eq_false (by omega)
        clear hr hn hm0 HBAD HNXT HGD HNO HNX
        go_wp2_with fail
        refine wp_region_held_drew (S := (fun W => ((W.cell? ⟨w.heap.size, 0, none⟩ = some (.slice (some ⟨tb, toff, none⟩) l.length sc) ∧ W.cell? ⟨w.heap.size + 1, 0, none⟩ = some (.slice (some ⟨b, off, none⟩) x.tables.length xc) ∧ W.cell? ⟨w.heap.size + 1, 1, none⟩ = some (.int .i64 x.next)) ∧ W.cell? ⟨b, off + k, none⟩ = some (.slice (some ⟨rb, roff, none⟩) rows.length rq) ∧ W.cell? ⟨tb, toff + k * 4, none⟩ = some (.string ⟨t.nm.toArray⟩) ∧ W.cell? ⟨tb, toff + k * 4 + 1, none⟩ = some (.slice ca t.cols.length cc) ∧ W.cell? ⟨tb, toff + k * 4 + 2, none⟩ = some (.slice ua t.uq.length uc) ∧ W.cell? ⟨tb, toff + k * 4 + 3, none⟩ = some (.bool t.rt)) ∧ W.cell? ⟨wr.heap.size, 0, none⟩ = some (.int .i64 id) ∧ W.cell? ⟨wr.heap.size, 1, none⟩ = some (.slice va cells.length vq))) (by kernel_rfl) ?_ (fun hHeld => ?_)
        · (first | exact NB.out _ (Below.refl _ _) | exact NB.out _ (Below.refl _ _).drew | exact NB.out _ BW.out)
        refine tkB (i := 0) ?_
        refine tkB (i := 1) ?_
        refine tkB (i := 2) ?_
        refine tkB (i := 3) ?_
        refine tkB (i := 4) ?_
        refine tkB (i := 5) ?_
        refine tkR (i := 6) (fun K hK => ?_)
        go_simp
        go_at_call 35
        refine (RF.out _ ((below_allocD _ _).drew)).mono ?_
        rintro e w3 ⟨rfl, hB3⟩
        have BW : Hid (Below (wr.alloc (.cells #[.int .i64 id, .slice va cells.length vq] 77)).heap.size (wr.alloc (.cells #[.int .i64 id, .slice va cells.length vq] 77)) w3) := (Below.refl _ _).drew.trans hB3
        clear hB3
        refine hK.out _ _ ?_ (fun hHeld => ?_)
        · (first | exact NB.out _ (Below.refl _ _) | exact NB.out _ (Below.refl _ _).drew | exact NB.out _ BW.out)
        clear hK K
        try simp only [Act.put, tkS]
        refine tkB (i := 7) ?_
        refine tkB (i := 8) ?_
        refine tkB (i := 9) ?_
        refine tkB (i := 10) ?_
        refine tkB (i := 11) ?_
        refine tkB (i := 12) ?_
        refine tkB (i := 13) ?_
        refine tkB (i := 14) ?_
        refine tkB (i := 15) ?_
        refine tkB (i := 16) ?_
        refine tkB (i := 17) ?_
        refine tkB (i := 18) ?_
        refine tkV (i := 19) ?_
        refine tkV (i := 20) ?_
        refine tkV (i := 21) ?_
        refine tkV (i := 22) ?_
        refine tkV (i := 23) ?_
        refine tkV (i := 24) ?_
        refine tkV (i := 25) ?_
        refine tkV (i := 26) ?_
        refine tkV (i := 27) ?_
        refine tkV (i := 28) ?_
        refine tkV (i := 29) ?_
        refine tkV (i := 30) ?_
        refine tkV (i := 31) ?_
        refine tkB (i := 32) ?_
        refine tkB (i := 33) ?_
        refine wpAnyH_done (by kernel_rfl) ?_ _
        have HB3 := Lib.hid (HBN.out _ BW.out)
        go_wp2_with fail
        go_roundw
        case rel => exact ⟨m + 1, by omega, by go_num, HN.out, HB3.out⟩
        case measure => simp [intOf]; omega
      obtain ⟨n, hn2⟩ : ∃ n, n + 1 = m := ⟨m - 1, by omega⟩
      have hn1 : n < rows.length := by omega
      have hm1 : decide (0 < m) = true := decide_eq_true (by omega)
      have hs1 : (m : Int) - 1 = (n : Int) := by omega
      have hs2 : IntKind.i64.wrap (n : Int) = (n : Int) := by rw [IntKind.wrap_i64]; omega
      have hs3 : (n : Int) < (rows.length : Int) := by omega
      have HG2 : Hid (rows[n].id < id ↔ goodR t rows x.next m hlt2) := ⟨fun h => HGD.out.2 ⟨hr, hn, fun j hj => (by have e : j = n := (by omega); subst e; exact h)⟩, fun h => (HGD.out.1 h).2.2 n hn2⟩
      clear HGD hr hn hm0 HNO HNX hn2
      generalize hpid : rows[n].id = pid at *
      have HPI : Hid (rows[n].id = pid) := hpid
      clear hpid
      by_cases hp : pid < id
      case neg =>
        have HR := Lib.hid (HBAD.out (fun h => hp (HG2.out.2 h)))
        have hpg : decide (id ≤ pid) = true := decide_eq_true (by omega)
        clear hp HBAD HNXT HG2
        go_wp2_with fail
        refine wp_region_held_drew (S := (fun W => (((W.cell? ⟨w.heap.size, 0, none⟩ = some (.slice (some ⟨tb, toff, none⟩) l.length sc) ∧ W.cell? ⟨w.heap.size + 1, 0, none⟩ = some (.slice (some ⟨b, off, none⟩) x.tables.length xc) ∧ W.cell? ⟨w.heap.size + 1, 1, none⟩ = some (.int .i64 x.next)) ∧ W.cell? ⟨b, off + k, none⟩ = some (.slice (some ⟨rb, roff, none⟩) rows.length rq) ∧ W.cell? ⟨tb, toff + k * 4, none⟩ = some (.string ⟨t.nm.toArray⟩) ∧ W.cell? ⟨tb, toff + k * 4 + 1, none⟩ = some (.slice ca t.cols.length cc) ∧ W.cell? ⟨tb, toff + k * 4 + 2, none⟩ = some (.slice ua t.uq.length uc) ∧ W.cell? ⟨tb, toff + k * 4 + 3, none⟩ = some (.bool t.rt)) ∧ W.cell? ⟨wr.heap.size, 0, none⟩ = some (.int .i64 id) ∧ W.cell? ⟨wr.heap.size, 1, none⟩ = some (.slice va cells.length vq)) ∧ W.cell? ⟨rb, roff + n * 2, none⟩ = some (.int .i64 pid))) (by kernel_rfl) ?_ (fun hHeld => ?_)
        · (first | exact ⟨NB.out _ (Below.refl _ _), (HPRE.out _ (HBN.out _ (Below.refl _ _)) n hn1).trans (by rw [HPI.out])⟩ | exact ⟨NB.out _ (Below.refl _ _).drew, (HPRE.out _ (HBN.out _ (Below.refl _ _).drew) n hn1).trans (by rw [HPI.out])⟩ | exact ⟨NB.out _ BW.out, (HPRE.out _ (HBN.out _ BW.out) n hn1).trans (by rw [HPI.out])⟩)
        refine tkB (i := 0) ?_
        refine tkB (i := 1) ?_
        refine tkB (i := 2) ?_
        refine tkB (i := 3) ?_
        refine tkB (i := 4) ?_
        refine tkB (i := 5) ?_
        refine tkR (i := 6) (fun K hK => ?_)
        go_simp
        go_at_call 35
        refine (RF.out _ ((below_allocD _ _).drew)).mono ?_
        rintro e w3 ⟨rfl, hB3⟩
        have BW : Hid (Below (wr.alloc (.cells #[.int .i64 id, .slice va cells.length vq] 77)).heap.size (wr.alloc (.cells #[.int .i64 id, .slice va cells.length vq] 77)) w3) := (Below.refl _ _).drew.trans hB3
        clear hB3
        refine hK.out _ _ ?_ (fun hHeld => ?_)
        · (first | exact ⟨NB.out _ (Below.refl _ _), (HPRE.out _ (HBN.out _ (Below.refl _ _)) n hn1).trans (by rw [HPI.out])⟩ | exact ⟨NB.out _ (Below.refl _ _).drew, (HPRE.out _ (HBN.out _ (Below.refl _ _).drew) n hn1).trans (by rw [HPI.out])⟩ | exact ⟨NB.out _ BW.out, (HPRE.out _ (HBN.out _ BW.out) n hn1).trans (by rw [HPI.out])⟩)
        clear hK K
        try simp only [Act.put, tkS]
        refine tkB (i := 7) ?_
        refine tkB (i := 8) ?_
        refine tkB (i := 9) ?_
        refine tkB (i := 10) ?_
        refine tkB (i := 11) ?_
        refine tkB (i := 12) ?_
        refine tkB (i := 13) ?_
        refine tkB (i := 14) ?_
        refine tkB (i := 15) ?_
        refine tkB (i := 16) ?_
        refine tkB (i := 17) ?_
        refine tkB (i := 18) ?_
        refine tkB (i := 19) ?_
        refine tkB (i := 20) ?_
        refine tkB (i := 21) ?_
        refine tkB (i := 22) ?_
        refine tkB (i := 23) ?_
        refine tkB (i := 24) ?_
        refine tkB (i := 25) ?_
        refine tkB (i := 26) ?_
        refine tkB (i := 27) ?_
        refine tkB (i := 28) ?_
        refine tkB (i := 29) ?_
        refine tkB (i := 30) ?_
        refine tkB (i := 31) ?_
        refine tkB (i := 32) ?_
        refine tkB (i := 33) ?_
        refine wpAnyH_done (by kernel_rfl) ?_ _
        have HB3 := Lib.hid (HW.out.2.later (HBN.out _ BW.out)).bel
        go_wp2_with fail
        go_ret
        exact ⟨ret_b HR.out.symm, HB3.out⟩
      have HN := Lib.hid (HNXT.out (HG2.out.1 hp))
      have hpg : decide (id ≤ pid) = false := decide_eq_false (by omega)
      clear hp HBAD HNXT HG2
      go_wp2_with fail
      refine wp_region_held_drew (S := (fun W => (((W.cell? ⟨w.heap.size, 0, none⟩ = some (.slice (some ⟨tb, toff, none⟩) l.length sc) ∧ W.cell? ⟨w.heap.size + 1, 0, none⟩ = some (.slice (some ⟨b, off, none⟩) x.tables.length xc) ∧ W.cell? ⟨w.heap.size + 1, 1, none⟩ = some (.int .i64 x.next)) ∧ W.cell? ⟨b, off + k, none⟩ = some (.slice (some ⟨rb, roff, none⟩) rows.length rq) ∧ W.cell? ⟨tb, toff + k * 4, none⟩ = some (.string ⟨t.nm.toArray⟩) ∧ W.cell? ⟨tb, toff + k * 4 + 1, none⟩ = some (.slice ca t.cols.length cc) ∧ W.cell? ⟨tb, toff + k * 4 + 2, none⟩ = some (.slice ua t.uq.length uc) ∧ W.cell? ⟨tb, toff + k * 4 + 3, none⟩ = some (.bool t.rt)) ∧ W.cell? ⟨wr.heap.size, 0, none⟩ = some (.int .i64 id) ∧ W.cell? ⟨wr.heap.size, 1, none⟩ = some (.slice va cells.length vq)) ∧ W.cell? ⟨rb, roff + n * 2, none⟩ = some (.int .i64 pid))) (by kernel_rfl) ?_ (fun hHeld => ?_)
      · (first | exact ⟨NB.out _ (Below.refl _ _), (HPRE.out _ (HBN.out _ (Below.refl _ _)) n hn1).trans (by rw [HPI.out])⟩ | exact ⟨NB.out _ (Below.refl _ _).drew, (HPRE.out _ (HBN.out _ (Below.refl _ _).drew) n hn1).trans (by rw [HPI.out])⟩ | exact ⟨NB.out _ BW.out, (HPRE.out _ (HBN.out _ BW.out) n hn1).trans (by rw [HPI.out])⟩)
      refine tkB (i := 0) ?_
      refine tkB (i := 1) ?_
      refine tkB (i := 2) ?_
      refine tkB (i := 3) ?_
      refine tkB (i := 4) ?_
      refine tkB (i := 5) ?_
      refine tkR (i := 6) (fun K hK => ?_)
      go_simp
      go_at_call 35
      refine (RF.out _ ((below_allocD _ _).drew)).mono ?_
      rintro e w3 ⟨rfl, hB3⟩
      have BW : Hid (Below (wr.alloc (.cells #[.int .i64 id, .slice va cells.length vq] 77)).heap.size (wr.alloc (.cells #[.int .i64 id, .slice va cells.length vq] 77)) w3) := (Below.refl _ _).drew.trans hB3
      clear hB3
      refine hK.out _ _ ?_ (fun hHeld => ?_)
      · (first | exact ⟨NB.out _ (Below.refl _ _), (HPRE.out _ (HBN.out _ (Below.refl _ _)) n hn1).trans (by rw [HPI.out])⟩ | exact ⟨NB.out _ (Below.refl _ _).drew, (HPRE.out _ (HBN.out _ (Below.refl _ _).drew) n hn1).trans (by rw [HPI.out])⟩ | exact ⟨NB.out _ BW.out, (HPRE.out _ (HBN.out _ BW.out) n hn1).trans (by rw [HPI.out])⟩)
      clear hK K
      try simp only [Act.put, tkS]
      refine tkB (i := 7) ?_
      refine tkB (i := 8) ?_
      refine tkB (i := 9) ?_
      refine tkB (i := 10) ?_
      refine tkB (i := 11) ?_
      refine tkB (i := 12) ?_
      refine tkB (i := 13) ?_
      refine tkB (i := 14) ?_
      refine tkB (i := 15) ?_
      refine tkB (i := 16) ?_
      refine tkB (i := 17) ?_
      refine tkB (i := 18) ?_
      refine tkB (i := 19) ?_
      refine tkB (i := 20) ?_
      refine tkB (i := 21) ?_
      refine tkB (i := 22) ?_
      refine tkB (i := 23) ?_
      refine tkB (i := 24) ?_
      refine tkB (i := 25) ?_
      refine tkB (i := 26) ?_
      refine tkB (i := 27) ?_
      refine tkB (i := 28) ?_
      refine tkB (i := 29) ?_
      refine tkB (i := 30) ?_
      refine tkB (i := 31) ?_
      refine tkB (i := 32) ?_
      refine tkB (i := 33) ?_
      refine wpAnyH_done (by kernel_rfl) ?_ _
      have HB3 := Lib.hid (HBN.out _ BW.out)
      go_wp2_with fail
      go_roundw
      case rel => exact ⟨m + 1, by omega, by go_num, HN.out, HB3.out⟩
      case measure => simp [intOf]; omega
end Go.Proofs.YtngbhifafdbpkaaGreat
