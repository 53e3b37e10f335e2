import Derived.Test.YtngbhifafdbpkaaGreatZap
import Derived.Test.YtngbhifafdbpkaaGreatZal
import Derived.Test.YtngbhifafdbpkaaGreatZan
import Derived.Test.YtngbhifafdbpkaaGreatZas
import Derived.Test.YtngbhifafdbpkaaGreatZaw
import Derived.Test.YtngbhifafdbpkaaGreatZax
import Derived.Deep.RegionHeld3
import Derived.Test.YtngbhifafdbpkaaGreatZTk
namespace Go.Proofs.YtngbhifafdbpkaaGreat
open Go.RowKit
set_option linter.unusedSimpArgs false
def RowsP (t : Tb) (rows : List RowV) (next : Int) : Prop := rows.length ≤ 12 ∧ riseIds rows ∧ ∀ i (h : i < rows.length), rows[i].id < next ∧ rowB t rows[i].id rows[i].cells = true
noncomputable def rowsB (t : Tb) (rows : List RowV) (next : Int) : Bool := @decide (RowsP t rows next) (Classical.propDecidable _)
theorem rows_yes {t : Tb} {rows : List RowV} {next : Int} (h : RowsP t rows next) : rowsB t rows next = true := @decide_eq_true _ (Classical.propDecidable _) h
theorem rows_no {t : Tb} {rows : List RowV} {next : Int} (h : ¬ RowsP t rows next) : rowsB t rows next = false := @decide_eq_false _ (Classical.propDecidable _) h
theorem rows_of {t : Tb} {rows : List RowV} {next : Int} (h : rowsB t rows next = true) : RowsP t rows next := @of_decide_eq_true _ (Classical.propDecidable _) h
def FormP (l : List Tb) (x : StV) : Prop := x.tables.length = l.length ∧ inB 1 x.next 1000000 = true ∧ ∀ i (h : i < l.length) (h' : i < x.tables.length), RowsP l[i] x.tables[i] x.next
noncomputable def formB (l : List Tb) (x : StV) : Bool := @decide (FormP l x) (Classical.propDecidable _)
theorem form_yes {l : List Tb} {x : StV} (h : FormP l x) : formB l x = true := @decide_eq_true _ (Classical.propDecidable _) h
theorem form_no {l : List Tb} {x : StV} (h : ¬ FormP l x) : formB l x = false := @decide_eq_false _ (Classical.propDecidable _) h
theorem form_of {l : List Tb} {x : StV} (h : formB l x = true) : FormP l x := @of_decide_eq_true _ (Classical.propDecidable _) h
set_option maxRecDepth 100000 in
set_option maxHeartbeats 6400000 in
theorem rowsFitI (t : Tb) (ca : Option Addr) (cc : Nat) (ua : Option Addr) (uc : Nat) (A : Nat → Prop) (rows : List RowV) (a : Option Addr) (c : Nat) (B : Nat → Prop) (next : Int) (w : World) (hto : t.ok) (ho : (dRowS rows).le maxLen) (hT : t.Has w A ca ua) (hR : Rd w B (dRowS rows) (.slice a rows.length c)) :
    Calls Tryz.prog 44 #[.agg #[.string ⟨t.nm.toArray⟩, .slice ca t.cols.length cc, .slice ua t.uq.length uc, .bool t.rt], .slice a rows.length c, .int .i64 next] w fun e w' => e = .returned (.bool (rowsB t rows next)) ∧ Below w.heap.size w w' := by
  have HL : Hid (∀ W, Below w.heap.size w W → Rd W B (Ls 2 dRow rows) (.slice a rows.length c)) := fun W h => Rd.later hR h
  have HT : Hid (t.ok ∧ ∀ W, Below w.heap.size w W → t.Has W A ca ua) := ⟨hto, fun W h => hT.later h⟩
  have HO := Lib.hid ho
  have hll : rows.length ≤ maxLen := (Ls_le.1 ho).2.1
  have RS : Hid (∀ W, BoxD 70 w W #[.string ⟨t.nm.toArray⟩, .slice ca t.cols.length cc, .slice ua t.uq.length uc, .bool t.rt] → Calls Tryz.prog 74 #[.slice a rows.length c, .func (.func 75) #[] #[]] W fun e w' => e = .returned (.bool (riBR rows)) ∧ BoxD 70 w w' #[.string ⟨t.nm.toArray⟩, .slice ca t.cols.length cc, .slice ua t.uq.length uc, .bool t.rt]) := fun W h => (risesR rows a c B W hll (hR.later h.2)).mono (fun e w' ⟨he, hB⟩ => ⟨he, h.later hB⟩)
  have HX := Lib.hid (boxD 70 w #[.string ⟨t.nm.toArray⟩, .slice ca t.cols.length cc, .slice ua t.uq.length uc, .bool t.rt])
  unfold maxLen at hll
  clear hto ho hT hR
  by_cases h12 : 12 < rows.length
  case pos =>
    have HR : Hid (rowsB t rows next = false) := rows_no (fun h => by have := h.1; omega)
    have hd : decide (12 < (rows.length : Int)) = true := decide_eq_true (by omega)
    clear h12
    go_enter Tryz.func44, Tryz.ntmps44
    go_wp2_with fail
    go_ret
    exact ⟨ret_b HR.out.symm, HX.out.2⟩
  have hd : decide (12 < (rows.length : Int)) = false := decide_eq_false (by omega)
  have H12 : Hid (rows.length ≤ 12) := by show _ ≤ _; omega
  clear h12
  cases hr : riBR rows
  case false =>
    have HR : Hid (rowsB t rows next = false) := rows_no (fun h => by rw [riBR_yes h.2.1] at hr; cases hr)
    rw [hr] at RS
    clear hr
    go_enter Tryz.func44, Tryz.ntmps44
    go_wp2_with fail
    refine (RS.out _ HX.out).mono ?_
    rintro e w1 ⟨rfl, hb⟩
    have HB1 := Lib.hid hb.2
    clear hb
    go_wp2_with fail
    go_ret
    exact ⟨ret_b HR.out.symm, HB1.out⟩
  have HRI := Lib.hid (riBR_of hr)
  rw [hr] at RS
  clear hr
  go_enter Tryz.func44, Tryz.ntmps44
  go_wp2_with fail
  refine (RS.out _ HX.out).mono ?_
  rintro e w1 ⟨rfl, hb⟩
  have HX1 := Lib.hid hb
  clear hb
  go_wp2_with fail
  go_loopw [18] (fun i wr => ∃ k : Nat, k ≤ rows.length ∧ i = .int .i64 k ∧ Hid ((∀ m (h : m < rows.length), m < k → rows[m].id < next ∧ rowB t rows[m].id rows[m].cells = true) ∧ BoxD 70 w wr #[.string ⟨t.nm.toArray⟩, .slice ca t.cols.length cc, .slice ua t.uq.length uc, .bool t.rt])) (fun i _ => rows.length - (intOf i).toNat)
  case atStart => exact ⟨0, Nat.zero_le _, rfl, fun m _ h => absurd h (by omega), HX1.out⟩
  case round =>
    obtain ⟨k, hk, rfl, HW⟩ := hrel
    by_cases hlt : k < rows.length
    case neg =>
      have hki : decide ((k : Int) < (rows.length : Int)) = false := by simp; omega
      have HR : Hid (rowsB t rows next = true) := rows_yes ⟨H12.out, HRI.out, fun m h => HW.out.1 m h (by omega)⟩
      go_wp2_with fail
      go_ret
      exact ⟨ret_b HR.out.symm, HW.out.2.2⟩
    have hki : (k : Int) < (rows.length : Int) := by omega
    obtain ⟨b, off, rfl, -, hc⟩ := (HL.out _ HW.out.2.2).things k hlt
    obtain ⟨u0, c0, r0⟩ := hc 0 (by omega)
    obtain rfl : u0 = .int .i64 rows[k].id := r0
    rw [Nat.add_zero] at c0
    obtain ⟨u1, c1, r1⟩ := hc 1 (by omega)
    replace r1 : Rd wr B (dAtomSS rows[k].cells) u1 := r1
    obtain ⟨sa, sq, rfl⟩ := r1.lsSlice
    have HKL := Lib.hid (le_sets ((Ls_le.1 HO.out).2.2 k hlt 1 (by omega)))
    have RF : Hid (∀ W, Below wr.heap.size wr W → Calls Tryz.prog 76 #[.agg #[.string ⟨t.nm.toArray⟩, .slice ca t.cols.length cc, .slice ua t.uq.length uc, .bool t.rt], .pointer (some ⟨b, off + k * 2, none⟩)] W fun e w' => e = .returned (.bool (rowB t rows[k].id rows[k].cells)) ∧ Below W.heap.size W w') := fun W h => by
      obtain ⟨X, hX⟩ := (r1.later h).lt.sets
      exact rowFitsI t ca cc ua uc b (off + k * 2) rows[k].id rows[k].cells sa sq X A W.heap.size W HT.out.1 HKL.out (HT.out.2 W (HW.out.2.2.trans (h.mono HW.out.2.2.size))) (Nat.le_refl _) hX ((h.cell (p := ⟨b, off + k * 2, none⟩) (World.block_lt_of_cell? _ _ c0)).trans c0) ((h.cell (p := ⟨b, off + k * 2 + 1, none⟩) (World.block_lt_of_cell? _ _ c1)).trans c1)
    have HNO : Hid (¬ (rows[k].id < next ∧ rowB t rows[k].id rows[k].cells = true) → rowsB t rows next = false) := fun hn => rows_no (fun h => hn (h.2.2 k hlt))
    have HNX : Hid (rows[k].id < next ∧ rowB t rows[k].id rows[k].cells = true → ∀ m (h : m < rows.length), m < k + 1 → rows[m].id < next ∧ rowB t rows[m].id rows[m].cells = true) := fun he m h hm => by
      by_cases e : m = k
      · subst e; exact he
      · exact HW.out.1 m h (by omega)
    have CX : Hid (∀ W, Below wr.heap.size wr W → (W.cell? ⟨w.heap.size, 0, none⟩ = some (.string ⟨t.nm.toArray⟩) ∧ W.cell? ⟨w.heap.size, 1, none⟩ = some (.slice ca t.cols.length cc) ∧ W.cell? ⟨w.heap.size, 2, none⟩ = some (.slice ua t.uq.length uc) ∧ W.cell? ⟨w.heap.size, 3, none⟩ = some (.bool t.rt)) ∧ W.cell? ⟨b, off + k * 2, none⟩ = some (.int .i64 rows[k].id)) := fun W h => ⟨⟨cell_at (o := 0) (HW.out.2.later h).1 rfl, cell_at (o := 1) (HW.out.2.later h).1 rfl, cell_at (o := 2) (HW.out.2.later h).1 rfl, cell_at (o := 3) (HW.out.2.later h).1 rfl⟩, (h.cell (p := ⟨b, off + k * 2, none⟩) (World.block_lt_of_cell? _ _ c0)).trans c0⟩
    clear hc c0 c1 r1
    generalize hid : rows[k].id = id at *
    generalize hcl : rows[k].cells = cells at *
    clear hid hcl
    by_cases hn : id < next
    case neg =>
      have HR := Lib.hid (HNO.out (fun h => hn h.1))
      have hge : decide (next ≤ id) = true := decide_eq_true (by omega)
      clear HNO HNX hn
      go_wp2_with fail
      refine wp_region_held_drew (S := (fun W => (W.cell? ⟨w.heap.size, 0, none⟩ = some (.string ⟨t.nm.toArray⟩) ∧ W.cell? ⟨w.heap.size, 1, none⟩ = some (.slice ca t.cols.length cc) ∧ W.cell? ⟨w.heap.size, 2, none⟩ = some (.slice ua t.uq.length uc) ∧ W.cell? ⟨w.heap.size, 3, none⟩ = some (.bool t.rt)) ∧ W.cell? ⟨b, off + k * 2, none⟩ = some (.int .i64 id))) (by kernel_rfl) ?_ (fun hHeld => ?_)
      · (first | exact CX.out _ (Below.refl _ _) | exact CX.out _ (Below.refl _ _).drew | exact CX.out _ BW.out)
      refine tkB (i := 0) ?_
      refine tkB (i := 1) ?_
      refine tkB (i := 2) ?_
      refine tkB (i := 3) ?_
      refine tkB (i := 4) ?_
      refine tkB (i := 5) ?_
      refine tkB (i := 6) ?_
      refine tkB (i := 7) ?_
      refine tkV (i := 8) ?_
      refine tkV (i := 9) ?_
      refine tkV (i := 10) ?_
      refine tkV (i := 11) ?_
      refine tkV (i := 12) ?_
      refine tkV (i := 13) ?_
      refine tkB (i := 14) ?_
      refine wpAnyH_done (by kernel_rfl) ?_ _
      go_wp2_with fail
      go_ret
      exact ⟨ret_b HR.out.symm, by first | exact HW.out.2.2 | exact HW.out.2.2.drew⟩
    have hge : decide (next ≤ id) = false := decide_eq_false (by omega)
    go_wp2_with fail
    refine wp_region_held_drew (S := (fun W => (W.cell? ⟨w.heap.size, 0, none⟩ = some (.string ⟨t.nm.toArray⟩) ∧ W.cell? ⟨w.heap.size, 1, none⟩ = some (.slice ca t.cols.length cc) ∧ W.cell? ⟨w.heap.size, 2, none⟩ = some (.slice ua t.uq.length uc) ∧ W.cell? ⟨w.heap.size, 3, none⟩ = some (.bool t.rt)) ∧ W.cell? ⟨b, off + k * 2, none⟩ = some (.int .i64 id))) (by kernel_rfl) ?_ (fun hHeld => ?_)
    · (first | exact CX.out _ (Below.refl _ _) | exact CX.out _ (Below.refl _ _).drew | exact CX.out _ BW.out)
    refine tkB (i := 0) ?_
    refine tkB (i := 1) ?_
    refine tkB (i := 2) ?_
    refine tkB (i := 3) ?_
    refine tkB (i := 4) ?_
    refine tkB (i := 5) ?_
    refine tkB (i := 6) ?_
    refine tkB (i := 7) ?_
    refine tkB (i := 8) ?_
    refine tkB (i := 9) ?_
    refine tkB (i := 10) ?_
    refine tkB (i := 11) ?_
    refine tkR (i := 12) (fun K hK => ?_)
    go_simp
    go_at_call 76
    refine (RF.out _ (Below.refl _ _).drew).mono ?_
    rintro e w2 ⟨rfl, hB2⟩
    have BW : Hid (Below wr.heap.size wr w2) := (Below.refl _ _).drew.trans hB2
    clear hB2
    refine hK.out _ _ ?_ (fun hHeld => ?_)
    · (first | exact CX.out _ (Below.refl _ _) | exact CX.out _ (Below.refl _ _).drew | exact CX.out _ BW.out)
    clear hK K
    try simp only [Act.put, tkS]
    refine tkB (i := 13) ?_
    refine tkB (i := 14) ?_
    refine wpAnyH_done (by kernel_rfl) ?_ _
    have HB2 := Lib.hid (HW.out.2.later BW.out)
    cases he : rowB t id cells
    case false =>
      have HR := Lib.hid (HNO.out (fun h => by rw [he] at h; cases h.2))
      clear HNO HNX RF he hn
      go_wp2_with fail
      go_ret
      exact ⟨ret_b HR.out.symm, HB2.out.2⟩
    have HN := Lib.hid (HNX.out ⟨hn, he⟩)
    clear HNO HNX RF he hn
    go_wp2_with fail
    go_roundw
    case rel => exact ⟨k + 1, by omega, by go_num, HN.out, HB2.out⟩
    case measure => simp [intOf]; omega
set_option maxRecDepth 100000 in
set_option maxHeartbeats 6400000 in
theorem storeFitsI (l : List Tb) (sa : Option Addr) (sc : Nat) (A : Nat → Prop) (x : StV) (xa : Option Addr) (xc : Nat) (B : Nat → Prop) (w : World) (hlo : (dTableS l).le maxLen) (ho : (dRowSS x.tables).le maxLen) (hT : Rd w A (dTableS l) (.slice sa l.length sc)) (hR : Rd w B (dRowSS x.tables) (.slice xa x.tables.length xc)) :
    Calls Tryz.prog 22 #[.agg #[.slice sa l.length sc], .agg #[.slice xa x.tables.length xc, .int .i64 x.next]] w fun e w' => e = .returned (.bool (schB l && formB l x)) ∧ Below w.heap.size w w' := by
  have HL : Hid (∀ W, Below w.heap.size w W → Rd W B (Ls 1 cRowS x.tables) (.slice xa x.tables.length xc)) := fun W h => Rd.later hR h
  have HT : Hid (∀ W, Below w.heap.size w W → Rd W A (Ls 4 dTable l) (.slice sa l.length sc)) := fun W h => Rd.later hT h
  have HO := Lib.hid (And.intro hlo ho)
  have hll : l.length ≤ maxLen := (Ls_le.1 hlo).2.1
  have hxl : x.tables.length ≤ maxLen := (Ls_le.1 ho).2.1
  unfold maxLen at hll hxl
  have SO : Hid (∀ W, BoxE 37 32 w W #[.slice sa l.length sc] #[.slice xa x.tables.length xc, .int .i64 x.next] → Calls Tryz.prog 42 #[.agg #[.slice sa l.length sc]] W fun e w' => e = .returned (.bool (schB l)) ∧ BoxE 37 32 w w' #[.slice sa l.length sc] #[.slice xa x.tables.length xc, .int .i64 x.next]) := fun W h => by
    obtain ⟨Ad, hA⟩ := (hT.later h.bel).tabs
    exact (schemaI l sa sc Ad A W (le_tables hlo) hA).mono (fun e w' ⟨he, hB⟩ => ⟨he, h.later hB⟩)
  have hb := boxE 37 32 w #[.slice sa l.length sc] #[.slice xa x.tables.length xc, .int .i64 x.next]
  have x0 := cell_at (o := 0) hb.a rfl
  have y0 := cell_at (o := 0) hb.b rfl
  have y1 := cell_at (o := 1) hb.b rfl
  have HB := Lib.hid hb
  have IO := Lib.hid (fun W => idOKi x.next W)
  have HE : Hid (∀ b, schB l = b → (schB l && formB l x) = (b && formB l x)) := fun b h => by rw [h]
  clear hlo ho hT hR hb
  cases hs : schB l
  case false =>
    have HR := Lib.hid (HE.out _ hs)
    rw [hs] at SO
    clear hs HE
    go_enter Tryz.func22, Tryz.ntmps22
    go_wp2_with fail
    refine (SO.out _ HB.out).mono ?_
    rintro e w1 ⟨rfl, hb⟩
    have HB1 := Lib.hid hb.bel
    clear x0 y0 y1 hb
    go_wp2_with fail
    go_ret
    exact ⟨ret_b rfl, HB1.out⟩
  have HR := Lib.hid (HE.out _ hs)
  rw [hs] at SO
  rw [Bool.true_and]
  clear hs HE HR
  by_cases hlen : x.tables.length = l.length
  case neg =>
    have HR : Hid (formB l x = false) := form_no (fun h => hlen h.1)
    have hd : ((x.tables.length : Int) != (l.length : Int)) = true := by simp; omega
    clear hlen
    go_enter Tryz.func22, Tryz.ntmps22
    go_wp2_with fail
    refine (SO.out _ HB.out).mono ?_
    rintro e w1 ⟨rfl, hb⟩
    have HB1 := Lib.hid hb.bel
    clear x0 y0 y1
    have x0 := cell_at (o := 0) hb.a rfl
    have y0 := cell_at (o := 0) hb.b rfl
    clear hb
    go_wp2_with fail
    go_ret
    exact ⟨ret_b HR.out.symm, HB1.out⟩
  have HLEN := Lib.hid hlen
  have hd : ((x.tables.length : Int) != (l.length : Int)) = false := by simp; omega
  clear hlen
  cases hi : inB 1 x.next 1000000
  case false =>
    have HR : Hid (formB l x = false) := form_no (fun h => by rw [h.2.1] at hi; cases hi)
    rw [hi] at IO
    clear hi
    go_enter Tryz.func22, Tryz.ntmps22
    go_wp2_with fail
    refine (SO.out _ HB.out).mono ?_
    rintro e w1 ⟨rfl, hb⟩
    have HB1 := Lib.hid hb.bel
    clear x0 y0 y1
    have x0 := cell_at (o := 0) hb.a rfl
    have y0 := cell_at (o := 0) hb.b rfl
    have y1 := cell_at (o := 1) hb.b rfl
    clear hb
    go_wp2_with fail
    refine (IO.out _).mono ?_
    rintro e w2 ⟨rfl, rfl⟩
    go_wp2_with fail
    go_ret
    exact ⟨ret_b HR.out.symm, HB1.out⟩
  have HI := Lib.hid hi
  rw [hi] at IO
  clear hi
  go_enter Tryz.func22, Tryz.ntmps22
  go_wp2_with fail
  refine (SO.out _ HB.out).mono ?_
  rintro e w1 ⟨rfl, hb⟩
  have HX1 := Lib.hid hb
  clear x0 y0 y1
  have x0 := cell_at (o := 0) hb.a rfl
  have y0 := cell_at (o := 0) hb.b rfl
  have y1 := cell_at (o := 1) hb.b rfl
  clear hb
  go_wp2_with fail
  refine (IO.out _).mono ?_
  rintro e w2 ⟨rfl, rfl⟩
  go_wp2_with fail
  clear x0 y0 y1
  go_loopw [27] (fun i wr => ∃ k : Nat, k ≤ l.length ∧ i = .int .i64 k ∧ Hid ((∀ m (h : m < l.length) (h' : m < x.tables.length), m < k → RowsP l[m] x.tables[m] x.next) ∧ BoxE 37 32 w wr #[.slice sa l.length sc] #[.slice xa x.tables.length xc, .int .i64 x.next])) (fun i _ => l.length - (intOf i).toNat)
  case atStart => exact ⟨0, Nat.zero_le _, rfl, fun m _ _ h => absurd h (by omega), HX1.out⟩
  case round =>
    obtain ⟨k, hk, rfl, HW⟩ := hrel
    by_cases hlt : k < l.length
    case neg =>
      have hki : decide ((k : Int) < (l.length : Int)) = false := by simp; omega
      have HR : Hid (formB l x = true) := form_yes ⟨HLEN.out, HI.out, fun m h h' => HW.out.1 m h h' (by omega)⟩
      go_wp2_with fail
      go_ret
      exact ⟨ret_b HR.out.symm, HW.out.2.bel⟩
    have hlt' : k < x.tables.length := by have := HLEN.out; omega
    have hki : (k : Int) < (l.length : Int) := by omega
    have hkj : (k : Int) < (x.tables.length : Int) := by omega
    obtain ⟨b, off, rfl, -, hc⟩ := (HL.out _ HW.out.2.bel).things k hlt'
    obtain ⟨u0, c0, r0⟩ := hc 0 (by omega)
    replace r0 : Rd wr B (dRowS x.tables[k]) u0 := r0
    obtain ⟨ra, rq, rfl⟩ := r0.lsSlice
    rw [Nat.mul_one, Nat.add_zero] at c0
    obtain ⟨tb, toff, rfl, -, ht⟩ := (HT.out _ HW.out.2.bel).things k hlt
    obtain ⟨t0, d0, e0⟩ := ht 0 (by omega)
    obtain rfl : t0 = .string ⟨l[k].nm.toArray⟩ := e0
    rw [Nat.add_zero] at d0
    obtain ⟨t1, d1, e1⟩ := ht 1 (by omega)
    replace e1 : Rd wr A (dColumnS l[k].cols) t1 := e1
    obtain ⟨ca, cc, rfl⟩ := e1.lsSlice
    obtain ⟨t2, d2, e2⟩ := ht 2 (by omega)
    replace e2 : Rd wr A (dIntS l[k].uq) t2 := e2
    obtain ⟨ua, uc, rfl⟩ := e2.lsSlice
    obtain ⟨t3, d3, e3⟩ := ht 3 (by omega)
    obtain rfl : t3 = .bool l[k].rt := e3
    have HKL := Lib.hid (And.intro ((Ls_le.1 HO.out.2).2.2 k hlt' 0 (by omega)) ((le_tables HO.out.1).2 l[k] (List.getElem_mem hlt)))
    have RF : Hid (∀ W, Below wr.heap.size wr W → Calls Tryz.prog 44 #[.agg #[.string ⟨l[k].nm.toArray⟩, .slice ca l[k].cols.length cc, .slice ua l[k].uq.length uc, .bool l[k].rt], .slice ra x.tables[k].length rq, .int .i64 x.next] W fun e w' => e = .returned (.bool (rowsB l[k] x.tables[k] x.next)) ∧ Below W.heap.size W w') := fun W h => rowsFitI l[k] ca cc ua uc A x.tables[k] ra rq B x.next W HKL.out.2 HKL.out.1 (Rd.hasT (e1.later h) (e2.later h)) (r0.later h)
    have HNO : Hid (rowsB l[k] x.tables[k] x.next = false → formB l x = false) := fun hn => form_no (fun h => by rw [rows_yes (h.2.2 k hlt hlt')] at hn; cases hn)
    have HNX : Hid (rowsB l[k] x.tables[k] x.next = true → ∀ m (h : m < l.length) (h' : m < x.tables.length), m < k + 1 → RowsP l[m] x.tables[m] x.next) := fun he m h h' hm => by
      by_cases e : m = k
      · subst e; exact rows_of he
      · exact HW.out.1 m h h' (by omega)
    have CX : Hid (∀ W, Below wr.heap.size wr W → (W.cell? ⟨w.heap.size, 0, none⟩ = some (.slice (some ⟨tb, toff, none⟩) l.length sc) ∧ W.cell? ⟨w.heap.size + 1, 0, none⟩ = some (.slice (some ⟨b, off, none⟩) x.tables.length xc) ∧ W.cell? ⟨w.heap.size + 1, 1, none⟩ = some (.int .i64 x.next)) ∧ W.cell? ⟨b, off + k, none⟩ = some (.slice ra x.tables[k].length rq) ∧ W.cell? ⟨tb, toff + k * 4, none⟩ = some (.string ⟨l[k].nm.toArray⟩) ∧ W.cell? ⟨tb, toff + k * 4 + 1, none⟩ = some (.slice ca l[k].cols.length cc) ∧ W.cell? ⟨tb, toff + k * 4 + 2, none⟩ = some (.slice ua l[k].uq.length uc) ∧ W.cell? ⟨tb, toff + k * 4 + 3, none⟩ = some (.bool l[k].rt)) := fun W h => ⟨⟨cell_at (o := 0) (HW.out.2.later h).a rfl, cell_at (o := 0) (HW.out.2.later h).b rfl, cell_at (o := 1) (HW.out.2.later h).b rfl⟩, (h.cell (p := ⟨b, off + k, none⟩) (World.block_lt_of_cell? _ _ c0)).trans c0, (h.cell (p := ⟨tb, toff + k * 4, none⟩) (World.block_lt_of_cell? _ _ d0)).trans d0, (h.cell (p := ⟨tb, toff + k * 4 + 1, none⟩) (World.block_lt_of_cell? _ _ d1)).trans d1, (h.cell (p := ⟨tb, toff + k * 4 + 2, none⟩) (World.block_lt_of_cell? _ _ d2)).trans d2, (h.cell (p := ⟨tb, toff + k * 4 + 3, none⟩) (World.block_lt_of_cell? _ _ d3)).trans d3⟩
    clear hc ht c0 d0 d1 d2 d3 r0 e1 e2
    generalize l[k] = t at *
    generalize x.tables[k] = rows at *
    go_wp2_with fail
    refine wp_region_held_drew (S := (fun W => (W.cell? ⟨w.heap.size, 0, none⟩ = some (.slice (some ⟨tb, toff, none⟩) l.length sc) ∧ W.cell? ⟨w.heap.size + 1, 0, none⟩ = some (.slice (some ⟨b, off, none⟩) x.tables.length xc) ∧ W.cell? ⟨w.heap.size + 1, 1, none⟩ = some (.int .i64 x.next)) ∧ W.cell? ⟨b, off + k, none⟩ = some (.slice ra rows.length rq) ∧ W.cell? ⟨tb, toff + k * 4, none⟩ = some (.string ⟨t.nm.toArray⟩) ∧ W.cell? ⟨tb, toff + k * 4 + 1, none⟩ = some (.slice ca t.cols.length cc) ∧ W.cell? ⟨tb, toff + k * 4 + 2, none⟩ = some (.slice ua t.uq.length uc) ∧ W.cell? ⟨tb, toff + k * 4 + 3, none⟩ = some (.bool t.rt))) (by kernel_rfl) ?_ (fun hHeld => ?_)
    · (first | exact CX.out _ (Below.refl _ _) | exact CX.out _ (Below.refl _ _).drew | exact CX.out _ BW.out)
    refine tkB (i := 0) ?_
    refine tkB (i := 1) ?_
    refine tkB (i := 2) ?_
    refine tkB (i := 3) ?_
    refine tkB (i := 4) ?_
    refine tkB (i := 5) ?_
    refine tkB (i := 6) ?_
    refine tkB (i := 7) ?_
    refine tkB (i := 8) ?_
    refine tkB (i := 9) ?_
    refine tkB (i := 10) ?_
    refine tkB (i := 11) ?_
    refine tkR (i := 12) (fun K hK => ?_)
    go_simp
    go_at_call 44
    refine (RF.out _ (Below.refl _ _).drew).mono ?_
    rintro e w3 ⟨rfl, hB3⟩
    have BW : Hid (Below wr.heap.size wr w3) := (Below.refl _ _).drew.trans hB3
    clear hB3
    refine hK.out _ _ ?_ (fun hHeld => ?_)
    · (first | exact CX.out _ (Below.refl _ _) | exact CX.out _ (Below.refl _ _).drew | exact CX.out _ BW.out)
    clear hK K
    try simp only [Act.put, tkS]
    refine tkB (i := 13) ?_
    refine wpAnyH_done (by kernel_rfl) ?_ _
    have HB3 := Lib.hid (HW.out.2.later BW.out)
    cases he : rowsB t rows x.next
    case false =>
      have HR := Lib.hid (HNO.out he)
      clear HNO HNX RF he
      go_wp2_with fail
      go_ret
      exact ⟨ret_b HR.out.symm, HB3.out.bel⟩
    have HN := Lib.hid (HNX.out he)
    clear HNO HNX RF he
    go_wp2_with fail
    go_roundw
    case rel => exact ⟨k + 1, by omega, by go_num, HN.out, HB3.out⟩
    case measure => simp [intOf]; omega
end Go.Proofs.YtngbhifafdbpkaaGreat
