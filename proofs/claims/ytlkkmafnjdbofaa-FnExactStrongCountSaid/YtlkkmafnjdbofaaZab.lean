import Derived.Test.YtlkkmafnjdbofaaCn1
import Derived.Test.YtlkkmafnjdbofaaDNwB
import Derived.Test.YtlkkmafnjdbofaaZaa
import Derived.Deep.RegionHeld3
import Derived.BigQuiet
import Derived.Test.YtlkkmafnjdbofaaKDt
import Derived.Maps.OwnSet
import Derived.Maps.OwnOps
import Derived.Maps.Views
namespace Go.Proofs.Ytlkkmafnjdbofaa
open Go.RowKit
set_option linter.unusedSimpArgs false
/-! a store that fits a schema -/
def RowsP (t : Tb) (rows : List RowV) (next : Int) : Prop := rows.length ≤ 12 ∧ riseIds rows ∧ ∀ i (h : i < rows.length), rows[i].id < next ∧ rowB t rows[i].id rows[i].cells = true
noncomputable def rowsB (t : Tb) (rows : List RowV) (next : Int) : Bool := @decide (RowsP t rows next) (Classical.propDecidable _)
theorem rows_yes {t : Tb} {rows : List RowV} {next : Int} (h : RowsP t rows next) : rowsB t rows next = true := @decide_eq_true _ (Classical.propDecidable _) h
theorem rows_no {t : Tb} {rows : List RowV} {next : Int} (h : ¬ RowsP t rows next) : rowsB t rows next = false := @decide_eq_false _ (Classical.propDecidable _) h
theorem rows_of {t : Tb} {rows : List RowV} {next : Int} (h : rowsB t rows next = true) : RowsP t rows next := @of_decide_eq_true _ (Classical.propDecidable _) h
def FormP (l : List Tb) (x : StV) : Prop := x.tables.length = l.length ∧ inB 1 x.next 1000000 = true ∧ ∀ i (h : i < l.length) (h' : i < x.tables.length), RowsP l[i] x.tables[i] x.next
noncomputable def formB (l : List Tb) (x : StV) : Bool := @decide (FormP l x) (Classical.propDecidable _)
theorem form_yes {l : List Tb} {x : StV} (h : FormP l x) : formB l x = true := @decide_eq_true _ (Classical.propDecidable _) h
theorem form_no {l : List Tb} {x : StV} (h : ¬ FormP l x) : formB l x = false := @decide_eq_false _ (Classical.propDecidable _) h
theorem form_of {l : List Tb} {x : StV} (h : formB l x = true) : FormP l x := @of_decide_eq_true _ (Classical.propDecidable _) h
set_option maxRecDepth 100000 in
set_option maxHeartbeats 6400000 in
theorem rowsFitI (t : Tb) (ca : Option Addr) (cc : Nat) (ua : Option Addr) (uc : Nat) (A : Nat → Prop) (rows : List RowV) (a : Option Addr) (c : Nat) (B : Nat → Prop) (next : Int) (w : World) (hto : t.ok) (ho : (dRowS rows).le maxLen) (hT : t.Has w A ca ua) (hR : Rd w B (dRowS rows) (.slice a rows.length c)) :
    Calls Try.prog 38 #[.agg #[.string ⟨t.nm.toArray⟩, .slice ca t.cols.length cc, .slice ua t.uq.length uc, .bool t.rt], .slice a rows.length c, .int .i64 next] w fun e w' => e = .returned (.bool (rowsB t rows next)) ∧ Below w.heap.size w w' := by
  have HL : Hid (∀ W, Below w.heap.size w W → Rd W B (Ls 2 dRow rows) (.slice a rows.length c)) := fun W h => Rd.later hR h
  have HT : Hid (t.ok ∧ ∀ W, Below w.heap.size w W → t.Has W A ca ua) := ⟨hto, fun W h => hT.later h⟩
  have HO := Lib.hid ho
  have hll : rows.length ≤ maxLen := (Ls_le.1 ho).2.1
  have RS : Hid (∀ W, BoxD 70 w W #[.string ⟨t.nm.toArray⟩, .slice ca t.cols.length cc, .slice ua t.uq.length uc, .bool t.rt] → Calls Try.prog 56 #[.slice a rows.length c, .func (.func 57) #[] #[]] W fun e w' => e = .returned (.bool (riBR rows)) ∧ BoxD 70 w w' #[.string ⟨t.nm.toArray⟩, .slice ca t.cols.length cc, .slice ua t.uq.length uc, .bool t.rt]) := fun W h => (risesR rows a c B W hll (hR.later h.2)).mono (fun e w' ⟨he, hB⟩ => ⟨he, h.later hB⟩)
  have HX := Lib.hid (boxD 70 w #[.string ⟨t.nm.toArray⟩, .slice ca t.cols.length cc, .slice ua t.uq.length uc, .bool t.rt])
  unfold maxLen at hll
  clear hto ho hT hR
  by_cases h12 : 12 < rows.length
  case pos =>
    have HR : Hid (rowsB t rows next = false) := rows_no (fun h => by have := h.1; omega)
    have hd : decide (12 < (rows.length : Int)) = true := decide_eq_true (by omega)
    clear h12
    go_enter Try.func38, Try.ntmps38
    go_wp2_with fail
    go_ret
    exact ⟨ret_b HR.out.symm, HX.out.2⟩
  have hd : decide (12 < (rows.length : Int)) = false := decide_eq_false (by omega)
  have H12 : Hid (rows.length ≤ 12) := by show _ ≤ _; omega
  clear h12
  cases hr : riBR rows
  case false =>
    have HR : Hid (rowsB t rows next = false) := rows_no (fun h => by rw [riBR_yes h.2.1] at hr; cases hr)
    rw [hr] at RS
    clear hr
    go_enter Try.func38, Try.ntmps38
    go_wp2_with fail
    refine (RS.out _ HX.out).mono ?_
    rintro e w1 ⟨rfl, hb⟩
    have HB1 := Lib.hid hb.2
    clear hb
    go_wp2_with fail
    go_ret
    exact ⟨ret_b HR.out.symm, HB1.out⟩
  have HRI := Lib.hid (riBR_of hr)
  rw [hr] at RS
  clear hr
  go_enter Try.func38, Try.ntmps38
  go_wp2_with fail
  refine (RS.out _ HX.out).mono ?_
  rintro e w1 ⟨rfl, hb⟩
  have HX1 := Lib.hid hb
  clear hb
  go_wp2_with fail
  go_loopw [18] (fun i wr => ∃ k : Nat, k ≤ rows.length ∧ i = .int .i64 k ∧ Hid ((∀ m (h : m < rows.length), m < k → rows[m].id < next ∧ rowB t rows[m].id rows[m].cells = true) ∧ BoxD 70 w wr #[.string ⟨t.nm.toArray⟩, .slice ca t.cols.length cc, .slice ua t.uq.length uc, .bool t.rt])) (fun i _ => rows.length - (intOf i).toNat)
  case atStart => exact ⟨0, Nat.zero_le _, rfl, fun m _ h => absurd h (by omega), HX1.out⟩
  case round =>
    obtain ⟨k, hk, rfl, HW⟩ := hrel
    by_cases hlt : k < rows.length
    case neg =>
      have hki : decide ((k : Int) < (rows.length : Int)) = false := by simp; omega
      have HR : Hid (rowsB t rows next = true) := rows_yes ⟨H12.out, HRI.out, fun m h => HW.out.1 m h (by omega)⟩
      go_wp2_with fail
      go_ret
      exact ⟨ret_b HR.out.symm, HW.out.2.2⟩
    have hki : (k : Int) < (rows.length : Int) := by omega
    obtain ⟨b, off, rfl, -, hc⟩ := (HL.out _ HW.out.2.2).things k hlt
    obtain ⟨u0, c0, r0⟩ := hc 0 (by omega)
    obtain rfl : u0 = .int .i64 rows[k].id := r0
    rw [Nat.add_zero] at c0
    obtain ⟨u1, c1, r1⟩ := hc 1 (by omega)
    replace r1 : Rd wr B (dAtomSS rows[k].cells) u1 := r1
    obtain ⟨sa, sq, rfl⟩ := r1.lsSlice
    have HKL := Lib.hid (le_sets ((Ls_le.1 HO.out).2.2 k hlt 1 (by omega)))
    have RF : Hid (∀ W, Below wr.heap.size wr W → Calls Try.prog 58 #[.agg #[.string ⟨t.nm.toArray⟩, .slice ca t.cols.length cc, .slice ua t.uq.length uc, .bool t.rt], .pointer (some ⟨b, off + k * 2, none⟩)] W fun e w' => e = .returned (.bool (rowB t rows[k].id rows[k].cells)) ∧ Below W.heap.size W w') := fun W h => by
      obtain ⟨X, hX⟩ := (r1.later h).lt.sets
      exact rowFitsI t ca cc ua uc b (off + k * 2) rows[k].id rows[k].cells sa sq X A W.heap.size W HT.out.1 HKL.out (HT.out.2 W (HW.out.2.2.trans (h.mono HW.out.2.2.size))) (Nat.le_refl _) hX ((h.cell (p := ⟨b, off + k * 2, none⟩) (World.block_lt_of_cell? _ _ c0)).trans c0) ((h.cell (p := ⟨b, off + k * 2 + 1, none⟩) (World.block_lt_of_cell? _ _ c1)).trans c1)
    have HNO : Hid (¬ (rows[k].id < next ∧ rowB t rows[k].id rows[k].cells = true) → rowsB t rows next = false) := fun hn => rows_no (fun h => hn (h.2.2 k hlt))
    have HNX : Hid (rows[k].id < next ∧ rowB t rows[k].id rows[k].cells = true → ∀ m (h : m < rows.length), m < k + 1 → rows[m].id < next ∧ rowB t rows[m].id rows[m].cells = true) := fun he m h hm => by
      by_cases e : m = k
      · subst e; exact he
      · exact HW.out.1 m h (by omega)
    have CX : Hid (∀ W, Below wr.heap.size wr W → (W.cell? ⟨w.heap.size, 0, none⟩ = some (.string ⟨t.nm.toArray⟩) ∧ W.cell? ⟨w.heap.size, 1, none⟩ = some (.slice ca t.cols.length cc) ∧ W.cell? ⟨w.heap.size, 2, none⟩ = some (.slice ua t.uq.length uc) ∧ W.cell? ⟨w.heap.size, 3, none⟩ = some (.bool t.rt)) ∧ W.cell? ⟨b, off + k * 2, none⟩ = some (.int .i64 rows[k].id)) := fun W h => ⟨⟨cell_at (o := 0) (HW.out.2.later h).1 rfl, cell_at (o := 1) (HW.out.2.later h).1 rfl, cell_at (o := 2) (HW.out.2.later h).1 rfl, cell_at (o := 3) (HW.out.2.later h).1 rfl⟩, (h.cell (p := ⟨b, off + k * 2, none⟩) (World.block_lt_of_cell? _ _ c0)).trans c0⟩
    clear hc c0 c1 r1
    generalize hid : rows[k].id = id at *
    generalize hcl : rows[k].cells = cells at *
    clear hid hcl
    by_cases hn : id < next
    case neg =>
      have HR := Lib.hid (HNO.out (fun h => hn h.1))
      have hge : decide (next ≤ id) = true := decide_eq_true (by omega)
      clear HNO HNX hn
      go_wp2_with fail
      refine wp_region_held_drew (S := (fun W => (W.cell? ⟨w.heap.size, 0, none⟩ = some (.string ⟨t.nm.toArray⟩) ∧ W.cell? ⟨w.heap.size, 1, none⟩ = some (.slice ca t.cols.length cc) ∧ W.cell? ⟨w.heap.size, 2, none⟩ = some (.slice ua t.uq.length uc) ∧ W.cell? ⟨w.heap.size, 3, none⟩ = some (.bool t.rt)) ∧ W.cell? ⟨b, off + k * 2, none⟩ = some (.int .i64 id))) (by kernel_rfl) ?_ (fun hHeld => ?_)
      · (first | exact CX.out _ (Below.refl _ _) | exact CX.out _ (Below.refl _ _).drew | exact CX.out _ BW.out)
      refine wpAnyH_take (i := 0) (v := ?_) rfl (by kernel_rfl) (by kernel_rfl) (by kernel_rfl) (fun _ _ _ h => h) (Or.inl ⟨by kernel_rfl, ?_⟩) (by assumption) ?_
      rotate_left
      · (intro wS hSw; (try dsimp only at hSw); go_simp <;> with_reducible rfl)
      try simp only [Act.put, List.getElem_toArray, List.getElem_cons_succ, List.getElem_cons_zero, List.setIfInBounds_toArray, List.set_cons_zero, List.set_cons_succ]
      refine wpAnyH_take (i := 1) (v := ?_) rfl (by kernel_rfl) (by kernel_rfl) (by kernel_rfl) (fun _ _ _ h => h) (Or.inl ⟨by kernel_rfl, ?_⟩) (by assumption) ?_
      rotate_left
      · (intro wS hSw; (try dsimp only at hSw); go_simp <;> with_reducible rfl)
      try simp only [Act.put, List.getElem_toArray, List.getElem_cons_succ, List.getElem_cons_zero, List.setIfInBounds_toArray, List.set_cons_zero, List.set_cons_succ]
      refine wpAnyH_take (i := 2) (v := ?_) rfl (by kernel_rfl) (by kernel_rfl) (by kernel_rfl) (fun _ _ _ h => h) (Or.inl ⟨by kernel_rfl, ?_⟩) (by assumption) ?_
      rotate_left
      · (intro wS hSw; (try dsimp only at hSw); go_simp <;> with_reducible rfl)
      try simp only [Act.put, List.getElem_toArray, List.getElem_cons_succ, List.getElem_cons_zero, List.setIfInBounds_toArray, List.set_cons_zero, List.set_cons_succ]
      refine wpAnyH_take (i := 3) (v := ?_) rfl (by kernel_rfl) (by kernel_rfl) (by kernel_rfl) (fun _ _ _ h => h) (Or.inl ⟨by kernel_rfl, ?_⟩) (by assumption) ?_
      rotate_left
      · (intro wS hSw; (try dsimp only at hSw); go_simp <;> with_reducible rfl)
      try simp only [Act.put, List.getElem_toArray, List.getElem_cons_succ, List.getElem_cons_zero, List.setIfInBounds_toArray, List.set_cons_zero, List.set_cons_succ]
      refine wpAnyH_take (i := 4) (v := ?_) rfl (by kernel_rfl) (by kernel_rfl) (by kernel_rfl) (fun _ _ _ h => h) (Or.inl ⟨by kernel_rfl, ?_⟩) (by assumption) ?_
      rotate_left
      · (intro wS hSw; (try dsimp only at hSw); go_simp <;> with_reducible rfl)
      try simp only [Act.put, List.getElem_toArray, List.getElem_cons_succ, List.getElem_cons_zero, List.setIfInBounds_toArray, List.set_cons_zero, List.set_cons_succ]
      refine wpAnyH_take (i := 5) (v := ?_) rfl (by kernel_rfl) (by kernel_rfl) (by kernel_rfl) (fun _ _ _ h => h) (Or.inl ⟨by kernel_rfl, ?_⟩) (by assumption) ?_
      rotate_left
      · (intro wS hSw; (try dsimp only at hSw); go_simp <;> with_reducible rfl)
      try simp only [Act.put, List.getElem_toArray, List.getElem_cons_succ, List.getElem_cons_zero, List.setIfInBounds_toArray, List.set_cons_zero, List.set_cons_succ]
      refine wpAnyH_take (i := 6) (v := ?_) rfl (by kernel_rfl) (by kernel_rfl) (by kernel_rfl) (fun _ _ _ h => h) (Or.inl ⟨by kernel_rfl, ?_⟩) (by assumption) ?_
      rotate_left
      · (intro wS hSw; (try dsimp only at hSw); go_simp <;> with_reducible rfl)
      try simp only [Act.put, List.getElem_toArray, List.getElem_cons_succ, List.getElem_cons_zero, List.setIfInBounds_toArray, List.set_cons_zero, List.set_cons_succ]
      refine wpAnyH_take (i := 7) (v := ?_) rfl (by kernel_rfl) (by kernel_rfl) (by kernel_rfl) (fun _ _ _ h => h) (Or.inl ⟨by kernel_rfl, ?_⟩) (by assumption) ?_
      rotate_left
      · (intro wS hSw; (try dsimp only at hSw); go_simp <;> with_reducible rfl)
      try simp only [Act.put, List.getElem_toArray, List.getElem_cons_succ, List.getElem_cons_zero, List.setIfInBounds_toArray, List.set_cons_zero, List.set_cons_succ]
      refine wpAnyH_take (i := 8) (v := undef) rfl (by kernel_rfl) (by kernel_rfl) (by kernel_rfl) (fun _ _ _ h => h) (Or.inr ⟨by kernel_rfl, rfl⟩) (by assumption) ?_
      try simp only [Act.put, List.getElem_toArray, List.getElem_cons_succ, List.getElem_cons_zero, List.setIfInBounds_toArray, List.set_cons_zero, List.set_cons_succ]
      refine wpAnyH_take (i := 9) (v := undef) rfl (by kernel_rfl) (by kernel_rfl) (by kernel_rfl) (fun _ _ _ h => h) (Or.inr ⟨by kernel_rfl, rfl⟩) (by assumption) ?_
      try simp only [Act.put, List.getElem_toArray, List.getElem_cons_succ, List.getElem_cons_zero, List.setIfInBounds_toArray, List.set_cons_zero, List.set_cons_succ]
      refine wpAnyH_take (i := 10) (v := undef) rfl (by kernel_rfl) (by kernel_rfl) (by kernel_rfl) (fun _ _ _ h => h) (Or.inr ⟨by kernel_rfl, rfl⟩) (by assumption) ?_
      try simp only [Act.put, List.getElem_toArray, List.getElem_cons_succ, List.getElem_cons_zero, List.setIfInBounds_toArray, List.set_cons_zero, List.set_cons_succ]
      refine wpAnyH_take (i := 11) (v := undef) rfl (by kernel_rfl) (by kernel_rfl) (by kernel_rfl) (fun _ _ _ h => h) (Or.inr ⟨by kernel_rfl, rfl⟩) (by assumption) ?_
      try simp only [Act.put, List.getElem_toArray, List.getElem_cons_succ, List.getElem_cons_zero, List.setIfInBounds_toArray, List.set_cons_zero, List.set_cons_succ]
      refine wpAnyH_take (i := 12) (v := undef) rfl (by kernel_rfl) (by kernel_rfl) (by kernel_rfl) (fun _ _ _ h => h) (Or.inr ⟨by kernel_rfl, rfl⟩) (by assumption) ?_
      try simp only [Act.put, List.getElem_toArray, List.getElem_cons_succ, List.getElem_cons_zero, List.setIfInBounds_toArray, List.set_cons_zero, List.set_cons_succ]
      refine wpAnyH_take (i := 13) (v := undef) rfl (by kernel_rfl) (by kernel_rfl) (by kernel_rfl) (fun _ _ _ h => h) (Or.inr ⟨by kernel_rfl, rfl⟩) (by assumption) ?_
      try simp only [Act.put, List.getElem_toArray, List.getElem_cons_succ, List.getElem_cons_zero, List.setIfInBounds_toArray, List.set_cons_zero, List.set_cons_succ]
      refine wpAnyH_take (i := 14) (v := ?_) rfl (by kernel_rfl) (by kernel_rfl) (by kernel_rfl) (fun _ _ _ h => h) (Or.inl ⟨by kernel_rfl, ?_⟩) (by assumption) ?_
      rotate_left
      · (intro wS hSw; (try dsimp only at hSw); go_simp <;> with_reducible rfl)
      try simp only [Act.put, List.getElem_toArray, List.getElem_cons_succ, List.getElem_cons_zero, List.setIfInBounds_toArray, List.set_cons_zero, List.set_cons_succ]
      refine wpAnyH_done (by kernel_rfl) ?_ _
      go_wp2_with fail
      go_ret
      exact ⟨ret_b HR.out.symm, by first | exact HW.out.2.2 | exact HW.out.2.2.drew⟩
    have hge : decide (next ≤ id) = false := decide_eq_false (by omega)
    go_wp2_with fail
    refine wp_region_held_drew (S := (fun W => (W.cell? ⟨w.heap.size, 0, none⟩ = some (.string ⟨t.nm.toArray⟩) ∧ W.cell? ⟨w.heap.size, 1, none⟩ = some (.slice ca t.cols.length cc) ∧ W.cell? ⟨w.heap.size, 2, none⟩ = some (.slice ua t.uq.length uc) ∧ W.cell? ⟨w.heap.size, 3, none⟩ = some (.bool t.rt)) ∧ W.cell? ⟨b, off + k * 2, none⟩ = some (.int .i64 id))) (by kernel_rfl) ?_ (fun hHeld => ?_)
    · (first | exact CX.out _ (Below.refl _ _) | exact CX.out _ (Below.refl _ _).drew | exact CX.out _ BW.out)
    refine wpAnyH_take (i := 0) (v := ?_) rfl (by kernel_rfl) (by kernel_rfl) (by kernel_rfl) (fun _ _ _ h => h) (Or.inl ⟨by kernel_rfl, ?_⟩) (by assumption) ?_
    rotate_left
    · (intro wS hSw; (try dsimp only at hSw); go_simp <;> with_reducible rfl)
    try simp only [Act.put, List.getElem_toArray, List.getElem_cons_succ, List.getElem_cons_zero, List.setIfInBounds_toArray, List.set_cons_zero, List.set_cons_succ]
    refine wpAnyH_take (i := 1) (v := ?_) rfl (by kernel_rfl) (by kernel_rfl) (by kernel_rfl) (fun _ _ _ h => h) (Or.inl ⟨by kernel_rfl, ?_⟩) (by assumption) ?_
    rotate_left
    · (intro wS hSw; (try dsimp only at hSw); go_simp <;> with_reducible rfl)
    try simp only [Act.put, List.getElem_toArray, List.getElem_cons_succ, List.getElem_cons_zero, List.setIfInBounds_toArray, List.set_cons_zero, List.set_cons_succ]
    refine wpAnyH_take (i := 2) (v := ?_) rfl (by kernel_rfl) (by kernel_rfl) (by kernel_rfl) (fun _ _ _ h => h) (Or.inl ⟨by kernel_rfl, ?_⟩) (by assumption) ?_
    rotate_left
    · (intro wS hSw; (try dsimp only at hSw); go_simp <;> with_reducible rfl)
    try simp only [Act.put, List.getElem_toArray, List.getElem_cons_succ, List.getElem_cons_zero, List.setIfInBounds_toArray, List.set_cons_zero, List.set_cons_succ]
    refine wpAnyH_take (i := 3) (v := ?_) rfl (by kernel_rfl) (by kernel_rfl) (by kernel_rfl) (fun _ _ _ h => h) (Or.inl ⟨by kernel_rfl, ?_⟩) (by assumption) ?_
    rotate_left
    · (intro wS hSw; (try dsimp only at hSw); go_simp <;> with_reducible rfl)
    try simp only [Act.put, List.getElem_toArray, List.getElem_cons_succ, List.getElem_cons_zero, List.setIfInBounds_toArray, List.set_cons_zero, List.set_cons_succ]
    refine wpAnyH_take (i := 4) (v := ?_) rfl (by kernel_rfl) (by kernel_rfl) (by kernel_rfl) (fun _ _ _ h => h) (Or.inl ⟨by kernel_rfl, ?_⟩) (by assumption) ?_
    rotate_left
    · (intro wS hSw; (try dsimp only at hSw); go_simp <;> with_reducible rfl)
    try simp only [Act.put, List.getElem_toArray, List.getElem_cons_succ, List.getElem_cons_zero, List.setIfInBounds_toArray, List.set_cons_zero, List.set_cons_succ]
    refine wpAnyH_take (i := 5) (v := ?_) rfl (by kernel_rfl) (by kernel_rfl) (by kernel_rfl) (fun _ _ _ h => h) (Or.inl ⟨by kernel_rfl, ?_⟩) (by assumption) ?_
    rotate_left
    · (intro wS hSw; (try dsimp only at hSw); go_simp <;> with_reducible rfl)
    try simp only [Act.put, List.getElem_toArray, List.getElem_cons_succ, List.getElem_cons_zero, List.setIfInBounds_toArray, List.set_cons_zero, List.set_cons_succ]
    refine wpAnyH_take (i := 6) (v := ?_) rfl (by kernel_rfl) (by kernel_rfl) (by kernel_rfl) (fun _ _ _ h => h) (Or.inl ⟨by kernel_rfl, ?_⟩) (by assumption) ?_
    rotate_left
    · (intro wS hSw; (try dsimp only at hSw); go_simp <;> with_reducible rfl)
    try simp only [Act.put, List.getElem_toArray, List.getElem_cons_succ, List.getElem_cons_zero, List.setIfInBounds_toArray, List.set_cons_zero, List.set_cons_succ]
    refine wpAnyH_take (i := 7) (v := ?_) rfl (by kernel_rfl) (by kernel_rfl) (by kernel_rfl) (fun _ _ _ h => h) (Or.inl ⟨by kernel_rfl, ?_⟩) (by assumption) ?_
    rotate_left
    · (intro wS hSw; (try dsimp only at hSw); go_simp <;> with_reducible rfl)
    try simp only [Act.put, List.getElem_toArray, List.getElem_cons_succ, List.getElem_cons_zero, List.setIfInBounds_toArray, List.set_cons_zero, List.set_cons_succ]
    refine wpAnyH_take (i := 8) (v := ?_) rfl (by kernel_rfl) (by kernel_rfl) (by kernel_rfl) (fun _ _ _ h => h) (Or.inl ⟨by kernel_rfl, ?_⟩) (by assumption) ?_
    rotate_left
    · (intro wS hSw; (try dsimp only at hSw); go_simp <;> with_reducible rfl)
    try simp only [Act.put, List.getElem_toArray, List.getElem_cons_succ, List.getElem_cons_zero, List.setIfInBounds_toArray, List.set_cons_zero, List.set_cons_succ]
    refine wpAnyH_take (i := 9) (v := ?_) rfl (by kernel_rfl) (by kernel_rfl) (by kernel_rfl) (fun _ _ _ h => h) (Or.inl ⟨by kernel_rfl, ?_⟩) (by assumption) ?_
    rotate_left
    · (intro wS hSw; (try dsimp only at hSw); go_simp <;> with_reducible rfl)
    try simp only [Act.put, List.getElem_toArray, List.getElem_cons_succ, List.getElem_cons_zero, List.setIfInBounds_toArray, List.set_cons_zero, List.set_cons_succ]
    refine wpAnyH_take (i := 10) (v := ?_) rfl (by kernel_rfl) (by kernel_rfl) (by kernel_rfl) (fun _ _ _ h => h) (Or.inl ⟨by kernel_rfl, ?_⟩) (by assumption) ?_
    rotate_left
    · (intro wS hSw; (try dsimp only at hSw); go_simp <;> with_reducible rfl)
    try simp only [Act.put, List.getElem_toArray, List.getElem_cons_succ, List.getElem_cons_zero, List.setIfInBounds_toArray, List.set_cons_zero, List.set_cons_succ]
    refine wpAnyH_take (i := 11) (v := ?_) rfl (by kernel_rfl) (by kernel_rfl) (by kernel_rfl) (fun _ _ _ h => h) (Or.inl ⟨by kernel_rfl, ?_⟩) (by assumption) ?_
    rotate_left
    · (intro wS hSw; (try dsimp only at hSw); go_simp <;> with_reducible rfl)
    try simp only [Act.put, List.getElem_toArray, List.getElem_cons_succ, List.getElem_cons_zero, List.setIfInBounds_toArray, List.set_cons_zero, List.set_cons_succ]
    refine wpAnyH_ready (rs := [12]) (by kernel_rfl) (by simp) (AllReadyH.cons rfl (fun K hK => ?_) AllReadyH.nil)
    go_simp
    go_at_call 58
    refine (RF.out _ (Below.refl _ _).drew).mono ?_
    rintro e w2 ⟨rfl, hB2⟩
    have BW : Hid (Below wr.heap.size wr w2) := (Below.refl _ _).drew.trans hB2
    clear hB2
    refine hK.out _ _ ?_ (fun hHeld => ?_)
    · (first | exact CX.out _ (Below.refl _ _) | exact CX.out _ (Below.refl _ _).drew | exact CX.out _ BW.out)
    clear hK K
    try simp only [Act.put, List.getElem_toArray, List.getElem_cons_succ, List.getElem_cons_zero, List.setIfInBounds_toArray, List.set_cons_zero, List.set_cons_succ]
    refine wpAnyH_take (i := 13) (v := ?_) rfl (by kernel_rfl) (by kernel_rfl) (by kernel_rfl) (fun _ _ _ h => h) (Or.inl ⟨by kernel_rfl, ?_⟩) (by assumption) ?_
    rotate_left
    · (intro wS hSw; (try dsimp only at hSw); go_simp <;> with_reducible rfl)
    try simp only [Act.put, List.getElem_toArray, List.getElem_cons_succ, List.getElem_cons_zero, List.setIfInBounds_toArray, List.set_cons_zero, List.set_cons_succ]
    refine wpAnyH_take (i := 14) (v := ?_) rfl (by kernel_rfl) (by kernel_rfl) (by kernel_rfl) (fun _ _ _ h => h) (Or.inl ⟨by kernel_rfl, ?_⟩) (by assumption) ?_
    rotate_left
    · (intro wS hSw; (try dsimp only at hSw); go_simp <;> with_reducible rfl)
    try simp only [Act.put, List.getElem_toArray, List.getElem_cons_succ, List.getElem_cons_zero, List.setIfInBounds_toArray, List.set_cons_zero, List.set_cons_succ]
    refine wpAnyH_done (by kernel_rfl) ?_ _
    have HB2 := Lib.hid (HW.out.2.later BW.out)
    cases he : rowB t id cells
    case false =>
      have HR := Lib.hid (HNO.out (fun h => by rw [he] at h; cases h.2))
      clear HNO HNX RF he hn
      go_wp2_with fail
      go_ret
      exact ⟨ret_b HR.out.symm, HB2.out.2⟩
    have HN := Lib.hid (HNX.out ⟨hn, he⟩)
    clear HNO HNX RF he hn
    go_wp2_with fail
    go_roundw
    case rel => exact ⟨k + 1, by omega, by go_num, HN.out, HB2.out⟩
    case measure => simp [intOf]; omega
set_option maxRecDepth 100000 in
set_option maxHeartbeats 6400000 in
theorem storeFitsI (l : List Tb) (sa : Option Addr) (sc : Nat) (A : Nat → Prop) (x : StV) (xa : Option Addr) (xc : Nat) (B : Nat → Prop) (w : World) (hlo : (dTableS l).le maxLen) (ho : (dRowSS x.tables).le maxLen) (hT : Rd w A (dTableS l) (.slice sa l.length sc)) (hR : Rd w B (dRowSS x.tables) (.slice xa x.tables.length xc)) :
    Calls Try.prog 21 #[.agg #[.slice sa l.length sc], .agg #[.slice xa x.tables.length xc, .int .i64 x.next]] w fun e w' => e = .returned (.bool (schB l && formB l x)) ∧ Below w.heap.size w w' := by
  have HL : Hid (∀ W, Below w.heap.size w W → Rd W B (Ls 1 cRowS x.tables) (.slice xa x.tables.length xc)) := fun W h => Rd.later hR h
  have HT : Hid (∀ W, Below w.heap.size w W → Rd W A (Ls 4 dTable l) (.slice sa l.length sc)) := fun W h => Rd.later hT h
  have HO := Lib.hid (And.intro hlo ho)
  have hll : l.length ≤ maxLen := (Ls_le.1 hlo).2.1
  have hxl : x.tables.length ≤ maxLen := (Ls_le.1 ho).2.1
  unfold maxLen at hll hxl
  have SO : Hid (∀ W, BoxE 34 38 w W #[.slice sa l.length sc] #[.slice xa x.tables.length xc, .int .i64 x.next] → Calls Try.prog 36 #[.agg #[.slice sa l.length sc]] W fun e w' => e = .returned (.bool (schB l)) ∧ BoxE 34 38 w w' #[.slice sa l.length sc] #[.slice xa x.tables.length xc, .int .i64 x.next]) := fun W h => by
    obtain ⟨Ad, hA⟩ := (hT.later h.bel).tabs
    exact (schemaI l sa sc Ad A W (le_tables hlo) hA).mono (fun e w' ⟨he, hB⟩ => ⟨he, h.later hB⟩)
  have hb := boxE 34 38 w #[.slice sa l.length sc] #[.slice xa x.tables.length xc, .int .i64 x.next]
  have x0 := cell_at (o := 0) hb.a rfl
  have y0 := cell_at (o := 0) hb.b rfl
  have y1 := cell_at (o := 1) hb.b rfl
  have HB := Lib.hid hb
  have IO := Lib.hid (fun W => idOKi x.next W)
  have HE : Hid (∀ b, schB l = b → (schB l && formB l x) = (b && formB l x)) := fun b h => by rw [h]
  clear hlo ho hT hR hb
  cases hs : schB l
  case false =>
    have HR := Lib.hid (HE.out _ hs)
    rw [hs] at SO
    clear hs HE
    go_enter Try.func21, Try.ntmps21
    go_wp2_with fail
    refine (SO.out _ HB.out).mono ?_
    rintro e w1 ⟨rfl, hb⟩
    have HB1 := Lib.hid hb.bel
    clear x0 y0 y1 hb
    go_wp2_with fail
    go_ret
    exact ⟨ret_b rfl, HB1.out⟩
  have HR := Lib.hid (HE.out _ hs)
  rw [hs] at SO
  rw [Bool.true_and]
  clear hs HE HR
  by_cases hlen : x.tables.length = l.length
  case neg =>
    have HR : Hid (formB l x = false) := form_no (fun h => hlen h.1)
    have hd : ((x.tables.length : Int) != (l.length : Int)) = true := by simp; omega
    clear hlen
    go_enter Try.func21, Try.ntmps21
    go_wp2_with fail
    refine (SO.out _ HB.out).mono ?_
    rintro e w1 ⟨rfl, hb⟩
    have HB1 := Lib.hid hb.bel
    clear x0 y0 y1
    have x0 := cell_at (o := 0) hb.a rfl
    have y0 := cell_at (o := 0) hb.b rfl
    clear hb
    go_wp2_with fail
    go_ret
    exact ⟨ret_b HR.out.symm, HB1.out⟩
  have HLEN := Lib.hid hlen
  have hd : ((x.tables.length : Int) != (l.length : Int)) = false := by simp; omega
  clear hlen
  cases hi : inB 1 x.next 1000000
  case false =>
    have HR : Hid (formB l x = false) := form_no (fun h => by rw [h.2.1] at hi; cases hi)
    rw [hi] at IO
    clear hi
    go_enter Try.func21, Try.ntmps21
    go_wp2_with fail
    refine (SO.out _ HB.out).mono ?_
    rintro e w1 ⟨rfl, hb⟩
    have HB1 := Lib.hid hb.bel
    clear x0 y0 y1
    have x0 := cell_at (o := 0) hb.a rfl
    have y0 := cell_at (o := 0) hb.b rfl
    have y1 := cell_at (o := 1) hb.b rfl
    clear hb
    go_wp2_with fail
    refine (IO.out _).mono ?_
    rintro e w2 ⟨rfl, rfl⟩
    go_wp2_with fail
    go_ret
    exact ⟨ret_b HR.out.symm, HB1.out⟩
  have HI := Lib.hid hi
  rw [hi] at IO
  clear hi
  go_enter Try.func21, Try.ntmps21
  go_wp2_with fail
  refine (SO.out _ HB.out).mono ?_
  rintro e w1 ⟨rfl, hb⟩
  have HX1 := Lib.hid hb
  clear x0 y0 y1
  have x0 := cell_at (o := 0) hb.a rfl
  have y0 := cell_at (o := 0) hb.b rfl
  have y1 := cell_at (o := 1) hb.b rfl
  clear hb
  go_wp2_with fail
  refine (IO.out _).mono ?_
  rintro e w2 ⟨rfl, rfl⟩
  go_wp2_with fail
  clear x0 y0 y1
  go_loopw [27] (fun i wr => ∃ k : Nat, k ≤ l.length ∧ i = .int .i64 k ∧ Hid ((∀ m (h : m < l.length) (h' : m < x.tables.length), m < k → RowsP l[m] x.tables[m] x.next) ∧ BoxE 34 38 w wr #[.slice sa l.length sc] #[.slice xa x.tables.length xc, .int .i64 x.next])) (fun i _ => l.length - (intOf i).toNat)
  case atStart => exact ⟨0, Nat.zero_le _, rfl, fun m _ _ h => absurd h (by omega), HX1.out⟩
  case round =>
    obtain ⟨k, hk, rfl, HW⟩ := hrel
    by_cases hlt : k < l.length
    case neg =>
      have hki : decide ((k : Int) < (l.length : Int)) = false := by simp; omega
      have HR : Hid (formB l x = true) := form_yes ⟨HLEN.out, HI.out, fun m h h' => HW.out.1 m h h' (by omega)⟩
      go_wp2_with fail
      go_ret
      exact ⟨ret_b HR.out.symm, HW.out.2.bel⟩
    have hlt' : k < x.tables.length := by have := HLEN.out; omega
    have hki : (k : Int) < (l.length : Int) := by omega
    have hkj : (k : Int) < (x.tables.length : Int) := by omega
    obtain ⟨b, off, rfl, -, hc⟩ := (HL.out _ HW.out.2.bel).things k hlt'
    obtain ⟨u0, c0, r0⟩ := hc 0 (by omega)
    replace r0 : Rd wr B (dRowS x.tables[k]) u0 := r0
    obtain ⟨ra, rq, rfl⟩ := r0.lsSlice
    rw [Nat.mul_one, Nat.add_zero] at c0
    obtain ⟨tb, toff, rfl, -, ht⟩ := (HT.out _ HW.out.2.bel).things k hlt
    obtain ⟨t0, d0, e0⟩ := ht 0 (by omega)
    obtain rfl : t0 = .string ⟨l[k].nm.toArray⟩ := e0
    rw [Nat.add_zero] at d0
    obtain ⟨t1, d1, e1⟩ := ht 1 (by omega)
    replace e1 : Rd wr A (dColumnS l[k].cols) t1 := e1
    obtain ⟨ca, cc, rfl⟩ := e1.lsSlice
    obtain ⟨t2, d2, e2⟩ := ht 2 (by omega)
    replace e2 : Rd wr A (dIntS l[k].uq) t2 := e2
    obtain ⟨ua, uc, rfl⟩ := e2.lsSlice
    obtain ⟨t3, d3, e3⟩ := ht 3 (by omega)
    obtain rfl : t3 = .bool l[k].rt := e3
    have HKL := Lib.hid (And.intro ((Ls_le.1 HO.out.2).2.2 k hlt' 0 (by omega)) ((le_tables HO.out.1).2 l[k] (List.getElem_mem hlt)))
    have RF : Hid (∀ W, Below wr.heap.size wr W → Calls Try.prog 38 #[.agg #[.string ⟨l[k].nm.toArray⟩, .slice ca l[k].cols.length cc, .slice ua l[k].uq.length uc, .bool l[k].rt], .slice ra x.tables[k].length rq, .int .i64 x.next] W fun e w' => e = .returned (.bool (rowsB l[k] x.tables[k] x.next)) ∧ Below W.heap.size W w') := fun W h => rowsFitI l[k] ca cc ua uc A x.tables[k] ra rq B x.next W HKL.out.2 HKL.out.1 (Rd.hasT (e1.later h) (e2.later h)) (r0.later h)
    have HNO : Hid (rowsB l[k] x.tables[k] x.next = false → formB l x = false) := fun hn => form_no (fun h => by rw [rows_yes (h.2.2 k hlt hlt')] at hn; cases hn)
    have HNX : Hid (rowsB l[k] x.tables[k] x.next = true → ∀ m (h : m < l.length) (h' : m < x.tables.length), m < k + 1 → RowsP l[m] x.tables[m] x.next) := fun he m h h' hm => by
      by_cases e : m = k
      · subst e; exact rows_of he
      · exact HW.out.1 m h h' (by omega)
    have CX : Hid (∀ W, Below wr.heap.size wr W → (W.cell? ⟨w.heap.size, 0, none⟩ = some (.slice (some ⟨tb, toff, none⟩) l.length sc) ∧ W.cell? ⟨w.heap.size + 1, 0, none⟩ = some (.slice (some ⟨b, off, none⟩) x.tables.length xc) ∧ W.cell? ⟨w.heap.size + 1, 1, none⟩ = some (.int .i64 x.next)) ∧ W.cell? ⟨b, off + k, none⟩ = some (.slice ra x.tables[k].length rq) ∧ W.cell? ⟨tb, toff + k * 4, none⟩ = some (.string ⟨l[k].nm.toArray⟩) ∧ W.cell? ⟨tb, toff + k * 4 + 1, none⟩ = some (.slice ca l[k].cols.length cc) ∧ W.cell? ⟨tb, toff + k * 4 + 2, none⟩ = some (.slice ua l[k].uq.length uc) ∧ W.cell? ⟨tb, toff + k * 4 + 3, none⟩ = some (.bool l[k].rt)) := fun W h => ⟨⟨cell_at (o := 0) (HW.out.2.later h).a rfl, cell_at (o := 0) (HW.out.2.later h).b rfl, cell_at (o := 1) (HW.out.2.later h).b rfl⟩, (h.cell (p := ⟨b, off + k, none⟩) (World.block_lt_of_cell? _ _ c0)).trans c0, (h.cell (p := ⟨tb, toff + k * 4, none⟩) (World.block_lt_of_cell? _ _ d0)).trans d0, (h.cell (p := ⟨tb, toff + k * 4 + 1, none⟩) (World.block_lt_of_cell? _ _ d1)).trans d1, (h.cell (p := ⟨tb, toff + k * 4 + 2, none⟩) (World.block_lt_of_cell? _ _ d2)).trans d2, (h.cell (p := ⟨tb, toff + k * 4 + 3, none⟩) (World.block_lt_of_cell? _ _ d3)).trans d3⟩
    clear hc ht c0 d0 d1 d2 d3 r0 e1 e2
    generalize l[k] = t at *
    generalize x.tables[k] = rows at *
    go_wp2_with fail
    refine wp_region_held_drew (S := (fun W => (W.cell? ⟨w.heap.size, 0, none⟩ = some (.slice (some ⟨tb, toff, none⟩) l.length sc) ∧ W.cell? ⟨w.heap.size + 1, 0, none⟩ = some (.slice (some ⟨b, off, none⟩) x.tables.length xc) ∧ W.cell? ⟨w.heap.size + 1, 1, none⟩ = some (.int .i64 x.next)) ∧ W.cell? ⟨b, off + k, none⟩ = some (.slice ra rows.length rq) ∧ W.cell? ⟨tb, toff + k * 4, none⟩ = some (.string ⟨t.nm.toArray⟩) ∧ W.cell? ⟨tb, toff + k * 4 + 1, none⟩ = some (.slice ca t.cols.length cc) ∧ W.cell? ⟨tb, toff + k * 4 + 2, none⟩ = some (.slice ua t.uq.length uc) ∧ W.cell? ⟨tb, toff + k * 4 + 3, none⟩ = some (.bool t.rt))) (by kernel_rfl) ?_ (fun hHeld => ?_)
    · (first | exact CX.out _ (Below.refl _ _) | exact CX.out _ (Below.refl _ _).drew | exact CX.out _ BW.out)
    refine wpAnyH_take (i := 0) (v := ?_) rfl (by kernel_rfl) (by kernel_rfl) (by kernel_rfl) (fun _ _ _ h => h) (Or.inl ⟨by kernel_rfl, ?_⟩) (by assumption) ?_
    rotate_left
    · (intro wS hSw; (try dsimp only at hSw); go_simp <;> with_reducible rfl)
    try simp only [Act.put, List.getElem_toArray, List.getElem_cons_succ, List.getElem_cons_zero, List.setIfInBounds_toArray, List.set_cons_zero, List.set_cons_succ]
    refine wpAnyH_take (i := 1) (v := ?_) rfl (by kernel_rfl) (by kernel_rfl) (by kernel_rfl) (fun _ _ _ h => h) (Or.inl ⟨by kernel_rfl, ?_⟩) (by assumption) ?_
    rotate_left
    · (intro wS hSw; (try dsimp only at hSw); go_simp <;> with_reducible rfl)
    try simp only [Act.put, List.getElem_toArray, List.getElem_cons_succ, List.getElem_cons_zero, List.setIfInBounds_toArray, List.set_cons_zero, List.set_cons_succ]
    refine wpAnyH_take (i := 2) (v := ?_) rfl (by kernel_rfl) (by kernel_rfl) (by kernel_rfl) (fun _ _ _ h => h) (Or.inl ⟨by kernel_rfl, ?_⟩) (by assumption) ?_
    rotate_left
    · (intro wS hSw; (try dsimp only at hSw); go_simp <;> with_reducible rfl)
    try simp only [Act.put, List.getElem_toArray, List.getElem_cons_succ, List.getElem_cons_zero, List.setIfInBounds_toArray, List.set_cons_zero, List.set_cons_succ]
    refine wpAnyH_take (i := 3) (v := ?_) rfl (by kernel_rfl) (by kernel_rfl) (by kernel_rfl) (fun _ _ _ h => h) (Or.inl ⟨by kernel_rfl, ?_⟩) (by assumption) ?_
    rotate_left
    · (intro wS hSw; (try dsimp only at hSw); go_simp <;> with_reducible rfl)
    try simp only [Act.put, List.getElem_toArray, List.getElem_cons_succ, List.getElem_cons_zero, List.setIfInBounds_toArray, List.set_cons_zero, List.set_cons_succ]
    refine wpAnyH_take (i := 4) (v := ?_) rfl (by kernel_rfl) (by kernel_rfl) (by kernel_rfl) (fun _ _ _ h => h) (Or.inl ⟨by kernel_rfl, ?_⟩) (by assumption) ?_
    rotate_left
    · (intro wS hSw; (try dsimp only at hSw); go_simp <;> with_reducible rfl)
    try simp only [Act.put, List.getElem_toArray, List.getElem_cons_succ, List.getElem_cons_zero, List.setIfInBounds_toArray, List.set_cons_zero, List.set_cons_succ]
    refine wpAnyH_take (i := 5) (v := ?_) rfl (by kernel_rfl) (by kernel_rfl) (by kernel_rfl) (fun _ _ _ h => h) (Or.inl ⟨by kernel_rfl, ?_⟩) (by assumption) ?_
    rotate_left
    · (intro wS hSw; (try dsimp only at hSw); go_simp <;> with_reducible rfl)
    try simp only [Act.put, List.getElem_toArray, List.getElem_cons_succ, List.getElem_cons_zero, List.setIfInBounds_toArray, List.set_cons_zero, List.set_cons_succ]
    refine wpAnyH_take (i := 6) (v := ?_) rfl (by kernel_rfl) (by kernel_rfl) (by kernel_rfl) (fun _ _ _ h => h) (Or.inl ⟨by kernel_rfl, ?_⟩) (by assumption) ?_
    rotate_left
    · (intro wS hSw; (try dsimp only at hSw); go_simp <;> with_reducible rfl)
    try simp only [Act.put, List.getElem_toArray, List.getElem_cons_succ, List.getElem_cons_zero, List.setIfInBounds_toArray, List.set_cons_zero, List.set_cons_succ]
    refine wpAnyH_take (i := 7) (v := ?_) rfl (by kernel_rfl) (by kernel_rfl) (by kernel_rfl) (fun _ _ _ h => h) (Or.inl ⟨by kernel_rfl, ?_⟩) (by assumption) ?_
    rotate_left
    · (intro wS hSw; (try dsimp only at hSw); go_simp <;> with_reducible rfl)
    try simp only [Act.put, List.getElem_toArray, List.getElem_cons_succ, List.getElem_cons_zero, List.setIfInBounds_toArray, List.set_cons_zero, List.set_cons_succ]
    refine wpAnyH_take (i := 8) (v := ?_) rfl (by kernel_rfl) (by kernel_rfl) (by kernel_rfl) (fun _ _ _ h => h) (Or.inl ⟨by kernel_rfl, ?_⟩) (by assumption) ?_
    rotate_left
    · (intro wS hSw; (try dsimp only at hSw); go_simp <;> with_reducible rfl)
    try simp only [Act.put, List.getElem_toArray, List.getElem_cons_succ, List.getElem_cons_zero, List.setIfInBounds_toArray, List.set_cons_zero, List.set_cons_succ]
    refine wpAnyH_take (i := 9) (v := ?_) rfl (by kernel_rfl) (by kernel_rfl) (by kernel_rfl) (fun _ _ _ h => h) (Or.inl ⟨by kernel_rfl, ?_⟩) (by assumption) ?_
    rotate_left
    · (intro wS hSw; (try dsimp only at hSw); go_simp <;> with_reducible rfl)
    try simp only [Act.put, List.getElem_toArray, List.getElem_cons_succ, List.getElem_cons_zero, List.setIfInBounds_toArray, List.set_cons_zero, List.set_cons_succ]
    refine wpAnyH_take (i := 10) (v := ?_) rfl (by kernel_rfl) (by kernel_rfl) (by kernel_rfl) (fun _ _ _ h => h) (Or.inl ⟨by kernel_rfl, ?_⟩) (by assumption) ?_
    rotate_left
    · (intro wS hSw; (try dsimp only at hSw); go_simp <;> with_reducible rfl)
    try simp only [Act.put, List.getElem_toArray, List.getElem_cons_succ, List.getElem_cons_zero, List.setIfInBounds_toArray, List.set_cons_zero, List.set_cons_succ]
    refine wpAnyH_take (i := 11) (v := ?_) rfl (by kernel_rfl) (by kernel_rfl) (by kernel_rfl) (fun _ _ _ h => h) (Or.inl ⟨by kernel_rfl, ?_⟩) (by assumption) ?_
    rotate_left
    · (intro wS hSw; (try dsimp only at hSw); go_simp <;> with_reducible rfl)
    try simp only [Act.put, List.getElem_toArray, List.getElem_cons_succ, List.getElem_cons_zero, List.setIfInBounds_toArray, List.set_cons_zero, List.set_cons_succ]
    refine wpAnyH_ready (rs := [12]) (by kernel_rfl) (by simp) (AllReadyH.cons rfl (fun K hK => ?_) AllReadyH.nil)
    go_simp
    go_at_call 38
    refine (RF.out _ (Below.refl _ _).drew).mono ?_
    rintro e w3 ⟨rfl, hB3⟩
    have BW : Hid (Below wr.heap.size wr w3) := (Below.refl _ _).drew.trans hB3
    clear hB3
    refine hK.out _ _ ?_ (fun hHeld => ?_)
    · (first | exact CX.out _ (Below.refl _ _) | exact CX.out _ (Below.refl _ _).drew | exact CX.out _ BW.out)
    clear hK K
    try simp only [Act.put, List.getElem_toArray, List.getElem_cons_succ, List.getElem_cons_zero, List.setIfInBounds_toArray, List.set_cons_zero, List.set_cons_succ]
    refine wpAnyH_take (i := 13) (v := ?_) rfl (by kernel_rfl) (by kernel_rfl) (by kernel_rfl) (fun _ _ _ h => h) (Or.inl ⟨by kernel_rfl, ?_⟩) (by assumption) ?_
    rotate_left
    · (intro wS hSw; (try dsimp only at hSw); go_simp <;> with_reducible rfl)
    try simp only [Act.put, List.getElem_toArray, List.getElem_cons_succ, List.getElem_cons_zero, List.setIfInBounds_toArray, List.set_cons_zero, List.set_cons_succ]
    refine wpAnyH_done (by kernel_rfl) ?_ _
    have HB3 := Lib.hid (HW.out.2.later BW.out)
    cases he : rowsB t rows x.next
    case false =>
      have HR := Lib.hid (HNO.out he)
      clear HNO HNX RF he
      go_wp2_with fail
      go_ret
      exact ⟨ret_b HR.out.symm, HB3.out.bel⟩
    have HN := Lib.hid (HNX.out he)
    clear HNO HNX RF he
    go_wp2_with fail
    go_roundw
    case rel => exact ⟨k + 1, by omega, by go_num, HN.out, HB3.out⟩
    case measure => simp [intOf]; omega
end Go.Proofs.Ytlkkmafnjdbofaa
namespace Go.Proofs.Ytlkkmafnjdbofaa
open Go.RowKit
set_option linter.unusedSimpArgs false
/-- a row's place among those ahead of it -/
def goodR (t : Tb) (rows : List RowV) (next : Int) (k : Nat) (h : k < rows.length) : Prop := rowB t rows[k].id rows[k].cells = true ∧ rows[k].id < next ∧ ∀ j (hj : j + 1 = k), (rows[j]'(by omega)).id < rows[k].id
theorem rows_good {t : Tb} {rows : List RowV} {next : Int} (h12 : rows.length ≤ 12) (h : ∀ k (hk : k < rows.length), goodR t rows next k hk) : RowsP t rows next :=
  ⟨h12, fun i hi => (h (i + 1) hi).2.2 i rfl, fun i hi => ⟨(h i hi).2.1, (h i hi).1⟩⟩
theorem good_rows {t : Tb} {rows : List RowV} {next : Int} (h : RowsP t rows next) : ∀ k (hk : k < rows.length), goodR t rows next k hk := fun k hk =>
  ⟨(h.2.2 k hk).2, (h.2.2 k hk).1, fun j hj => by subst hj; exact h.2.1 j hk⟩
set_option maxRecDepth 100000 in
set_option maxHeartbeats 12800000 in
theorem formS (l : List Tb) (sa : Option Addr) (sc : Nat) (A : Nat → Prop) (x : StV) (xa : Option Addr) (xc : Nat) (B : Nat → Prop) (w : World) (hlo : (dTableS l).le maxLen) (ho : (dRowSS x.tables).le maxLen) (hT : Rd w A (dTableS l) (.slice sa l.length sc)) (hR : Rd w B (dRowSS x.tables) (.slice xa x.tables.length xc)) :
    Calls Try.prog 15 #[.agg #[.slice sa l.length sc], .agg #[.slice xa x.tables.length xc, .int .i64 x.next]] w fun e w' => e = .returned (.bool (formB l x)) ∧ Below w.heap.size w w' := by
  have HL : Hid (∀ W, Below w.heap.size w W → Rd W B (Ls 1 cRowS x.tables) (.slice xa x.tables.length xc)) := fun W h => Rd.later hR h
  have HT : Hid (∀ W, Below w.heap.size w W → Rd W A (Ls 4 dTable l) (.slice sa l.length sc)) := fun W h => Rd.later hT h
  have HO := Lib.hid (And.intro hlo ho)
  have hll : l.length ≤ maxLen := (Ls_le.1 hlo).2.1
  have hxl : x.tables.length ≤ maxLen := (Ls_le.1 ho).2.1
  unfold maxLen at hll hxl
  have hb := boxE 34 38 w #[.slice sa l.length sc] #[.slice xa x.tables.length xc, .int .i64 x.next]
  have x0 := cell_at (o := 0) hb.a rfl
  have y0 := cell_at (o := 0) hb.b rfl
  have y1 := cell_at (o := 1) hb.b rfl
  have HB := Lib.hid hb
  have IO := Lib.hid (fun W => inS x.next 1 1000000 W)
  clear hlo ho hT hR hb
  by_cases hlen : x.tables.length = l.length
  case neg =>
    have HR : Hid (formB l x = false) := form_no (fun h => hlen h.1)
    have hd : ((x.tables.length : Int) != (l.length : Int)) = true := by simp; omega
    clear hlen
    go_enter Try.func15, Try.ntmps15
    go_wp2_with fail
    go_ret
    exact ⟨ret_b HR.out.symm, HB.out.bel⟩
  have HLEN := Lib.hid hlen
  have hd : ((x.tables.length : Int) != (l.length : Int)) = false := by simp; omega
  clear hlen
  cases hi : inB 1 x.next 1000000
  case false =>
    have HR : Hid (formB l x = false) := form_no (fun h => by rw [h.2.1] at hi; cases hi)
    rw [hi] at IO
    clear hi
    go_enter Try.func15, Try.ntmps15
    go_wp2_with fail
    refine (IO.out _).mono ?_
    rintro e w2 ⟨rfl, rfl⟩
    go_wp2_with fail
    go_ret
    exact ⟨ret_b HR.out.symm, HB.out.bel⟩
  have HI := Lib.hid hi
  rw [hi] at IO
  clear hi
  go_enter Try.func15, Try.ntmps15
  go_wp2_with fail
  refine (IO.out _).mono ?_
  rintro e w2 ⟨rfl, rfl⟩
  go_wp2_with fail
  clear x0 y0 y1
  go_loopw [5] (fun i wr => ∃ k : Nat, k ≤ x.tables.length ∧ i = .int .i64 k ∧ Hid ((∀ m (h : m < l.length) (h' : m < x.tables.length), m < k → RowsP l[m] x.tables[m] x.next) ∧ BoxE 34 38 w wr #[.slice sa l.length sc] #[.slice xa x.tables.length xc, .int .i64 x.next])) (fun i _ => x.tables.length - (intOf i).toNat)
  case atStart => exact ⟨0, Nat.zero_le _, rfl, fun m _ _ h => absurd h (by omega), HB.out⟩
  case round =>
    obtain ⟨k, hk, rfl, HW⟩ := hrel
    have y0 := cell_at (o := 0) HW.out.2.b rfl
    by_cases hlt' : k < x.tables.length
    case neg =>
      have hki : decide ((k : Int) < (x.tables.length : Int)) = false := by simp; omega
      have HR : Hid (formB l x = true) := form_yes ⟨HLEN.out, HI.out, fun m h h' => HW.out.1 m h h' (by omega)⟩
      go_wp2_with fail
      go_ret
      exact ⟨ret_b HR.out.symm, HW.out.2.bel⟩
    have hlt : k < l.length := by have := HLEN.out; omega
    have hki : (k : Int) < (l.length : Int) := by omega
    have hkj : (k : Int) < (x.tables.length : Int) := by omega
    generalize wr = wo at *
    obtain ⟨b, off, rfl, -, hc⟩ := (HL.out _ HW.out.2.bel).things k hlt'
    obtain ⟨u0, c0, r0⟩ := hc 0 (by omega)
    replace r0 : Rd wo B (dRowS x.tables[k]) u0 := r0
    obtain ⟨ra, rq, rfl⟩ := r0.lsSlice
    rw [Nat.mul_one, Nat.add_zero] at c0
    obtain ⟨tb, toff, rfl, -, ht⟩ := (HT.out _ HW.out.2.bel).things k hlt
    obtain ⟨t0, d0, e0⟩ := ht 0 (by omega)
    obtain rfl : t0 = .string ⟨l[k].nm.toArray⟩ := e0
    rw [Nat.add_zero] at d0
    obtain ⟨t1, d1, e1⟩ := ht 1 (by omega)
    replace e1 : Rd wo A (dColumnS l[k].cols) t1 := e1
    obtain ⟨ca, cc, rfl⟩ := e1.lsSlice
    obtain ⟨t2, d2, e2⟩ := ht 2 (by omega)
    replace e2 : Rd wo A (dIntS l[k].uq) t2 := e2
    obtain ⟨ua, uc, rfl⟩ := e2.lsSlice
    obtain ⟨t3, d3, e3⟩ := ht 3 (by omega)
    obtain rfl : t3 = .bool l[k].rt := e3
    have HKL := Lib.hid (And.intro ((Ls_le.1 HO.out.2).2.2 k hlt' 0 (by omega)) ((le_tables HO.out.1).2 l[k] (List.getElem_mem hlt)))
    have HTT : Hid (∀ W, Below wo.heap.size wo W → l[k].Has W A ca ua) := fun W h => Rd.hasT (e1.later h) (e2.later h)
    have HRR : Hid (∀ W, Below wo.heap.size wo W → Rd W B (Ls 2 dRow x.tables[k]) (.slice ra x.tables[k].length rq)) := fun W h => Rd.later r0 h
    have HNO : Hid (¬ RowsP l[k] x.tables[k] x.next → formB l x = false) := fun hn => form_no (fun h => hn (h.2.2 k hlt hlt'))
    have HNX : Hid (RowsP l[k] x.tables[k] x.next → ∀ m (h : m < l.length) (h' : m < x.tables.length), m < k + 1 → RowsP l[m] x.tables[m] x.next) := fun he m h h' hm => by
      by_cases e : m = k
      · subst e; exact he
      · exact HW.out.1 m h h' (by omega)
    have CX : Hid (∀ W, Below wo.heap.size wo W → (W.cell? ⟨w.heap.size, 0, none⟩ = some (.slice (some ⟨tb, toff, none⟩) l.length sc) ∧ W.cell? ⟨w.heap.size + 1, 0, none⟩ = some (.slice (some ⟨b, off, none⟩) x.tables.length xc) ∧ W.cell? ⟨w.heap.size + 1, 1, none⟩ = some (.int .i64 x.next)) ∧ W.cell? ⟨b, off + k, none⟩ = some (.slice ra x.tables[k].length rq) ∧ W.cell? ⟨tb, toff + k * 4, none⟩ = some (.string ⟨l[k].nm.toArray⟩) ∧ W.cell? ⟨tb, toff + k * 4 + 1, none⟩ = some (.slice ca l[k].cols.length cc) ∧ W.cell? ⟨tb, toff + k * 4 + 2, none⟩ = some (.slice ua l[k].uq.length uc) ∧ W.cell? ⟨tb, toff + k * 4 + 3, none⟩ = some (.bool l[k].rt)) := fun W h => ⟨⟨cell_at (o := 0) (HW.out.2.later h).a rfl, cell_at (o := 0) (HW.out.2.later h).b rfl, cell_at (o := 1) (HW.out.2.later h).b rfl⟩, (h.cell (p := ⟨b, off + k, none⟩) (World.block_lt_of_cell? _ _ c0)).trans c0, (h.cell (p := ⟨tb, toff + k * 4, none⟩) (World.block_lt_of_cell? _ _ d0)).trans d0, (h.cell (p := ⟨tb, toff + k * 4 + 1, none⟩) (World.block_lt_of_cell? _ _ d1)).trans d1, (h.cell (p := ⟨tb, toff + k * 4 + 2, none⟩) (World.block_lt_of_cell? _ _ d2)).trans d2, (h.cell (p := ⟨tb, toff + k * 4 + 3, none⟩) (World.block_lt_of_cell? _ _ d3)).trans d3⟩
    clear hc ht d0 d1 d2 d3 r0 e1 e2
    generalize l[k] = t at *
    generalize x.tables[k] = rows at *
    by_cases h12 : 12 < rows.length
    case pos =>
      have HR := Lib.hid (HNO.out (fun h => by have := h.1; omega))
      have hd12 : decide (12 < (rows.length : Int)) = true := decide_eq_true (by omega)
      clear h12 HNO HNX
      go_wp2_with fail
      go_ret
      exact ⟨ret_b HR.out.symm, HW.out.2.bel⟩
    have hd12 : decide (12 < (rows.length : Int)) = false := decide_eq_false (by omega)
    have hr12 : rows.length ≤ 12 := by omega
    clear h12
    go_wp2_with fail
    clear y0 c0
    go_loopw [6] (fun i wr => ∃ m : Nat, m ≤ rows.length ∧ i = .int .i64 m ∧ Hid ((∀ j (h : j < rows.length), j < m → goodR t rows x.next j h) ∧ Below wo.heap.size wo wr)) (fun i _ => rows.length - (intOf i).toNat)
    case atStart => exact ⟨0, Nat.zero_le _, rfl, fun m _ h => absurd h (by omega), Below.refl _ _⟩
    case round =>
      obtain ⟨m, hm, rfl, HV⟩ := hrel
      have y0 := (CX.out _ HV.out.2).1.2.1
      have y2 := (CX.out _ HV.out.2).2.1
      by_cases hlt2 : m < rows.length
      case neg =>
        have hmi : decide ((m : Int) < (rows.length : Int)) = false := by simp; omega
        have HN := Lib.hid (HNX.out (rows_good hr12 (fun j h => HV.out.1 j h (by omega))))
        have HBN := Lib.hid (HW.out.2.later HV.out.2)
        clear HNO HNX
        go_wp2_with fail
        go_roundw
        case rel => exact ⟨k + 1, by omega, by go_num, HN.out, HBN.out⟩
        case measure => simp [intOf]; omega
      have hmi : (m : Int) < (rows.length : Int) := by omega
      obtain ⟨rb, roff, rfl, -, hc⟩ := (HRR.out _ HV.out.2).things m hlt2
      obtain ⟨v0, i0, j0⟩ := hc 0 (by omega)
      obtain rfl : v0 = .int .i64 rows[m].id := j0
      rw [Nat.add_zero] at i0
      obtain ⟨v1, i1, j1⟩ := hc 1 (by omega)
      replace j1 : Rd wr B (dAtomSS rows[m].cells) v1 := j1
      obtain ⟨va, vq, rfl⟩ := j1.lsSlice
      have HSO := Lib.hid (le_sets ((Ls_le.1 HKL.out.1).2.2 m hlt2 1 (by omega)))
      have RF : Hid (∀ W, Below wr.heap.size wr W → Calls Try.prog 31 #[.agg #[.string ⟨t.nm.toArray⟩, .slice ca t.cols.length cc, .slice ua t.uq.length uc, .bool t.rt], .agg #[.int .i64 rows[m].id, .slice va rows[m].cells.length vq]] W fun e w' => e = .returned (.bool (rowB t rows[m].id rows[m].cells)) ∧ Below W.heap.size W w') := fun W h => by
        obtain ⟨X, hX⟩ := (j1.later h).lt.sets
        exact rowS t ca cc ua uc rows[m].id rows[m].cells va vq X A W.heap.size W HKL.out.2 HSO.out (HTT.out W (HV.out.2.trans (h.mono HV.out.2.size))) (Nat.le_refl _) hX
      have HPRE : Hid (∀ W, Below wo.heap.size wo W → ∀ j (h : j < rows.length), W.cell? ⟨rb, roff + j * 2, none⟩ = some (.int .i64 rows[j].id)) := fun W h j hj => by
        obtain ⟨z0, k0, g0⟩ := (HRR.out _ h).spotT hj (j := 0) (by omega)
        obtain rfl : z0 = .int .i64 rows[j].id := g0
        rw [Nat.add_zero] at k0
        exact k0
      have HBAD : Hid (¬ goodR t rows x.next m hlt2 → formB l x = false) := fun hn => HNO.out (fun h => hn (good_rows h m hlt2))
      have HNXT : Hid (goodR t rows x.next m hlt2 → ∀ j (h : j < rows.length), j < m + 1 → goodR t rows x.next j h) := fun he j h hj => by
        by_cases e : j = m
        · subst e; exact he
        · exact HV.out.1 j h (by omega)
      have HGD : Hid (goodR t rows x.next m hlt2 ↔ rowB t rows[m].id rows[m].cells = true ∧ rows[m].id < x.next ∧ ∀ j (hj : j + 1 = m), (rows[j]'(by omega)).id < rows[m].id) := Iff.rfl
      clear hc j1
      generalize hid : rows[m].id = id at *
      generalize hcl : rows[m].cells = cells at *
      clear hid hcl
      have NB : Hid (∀ W, Below (wr.alloc (.cells #[.int .i64 id, .slice va cells.length vq] 76)).heap.size (wr.alloc (.cells #[.int .i64 id, .slice va cells.length vq] 76)) W → ((W.cell? ⟨w.heap.size, 0, none⟩ = some (.slice (some ⟨tb, toff, none⟩) l.length sc) ∧ W.cell? ⟨w.heap.size + 1, 0, none⟩ = some (.slice (some ⟨b, off, none⟩) x.tables.length xc) ∧ W.cell? ⟨w.heap.size + 1, 1, none⟩ = some (.int .i64 x.next)) ∧ W.cell? ⟨b, off + k, none⟩ = some (.slice (some ⟨rb, roff, none⟩) rows.length rq) ∧ W.cell? ⟨tb, toff + k * 4, none⟩ = some (.string ⟨t.nm.toArray⟩) ∧ W.cell? ⟨tb, toff + k * 4 + 1, none⟩ = some (.slice ca t.cols.length cc) ∧ W.cell? ⟨tb, toff + k * 4 + 2, none⟩ = some (.slice ua t.uq.length uc) ∧ W.cell? ⟨tb, toff + k * 4 + 3, none⟩ = some (.bool t.rt)) ∧ W.cell? ⟨wr.heap.size, 0, none⟩ = some (.int .i64 id) ∧ W.cell? ⟨wr.heap.size, 1, none⟩ = some (.slice va cells.length vq)) := fun W h => ⟨CX.out W ((HV.out.2.trans ((below_allocD _ _).mono HV.out.2.size)).trans (h.mono (HV.out.2.trans ((below_allocD _ _).mono HV.out.2.size)).size)), cell_at (o := 0) (heap_keptD (heap_newD _ _) h) rfl, cell_at (o := 1) (heap_keptD (heap_newD _ _) h) rfl⟩
      have HBN : Hid (∀ W, Below (wr.alloc (.cells #[.int .i64 id, .slice va cells.length vq] 76)).heap.size (wr.alloc (.cells #[.int .i64 id, .slice va cells.length vq] 76)) W → Below wo.heap.size wo W) := fun W h => (HV.out.2.trans ((below_allocD _ _).mono HV.out.2.size)).trans (h.mono (HV.out.2.trans ((below_allocD _ _).mono HV.out.2.size)).size)
      cases hr : rowB t id cells
      case false =>
        have HR := Lib.hid (HBAD.out (fun h => by have := (HGD.out.1 h).1; rw [hr] at this; cases this))
        rw [hr] at RF
        clear hr HBAD HNXT HGD HNO HNX
        go_wp2_with fail
        refine wp_region_held_drew (S := (fun W => ((W.cell? ⟨w.heap.size, 0, none⟩ = some (.slice (some ⟨tb, toff, none⟩) l.length sc) ∧ W.cell? ⟨w.heap.size + 1, 0, none⟩ = some (.slice (some ⟨b, off, none⟩) x.tables.length xc) ∧ W.cell? ⟨w.heap.size + 1, 1, none⟩ = some (.int .i64 x.next)) ∧ W.cell? ⟨b, off + k, none⟩ = some (.slice (some ⟨rb, roff, none⟩) rows.length rq) ∧ W.cell? ⟨tb, toff + k * 4, none⟩ = some (.string ⟨t.nm.toArray⟩) ∧ W.cell? ⟨tb, toff + k * 4 + 1, none⟩ = some (.slice ca t.cols.length cc) ∧ W.cell? ⟨tb, toff + k * 4 + 2, none⟩ = some (.slice ua t.uq.length uc) ∧ W.cell? ⟨tb, toff + k * 4 + 3, none⟩ = some (.bool t.rt)) ∧ W.cell? ⟨wr.heap.size, 0, none⟩ = some (.int .i64 id) ∧ W.cell? ⟨wr.heap.size, 1, none⟩ = some (.slice va cells.length vq))) (by kernel_rfl) ?_ (fun hHeld => ?_)
        · (first | exact NB.out _ (Below.refl _ _) | exact NB.out _ (Below.refl _ _).drew | exact NB.out _ BW.out)
        refine wpAnyH_take (i := 0) (v := ?_) rfl (by kernel_rfl) (by kernel_rfl) (by kernel_rfl) (fun _ _ _ h => h) (Or.inl ⟨by kernel_rfl, ?_⟩) (by assumption) ?_
        rotate_left
        · (intro wS hSw; (try dsimp only at hSw); go_simp <;> with_reducible rfl)
        try simp only [Act.put, List.getElem_toArray, List.getElem_cons_succ, List.getElem_cons_zero, List.setIfInBounds_toArray, List.set_cons_zero, List.set_cons_succ]
        refine wpAnyH_take (i := 1) (v := ?_) rfl (by kernel_rfl) (by kernel_rfl) (by kernel_rfl) (fun _ _ _ h => h) (Or.inl ⟨by kernel_rfl, ?_⟩) (by assumption) ?_
        rotate_left
        · (intro wS hSw; (try dsimp only at hSw); go_simp <;> with_reducible rfl)
        try simp only [Act.put, List.getElem_toArray, List.getElem_cons_succ, List.getElem_cons_zero, List.setIfInBounds_toArray, List.set_cons_zero, List.set_cons_succ]
        refine wpAnyH_take (i := 2) (v := ?_) rfl (by kernel_rfl) (by kernel_rfl) (by kernel_rfl) (fun _ _ _ h => h) (Or.inl ⟨by kernel_rfl, ?_⟩) (by assumption) ?_
        rotate_left
        · (intro wS hSw; (try dsimp only at hSw); go_simp <;> with_reducible rfl)
        try simp only [Act.put, List.getElem_toArray, List.getElem_cons_succ, List.getElem_cons_zero, List.setIfInBounds_toArray, List.set_cons_zero, List.set_cons_succ]
        refine wpAnyH_take (i := 3) (v := ?_) rfl (by kernel_rfl) (by kernel_rfl) (by kernel_rfl) (fun _ _ _ h => h) (Or.inl ⟨by kernel_rfl, ?_⟩) (by assumption) ?_
        rotate_left
        · (intro wS hSw; (try dsimp only at hSw); go_simp <;> with_reducible rfl)
        try simp only [Act.put, List.getElem_toArray, List.getElem_cons_succ, List.getElem_cons_zero, List.setIfInBounds_toArray, List.set_cons_zero, List.set_cons_succ]
        refine wpAnyH_take (i := 4) (v := ?_) rfl (by kernel_rfl) (by kernel_rfl) (by kernel_rfl) (fun _ _ _ h => h) (Or.inl ⟨by kernel_rfl, ?_⟩) (by assumption) ?_
        rotate_left
        · (intro wS hSw; (try dsimp only at hSw); go_simp <;> with_reducible rfl)
        try simp only [Act.put, List.getElem_toArray, List.getElem_cons_succ, List.getElem_cons_zero, List.setIfInBounds_toArray, List.set_cons_zero, List.set_cons_succ]
        refine wpAnyH_take (i := 5) (v := ?_) rfl (by kernel_rfl) (by kernel_rfl) (by kernel_rfl) (fun _ _ _ h => h) (Or.inl ⟨by kernel_rfl, ?_⟩) (by assumption) ?_
        rotate_left
        · (intro wS hSw; (try dsimp only at hSw); go_simp <;> with_reducible rfl)
        try simp only [Act.put, List.getElem_toArray, List.getElem_cons_succ, List.getElem_cons_zero, List.setIfInBounds_toArray, List.set_cons_zero, List.set_cons_succ]
        refine wpAnyH_ready (rs := [6]) (by kernel_rfl) (by simp) (AllReadyH.cons rfl (fun K hK => ?_) AllReadyH.nil)
        go_simp
        go_at_call 31
        refine (RF.out _ ((below_allocD _ _).drew)).mono ?_
        rintro e w3 ⟨rfl, hB3⟩
        have BW : Hid (Below (wr.alloc (.cells #[.int .i64 id, .slice va cells.length vq] 76)).heap.size (wr.alloc (.cells #[.int .i64 id, .slice va cells.length vq] 76)) w3) := (Below.refl _ _).drew.trans hB3
        clear hB3
        refine hK.out _ _ ?_ (fun hHeld => ?_)
        · (first | exact NB.out _ (Below.refl _ _) | exact NB.out _ (Below.refl _ _).drew | exact NB.out _ BW.out)
        clear hK K
        try simp only [Act.put, List.getElem_toArray, List.getElem_cons_succ, List.getElem_cons_zero, List.setIfInBounds_toArray, List.set_cons_zero, List.set_cons_succ]
        refine wpAnyH_take (i := 7) (v := ?_) rfl (by kernel_rfl) (by kernel_rfl) (by kernel_rfl) (fun _ _ _ h => h) (Or.inl ⟨by kernel_rfl, ?_⟩) (by assumption) ?_
        rotate_left
        · (intro wS hSw; (try dsimp only at hSw); go_simp <;> with_reducible rfl)
        try simp only [Act.put, List.getElem_toArray, List.getElem_cons_succ, List.getElem_cons_zero, List.setIfInBounds_toArray, List.set_cons_zero, List.set_cons_succ]
        refine wpAnyH_take (i := 8) (v := ?_) rfl (by kernel_rfl) (by kernel_rfl) (by kernel_rfl) (fun _ _ _ h => h) (Or.inl ⟨by kernel_rfl, ?_⟩) (by assumption) ?_
        rotate_left
        · (intro wS hSw; (try dsimp only at hSw); go_simp <;> with_reducible rfl)
        try simp only [Act.put, List.getElem_toArray, List.getElem_cons_succ, List.getElem_cons_zero, List.setIfInBounds_toArray, List.set_cons_zero, List.set_cons_succ]
        refine wpAnyH_take (i := 9) (v := undef) rfl (by kernel_rfl) (by kernel_rfl) (by kernel_rfl) (fun _ _ _ h => h) (Or.inr ⟨by kernel_rfl, rfl⟩) (by assumption) ?_
        try simp only [Act.put, List.getElem_toArray, List.getElem_cons_succ, List.getElem_cons_zero, List.setIfInBounds_toArray, List.set_cons_zero, List.set_cons_succ]
        refine wpAnyH_take (i := 10) (v := undef) rfl (by kernel_rfl) (by kernel_rfl) (by kernel_rfl) (fun _ _ _ h => h) (Or.inr ⟨by kernel_rfl, rfl⟩) (by assumption) ?_
        try simp only [Act.put, List.getElem_toArray, List.getElem_cons_succ, List.getElem_cons_zero, List.setIfInBounds_toArray, List.set_cons_zero, List.set_cons_succ]
        refine wpAnyH_take (i := 11) (v := undef) rfl (by kernel_rfl) (by kernel_rfl) (by kernel_rfl) (fun _ _ _ h => h) (Or.inr ⟨by kernel_rfl, rfl⟩) (by assumption) ?_
        try simp only [Act.put, List.getElem_toArray, List.getElem_cons_succ, List.getElem_cons_zero, List.setIfInBounds_toArray, List.set_cons_zero, List.set_cons_succ]
        refine wpAnyH_take (i := 12) (v := undef) rfl (by kernel_rfl) (by kernel_rfl) (by kernel_rfl) (fun _ _ _ h => h) (Or.inr ⟨by kernel_rfl, rfl⟩) (by assumption) ?_
        try simp only [Act.put, List.getElem_toArray, List.getElem_cons_succ, List.getElem_cons_zero, List.setIfInBounds_toArray, List.set_cons_zero, List.set_cons_succ]
        refine wpAnyH_take (i := 13) (v := undef) rfl (by kernel_rfl) (by kernel_rfl) (by kernel_rfl) (fun _ _ _ h => h) (Or.inr ⟨by kernel_rfl, rfl⟩) (by assumption) ?_
        try simp only [Act.put, List.getElem_toArray, List.getElem_cons_succ, List.getElem_cons_zero, List.setIfInBounds_toArray, List.set_cons_zero, List.set_cons_succ]
        refine wpAnyH_take (i := 14) (v := ?_) rfl (by kernel_rfl) (by kernel_rfl) (by kernel_rfl) (fun _ _ _ h => h) (Or.inl ⟨by kernel_rfl, ?_⟩) (by assumption) ?_
        rotate_left
        · (intro wS hSw; (try dsimp only at hSw); go_simp <;> with_reducible rfl)
        try simp only [Act.put, List.getElem_toArray, List.getElem_cons_succ, List.getElem_cons_zero, List.setIfInBounds_toArray, List.set_cons_zero, List.set_cons_succ]
        refine wpAnyH_take (i := 15) (v := ?_) rfl (by kernel_rfl) (by kernel_rfl) (by kernel_rfl) (fun _ _ _ h => h) (Or.inl ⟨by kernel_rfl, ?_⟩) (by assumption) ?_
        rotate_left
        · (intro wS hSw; (try dsimp only at hSw); go_simp <;> with_reducible rfl)
        try simp only [Act.put, List.getElem_toArray, List.getElem_cons_succ, List.getElem_cons_zero, List.setIfInBounds_toArray, List.set_cons_zero, List.set_cons_succ]
        refine wpAnyH_take (i := 16) (v := undef) rfl (by kernel_rfl) (by kernel_rfl) (by kernel_rfl) (fun _ _ _ h => h) (Or.inr ⟨by kernel_rfl, rfl⟩) (by assumption) ?_
        try simp only [Act.put, List.getElem_toArray, List.getElem_cons_succ, List.getElem_cons_zero, List.setIfInBounds_toArray, List.set_cons_zero, List.set_cons_succ]
        refine wpAnyH_take (i := 17) (v := undef) rfl (by kernel_rfl) (by kernel_rfl) (by kernel_rfl) (fun _ _ _ h => h) (Or.inr ⟨by kernel_rfl, rfl⟩) (by assumption) ?_
        try simp only [Act.put, List.getElem_toArray, List.getElem_cons_succ, List.getElem_cons_zero, List.setIfInBounds_toArray, List.set_cons_zero, List.set_cons_succ]
        refine wpAnyH_take (i := 18) (v := undef) rfl (by kernel_rfl) (by kernel_rfl) (by kernel_rfl) (fun _ _ _ h => h) (Or.inr ⟨by kernel_rfl, rfl⟩) (by assumption) ?_
        try simp only [Act.put, List.getElem_toArray, List.getElem_cons_succ, List.getElem_cons_zero, List.setIfInBounds_toArray, List.set_cons_zero, List.set_cons_succ]
        refine wpAnyH_take (i := 19) (v := undef) rfl (by kernel_rfl) (by kernel_rfl) (by kernel_rfl) (fun _ _ _ h => h) (Or.inr ⟨by kernel_rfl, rfl⟩) (by assumption) ?_
        try simp only [Act.put, List.getElem_toArray, List.getElem_cons_succ, List.getElem_cons_zero, List.setIfInBounds_toArray, List.set_cons_zero, List.set_cons_succ]
        refine wpAnyH_take (i := 20) (v := undef) rfl (by kernel_rfl) (by kernel_rfl) (by kernel_rfl) (fun _ _ _ h => h) (Or.inr ⟨by kernel_rfl, rfl⟩) (by assumption) ?_
        try simp only [Act.put, List.getElem_toArray, List.getElem_cons_succ, List.getElem_cons_zero, List.setIfInBounds_toArray, List.set_cons_zero, List.set_cons_succ]
        refine wpAnyH_take (i := 21) (v := undef) rfl (by kernel_rfl) (by kernel_rfl) (by kernel_rfl) (fun _ _ _ h => h) (Or.inr ⟨by kernel_rfl, rfl⟩) (by assumption) ?_
        try simp only [Act.put, List.getElem_toArray, List.getElem_cons_succ, List.getElem_cons_zero, List.setIfInBounds_toArray, List.set_cons_zero, List.set_cons_succ]
        refine wpAnyH_take (i := 22) (v := undef) rfl (by kernel_rfl) (by kernel_rfl) (by kernel_rfl) (fun _ _ _ h => h) (Or.inr ⟨by kernel_rfl, rfl⟩) (by assumption) ?_
        try simp only [Act.put, List.getElem_toArray, List.getElem_cons_succ, List.getElem_cons_zero, List.setIfInBounds_toArray, List.set_cons_zero, List.set_cons_succ]
        refine wpAnyH_take (i := 23) (v := undef) rfl (by kernel_rfl) (by kernel_rfl) (by kernel_rfl) (fun _ _ _ h => h) (Or.inr ⟨by kernel_rfl, rfl⟩) (by assumption) ?_
        try simp only [Act.put, List.getElem_toArray, List.getElem_cons_succ, List.getElem_cons_zero, List.setIfInBounds_toArray, List.set_cons_zero, List.set_cons_succ]
        refine wpAnyH_take (i := 24) (v := undef) rfl (by kernel_rfl) (by kernel_rfl) (by kernel_rfl) (fun _ _ _ h => h) (Or.inr ⟨by kernel_rfl, rfl⟩) (by assumption) ?_
        try simp only [Act.put, List.getElem_toArray, List.getElem_cons_succ, List.getElem_cons_zero, List.setIfInBounds_toArray, List.set_cons_zero, List.set_cons_succ]
        refine wpAnyH_take (i := 25) (v := undef) rfl (by kernel_rfl) (by kernel_rfl) (by kernel_rfl) (fun _ _ _ h => h) (Or.inr ⟨by kernel_rfl, rfl⟩) (by assumption) ?_
        try simp only [Act.put, List.getElem_toArray, List.getElem_cons_succ, List.getElem_cons_zero, List.setIfInBounds_toArray, List.set_cons_zero, List.set_cons_succ]
        refine wpAnyH_take (i := 26) (v := undef) rfl (by kernel_rfl) (by kernel_rfl) (by kernel_rfl) (fun _ _ _ h => h) (Or.inr ⟨by kernel_rfl, rfl⟩) (by assumption) ?_
        try simp only [Act.put, List.getElem_toArray, List.getElem_cons_succ, List.getElem_cons_zero, List.setIfInBounds_toArray, List.set_cons_zero, List.set_cons_succ]
        refine wpAnyH_take (i := 27) (v := undef) rfl (by kernel_rfl) (by kernel_rfl) (by kernel_rfl) (fun _ _ _ h => h) (Or.inr ⟨by kernel_rfl, rfl⟩) (by assumption) ?_
        try simp only [Act.put, List.getElem_toArray, List.getElem_cons_succ, List.getElem_cons_zero, List.setIfInBounds_toArray, List.set_cons_zero, List.set_cons_succ]
        refine wpAnyH_take (i := 28) (v := undef) rfl (by kernel_rfl) (by kernel_rfl) (by kernel_rfl) (fun _ _ _ h => h) (Or.inr ⟨by kernel_rfl, rfl⟩) (by assumption) ?_
        try simp only [Act.put, List.getElem_toArray, List.getElem_cons_succ, List.getElem_cons_zero, List.setIfInBounds_toArray, List.set_cons_zero, List.set_cons_succ]
        refine wpAnyH_take (i := 29) (v := undef) rfl (by kernel_rfl) (by kernel_rfl) (by kernel_rfl) (fun _ _ _ h => h) (Or.inr ⟨by kernel_rfl, rfl⟩) (by assumption) ?_
        try simp only [Act.put, List.getElem_toArray, List.getElem_cons_succ, List.getElem_cons_zero, List.setIfInBounds_toArray, List.set_cons_zero, List.set_cons_succ]
        refine wpAnyH_take (i := 30) (v := undef) rfl (by kernel_rfl) (by kernel_rfl) (by kernel_rfl) (fun _ _ _ h => h) (Or.inr ⟨by kernel_rfl, rfl⟩) (by assumption) ?_
        try simp only [Act.put, List.getElem_toArray, List.getElem_cons_succ, List.getElem_cons_zero, List.setIfInBounds_toArray, List.set_cons_zero, List.set_cons_succ]
        refine wpAnyH_take (i := 31) (v := undef) rfl (by kernel_rfl) (by kernel_rfl) (by kernel_rfl) (fun _ _ _ h => h) (Or.inr ⟨by kernel_rfl, rfl⟩) (by assumption) ?_
        try simp only [Act.put, List.getElem_toArray, List.getElem_cons_succ, List.getElem_cons_zero, List.setIfInBounds_toArray, List.set_cons_zero, List.set_cons_succ]
        refine wpAnyH_take (i := 32) (v := undef) rfl (by kernel_rfl) (by kernel_rfl) (by kernel_rfl) (fun _ _ _ h => h) (Or.inr ⟨by kernel_rfl, rfl⟩) (by assumption) ?_
        try simp only [Act.put, List.getElem_toArray, List.getElem_cons_succ, List.getElem_cons_zero, List.setIfInBounds_toArray, List.set_cons_zero, List.set_cons_succ]
        refine wpAnyH_take (i := 33) (v := ?_) rfl (by kernel_rfl) (by kernel_rfl) (by kernel_rfl) (fun _ _ _ h => h) (Or.inl ⟨by kernel_rfl, ?_⟩) (by assumption) ?_
        rotate_left
        · (intro wS hSw; (try dsimp only at hSw); go_simp <;> with_reducible rfl)
        try simp only [Act.put, List.getElem_toArray, List.getElem_cons_succ, List.getElem_cons_zero, List.setIfInBounds_toArray, List.set_cons_zero, List.set_cons_succ]
        refine wpAnyH_done (by kernel_rfl) ?_ _
        have HB3 := Lib.hid (HW.out.2.later (HBN.out _ BW.out)).bel
        go_wp2_with fail
        go_ret
        exact ⟨ret_b HR.out.symm, HB3.out⟩
      rw [hr] at RF
      by_cases hn : id < x.next
      case neg =>
        have HR := Lib.hid (HBAD.out (fun h => hn (HGD.out.1 h).2.1))
        have hge : decide (x.next ≤ id) = true := decide_eq_true (by omega)
        clear hr hn HBAD HNXT HGD HNO HNX
        go_wp2_with fail
        refine wp_region_held_drew (S := (fun W => ((W.cell? ⟨w.heap.size, 0, none⟩ = some (.slice (some ⟨tb, toff, none⟩) l.length sc) ∧ W.cell? ⟨w.heap.size + 1, 0, none⟩ = some (.slice (some ⟨b, off, none⟩) x.tables.length xc) ∧ W.cell? ⟨w.heap.size + 1, 1, none⟩ = some (.int .i64 x.next)) ∧ W.cell? ⟨b, off + k, none⟩ = some (.slice (some ⟨rb, roff, none⟩) rows.length rq) ∧ W.cell? ⟨tb, toff + k * 4, none⟩ = some (.string ⟨t.nm.toArray⟩) ∧ W.cell? ⟨tb, toff + k * 4 + 1, none⟩ = some (.slice ca t.cols.length cc) ∧ W.cell? ⟨tb, toff + k * 4 + 2, none⟩ = some (.slice ua t.uq.length uc) ∧ W.cell? ⟨tb, toff + k * 4 + 3, none⟩ = some (.bool t.rt)) ∧ W.cell? ⟨wr.heap.size, 0, none⟩ = some (.int .i64 id) ∧ W.cell? ⟨wr.heap.size, 1, none⟩ = some (.slice va cells.length vq))) (by kernel_rfl) ?_ (fun hHeld => ?_)
        · (first | exact NB.out _ (Below.refl _ _) | exact NB.out _ (Below.refl _ _).drew | exact NB.out _ BW.out)
        refine wpAnyH_take (i := 0) (v := ?_) rfl (by kernel_rfl) (by kernel_rfl) (by kernel_rfl) (fun _ _ _ h => h) (Or.inl ⟨by kernel_rfl, ?_⟩) (by assumption) ?_
        rotate_left
        · (intro wS hSw; (try dsimp only at hSw); go_simp <;> with_reducible rfl)
        try simp only [Act.put, List.getElem_toArray, List.getElem_cons_succ, List.getElem_cons_zero, List.setIfInBounds_toArray, List.set_cons_zero, List.set_cons_succ]
        refine wpAnyH_take (i := 1) (v := ?_) rfl (by kernel_rfl) (by kernel_rfl) (by kernel_rfl) (fun _ _ _ h => h) (Or.inl ⟨by kernel_rfl, ?_⟩) (by assumption) ?_
        rotate_left
        · (intro wS hSw; (try dsimp only at hSw); go_simp <;> with_reducible rfl)
        try simp only [Act.put, List.getElem_toArray, List.getElem_cons_succ, List.getElem_cons_zero, List.setIfInBounds_toArray, List.set_cons_zero, List.set_cons_succ]
        refine wpAnyH_take (i := 2) (v := ?_) rfl (by kernel_rfl) (by kernel_rfl) (by kernel_rfl) (fun _ _ _ h => h) (Or.inl ⟨by kernel_rfl, ?_⟩) (by assumption) ?_
        rotate_left
        · (intro wS hSw; (try dsimp only at hSw); go_simp <;> with_reducible rfl)
        try simp only [Act.put, List.getElem_toArray, List.getElem_cons_succ, List.getElem_cons_zero, List.setIfInBounds_toArray, List.set_cons_zero, List.set_cons_succ]
        refine wpAnyH_take (i := 3) (v := ?_) rfl (by kernel_rfl) (by kernel_rfl) (by kernel_rfl) (fun _ _ _ h => h) (Or.inl ⟨by kernel_rfl, ?_⟩) (by assumption) ?_
        rotate_left
        · (intro wS hSw; (try dsimp only at hSw); go_simp <;> with_reducible rfl)
        try simp only [Act.put, List.getElem_toArray, List.getElem_cons_succ, List.getElem_cons_zero, List.setIfInBounds_toArray, List.set_cons_zero, List.set_cons_succ]
        refine wpAnyH_take (i := 4) (v := ?_) rfl (by kernel_rfl) (by kernel_rfl) (by kernel_rfl) (fun _ _ _ h => h) (Or.inl ⟨by kernel_rfl, ?_⟩) (by assumption) ?_
        rotate_left
        · (intro wS hSw; (try dsimp only at hSw); go_simp <;> with_reducible rfl)
        try simp only [Act.put, List.getElem_toArray, List.getElem_cons_succ, List.getElem_cons_zero, List.setIfInBounds_toArray, List.set_cons_zero, List.set_cons_succ]
        refine wpAnyH_take (i := 5) (v := ?_) rfl (by kernel_rfl) (by kernel_rfl) (by kernel_rfl) (fun _ _ _ h => h) (Or.inl ⟨by kernel_rfl, ?_⟩) (by assumption) ?_
        rotate_left
        · (intro wS hSw; (try dsimp only at hSw); go_simp <;> with_reducible rfl)
        try simp only [Act.put, List.getElem_toArray, List.getElem_cons_succ, List.getElem_cons_zero, List.setIfInBounds_toArray, List.set_cons_zero, List.set_cons_succ]
        refine wpAnyH_ready (rs := [6]) (by kernel_rfl) (by simp) (AllReadyH.cons rfl (fun K hK => ?_) AllReadyH.nil)
        go_simp
        go_at_call 31
        refine (RF.out _ ((below_allocD _ _).drew)).mono ?_
        rintro e w3 ⟨rfl, hB3⟩
        have BW : Hid (Below (wr.alloc (.cells #[.int .i64 id, .slice va cells.length vq] 76)).heap.size (wr.alloc (.cells #[.int .i64 id, .slice va cells.length vq] 76)) w3) := (Below.refl _ _).drew.trans hB3
        clear hB3
        refine hK.out _ _ ?_ (fun hHeld => ?_)
        · (first | exact NB.out _ (Below.refl _ _) | exact NB.out _ (Below.refl _ _).drew | exact NB.out _ BW.out)
        clear hK K
        try simp only [Act.put, List.getElem_toArray, List.getElem_cons_succ, List.getElem_cons_zero, List.setIfInBounds_toArray, List.set_cons_zero, List.set_cons_succ]
        refine wpAnyH_take (i := 7) (v := ?_) rfl (by kernel_rfl) (by kernel_rfl) (by kernel_rfl) (fun _ _ _ h => h) (Or.inl ⟨by kernel_rfl, ?_⟩) (by assumption) ?_
        rotate_left
        · (intro wS hSw; (try dsimp only at hSw); go_simp <;> with_reducible rfl)
        try simp only [Act.put, List.getElem_toArray, List.getElem_cons_succ, List.getElem_cons_zero, List.setIfInBounds_toArray, List.set_cons_zero, List.set_cons_succ]
        refine wpAnyH_take (i := 8) (v := ?_) rfl (by kernel_rfl) (by kernel_rfl) (by kernel_rfl) (fun _ _ _ h => h) (Or.inl ⟨by kernel_rfl, ?_⟩) (by assumption) ?_
        rotate_left
        · (intro wS hSw; (try dsimp only at hSw); go_simp <;> with_reducible rfl)
        try simp only [Act.put, List.getElem_toArray, List.getElem_cons_succ, List.getElem_cons_zero, List.setIfInBounds_toArray, List.set_cons_zero, List.set_cons_succ]
        refine wpAnyH_take (i := 9) (v := ?_) rfl (by kernel_rfl) (by kernel_rfl) (by kernel_rfl) (fun _ _ _ h => h) (Or.inl ⟨by kernel_rfl, ?_⟩) (by assumption) ?_
        rotate_left
        · (intro wS hSw; (try dsimp only at hSw); go_simp <;> with_reducible rfl)
        try simp only [Act.put, List.getElem_toArray, List.getElem_cons_succ, List.getElem_cons_zero, List.setIfInBounds_toArray, List.set_cons_zero, List.set_cons_succ]
        refine wpAnyH_take (i := 10) (v := ?_) rfl (by kernel_rfl) (by kernel_rfl) (by kernel_rfl) (fun _ _ _ h => h) (Or.inl ⟨by kernel_rfl, ?_⟩) (by assumption) ?_
        rotate_left
        · (intro wS hSw; (try dsimp only at hSw); go_simp <;> with_reducible rfl)
        try simp only [Act.put, List.getElem_toArray, List.getElem_cons_succ, List.getElem_cons_zero, List.setIfInBounds_toArray, List.set_cons_zero, List.set_cons_succ]
        refine wpAnyH_take (i := 11) (v := ?_) rfl (by kernel_rfl) (by kernel_rfl) (by kernel_rfl) (fun _ _ _ h => h) (Or.inl ⟨by kernel_rfl, ?_⟩) (by assumption) ?_
        rotate_left
        · (intro wS hSw; (try dsimp only at hSw); go_simp <;> with_reducible rfl)
        try simp only [Act.put, List.getElem_toArray, List.getElem_cons_succ, List.getElem_cons_zero, List.setIfInBounds_toArray, List.set_cons_zero, List.set_cons_succ]
        refine wpAnyH_take (i := 12) (v := ?_) rfl (by kernel_rfl) (by kernel_rfl) (by kernel_rfl) (fun _ _ _ h => h) (Or.inl ⟨by kernel_rfl, ?_⟩) (by assumption) ?_
        rotate_left
        · (intro wS hSw; (try dsimp only at hSw); go_simp <;> with_reducible rfl)
        try simp only [Act.put, List.getElem_toArray, List.getElem_cons_succ, List.getElem_cons_zero, List.setIfInBounds_toArray, List.set_cons_zero, List.set_cons_succ]
        refine wpAnyH_take (i := 13) (v := ?_) rfl (by kernel_rfl) (by kernel_rfl) (by kernel_rfl) (fun _ _ _ h => h) (Or.inl ⟨by kernel_rfl, ?_⟩) (by assumption) ?_
        rotate_left
        · (intro wS hSw; (try dsimp only at hSw); go_simp <;> with_reducible rfl)
        try simp only [Act.put, List.getElem_toArray, List.getElem_cons_succ, List.getElem_cons_zero, List.setIfInBounds_toArray, List.set_cons_zero, List.set_cons_succ]
        refine wpAnyH_take (i := 14) (v := ?_) rfl (by kernel_rfl) (by kernel_rfl) (by kernel_rfl) (fun _ _ _ h => h) (Or.inl ⟨by kernel_rfl, ?_⟩) (by assumption) ?_
        rotate_left
        · (intro wS hSw; (try dsimp only at hSw); go_simp <;> with_reducible rfl)
        try simp only [Act.put, List.getElem_toArray, List.getElem_cons_succ, List.getElem_cons_zero, List.setIfInBounds_toArray, List.set_cons_zero, List.set_cons_succ]
        refine wpAnyH_take (i := 15) (v := ?_) rfl (by kernel_rfl) (by kernel_rfl) (by kernel_rfl) (fun _ _ _ h => h) (Or.inl ⟨by kernel_rfl, ?_⟩) (by assumption) ?_
        rotate_left
        · (intro wS hSw; (try dsimp only at hSw); go_simp <;> with_reducible rfl)
        try simp only [Act.put, List.getElem_toArray, List.getElem_cons_succ, List.getElem_cons_zero, List.setIfInBounds_toArray, List.set_cons_zero, List.set_cons_succ]
        refine wpAnyH_take (i := 16) (v := undef) rfl (by kernel_rfl) (by kernel_rfl) (by kernel_rfl) (fun _ _ _ h => h) (Or.inr ⟨by kernel_rfl, rfl⟩) (by assumption) ?_
        try simp only [Act.put, List.getElem_toArray, List.getElem_cons_succ, List.getElem_cons_zero, List.setIfInBounds_toArray, List.set_cons_zero, List.set_cons_succ]
        refine wpAnyH_take (i := 17) (v := undef) rfl (by kernel_rfl) (by kernel_rfl) (by kernel_rfl) (fun _ _ _ h => h) (Or.inr ⟨by kernel_rfl, rfl⟩) (by assumption) ?_
        try simp only [Act.put, List.getElem_toArray, List.getElem_cons_succ, List.getElem_cons_zero, List.setIfInBounds_toArray, List.set_cons_zero, List.set_cons_succ]
        refine wpAnyH_take (i := 18) (v := undef) rfl (by kernel_rfl) (by kernel_rfl) (by kernel_rfl) (fun _ _ _ h => h) (Or.inr ⟨by kernel_rfl, rfl⟩) (by assumption) ?_
        try simp only [Act.put, List.getElem_toArray, List.getElem_cons_succ, List.getElem_cons_zero, List.setIfInBounds_toArray, List.set_cons_zero, List.set_cons_succ]
        refine wpAnyH_take (i := 19) (v := undef) rfl (by kernel_rfl) (by kernel_rfl) (by kernel_rfl) (fun _ _ _ h => h) (Or.inr ⟨by kernel_rfl, rfl⟩) (by assumption) ?_
        try simp only [Act.put, List.getElem_toArray, List.getElem_cons_succ, List.getElem_cons_zero, List.setIfInBounds_toArray, List.set_cons_zero, List.set_cons_succ]
        refine wpAnyH_take (i := 20) (v := undef) rfl (by kernel_rfl) (by kernel_rfl) (by kernel_rfl) (fun _ _ _ h => h) (Or.inr ⟨by kernel_rfl, rfl⟩) (by assumption) ?_
        try simp only [Act.put, List.getElem_toArray, List.getElem_cons_succ, List.getElem_cons_zero, List.setIfInBounds_toArray, List.set_cons_zero, List.set_cons_succ]
        refine wpAnyH_take (i := 21) (v := undef) rfl (by kernel_rfl) (by kernel_rfl) (by kernel_rfl) (fun _ _ _ h => h) (Or.inr ⟨by kernel_rfl, rfl⟩) (by assumption) ?_
        try simp only [Act.put, List.getElem_toArray, List.getElem_cons_succ, List.getElem_cons_zero, List.setIfInBounds_toArray, List.set_cons_zero, List.set_cons_succ]
        refine wpAnyH_take (i := 22) (v := undef) rfl (by kernel_rfl) (by kernel_rfl) (by kernel_rfl) (fun _ _ _ h => h) (Or.inr ⟨by kernel_rfl, rfl⟩) (by assumption) ?_
        try simp only [Act.put, List.getElem_toArray, List.getElem_cons_succ, List.getElem_cons_zero, List.setIfInBounds_toArray, List.set_cons_zero, List.set_cons_succ]
        refine wpAnyH_take (i := 23) (v := undef) rfl (by kernel_rfl) (by kernel_rfl) (by kernel_rfl) (fun _ _ _ h => h) (Or.inr ⟨by kernel_rfl, rfl⟩) (by assumption) ?_
        try simp only [Act.put, List.getElem_toArray, List.getElem_cons_succ, List.getElem_cons_zero, List.setIfInBounds_toArray, List.set_cons_zero, List.set_cons_succ]
        refine wpAnyH_take (i := 24) (v := undef) rfl (by kernel_rfl) (by kernel_rfl) (by kernel_rfl) (fun _ _ _ h => h) (Or.inr ⟨by kernel_rfl, rfl⟩) (by assumption) ?_
        try simp only [Act.put, List.getElem_toArray, List.getElem_cons_succ, List.getElem_cons_zero, List.setIfInBounds_toArray, List.set_cons_zero, List.set_cons_succ]
        refine wpAnyH_take (i := 25) (v := undef) rfl (by kernel_rfl) (by kernel_rfl) (by kernel_rfl) (fun _ _ _ h => h) (Or.inr ⟨by kernel_rfl, rfl⟩) (by assumption) ?_
        try simp only [Act.put, List.getElem_toArray, List.getElem_cons_succ, List.getElem_cons_zero, List.setIfInBounds_toArray, List.set_cons_zero, List.set_cons_succ]
        refine wpAnyH_take (i := 26) (v := undef) rfl (by kernel_rfl) (by kernel_rfl) (by kernel_rfl) (fun _ _ _ h => h) (Or.inr ⟨by kernel_rfl, rfl⟩) (by assumption) ?_
        try simp only [Act.put, List.getElem_toArray, List.getElem_cons_succ, List.getElem_cons_zero, List.setIfInBounds_toArray, List.set_cons_zero, List.set_cons_succ]
        refine wpAnyH_take (i := 27) (v := undef) rfl (by kernel_rfl) (by kernel_rfl) (by kernel_rfl) (fun _ _ _ h => h) (Or.inr ⟨by kernel_rfl, rfl⟩) (by assumption) ?_
        try simp only [Act.put, List.getElem_toArray, List.getElem_cons_succ, List.getElem_cons_zero, List.setIfInBounds_toArray, List.set_cons_zero, List.set_cons_succ]
        refine wpAnyH_take (i := 28) (v := undef) rfl (by kernel_rfl) (by kernel_rfl) (by kernel_rfl) (fun _ _ _ h => h) (Or.inr ⟨by kernel_rfl, rfl⟩) (by assumption) ?_
        try simp only [Act.put, List.getElem_toArray, List.getElem_cons_succ, List.getElem_cons_zero, List.setIfInBounds_toArray, List.set_cons_zero, List.set_cons_succ]
        refine wpAnyH_take (i := 29) (v := undef) rfl (by kernel_rfl) (by kernel_rfl) (by kernel_rfl) (fun _ _ _ h => h) (Or.inr ⟨by kernel_rfl, rfl⟩) (by assumption) ?_
        try simp only [Act.put, List.getElem_toArray, List.getElem_cons_succ, List.getElem_cons_zero, List.setIfInBounds_toArray, List.set_cons_zero, List.set_cons_succ]
        refine wpAnyH_take (i := 30) (v := undef) rfl (by kernel_rfl) (by kernel_rfl) (by kernel_rfl) (fun _ _ _ h => h) (Or.inr ⟨by kernel_rfl, rfl⟩) (by assumption) ?_
        try simp only [Act.put, List.getElem_toArray, List.getElem_cons_succ, List.getElem_cons_zero, List.setIfInBounds_toArray, List.set_cons_zero, List.set_cons_succ]
        refine wpAnyH_take (i := 31) (v := undef) rfl (by kernel_rfl) (by kernel_rfl) (by kernel_rfl) (fun _ _ _ h => h) (Or.inr ⟨by kernel_rfl, rfl⟩) (by assumption) ?_
        try simp only [Act.put, List.getElem_toArray, List.getElem_cons_succ, List.getElem_cons_zero, List.setIfInBounds_toArray, List.set_cons_zero, List.set_cons_succ]
        refine wpAnyH_take (i := 32) (v := undef) rfl (by kernel_rfl) (by kernel_rfl) (by kernel_rfl) (fun _ _ _ h => h) (Or.inr ⟨by kernel_rfl, rfl⟩) (by assumption) ?_
        try simp only [Act.put, List.getElem_toArray, List.getElem_cons_succ, List.getElem_cons_zero, List.setIfInBounds_toArray, List.set_cons_zero, List.set_cons_succ]
        refine wpAnyH_take (i := 33) (v := ?_) rfl (by kernel_rfl) (by kernel_rfl) (by kernel_rfl) (fun _ _ _ h => h) (Or.inl ⟨by kernel_rfl, ?_⟩) (by assumption) ?_
        rotate_left
        · (intro wS hSw; (try dsimp only at hSw); go_simp <;> with_reducible rfl)
        try simp only [Act.put, List.getElem_toArray, List.getElem_cons_succ, List.getElem_cons_zero, List.setIfInBounds_toArray, List.set_cons_zero, List.set_cons_succ]
        refine wpAnyH_done (by kernel_rfl) ?_ _
        have HB3 := Lib.hid (HW.out.2.later (HBN.out _ BW.out)).bel
        go_wp2_with fail
        go_ret
        exact ⟨ret_b HR.out.symm, HB3.out⟩
      have hge : decide (x.next ≤ id) = false := decide_eq_false (by omega)
      by_cases hm0 : m = 0
      case pos =>
        have HN := Lib.hid (HNXT.out (HGD.out.2 ⟨hr, hn, fun j hj => by omega⟩))
        have hm1 : decide (0 < m) = false := decide_eq_false (by omega)
        clear hr hn hm0 HBAD HNXT HGD HNO HNX
        go_wp2_with fail
        refine wp_region_held_drew (S := (fun W => ((W.cell? ⟨w.heap.size, 0, none⟩ = some (.slice (some ⟨tb, toff, none⟩) l.length sc) ∧ W.cell? ⟨w.heap.size + 1, 0, none⟩ = some (.slice (some ⟨b, off, none⟩) x.tables.length xc) ∧ W.cell? ⟨w.heap.size + 1, 1, none⟩ = some (.int .i64 x.next)) ∧ W.cell? ⟨b, off + k, none⟩ = some (.slice (some ⟨rb, roff, none⟩) rows.length rq) ∧ W.cell? ⟨tb, toff + k * 4, none⟩ = some (.string ⟨t.nm.toArray⟩) ∧ W.cell? ⟨tb, toff + k * 4 + 1, none⟩ = some (.slice ca t.cols.length cc) ∧ W.cell? ⟨tb, toff + k * 4 + 2, none⟩ = some (.slice ua t.uq.length uc) ∧ W.cell? ⟨tb, toff + k * 4 + 3, none⟩ = some (.bool t.rt)) ∧ W.cell? ⟨wr.heap.size, 0, none⟩ = some (.int .i64 id) ∧ W.cell? ⟨wr.heap.size, 1, none⟩ = some (.slice va cells.length vq))) (by kernel_rfl) ?_ (fun hHeld => ?_)
        · (first | exact NB.out _ (Below.refl _ _) | exact NB.out _ (Below.refl _ _).drew | exact NB.out _ BW.out)
        refine wpAnyH_take (i := 0) (v := ?_) rfl (by kernel_rfl) (by kernel_rfl) (by kernel_rfl) (fun _ _ _ h => h) (Or.inl ⟨by kernel_rfl, ?_⟩) (by assumption) ?_
        rotate_left
        · (intro wS hSw; (try dsimp only at hSw); go_simp <;> with_reducible rfl)
        try simp only [Act.put, List.getElem_toArray, List.getElem_cons_succ, List.getElem_cons_zero, List.setIfInBounds_toArray, List.set_cons_zero, List.set_cons_succ]
        refine wpAnyH_take (i := 1) (v := ?_) rfl (by kernel_rfl) (by kernel_rfl) (by kernel_rfl) (fun _ _ _ h => h) (Or.inl ⟨by kernel_rfl, ?_⟩) (by assumption) ?_
        rotate_left
        · (intro wS hSw; (try dsimp only at hSw); go_simp <;> with_reducible rfl)
        try simp only [Act.put, List.getElem_toArray, List.getElem_cons_succ, List.getElem_cons_zero, List.setIfInBounds_toArray, List.set_cons_zero, List.set_cons_succ]
        refine wpAnyH_take (i := 2) (v := ?_) rfl (by kernel_rfl) (by kernel_rfl) (by kernel_rfl) (fun _ _ _ h => h) (Or.inl ⟨by kernel_rfl, ?_⟩) (by assumption) ?_
        rotate_left
        · (intro wS hSw; (try dsimp only at hSw); go_simp <;> with_reducible rfl)
        try simp only [Act.put, List.getElem_toArray, List.getElem_cons_succ, List.getElem_cons_zero, List.setIfInBounds_toArray, List.set_cons_zero, List.set_cons_succ]
        refine wpAnyH_take (i := 3) (v := ?_) rfl (by kernel_rfl) (by kernel_rfl) (by kernel_rfl) (fun _ _ _ h => h) (Or.inl ⟨by kernel_rfl, ?_⟩) (by assumption) ?_
        rotate_left
        · (intro wS hSw; (try dsimp only at hSw); go_simp <;> with_reducible rfl)
        try simp only [Act.put, List.getElem_toArray, List.getElem_cons_succ, List.getElem_cons_zero, List.setIfInBounds_toArray, List.set_cons_zero, List.set_cons_succ]
        refine wpAnyH_take (i := 4) (v := ?_) rfl (by kernel_rfl) (by kernel_rfl) (by kernel_rfl) (fun _ _ _ h => h) (Or.inl ⟨by kernel_rfl, ?_⟩) (by assumption) ?_
        rotate_left
        · (intro wS hSw; (try dsimp only at hSw); go_simp <;> with_reducible rfl)
        try simp only [Act.put, List.getElem_toArray, List.getElem_cons_succ, List.getElem_cons_zero, List.setIfInBounds_toArray, List.set_cons_zero, List.set_cons_succ]
        refine wpAnyH_take (i := 5) (v := ?_) rfl (by kernel_rfl) (by kernel_rfl) (by kernel_rfl) (fun _ _ _ h => h) (Or.inl ⟨by kernel_rfl, ?_⟩) (by assumption) ?_
        rotate_left
        · (intro wS hSw; (try dsimp only at hSw); go_simp <;> with_reducible rfl)
        try simp only [Act.put, List.getElem_toArray, List.getElem_cons_succ, List.getElem_cons_zero, List.setIfInBounds_toArray, List.set_cons_zero, List.set_cons_succ]
        refine wpAnyH_ready (rs := [6]) (by kernel_rfl) (by simp) (AllReadyH.cons rfl (fun K hK => ?_) AllReadyH.nil)
        go_simp
        go_at_call 31
        refine (RF.out _ ((below_allocD _ _).drew)).mono ?_
        rintro e w3 ⟨rfl, hB3⟩
        have BW : Hid (Below (wr.alloc (.cells #[.int .i64 id, .slice va cells.length vq] 76)).heap.size (wr.alloc (.cells #[.int .i64 id, .slice va cells.length vq] 76)) w3) := (Below.refl _ _).drew.trans hB3
        clear hB3
        refine hK.out _ _ ?_ (fun hHeld => ?_)
        · (first | exact NB.out _ (Below.refl _ _) | exact NB.out _ (Below.refl _ _).drew | exact NB.out _ BW.out)
        clear hK K
        try simp only [Act.put, List.getElem_toArray, List.getElem_cons_succ, List.getElem_cons_zero, List.setIfInBounds_toArray, List.set_cons_zero, List.set_cons_succ]
        refine wpAnyH_take (i := 7) (v := ?_) rfl (by kernel_rfl) (by kernel_rfl) (by kernel_rfl) (fun _ _ _ h => h) (Or.inl ⟨by kernel_rfl, ?_⟩) (by assumption) ?_
        rotate_left
        · (intro wS hSw; (try dsimp only at hSw); go_simp <;> with_reducible rfl)
        try simp only [Act.put, List.getElem_toArray, List.getElem_cons_succ, List.getElem_cons_zero, List.setIfInBounds_toArray, List.set_cons_zero, List.set_cons_succ]
        refine wpAnyH_take (i := 8) (v := ?_) rfl (by kernel_rfl) (by kernel_rfl) (by kernel_rfl) (fun _ _ _ h => h) (Or.inl ⟨by kernel_rfl, ?_⟩) (by assumption) ?_
        rotate_left
        · (intro wS hSw; (try dsimp only at hSw); go_simp <;> with_reducible rfl)
        try simp only [Act.put, List.getElem_toArray, List.getElem_cons_succ, List.getElem_cons_zero, List.setIfInBounds_toArray, List.set_cons_zero, List.set_cons_succ]
        refine wpAnyH_take (i := 9) (v := ?_) rfl (by kernel_rfl) (by kernel_rfl) (by kernel_rfl) (fun _ _ _ h => h) (Or.inl ⟨by kernel_rfl, ?_⟩) (by assumption) ?_
        rotate_left
        · (intro wS hSw; (try dsimp only at hSw); go_simp <;> with_reducible rfl)
        try simp only [Act.put, List.getElem_toArray, List.getElem_cons_succ, List.getElem_cons_zero, List.setIfInBounds_toArray, List.set_cons_zero, List.set_cons_succ]
        refine wpAnyH_take (i := 10) (v := ?_) rfl (by kernel_rfl) (by kernel_rfl) (by kernel_rfl) (fun _ _ _ h => h) (Or.inl ⟨by kernel_rfl, ?_⟩) (by assumption) ?_
        rotate_left
        · (intro wS hSw; (try dsimp only at hSw); go_simp <;> with_reducible rfl)
        try simp only [Act.put, List.getElem_toArray, List.getElem_cons_succ, List.getElem_cons_zero, List.setIfInBounds_toArray, List.set_cons_zero, List.set_cons_succ]
        refine wpAnyH_take (i := 11) (v := ?_) rfl (by kernel_rfl) (by kernel_rfl) (by kernel_rfl) (fun _ _ _ h => h) (Or.inl ⟨by kernel_rfl, ?_⟩) (by assumption) ?_
        rotate_left
        · (intro wS hSw; (try dsimp only at hSw); go_simp <;> with_reducible rfl)
        try simp only [Act.put, List.getElem_toArray, List.getElem_cons_succ, List.getElem_cons_zero, List.setIfInBounds_toArray, List.set_cons_zero, List.set_cons_succ]
        refine wpAnyH_take (i := 12) (v := ?_) rfl (by kernel_rfl) (by kernel_rfl) (by kernel_rfl) (fun _ _ _ h => h) (Or.inl ⟨by kernel_rfl, ?_⟩) (by assumption) ?_
        rotate_left
        · (intro wS hSw; (try dsimp only at hSw); go_simp <;> with_reducible rfl)
        try simp only [Act.put, List.getElem_toArray, List.getElem_cons_succ, List.getElem_cons_zero, List.setIfInBounds_toArray, List.set_cons_zero, List.set_cons_succ]
        refine wpAnyH_take (i := 13) (v := ?_) rfl (by kernel_rfl) (by kernel_rfl) (by kernel_rfl) (fun _ _ _ h => h) (Or.inl ⟨by kernel_rfl, ?_⟩) (by assumption) ?_
        rotate_left
        · (intro wS hSw; (try dsimp only at hSw); go_simp <;> with_reducible rfl)
        try simp only [Act.put, List.getElem_toArray, List.getElem_cons_succ, List.getElem_cons_zero, List.setIfInBounds_toArray, List.set_cons_zero, List.set_cons_succ]
        refine wpAnyH_take (i := 14) (v := ?_) rfl (by kernel_rfl) (by kernel_rfl) (by kernel_rfl) (fun _ _ _ h => h) (Or.inl ⟨by kernel_rfl, ?_⟩) (by assumption) ?_
        rotate_left
        · (intro wS hSw; (try dsimp only at hSw); go_simp <;> with_reducible rfl)
        try simp only [Act.put, List.getElem_toArray, List.getElem_cons_succ, List.getElem_cons_zero, List.setIfInBounds_toArray, List.set_cons_zero, List.set_cons_succ]
        refine wpAnyH_take (i := 15) (v := ?_) rfl (by kernel_rfl) (by kernel_rfl) (by kernel_rfl) (fun _ _ _ h => h) (Or.inl ⟨by kernel_rfl, ?_⟩) (by assumption) ?_
        rotate_left
        · (intro wS hSw; (try dsimp only at hSw); go_simp <;> with_reducible rfl)
        try simp only [Act.put, List.getElem_toArray, List.getElem_cons_succ, List.getElem_cons_zero, List.setIfInBounds_toArray, List.set_cons_zero, List.set_cons_succ]
        refine wpAnyH_take (i := 16) (v := ?_) rfl (by kernel_rfl) (by kernel_rfl) (by kernel_rfl) (fun _ _ _ h => h) (Or.inl ⟨by kernel_rfl, ?_⟩) (by assumption) ?_
        rotate_left
        · (intro wS hSw; (try dsimp only at hSw); go_simp <;> with_reducible rfl)
        try simp only [Act.put, List.getElem_toArray, List.getElem_cons_succ, List.getElem_cons_zero, List.setIfInBounds_toArray, List.set_cons_zero, List.set_cons_succ]
        refine wpAnyH_take (i := 17) (v := ?_) rfl (by kernel_rfl) (by kernel_rfl) (by kernel_rfl) (fun _ _ _ h => h) (Or.inl ⟨by kernel_rfl, ?_⟩) (by assumption) ?_
        rotate_left
        · (intro wS hSw; (try dsimp only at hSw); go_simp <;> with_reducible rfl)
        try simp only [Act.put, List.getElem_toArray, List.getElem_cons_succ, List.getElem_cons_zero, List.setIfInBounds_toArray, List.set_cons_zero, List.set_cons_succ]
        refine wpAnyH_take (i := 18) (v := ?_) rfl (by kernel_rfl) (by kernel_rfl) (by kernel_rfl) (fun _ _ _ h => h) (Or.inl ⟨by kernel_rfl, ?_⟩) (by assumption) ?_
        rotate_left
        · (intro wS hSw; (try dsimp only at hSw); go_simp <;> with_reducible rfl)
        try simp only [Act.put, List.getElem_toArray, List.getElem_cons_succ, List.getElem_cons_zero, List.setIfInBounds_toArray, List.set_cons_zero, List.set_cons_succ]
        refine wpAnyH_take (i := 19) (v := undef) rfl (by kernel_rfl) (by kernel_rfl) (by kernel_rfl) (fun _ _ _ h => h) (Or.inr ⟨by kernel_rfl, rfl⟩) (by assumption) ?_
        try simp only [Act.put, List.getElem_toArray, List.getElem_cons_succ, List.getElem_cons_zero, List.setIfInBounds_toArray, List.set_cons_zero, List.set_cons_succ]
        refine wpAnyH_take (i := 20) (v := undef) rfl (by kernel_rfl) (by kernel_rfl) (by kernel_rfl) (fun _ _ _ h => h) (Or.inr ⟨by kernel_rfl, rfl⟩) (by assumption) ?_
        try simp only [Act.put, List.getElem_toArray, List.getElem_cons_succ, List.getElem_cons_zero, List.setIfInBounds_toArray, List.set_cons_zero, List.set_cons_succ]
        refine wpAnyH_take (i := 21) (v := undef) rfl (by kernel_rfl) (by kernel_rfl) (by kernel_rfl) (fun _ _ _ h => h) (Or.inr ⟨by kernel_rfl, rfl⟩) (by assumption) ?_
        try simp only [Act.put, List.getElem_toArray, List.getElem_cons_succ, List.getElem_cons_zero, List.setIfInBounds_toArray, List.set_cons_zero, List.set_cons_succ]
        refine wpAnyH_take (i := 22) (v := undef) rfl (by kernel_rfl) (by kernel_rfl) (by kernel_rfl) (fun _ _ _ h => h) (Or.inr ⟨by kernel_rfl, rfl⟩) (by assumption) ?_
        try simp only [Act.put, List.getElem_toArray, List.getElem_cons_succ, List.getElem_cons_zero, List.setIfInBounds_toArray, List.set_cons_zero, List.set_cons_succ]
        refine wpAnyH_take (i := 23) (v := undef) rfl (by kernel_rfl) (by kernel_rfl) (by kernel_rfl) (fun _ _ _ h => h) (Or.inr ⟨by kernel_rfl, rfl⟩) (by assumption) ?_
        try simp only [Act.put, List.getElem_toArray, List.getElem_cons_succ, List.getElem_cons_zero, List.setIfInBounds_toArray, List.set_cons_zero, List.set_cons_succ]
        refine wpAnyH_take (i := 24) (v := undef) rfl (by kernel_rfl) (by kernel_rfl) (by kernel_rfl) (fun _ _ _ h => h) (Or.inr ⟨by kernel_rfl, rfl⟩) (by assumption) ?_
        try simp only [Act.put, List.getElem_toArray, List.getElem_cons_succ, List.getElem_cons_zero, List.setIfInBounds_toArray, List.set_cons_zero, List.set_cons_succ]
        refine wpAnyH_take (i := 25) (v := undef) rfl (by kernel_rfl) (by kernel_rfl) (by kernel_rfl) (fun _ _ _ h => h) (Or.inr ⟨by kernel_rfl, rfl⟩) (by assumption) ?_
        try simp only [Act.put, List.getElem_toArray, List.getElem_cons_succ, List.getElem_cons_zero, List.setIfInBounds_toArray, List.set_cons_zero, List.set_cons_succ]
        refine wpAnyH_take (i := 26) (v := undef) rfl (by kernel_rfl) (by kernel_rfl) (by kernel_rfl) (fun _ _ _ h => h) (Or.inr ⟨by kernel_rfl, rfl⟩) (by assumption) ?_
        try simp only [Act.put, List.getElem_toArray, List.getElem_cons_succ, List.getElem_cons_zero, List.setIfInBounds_toArray, List.set_cons_zero, List.set_cons_succ]
        refine wpAnyH_take (i := 27) (v := undef) rfl (by kernel_rfl) (by kernel_rfl) (by kernel_rfl) (fun _ _ _ h => h) (Or.inr ⟨by kernel_rfl, rfl⟩) (by assumption) ?_
        try simp only [Act.put, List.getElem_toArray, List.getElem_cons_succ, List.getElem_cons_zero, List.setIfInBounds_toArray, List.set_cons_zero, List.set_cons_succ]
        refine wpAnyH_take (i := 28) (v := undef) rfl (by kernel_rfl) (by kernel_rfl) (by kernel_rfl) (fun _ _ _ h => h) (Or.inr ⟨by kernel_rfl, rfl⟩) (by assumption) ?_
        try simp only [Act.put, List.getElem_toArray, List.getElem_cons_succ, List.getElem_cons_zero, List.setIfInBounds_toArray, List.set_cons_zero, List.set_cons_succ]
        refine wpAnyH_take (i := 29) (v := undef) rfl (by kernel_rfl) (by kernel_rfl) (by kernel_rfl) (fun _ _ _ h => h) (Or.inr ⟨by kernel_rfl, rfl⟩) (by assumption) ?_
        try simp only [Act.put, List.getElem_toArray, List.getElem_cons_succ, List.getElem_cons_zero, List.setIfInBounds_toArray, List.set_cons_zero, List.set_cons_succ]
        refine wpAnyH_take (i := 30) (v := undef) rfl (by kernel_rfl) (by kernel_rfl) (by kernel_rfl) (fun _ _ _ h => h) (Or.inr ⟨by kernel_rfl, rfl⟩) (by assumption) ?_
        try simp only [Act.put, List.getElem_toArray, List.getElem_cons_succ, List.getElem_cons_zero, List.setIfInBounds_toArray, List.set_cons_zero, List.set_cons_succ]
        refine wpAnyH_take (i := 31) (v := undef) rfl (by kernel_rfl) (by kernel_rfl) (by kernel_rfl) (fun _ _ _ h => h) (Or.inr ⟨by kernel_rfl, rfl⟩) (by assumption) ?_
        try simp only [Act.put, List.getElem_toArray, List.getElem_cons_succ, List.getElem_cons_zero, List.setIfInBounds_toArray, List.set_cons_zero, List.set_cons_succ]
        refine wpAnyH_take (i := 32) (v := ?_) rfl (by kernel_rfl) (by kernel_rfl) (by kernel_rfl) (fun _ _ _ h => h) (Or.inl ⟨by kernel_rfl, ?_⟩) (by assumption) ?_
        rotate_left
        · (intro wS hSw; (try dsimp only at hSw); go_simp <;> with_reducible rfl)
        try simp only [Act.put, List.getElem_toArray, List.getElem_cons_succ, List.getElem_cons_zero, List.setIfInBounds_toArray, List.set_cons_zero, List.set_cons_succ]
        refine wpAnyH_take (i := 33) (v := ?_) rfl (by kernel_rfl) (by kernel_rfl) (by kernel_rfl) (fun _ _ _ h => h) (Or.inl ⟨by kernel_rfl, ?_⟩) (by assumption) ?_
        rotate_left
        · (intro wS hSw; (try dsimp only at hSw); go_simp <;> with_reducible rfl)
        try simp only [Act.put, List.getElem_toArray, List.getElem_cons_succ, List.getElem_cons_zero, List.setIfInBounds_toArray, List.set_cons_zero, List.set_cons_succ]
        refine wpAnyH_done (by kernel_rfl) ?_ _
        have HB3 := Lib.hid (HBN.out _ BW.out)
        go_wp2_with fail
        go_roundw
        case rel => exact ⟨m + 1, by omega, by go_num, HN.out, HB3.out⟩
        case measure => simp [intOf]; omega
      obtain ⟨n, hn2⟩ : ∃ n, n + 1 = m := ⟨m - 1, by omega⟩
      have hn1 : n < rows.length := by omega
      have hm1 : decide (0 < m) = true := decide_eq_true (by omega)
      have hs1 : (m : Int) - 1 = (n : Int) := by omega
      have hs2 : IntKind.i64.wrap (n : Int) = (n : Int) := by rw [IntKind.wrap_i64]; omega
      have hs3 : (n : Int) < (rows.length : Int) := by omega
      have HG2 : Hid (rows[n].id < id ↔ goodR t rows x.next m hlt2) := ⟨fun h => HGD.out.2 ⟨hr, hn, fun j hj => (by have e : j = n := (by omega); subst e; exact h)⟩, fun h => (HGD.out.1 h).2.2 n hn2⟩
      clear HGD hr hn hm0 HNO HNX hn2
      generalize hpid : rows[n].id = pid at *
      have HPI : Hid (rows[n].id = pid) := hpid
      clear hpid
      by_cases hp : pid < id
      case neg =>
        have HR := Lib.hid (HBAD.out (fun h => hp (HG2.out.2 h)))
        have hpg : decide (id ≤ pid) = true := decide_eq_true (by omega)
        clear hp HBAD HNXT HG2
        go_wp2_with fail
        refine wp_region_held_drew (S := (fun W => (((W.cell? ⟨w.heap.size, 0, none⟩ = some (.slice (some ⟨tb, toff, none⟩) l.length sc) ∧ W.cell? ⟨w.heap.size + 1, 0, none⟩ = some (.slice (some ⟨b, off, none⟩) x.tables.length xc) ∧ W.cell? ⟨w.heap.size + 1, 1, none⟩ = some (.int .i64 x.next)) ∧ W.cell? ⟨b, off + k, none⟩ = some (.slice (some ⟨rb, roff, none⟩) rows.length rq) ∧ W.cell? ⟨tb, toff + k * 4, none⟩ = some (.string ⟨t.nm.toArray⟩) ∧ W.cell? ⟨tb, toff + k * 4 + 1, none⟩ = some (.slice ca t.cols.length cc) ∧ W.cell? ⟨tb, toff + k * 4 + 2, none⟩ = some (.slice ua t.uq.length uc) ∧ W.cell? ⟨tb, toff + k * 4 + 3, none⟩ = some (.bool t.rt)) ∧ W.cell? ⟨wr.heap.size, 0, none⟩ = some (.int .i64 id) ∧ W.cell? ⟨wr.heap.size, 1, none⟩ = some (.slice va cells.length vq)) ∧ W.cell? ⟨rb, roff + n * 2, none⟩ = some (.int .i64 pid))) (by kernel_rfl) ?_ (fun hHeld => ?_)
        · (first | exact ⟨NB.out _ (Below.refl _ _), (HPRE.out _ (HBN.out _ (Below.refl _ _)) n hn1).trans (by rw [HPI.out])⟩ | exact ⟨NB.out _ (Below.refl _ _).drew, (HPRE.out _ (HBN.out _ (Below.refl _ _).drew) n hn1).trans (by rw [HPI.out])⟩ | exact ⟨NB.out _ BW.out, (HPRE.out _ (HBN.out _ BW.out) n hn1).trans (by rw [HPI.out])⟩)
        refine wpAnyH_take (i := 0) (v := ?_) rfl (by kernel_rfl) (by kernel_rfl) (by kernel_rfl) (fun _ _ _ h => h) (Or.inl ⟨by kernel_rfl, ?_⟩) (by assumption) ?_
        rotate_left
        · (intro wS hSw; (try dsimp only at hSw); go_simp <;> with_reducible rfl)
        try simp only [Act.put, List.getElem_toArray, List.getElem_cons_succ, List.getElem_cons_zero, List.setIfInBounds_toArray, List.set_cons_zero, List.set_cons_succ]
        refine wpAnyH_take (i := 1) (v := ?_) rfl (by kernel_rfl) (by kernel_rfl) (by kernel_rfl) (fun _ _ _ h => h) (Or.inl ⟨by kernel_rfl, ?_⟩) (by assumption) ?_
        rotate_left
        · (intro wS hSw; (try dsimp only at hSw); go_simp <;> with_reducible rfl)
        try simp only [Act.put, List.getElem_toArray, List.getElem_cons_succ, List.getElem_cons_zero, List.setIfInBounds_toArray, List.set_cons_zero, List.set_cons_succ]
        refine wpAnyH_take (i := 2) (v := ?_) rfl (by kernel_rfl) (by kernel_rfl) (by kernel_rfl) (fun _ _ _ h => h) (Or.inl ⟨by kernel_rfl, ?_⟩) (by assumption) ?_
        rotate_left
        · (intro wS hSw; (try dsimp only at hSw); go_simp <;> with_reducible rfl)
        try simp only [Act.put, List.getElem_toArray, List.getElem_cons_succ, List.getElem_cons_zero, List.setIfInBounds_toArray, List.set_cons_zero, List.set_cons_succ]
        refine wpAnyH_take (i := 3) (v := ?_) rfl (by kernel_rfl) (by kernel_rfl) (by kernel_rfl) (fun _ _ _ h => h) (Or.inl ⟨by kernel_rfl, ?_⟩) (by assumption) ?_
        rotate_left
        · (intro wS hSw; (try dsimp only at hSw); go_simp <;> with_reducible rfl)
        try simp only [Act.put, List.getElem_toArray, List.getElem_cons_succ, List.getElem_cons_zero, List.setIfInBounds_toArray, List.set_cons_zero, List.set_cons_succ]
        refine wpAnyH_take (i := 4) (v := ?_) rfl (by kernel_rfl) (by kernel_rfl) (by kernel_rfl) (fun _ _ _ h => h) (Or.inl ⟨by kernel_rfl, ?_⟩) (by assumption) ?_
        rotate_left
        · (intro wS hSw; (try dsimp only at hSw); go_simp <;> with_reducible rfl)
        try simp only [Act.put, List.getElem_toArray, List.getElem_cons_succ, List.getElem_cons_zero, List.setIfInBounds_toArray, List.set_cons_zero, List.set_cons_succ]
        refine wpAnyH_take (i := 5) (v := ?_) rfl (by kernel_rfl) (by kernel_rfl) (by kernel_rfl) (fun _ _ _ h => h) (Or.inl ⟨by kernel_rfl, ?_⟩) (by assumption) ?_
        rotate_left
        · (intro wS hSw; (try dsimp only at hSw); go_simp <;> with_reducible rfl)
        try simp only [Act.put, List.getElem_toArray, List.getElem_cons_succ, List.getElem_cons_zero, List.setIfInBounds_toArray, List.set_cons_zero, List.set_cons_succ]
        refine wpAnyH_ready (rs := [6]) (by kernel_rfl) (by simp) (AllReadyH.cons rfl (fun K hK => ?_) AllReadyH.nil)
        go_simp
        go_at_call 31
        refine (RF.out _ ((below_allocD _ _).drew)).mono ?_
        rintro e w3 ⟨rfl, hB3⟩
        have BW : Hid (Below (wr.alloc (.cells #[.int .i64 id, .slice va cells.length vq] 76)).heap.size (wr.alloc (.cells #[.int .i64 id, .slice va cells.length vq] 76)) w3) := (Below.refl _ _).drew.trans hB3
        clear hB3
        refine hK.out _ _ ?_ (fun hHeld => ?_)
        · (first | exact ⟨NB.out _ (Below.refl _ _), (HPRE.out _ (HBN.out _ (Below.refl _ _)) n hn1).trans (by rw [HPI.out])⟩ | exact ⟨NB.out _ (Below.refl _ _).drew, (HPRE.out _ (HBN.out _ (Below.refl _ _).drew) n hn1).trans (by rw [HPI.out])⟩ | exact ⟨NB.out _ BW.out, (HPRE.out _ (HBN.out _ BW.out) n hn1).trans (by rw [HPI.out])⟩)
        clear hK K
        try simp only [Act.put, List.getElem_toArray, List.getElem_cons_succ, List.getElem_cons_zero, List.setIfInBounds_toArray, List.set_cons_zero, List.set_cons_succ]
        refine wpAnyH_take (i := 7) (v := ?_) rfl (by kernel_rfl) (by kernel_rfl) (by kernel_rfl) (fun _ _ _ h => h) (Or.inl ⟨by kernel_rfl, ?_⟩) (by assumption) ?_
        rotate_left
        · (intro wS hSw; (try dsimp only at hSw); go_simp <;> with_reducible rfl)
        try simp only [Act.put, List.getElem_toArray, List.getElem_cons_succ, List.getElem_cons_zero, List.setIfInBounds_toArray, List.set_cons_zero, List.set_cons_succ]
        refine wpAnyH_take (i := 8) (v := ?_) rfl (by kernel_rfl) (by kernel_rfl) (by kernel_rfl) (fun _ _ _ h => h) (Or.inl ⟨by kernel_rfl, ?_⟩) (by assumption) ?_
        rotate_left
        · (intro wS hSw; (try dsimp only at hSw); go_simp <;> with_reducible rfl)
        try simp only [Act.put, List.getElem_toArray, List.getElem_cons_succ, List.getElem_cons_zero, List.setIfInBounds_toArray, List.set_cons_zero, List.set_cons_succ]
        refine wpAnyH_take (i := 9) (v := ?_) rfl (by kernel_rfl) (by kernel_rfl) (by kernel_rfl) (fun _ _ _ h => h) (Or.inl ⟨by kernel_rfl, ?_⟩) (by assumption) ?_
        rotate_left
        · (intro wS hSw; (try dsimp only at hSw); go_simp <;> with_reducible rfl)
        try simp only [Act.put, List.getElem_toArray, List.getElem_cons_succ, List.getElem_cons_zero, List.setIfInBounds_toArray, List.set_cons_zero, List.set_cons_succ]
        refine wpAnyH_take (i := 10) (v := ?_) rfl (by kernel_rfl) (by kernel_rfl) (by kernel_rfl) (fun _ _ _ h => h) (Or.inl ⟨by kernel_rfl, ?_⟩) (by assumption) ?_
        rotate_left
        · (intro wS hSw; (try dsimp only at hSw); go_simp <;> with_reducible rfl)
        try simp only [Act.put, List.getElem_toArray, List.getElem_cons_succ, List.getElem_cons_zero, List.setIfInBounds_toArray, List.set_cons_zero, List.set_cons_succ]
        refine wpAnyH_take (i := 11) (v := ?_) rfl (by kernel_rfl) (by kernel_rfl) (by kernel_rfl) (fun _ _ _ h => h) (Or.inl ⟨by kernel_rfl, ?_⟩) (by assumption) ?_
        rotate_left
        · (intro wS hSw; (try dsimp only at hSw); go_simp <;> with_reducible rfl)
        try simp only [Act.put, List.getElem_toArray, List.getElem_cons_succ, List.getElem_cons_zero, List.setIfInBounds_toArray, List.set_cons_zero, List.set_cons_succ]
        refine wpAnyH_take (i := 12) (v := ?_) rfl (by kernel_rfl) (by kernel_rfl) (by kernel_rfl) (fun _ _ _ h => h) (Or.inl ⟨by kernel_rfl, ?_⟩) (by assumption) ?_
        rotate_left
        · (intro wS hSw; (try dsimp only at hSw); go_simp <;> with_reducible rfl)
        try simp only [Act.put, List.getElem_toArray, List.getElem_cons_succ, List.getElem_cons_zero, List.setIfInBounds_toArray, List.set_cons_zero, List.set_cons_succ]
        refine wpAnyH_take (i := 13) (v := ?_) rfl (by kernel_rfl) (by kernel_rfl) (by kernel_rfl) (fun _ _ _ h => h) (Or.inl ⟨by kernel_rfl, ?_⟩) (by assumption) ?_
        rotate_left
        · (intro wS hSw; (try dsimp only at hSw); go_simp <;> with_reducible rfl)
        try simp only [Act.put, List.getElem_toArray, List.getElem_cons_succ, List.getElem_cons_zero, List.setIfInBounds_toArray, List.set_cons_zero, List.set_cons_succ]
        refine wpAnyH_take (i := 14) (v := ?_) rfl (by kernel_rfl) (by kernel_rfl) (by kernel_rfl) (fun _ _ _ h => h) (Or.inl ⟨by kernel_rfl, ?_⟩) (by assumption) ?_
        rotate_left
        · (intro wS hSw; (try dsimp only at hSw); go_simp <;> with_reducible rfl)
        try simp only [Act.put, List.getElem_toArray, List.getElem_cons_succ, List.getElem_cons_zero, List.setIfInBounds_toArray, List.set_cons_zero, List.set_cons_succ]
        refine wpAnyH_take (i := 15) (v := ?_) rfl (by kernel_rfl) (by kernel_rfl) (by kernel_rfl) (fun _ _ _ h => h) (Or.inl ⟨by kernel_rfl, ?_⟩) (by assumption) ?_
        rotate_left
        · (intro wS hSw; (try dsimp only at hSw); go_simp <;> with_reducible rfl)
        try simp only [Act.put, List.getElem_toArray, List.getElem_cons_succ, List.getElem_cons_zero, List.setIfInBounds_toArray, List.set_cons_zero, List.set_cons_succ]
        refine wpAnyH_take (i := 16) (v := ?_) rfl (by kernel_rfl) (by kernel_rfl) (by kernel_rfl) (fun _ _ _ h => h) (Or.inl ⟨by kernel_rfl, ?_⟩) (by assumption) ?_
        rotate_left
        · (intro wS hSw; (try dsimp only at hSw); go_simp <;> with_reducible rfl)
        try simp only [Act.put, List.getElem_toArray, List.getElem_cons_succ, List.getElem_cons_zero, List.setIfInBounds_toArray, List.set_cons_zero, List.set_cons_succ]
        refine wpAnyH_take (i := 17) (v := ?_) rfl (by kernel_rfl) (by kernel_rfl) (by kernel_rfl) (fun _ _ _ h => h) (Or.inl ⟨by kernel_rfl, ?_⟩) (by assumption) ?_
        rotate_left
        · (intro wS hSw; (try dsimp only at hSw); go_simp <;> with_reducible rfl)
        try simp only [Act.put, List.getElem_toArray, List.getElem_cons_succ, List.getElem_cons_zero, List.setIfInBounds_toArray, List.set_cons_zero, List.set_cons_succ]
        refine wpAnyH_take (i := 18) (v := ?_) rfl (by kernel_rfl) (by kernel_rfl) (by kernel_rfl) (fun _ _ _ h => h) (Or.inl ⟨by kernel_rfl, ?_⟩) (by assumption) ?_
        rotate_left
        · (intro wS hSw; (try dsimp only at hSw); go_simp <;> with_reducible rfl)
        try simp only [Act.put, List.getElem_toArray, List.getElem_cons_succ, List.getElem_cons_zero, List.setIfInBounds_toArray, List.set_cons_zero, List.set_cons_succ]
        refine wpAnyH_take (i := 19) (v := ?_) rfl (by kernel_rfl) (by kernel_rfl) (by kernel_rfl) (fun _ _ _ h => h) (Or.inl ⟨by kernel_rfl, ?_⟩) (by assumption) ?_
        rotate_left
        · (intro wS hSw; (try dsimp only at hSw); go_simp <;> with_reducible rfl)
        try simp only [Act.put, List.getElem_toArray, List.getElem_cons_succ, List.getElem_cons_zero, List.setIfInBounds_toArray, List.set_cons_zero, List.set_cons_succ]
        refine wpAnyH_take (i := 20) (v := ?_) rfl (by kernel_rfl) (by kernel_rfl) (by kernel_rfl) (fun _ _ _ h => h) (Or.inl ⟨by kernel_rfl, ?_⟩) (by assumption) ?_
        rotate_left
        · (intro wS hSw; (try dsimp only at hSw); go_simp <;> with_reducible rfl)
        try simp only [Act.put, List.getElem_toArray, List.getElem_cons_succ, List.getElem_cons_zero, List.setIfInBounds_toArray, List.set_cons_zero, List.set_cons_succ]
        refine wpAnyH_take (i := 21) (v := ?_) rfl (by kernel_rfl) (by kernel_rfl) (by kernel_rfl) (fun _ _ _ h => h) (Or.inl ⟨by kernel_rfl, ?_⟩) (by assumption) ?_
        rotate_left
        · (intro wS hSw; (try dsimp only at hSw); go_simp <;> with_reducible rfl)
        try simp only [Act.put, List.getElem_toArray, List.getElem_cons_succ, List.getElem_cons_zero, List.setIfInBounds_toArray, List.set_cons_zero, List.set_cons_succ]
        refine wpAnyH_take (i := 22) (v := ?_) rfl (by kernel_rfl) (by kernel_rfl) (by kernel_rfl) (fun _ _ _ h => h) (Or.inl ⟨by kernel_rfl, ?_⟩) (by assumption) ?_
        rotate_left
        · (intro wS hSw; (try dsimp only at hSw); go_simp <;> with_reducible rfl)
        try simp only [Act.put, List.getElem_toArray, List.getElem_cons_succ, List.getElem_cons_zero, List.setIfInBounds_toArray, List.set_cons_zero, List.set_cons_succ]
        refine wpAnyH_take (i := 23) (v := ?_) rfl (by kernel_rfl) (by kernel_rfl) (by kernel_rfl) (fun _ _ _ h => h) (Or.inl ⟨by kernel_rfl, ?_⟩) (by assumption) ?_
        rotate_left
        · (intro wS hSw; (try dsimp only at hSw); go_simp <;> with_reducible rfl)
        try simp only [Act.put, List.getElem_toArray, List.getElem_cons_succ, List.getElem_cons_zero, List.setIfInBounds_toArray, List.set_cons_zero, List.set_cons_succ]
        refine wpAnyH_take (i := 24) (v := ?_) rfl (by kernel_rfl) (by kernel_rfl) (by kernel_rfl) (fun _ _ _ h => h) (Or.inl ⟨by kernel_rfl, ?_⟩) (by assumption) ?_
        rotate_left
        · (intro wS hSw; (try dsimp only at hSw); go_simp <;> with_reducible rfl)
        try simp only [Act.put, List.getElem_toArray, List.getElem_cons_succ, List.getElem_cons_zero, List.setIfInBounds_toArray, List.set_cons_zero, List.set_cons_succ]
        refine wpAnyH_take (i := 25) (v := ?_) rfl (by kernel_rfl) (by kernel_rfl) (by kernel_rfl) (fun _ _ _ h => h) (Or.inl ⟨by kernel_rfl, ?_⟩) (by assumption) ?_
        rotate_left
        · (intro wS hSw; (try dsimp only at hSw); go_simp <;> with_reducible rfl)
        try simp only [Act.put, List.getElem_toArray, List.getElem_cons_succ, List.getElem_cons_zero, List.setIfInBounds_toArray, List.set_cons_zero, List.set_cons_succ]
        refine wpAnyH_take (i := 26) (v := ?_) rfl (by kernel_rfl) (by kernel_rfl) (by kernel_rfl) (fun _ _ _ h => h) (Or.inl ⟨by kernel_rfl, ?_⟩) (by assumption) ?_
        rotate_left
        · (intro wS hSw; (try dsimp only at hSw); go_simp <;> with_reducible rfl)
        try simp only [Act.put, List.getElem_toArray, List.getElem_cons_succ, List.getElem_cons_zero, List.setIfInBounds_toArray, List.set_cons_zero, List.set_cons_succ]
        refine wpAnyH_take (i := 27) (v := ?_) rfl (by kernel_rfl) (by kernel_rfl) (by kernel_rfl) (fun _ _ _ h => h) (Or.inl ⟨by kernel_rfl, ?_⟩) (by assumption) ?_
        rotate_left
        · (intro wS hSw; (try dsimp only at hSw); go_simp <;> with_reducible rfl)
        try simp only [Act.put, List.getElem_toArray, List.getElem_cons_succ, List.getElem_cons_zero, List.setIfInBounds_toArray, List.set_cons_zero, List.set_cons_succ]
        refine wpAnyH_take (i := 28) (v := ?_) rfl (by kernel_rfl) (by kernel_rfl) (by kernel_rfl) (fun _ _ _ h => h) (Or.inl ⟨by kernel_rfl, ?_⟩) (by assumption) ?_
        rotate_left
        · (intro wS hSw; (try dsimp only at hSw); go_simp <;> with_reducible rfl)
        try simp only [Act.put, List.getElem_toArray, List.getElem_cons_succ, List.getElem_cons_zero, List.setIfInBounds_toArray, List.set_cons_zero, List.set_cons_succ]
        refine wpAnyH_take (i := 29) (v := ?_) rfl (by kernel_rfl) (by kernel_rfl) (by kernel_rfl) (fun _ _ _ h => h) (Or.inl ⟨by kernel_rfl, ?_⟩) (by assumption) ?_
        rotate_left
        · (intro wS hSw; (try dsimp only at hSw); go_simp <;> with_reducible rfl)
        try simp only [Act.put, List.getElem_toArray, List.getElem_cons_succ, List.getElem_cons_zero, List.setIfInBounds_toArray, List.set_cons_zero, List.set_cons_succ]
        refine wpAnyH_take (i := 30) (v := ?_) rfl (by kernel_rfl) (by kernel_rfl) (by kernel_rfl) (fun _ _ _ h => h) (Or.inl ⟨by kernel_rfl, ?_⟩) (by assumption) ?_
        rotate_left
        · (intro wS hSw; (try dsimp only at hSw); go_simp <;> with_reducible rfl)
        try simp only [Act.put, List.getElem_toArray, List.getElem_cons_succ, List.getElem_cons_zero, List.setIfInBounds_toArray, List.set_cons_zero, List.set_cons_succ]
        refine wpAnyH_take (i := 31) (v := ?_) rfl (by kernel_rfl) (by kernel_rfl) (by kernel_rfl) (fun _ _ _ h => h) (Or.inl ⟨by kernel_rfl, ?_⟩) (by assumption) ?_
        rotate_left
        · (intro wS hSw; (try dsimp only at hSw); go_simp <;> with_reducible rfl)
        try simp only [Act.put, List.getElem_toArray, List.getElem_cons_succ, List.getElem_cons_zero, List.setIfInBounds_toArray, List.set_cons_zero, List.set_cons_succ]
        refine wpAnyH_take (i := 32) (v := ?_) rfl (by kernel_rfl) (by kernel_rfl) (by kernel_rfl) (fun _ _ _ h => h) (Or.inl ⟨by kernel_rfl, ?_⟩) (by assumption) ?_
        rotate_left
        · (intro wS hSw; (try dsimp only at hSw); go_simp <;> with_reducible rfl)
        try simp only [Act.put, List.getElem_toArray, List.getElem_cons_succ, List.getElem_cons_zero, List.setIfInBounds_toArray, List.set_cons_zero, List.set_cons_succ]
        refine wpAnyH_take (i := 33) (v := ?_) rfl (by kernel_rfl) (by kernel_rfl) (by kernel_rfl) (fun _ _ _ h => h) (Or.inl ⟨by kernel_rfl, ?_⟩) (by assumption) ?_
        rotate_left
        · (intro wS hSw; (try dsimp only at hSw); go_simp <;> with_reducible rfl)
        try simp only [Act.put, List.getElem_toArray, List.getElem_cons_succ, List.getElem_cons_zero, List.setIfInBounds_toArray, List.set_cons_zero, List.set_cons_succ]
        refine wpAnyH_done (by kernel_rfl) ?_ _
        have HB3 := Lib.hid (HW.out.2.later (HBN.out _ BW.out)).bel
        go_wp2_with fail
        go_ret
        exact ⟨ret_b HR.out.symm, HB3.out⟩
      have HN := Lib.hid (HNXT.out (HG2.out.1 hp))
      have hpg : decide (id ≤ pid) = false := decide_eq_false (by omega)
      clear hp HBAD HNXT HG2
      go_wp2_with fail
      refine wp_region_held_drew (S := (fun W => (((W.cell? ⟨w.heap.size, 0, none⟩ = some (.slice (some ⟨tb, toff, none⟩) l.length sc) ∧ W.cell? ⟨w.heap.size + 1, 0, none⟩ = some (.slice (some ⟨b, off, none⟩) x.tables.length xc) ∧ W.cell? ⟨w.heap.size + 1, 1, none⟩ = some (.int .i64 x.next)) ∧ W.cell? ⟨b, off + k, none⟩ = some (.slice (some ⟨rb, roff, none⟩) rows.length rq) ∧ W.cell? ⟨tb, toff + k * 4, none⟩ = some (.string ⟨t.nm.toArray⟩) ∧ W.cell? ⟨tb, toff + k * 4 + 1, none⟩ = some (.slice ca t.cols.length cc) ∧ W.cell? ⟨tb, toff + k * 4 + 2, none⟩ = some (.slice ua t.uq.length uc) ∧ W.cell? ⟨tb, toff + k * 4 + 3, none⟩ = some (.bool t.rt)) ∧ W.cell? ⟨wr.heap.size, 0, none⟩ = some (.int .i64 id) ∧ W.cell? ⟨wr.heap.size, 1, none⟩ = some (.slice va cells.length vq)) ∧ W.cell? ⟨rb, roff + n * 2, none⟩ = some (.int .i64 pid))) (by kernel_rfl) ?_ (fun hHeld => ?_)
      · (first | exact ⟨NB.out _ (Below.refl _ _), (HPRE.out _ (HBN.out _ (Below.refl _ _)) n hn1).trans (by rw [HPI.out])⟩ | exact ⟨NB.out _ (Below.refl _ _).drew, (HPRE.out _ (HBN.out _ (Below.refl _ _).drew) n hn1).trans (by rw [HPI.out])⟩ | exact ⟨NB.out _ BW.out, (HPRE.out _ (HBN.out _ BW.out) n hn1).trans (by rw [HPI.out])⟩)
      refine wpAnyH_take (i := 0) (v := ?_) rfl (by kernel_rfl) (by kernel_rfl) (by kernel_rfl) (fun _ _ _ h => h) (Or.inl ⟨by kernel_rfl, ?_⟩) (by assumption) ?_
      rotate_left
      · (intro wS hSw; (try dsimp only at hSw); go_simp <;> with_reducible rfl)
      try simp only [Act.put, List.getElem_toArray, List.getElem_cons_succ, List.getElem_cons_zero, List.setIfInBounds_toArray, List.set_cons_zero, List.set_cons_succ]
      refine wpAnyH_take (i := 1) (v := ?_) rfl (by kernel_rfl) (by kernel_rfl) (by kernel_rfl) (fun _ _ _ h => h) (Or.inl ⟨by kernel_rfl, ?_⟩) (by assumption) ?_
      rotate_left
      · (intro wS hSw; (try dsimp only at hSw); go_simp <;> with_reducible rfl)
      try simp only [Act.put, List.getElem_toArray, List.getElem_cons_succ, List.getElem_cons_zero, List.setIfInBounds_toArray, List.set_cons_zero, List.set_cons_succ]
      refine wpAnyH_take (i := 2) (v := ?_) rfl (by kernel_rfl) (by kernel_rfl) (by kernel_rfl) (fun _ _ _ h => h) (Or.inl ⟨by kernel_rfl, ?_⟩) (by assumption) ?_
      rotate_left
      · (intro wS hSw; (try dsimp only at hSw); go_simp <;> with_reducible rfl)
      try simp only [Act.put, List.getElem_toArray, List.getElem_cons_succ, List.getElem_cons_zero, List.setIfInBounds_toArray, List.set_cons_zero, List.set_cons_succ]
      refine wpAnyH_take (i := 3) (v := ?_) rfl (by kernel_rfl) (by kernel_rfl) (by kernel_rfl) (fun _ _ _ h => h) (Or.inl ⟨by kernel_rfl, ?_⟩) (by assumption) ?_
      rotate_left
      · (intro wS hSw; (try dsimp only at hSw); go_simp <;> with_reducible rfl)
      try simp only [Act.put, List.getElem_toArray, List.getElem_cons_succ, List.getElem_cons_zero, List.setIfInBounds_toArray, List.set_cons_zero, List.set_cons_succ]
      refine wpAnyH_take (i := 4) (v := ?_) rfl (by kernel_rfl) (by kernel_rfl) (by kernel_rfl) (fun _ _ _ h => h) (Or.inl ⟨by kernel_rfl, ?_⟩) (by assumption) ?_
      rotate_left
      · (intro wS hSw; (try dsimp only at hSw); go_simp <;> with_reducible rfl)
      try simp only [Act.put, List.getElem_toArray, List.getElem_cons_succ, List.getElem_cons_zero, List.setIfInBounds_toArray, List.set_cons_zero, List.set_cons_succ]
      refine wpAnyH_take (i := 5) (v := ?_) rfl (by kernel_rfl) (by kernel_rfl) (by kernel_rfl) (fun _ _ _ h => h) (Or.inl ⟨by kernel_rfl, ?_⟩) (by assumption) ?_
      rotate_left
      · (intro wS hSw; (try dsimp only at hSw); go_simp <;> with_reducible rfl)
      try simp only [Act.put, List.getElem_toArray, List.getElem_cons_succ, List.getElem_cons_zero, List.setIfInBounds_toArray, List.set_cons_zero, List.set_cons_succ]
      refine wpAnyH_ready (rs := [6]) (by kernel_rfl) (by simp) (AllReadyH.cons rfl (fun K hK => ?_) AllReadyH.nil)
      go_simp
      go_at_call 31
      refine (RF.out _ ((below_allocD _ _).drew)).mono ?_
      rintro e w3 ⟨rfl, hB3⟩
      have BW : Hid (Below (wr.alloc (.cells #[.int .i64 id, .slice va cells.length vq] 76)).heap.size (wr.alloc (.cells #[.int .i64 id, .slice va cells.length vq] 76)) w3) := (Below.refl _ _).drew.trans hB3
      clear hB3
      refine hK.out _ _ ?_ (fun hHeld => ?_)
      · (first | exact ⟨NB.out _ (Below.refl _ _), (HPRE.out _ (HBN.out _ (Below.refl _ _)) n hn1).trans (by rw [HPI.out])⟩ | exact ⟨NB.out _ (Below.refl _ _).drew, (HPRE.out _ (HBN.out _ (Below.refl _ _).drew) n hn1).trans (by rw [HPI.out])⟩ | exact ⟨NB.out _ BW.out, (HPRE.out _ (HBN.out _ BW.out) n hn1).trans (by rw [HPI.out])⟩)
      clear hK K
      try simp only [Act.put, List.getElem_toArray, List.getElem_cons_succ, List.getElem_cons_zero, List.setIfInBounds_toArray, List.set_cons_zero, List.set_cons_succ]
      refine wpAnyH_take (i := 7) (v := ?_) rfl (by kernel_rfl) (by kernel_rfl) (by kernel_rfl) (fun _ _ _ h => h) (Or.inl ⟨by kernel_rfl, ?_⟩) (by assumption) ?_
      rotate_left
      · (intro wS hSw; (try dsimp only at hSw); go_simp <;> with_reducible rfl)
      try simp only [Act.put, List.getElem_toArray, List.getElem_cons_succ, List.getElem_cons_zero, List.setIfInBounds_toArray, List.set_cons_zero, List.set_cons_succ]
      refine wpAnyH_take (i := 8) (v := ?_) rfl (by kernel_rfl) (by kernel_rfl) (by kernel_rfl) (fun _ _ _ h => h) (Or.inl ⟨by kernel_rfl, ?_⟩) (by assumption) ?_
      rotate_left
      · (intro wS hSw; (try dsimp only at hSw); go_simp <;> with_reducible rfl)
      try simp only [Act.put, List.getElem_toArray, List.getElem_cons_succ, List.getElem_cons_zero, List.setIfInBounds_toArray, List.set_cons_zero, List.set_cons_succ]
      refine wpAnyH_take (i := 9) (v := ?_) rfl (by kernel_rfl) (by kernel_rfl) (by kernel_rfl) (fun _ _ _ h => h) (Or.inl ⟨by kernel_rfl, ?_⟩) (by assumption) ?_
      rotate_left
      · (intro wS hSw; (try dsimp only at hSw); go_simp <;> with_reducible rfl)
      try simp only [Act.put, List.getElem_toArray, List.getElem_cons_succ, List.getElem_cons_zero, List.setIfInBounds_toArray, List.set_cons_zero, List.set_cons_succ]
      refine wpAnyH_take (i := 10) (v := ?_) rfl (by kernel_rfl) (by kernel_rfl) (by kernel_rfl) (fun _ _ _ h => h) (Or.inl ⟨by kernel_rfl, ?_⟩) (by assumption) ?_
      rotate_left
      · (intro wS hSw; (try dsimp only at hSw); go_simp <;> with_reducible rfl)
      try simp only [Act.put, List.getElem_toArray, List.getElem_cons_succ, List.getElem_cons_zero, List.setIfInBounds_toArray, List.set_cons_zero, List.set_cons_succ]
      refine wpAnyH_take (i := 11) (v := ?_) rfl (by kernel_rfl) (by kernel_rfl) (by kernel_rfl) (fun _ _ _ h => h) (Or.inl ⟨by kernel_rfl, ?_⟩) (by assumption) ?_
      rotate_left
      · (intro wS hSw; (try dsimp only at hSw); go_simp <;> with_reducible rfl)
      try simp only [Act.put, List.getElem_toArray, List.getElem_cons_succ, List.getElem_cons_zero, List.setIfInBounds_toArray, List.set_cons_zero, List.set_cons_succ]
      refine wpAnyH_take (i := 12) (v := ?_) rfl (by kernel_rfl) (by kernel_rfl) (by kernel_rfl) (fun _ _ _ h => h) (Or.inl ⟨by kernel_rfl, ?_⟩) (by assumption) ?_
      rotate_left
      · (intro wS hSw; (try dsimp only at hSw); go_simp <;> with_reducible rfl)
      try simp only [Act.put, List.getElem_toArray, List.getElem_cons_succ, List.getElem_cons_zero, List.setIfInBounds_toArray, List.set_cons_zero, List.set_cons_succ]
      refine wpAnyH_take (i := 13) (v := ?_) rfl (by kernel_rfl) (by kernel_rfl) (by kernel_rfl) (fun _ _ _ h => h) (Or.inl ⟨by kernel_rfl, ?_⟩) (by assumption) ?_
      rotate_left
      · (intro wS hSw; (try dsimp only at hSw); go_simp <;> with_reducible rfl)
      try simp only [Act.put, List.getElem_toArray, List.getElem_cons_succ, List.getElem_cons_zero, List.setIfInBounds_toArray, List.set_cons_zero, List.set_cons_succ]
      refine wpAnyH_take (i := 14) (v := ?_) rfl (by kernel_rfl) (by kernel_rfl) (by kernel_rfl) (fun _ _ _ h => h) (Or.inl ⟨by kernel_rfl, ?_⟩) (by assumption) ?_
      rotate_left
      · (intro wS hSw; (try dsimp only at hSw); go_simp <;> with_reducible rfl)
      try simp only [Act.put, List.getElem_toArray, List.getElem_cons_succ, List.getElem_cons_zero, List.setIfInBounds_toArray, List.set_cons_zero, List.set_cons_succ]
      refine wpAnyH_take (i := 15) (v := ?_) rfl (by kernel_rfl) (by kernel_rfl) (by kernel_rfl) (fun _ _ _ h => h) (Or.inl ⟨by kernel_rfl, ?_⟩) (by assumption) ?_
      rotate_left
      · (intro wS hSw; (try dsimp only at hSw); go_simp <;> with_reducible rfl)
      try simp only [Act.put, List.getElem_toArray, List.getElem_cons_succ, List.getElem_cons_zero, List.setIfInBounds_toArray, List.set_cons_zero, List.set_cons_succ]
      refine wpAnyH_take (i := 16) (v := ?_) rfl (by kernel_rfl) (by kernel_rfl) (by kernel_rfl) (fun _ _ _ h => h) (Or.inl ⟨by kernel_rfl, ?_⟩) (by assumption) ?_
      rotate_left
      · (intro wS hSw; (try dsimp only at hSw); go_simp <;> with_reducible rfl)
      try simp only [Act.put, List.getElem_toArray, List.getElem_cons_succ, List.getElem_cons_zero, List.setIfInBounds_toArray, List.set_cons_zero, List.set_cons_succ]
      refine wpAnyH_take (i := 17) (v := ?_) rfl (by kernel_rfl) (by kernel_rfl) (by kernel_rfl) (fun _ _ _ h => h) (Or.inl ⟨by kernel_rfl, ?_⟩) (by assumption) ?_
      rotate_left
      · (intro wS hSw; (try dsimp only at hSw); go_simp <;> with_reducible rfl)
      try simp only [Act.put, List.getElem_toArray, List.getElem_cons_succ, List.getElem_cons_zero, List.setIfInBounds_toArray, List.set_cons_zero, List.set_cons_succ]
      refine wpAnyH_take (i := 18) (v := ?_) rfl (by kernel_rfl) (by kernel_rfl) (by kernel_rfl) (fun _ _ _ h => h) (Or.inl ⟨by kernel_rfl, ?_⟩) (by assumption) ?_
      rotate_left
      · (intro wS hSw; (try dsimp only at hSw); go_simp <;> with_reducible rfl)
      try simp only [Act.put, List.getElem_toArray, List.getElem_cons_succ, List.getElem_cons_zero, List.setIfInBounds_toArray, List.set_cons_zero, List.set_cons_succ]
      refine wpAnyH_take (i := 19) (v := ?_) rfl (by kernel_rfl) (by kernel_rfl) (by kernel_rfl) (fun _ _ _ h => h) (Or.inl ⟨by kernel_rfl, ?_⟩) (by assumption) ?_
      rotate_left
      · (intro wS hSw; (try dsimp only at hSw); go_simp <;> with_reducible rfl)
      try simp only [Act.put, List.getElem_toArray, List.getElem_cons_succ, List.getElem_cons_zero, List.setIfInBounds_toArray, List.set_cons_zero, List.set_cons_succ]
      refine wpAnyH_take (i := 20) (v := ?_) rfl (by kernel_rfl) (by kernel_rfl) (by kernel_rfl) (fun _ _ _ h => h) (Or.inl ⟨by kernel_rfl, ?_⟩) (by assumption) ?_
      rotate_left
      · (intro wS hSw; (try dsimp only at hSw); go_simp <;> with_reducible rfl)
      try simp only [Act.put, List.getElem_toArray, List.getElem_cons_succ, List.getElem_cons_zero, List.setIfInBounds_toArray, List.set_cons_zero, List.set_cons_succ]
      refine wpAnyH_take (i := 21) (v := ?_) rfl (by kernel_rfl) (by kernel_rfl) (by kernel_rfl) (fun _ _ _ h => h) (Or.inl ⟨by kernel_rfl, ?_⟩) (by assumption) ?_
      rotate_left
      · (intro wS hSw; (try dsimp only at hSw); go_simp <;> with_reducible rfl)
      try simp only [Act.put, List.getElem_toArray, List.getElem_cons_succ, List.getElem_cons_zero, List.setIfInBounds_toArray, List.set_cons_zero, List.set_cons_succ]
      refine wpAnyH_take (i := 22) (v := ?_) rfl (by kernel_rfl) (by kernel_rfl) (by kernel_rfl) (fun _ _ _ h => h) (Or.inl ⟨by kernel_rfl, ?_⟩) (by assumption) ?_
      rotate_left
      · (intro wS hSw; (try dsimp only at hSw); go_simp <;> with_reducible rfl)
      try simp only [Act.put, List.getElem_toArray, List.getElem_cons_succ, List.getElem_cons_zero, List.setIfInBounds_toArray, List.set_cons_zero, List.set_cons_succ]
      refine wpAnyH_take (i := 23) (v := ?_) rfl (by kernel_rfl) (by kernel_rfl) (by kernel_rfl) (fun _ _ _ h => h) (Or.inl ⟨by kernel_rfl, ?_⟩) (by assumption) ?_
      rotate_left
      · (intro wS hSw; (try dsimp only at hSw); go_simp <;> with_reducible rfl)
      try simp only [Act.put, List.getElem_toArray, List.getElem_cons_succ, List.getElem_cons_zero, List.setIfInBounds_toArray, List.set_cons_zero, List.set_cons_succ]
      refine wpAnyH_take (i := 24) (v := ?_) rfl (by kernel_rfl) (by kernel_rfl) (by kernel_rfl) (fun _ _ _ h => h) (Or.inl ⟨by kernel_rfl, ?_⟩) (by assumption) ?_
      rotate_left
      · (intro wS hSw; (try dsimp only at hSw); go_simp <;> with_reducible rfl)
      try simp only [Act.put, List.getElem_toArray, List.getElem_cons_succ, List.getElem_cons_zero, List.setIfInBounds_toArray, List.set_cons_zero, List.set_cons_succ]
      refine wpAnyH_take (i := 25) (v := ?_) rfl (by kernel_rfl) (by kernel_rfl) (by kernel_rfl) (fun _ _ _ h => h) (Or.inl ⟨by kernel_rfl, ?_⟩) (by assumption) ?_
      rotate_left
      · (intro wS hSw; (try dsimp only at hSw); go_simp <;> with_reducible rfl)
      try simp only [Act.put, List.getElem_toArray, List.getElem_cons_succ, List.getElem_cons_zero, List.setIfInBounds_toArray, List.set_cons_zero, List.set_cons_succ]
      refine wpAnyH_take (i := 26) (v := ?_) rfl (by kernel_rfl) (by kernel_rfl) (by kernel_rfl) (fun _ _ _ h => h) (Or.inl ⟨by kernel_rfl, ?_⟩) (by assumption) ?_
      rotate_left
      · (intro wS hSw; (try dsimp only at hSw); go_simp <;> with_reducible rfl)
      try simp only [Act.put, List.getElem_toArray, List.getElem_cons_succ, List.getElem_cons_zero, List.setIfInBounds_toArray, List.set_cons_zero, List.set_cons_succ]
      refine wpAnyH_take (i := 27) (v := ?_) rfl (by kernel_rfl) (by kernel_rfl) (by kernel_rfl) (fun _ _ _ h => h) (Or.inl ⟨by kernel_rfl, ?_⟩) (by assumption) ?_
      rotate_left
      · (intro wS hSw; (try dsimp only at hSw); go_simp <;> with_reducible rfl)
      try simp only [Act.put, List.getElem_toArray, List.getElem_cons_succ, List.getElem_cons_zero, List.setIfInBounds_toArray, List.set_cons_zero, List.set_cons_succ]
      refine wpAnyH_take (i := 28) (v := ?_) rfl (by kernel_rfl) (by kernel_rfl) (by kernel_rfl) (fun _ _ _ h => h) (Or.inl ⟨by kernel_rfl, ?_⟩) (by assumption) ?_
      rotate_left
      · (intro wS hSw; (try dsimp only at hSw); go_simp <;> with_reducible rfl)
      try simp only [Act.put, List.getElem_toArray, List.getElem_cons_succ, List.getElem_cons_zero, List.setIfInBounds_toArray, List.set_cons_zero, List.set_cons_succ]
      refine wpAnyH_take (i := 29) (v := ?_) rfl (by kernel_rfl) (by kernel_rfl) (by kernel_rfl) (fun _ _ _ h => h) (Or.inl ⟨by kernel_rfl, ?_⟩) (by assumption) ?_
      rotate_left
      · (intro wS hSw; (try dsimp only at hSw); go_simp <;> with_reducible rfl)
      try simp only [Act.put, List.getElem_toArray, List.getElem_cons_succ, List.getElem_cons_zero, List.setIfInBounds_toArray, List.set_cons_zero, List.set_cons_succ]
      refine wpAnyH_take (i := 30) (v := ?_) rfl (by kernel_rfl) (by kernel_rfl) (by kernel_rfl) (fun _ _ _ h => h) (Or.inl ⟨by kernel_rfl, ?_⟩) (by assumption) ?_
      rotate_left
      · (intro wS hSw; (try dsimp only at hSw); go_simp <;> with_reducible rfl)
      try simp only [Act.put, List.getElem_toArray, List.getElem_cons_succ, List.getElem_cons_zero, List.setIfInBounds_toArray, List.set_cons_zero, List.set_cons_succ]
      refine wpAnyH_take (i := 31) (v := ?_) rfl (by kernel_rfl) (by kernel_rfl) (by kernel_rfl) (fun _ _ _ h => h) (Or.inl ⟨by kernel_rfl, ?_⟩) (by assumption) ?_
      rotate_left
      · (intro wS hSw; (try dsimp only at hSw); go_simp <;> with_reducible rfl)
      try simp only [Act.put, List.getElem_toArray, List.getElem_cons_succ, List.getElem_cons_zero, List.setIfInBounds_toArray, List.set_cons_zero, List.set_cons_succ]
      refine wpAnyH_take (i := 32) (v := ?_) rfl (by kernel_rfl) (by kernel_rfl) (by kernel_rfl) (fun _ _ _ h => h) (Or.inl ⟨by kernel_rfl, ?_⟩) (by assumption) ?_
      rotate_left
      · (intro wS hSw; (try dsimp only at hSw); go_simp <;> with_reducible rfl)
      try simp only [Act.put, List.getElem_toArray, List.getElem_cons_succ, List.getElem_cons_zero, List.setIfInBounds_toArray, List.set_cons_zero, List.set_cons_succ]
      refine wpAnyH_take (i := 33) (v := ?_) rfl (by kernel_rfl) (by kernel_rfl) (by kernel_rfl) (fun _ _ _ h => h) (Or.inl ⟨by kernel_rfl, ?_⟩) (by assumption) ?_
      rotate_left
      · (intro wS hSw; (try dsimp only at hSw); go_simp <;> with_reducible rfl)
      try simp only [Act.put, List.getElem_toArray, List.getElem_cons_succ, List.getElem_cons_zero, List.setIfInBounds_toArray, List.set_cons_zero, List.set_cons_succ]
      refine wpAnyH_done (by kernel_rfl) ?_ _
      have HB3 := Lib.hid (HBN.out _ BW.out)
      go_wp2_with fail
      go_roundw
      case rel => exact ⟨m + 1, by omega, by go_num, HN.out, HB3.out⟩
      case measure => simp [intOf]; omega
end Go.Proofs.Ytlkkmafnjdbofaa
namespace Go.Proofs.Ytlkkmafnjdbofaa
open Go.RowKit
set_option linter.unusedSimpArgs false
/-! in how many sets of Strong columns a row is -/
def cellAtN (rows : List RowV) (i c : Nat) : List At := (rows.getD i rowZ).cells.getD c []
/-- of the first k rows, how many have an atom in a column -/
def setsN (rows : List RowV) (c : Nat) (a : At) (k : Nat) : Nat := sumN k (fun i => if hasB (cellAtN rows i c) a = true then 1 else 0)
theorem setsN_le (rows : List RowV) (c : Nat) (a : At) : ∀ k, setsN rows c a k ≤ k
  | 0 => Nat.le_refl _
  | k + 1 => by
    have := setsN_le rows c a k
    unfold setsN at this ⊢
    rw [sumN_succ]
    split <;> omega
theorem setsN_succ (rows : List RowV) (c : Nat) (a : At) (k : Nat) : setsN rows c a (k + 1) = setsN rows c a k + (if hasB (cellAtN rows k c) a = true then 1 else 0) := by
  unfold setsN
  rw [sumN_succ]
theorem cellAtN_at {rows : List RowV} {i c : Nat} (hi : i < rows.length) (hc : c < rows[i].cells.length) : cellAtN rows i c = rows[i].cells[c] := by
  unfold cellAtN
  simp [List.getD_eq_getElem?_getD, List.getElem?_eq_getElem hi, List.getElem?_eq_getElem hc]
set_option maxRecDepth 100000 in
set_option maxHeartbeats 6400000 in
theorem setsWithI (rows : List RowV) (ra : Option Addr) (rc : Nat) (B : Nat → Prop) (c : Nat) (a : At) (w : World) (ho : (dRowS rows).le maxLen) (hl : rows.length ≤ 1000) (hcc : ∀ i (h : i < rows.length), c < rows[i].cells.length) (hR : Rd w B (dRowS rows) (.slice ra rows.length rc)) :
    Calls Try.prog 39 #[.slice ra rows.length rc, .int .i64 c, .agg #[.int .i64 a.k, .int .i64 a.n, .string ⟨a.t.toArray⟩]] w fun e w' => e = .returned (.int .i64 (setsN rows c a rows.length)) ∧ Below w.heap.size w w' := by
  have HL : Hid (∀ W, Below w.heap.size w W → Rd W B (Ls 2 dRow rows) (.slice ra rows.length rc)) := fun W h => Rd.later hR h
  have HO := Lib.hid (And.intro ho hcc)
  have HX := Lib.hid (boxD 82 w #[.int .i64 a.k, .int .i64 a.n, .string ⟨a.t.toArray⟩])
  have HSL := Lib.hid (setsN_le rows c a)
  clear ho hcc hR
  go_enter Try.func39, Try.ntmps39
  go_wp2_with fail
  go_loopw [7, 11] (fun n i wr => ∃ k : Nat, k ≤ rows.length ∧ i = .int .i64 k ∧ ∃ s : Nat, n = .int .i64 s ∧ Hid (s = setsN rows c a k ∧ BoxD 82 w wr #[.int .i64 a.k, .int .i64 a.n, .string ⟨a.t.toArray⟩])) (fun _ i _ => rows.length - (intOf i).toNat)
  case atStart => exact ⟨0, Nat.zero_le _, rfl, 0, rfl, rfl, HX.out⟩
  case round =>
    obtain ⟨k, hk, rfl, s, rfl, HW⟩ := hrel
    have hsk : s ≤ 1000 := by have := HSL.out k; rw [← HW.out.1] at this; omega
    by_cases hlt : k < rows.length
    case neg =>
      have hki : decide ((k : Int) < (rows.length : Int)) = false := by simp; omega
      have HE : Hid ((s : Int) = (setsN rows c a rows.length : Nat)) := by
        show (s : Int) = _
        rw [HW.out.1, show k = rows.length by omega]
      go_wp2_with fail
      go_ret
      exact ⟨ret_i HE.out, HW.out.2.2⟩
    have hki : (k : Int) < (rows.length : Int) := by omega
    have hcl := HO.out.2 k hlt
    have hcj : (c : Int) < (rows[k].cells.length : Int) := by omega
    obtain ⟨b, off, rfl, -, hc⟩ := (HL.out _ HW.out.2.2).things k hlt
    obtain ⟨u1, c1, r1⟩ := hc 1 (by omega)
    replace r1 : Rd wr B (Ls 1 cAtomS rows[k].cells) u1 := r1
    obtain ⟨sa, sq, rfl⟩ := r1.lsSlice
    obtain ⟨sb, soff, rfl, -, hs⟩ := r1.things c hcl
    obtain ⟨u2, c2, r2⟩ := hs 0 (by omega)
    replace r2 : Rd wr B (dAtomS rows[k].cells[c]) u2 := r2
    obtain ⟨va, vq, rfl⟩ := r2.lsSlice
    rw [Nat.mul_one, Nat.add_zero] at c2
    have HLE : Hid ((dAtomS rows[k].cells[c]).le maxLen) := (Ls_le.1 ((Ls_le.1 HO.out.1).2.2 k hlt 1 (by omega))).2.2 c hcl 0 (by omega)
    have CT : Hid (∀ W, Below wr.heap.size wr W → Calls Try.prog 59 #[.slice va rows[k].cells[c].length vq, .agg #[.int .i64 a.k, .int .i64 a.n, .string ⟨a.t.toArray⟩]] W fun e w' => e = .returned (.bool (hasB rows[k].cells[c] a)) ∧ Below W.heap.size W w') := fun W h => containsI rows[k].cells[c] a va vq B W (le_atoms HLE.out).1 (r2.later h).ats
    have HS : Hid (setsN rows c a (k + 1) = s + (if hasB rows[k].cells[c] a = true then 1 else 0)) := by
      show setsN rows c a (k + 1) = _
      rw [setsN_succ, cellAtN_at hlt hcl, HW.out.1]
    have CX : Hid (∀ W, Below wr.heap.size wr W → (W.cell? ⟨w.heap.size, 0, none⟩ = some (.int .i64 a.k) ∧ W.cell? ⟨w.heap.size, 1, none⟩ = some (.int .i64 a.n) ∧ W.cell? ⟨w.heap.size, 2, none⟩ = some (.string ⟨a.t.toArray⟩)) ∧ W.cell? ⟨b, off + k * 2 + 1, none⟩ = some (.slice (some ⟨sb, soff, none⟩) rows[k].cells.length sq) ∧ W.cell? ⟨sb, soff + c, none⟩ = some (.slice va rows[k].cells[c].length vq)) := fun W h => ⟨⟨cell_at (o := 0) (HW.out.2.later h).1 rfl, cell_at (o := 1) (HW.out.2.later h).1 rfl, cell_at (o := 2) (HW.out.2.later h).1 rfl⟩, (h.cell (p := ⟨b, off + k * 2 + 1, none⟩) (World.block_lt_of_cell? _ _ c1)).trans c1, (h.cell (p := ⟨sb, soff + c, none⟩) (World.block_lt_of_cell? _ _ c2)).trans c2⟩
    clear hc hs c1 c2 r1 r2 HLE
    generalize rows[k].cells[c] = cell at *
    clear hcl
    generalize rows[k].cells.length = nc at *
    go_wp2_with fail
    refine wp_region_held_drew (S := (fun W => (W.cell? ⟨w.heap.size, 0, none⟩ = some (.int .i64 a.k) ∧ W.cell? ⟨w.heap.size, 1, none⟩ = some (.int .i64 a.n) ∧ W.cell? ⟨w.heap.size, 2, none⟩ = some (.string ⟨a.t.toArray⟩)) ∧ W.cell? ⟨b, off + k * 2 + 1, none⟩ = some (.slice (some ⟨sb, soff, none⟩) nc sq) ∧ W.cell? ⟨sb, soff + c, none⟩ = some (.slice va cell.length vq))) (by kernel_rfl) ?_ (fun hHeld => ?_)
    · (first | exact CX.out _ (Below.refl _ _) | exact CX.out _ (Below.refl _ _).drew | exact CX.out _ BW.out)
    refine wpAnyH_take (i := 0) (v := ?_) rfl (by kernel_rfl) (by kernel_rfl) (by kernel_rfl) (fun _ _ _ h => h) (Or.inl ⟨by kernel_rfl, ?_⟩) (by assumption) ?_
    rotate_left
    · (intro wS hSw; (try dsimp only at hSw); go_simp <;> with_reducible rfl)
    try simp only [Act.put, List.getElem_toArray, List.getElem_cons_succ, List.getElem_cons_zero, List.setIfInBounds_toArray, List.set_cons_zero, List.set_cons_succ]
    refine wpAnyH_take (i := 1) (v := ?_) rfl (by kernel_rfl) (by kernel_rfl) (by kernel_rfl) (fun _ _ _ h => h) (Or.inl ⟨by kernel_rfl, ?_⟩) (by assumption) ?_
    rotate_left
    · (intro wS hSw; (try dsimp only at hSw); go_simp <;> with_reducible rfl)
    try simp only [Act.put, List.getElem_toArray, List.getElem_cons_succ, List.getElem_cons_zero, List.setIfInBounds_toArray, List.set_cons_zero, List.set_cons_succ]
    refine wpAnyH_take (i := 2) (v := ?_) rfl (by kernel_rfl) (by kernel_rfl) (by kernel_rfl) (fun _ _ _ h => h) (Or.inl ⟨by kernel_rfl, ?_⟩) (by assumption) ?_
    rotate_left
    · (intro wS hSw; (try dsimp only at hSw); go_simp <;> with_reducible rfl)
    try simp only [Act.put, List.getElem_toArray, List.getElem_cons_succ, List.getElem_cons_zero, List.setIfInBounds_toArray, List.set_cons_zero, List.set_cons_succ]
    refine wpAnyH_take (i := 3) (v := ?_) rfl (by kernel_rfl) (by kernel_rfl) (by kernel_rfl) (fun _ _ _ h => h) (Or.inl ⟨by kernel_rfl, ?_⟩) (by assumption) ?_
    rotate_left
    · (intro wS hSw; (try dsimp only at hSw); go_simp <;> with_reducible rfl)
    try simp only [Act.put, List.getElem_toArray, List.getElem_cons_succ, List.getElem_cons_zero, List.setIfInBounds_toArray, List.set_cons_zero, List.set_cons_succ]
    refine wpAnyH_take (i := 4) (v := ?_) rfl (by kernel_rfl) (by kernel_rfl) (by kernel_rfl) (fun _ _ _ h => h) (Or.inl ⟨by kernel_rfl, ?_⟩) (by assumption) ?_
    rotate_left
    · (intro wS hSw; (try dsimp only at hSw); go_simp <;> with_reducible rfl)
    try simp only [Act.put, List.getElem_toArray, List.getElem_cons_succ, List.getElem_cons_zero, List.setIfInBounds_toArray, List.set_cons_zero, List.set_cons_succ]
    refine wpAnyH_take (i := 5) (v := ?_) rfl (by kernel_rfl) (by kernel_rfl) (by kernel_rfl) (fun _ _ _ h => h) (Or.inl ⟨by kernel_rfl, ?_⟩) (by assumption) ?_
    rotate_left
    · (intro wS hSw; (try dsimp only at hSw); go_simp <;> with_reducible rfl)
    try simp only [Act.put, List.getElem_toArray, List.getElem_cons_succ, List.getElem_cons_zero, List.setIfInBounds_toArray, List.set_cons_zero, List.set_cons_succ]
    refine wpAnyH_take (i := 6) (v := ?_) rfl (by kernel_rfl) (by kernel_rfl) (by kernel_rfl) (fun _ _ _ h => h) (Or.inl ⟨by kernel_rfl, ?_⟩) (by assumption) ?_
    rotate_left
    · (intro wS hSw; (try dsimp only at hSw); go_simp <;> with_reducible rfl)
    try simp only [Act.put, List.getElem_toArray, List.getElem_cons_succ, List.getElem_cons_zero, List.setIfInBounds_toArray, List.set_cons_zero, List.set_cons_succ]
    refine wpAnyH_take (i := 7) (v := ?_) rfl (by kernel_rfl) (by kernel_rfl) (by kernel_rfl) (fun _ _ _ h => h) (Or.inl ⟨by kernel_rfl, ?_⟩) (by assumption) ?_
    rotate_left
    · (intro wS hSw; (try dsimp only at hSw); go_simp <;> with_reducible rfl)
    try simp only [Act.put, List.getElem_toArray, List.getElem_cons_succ, List.getElem_cons_zero, List.setIfInBounds_toArray, List.set_cons_zero, List.set_cons_succ]
    refine wpAnyH_take (i := 8) (v := ?_) rfl (by kernel_rfl) (by kernel_rfl) (by kernel_rfl) (fun _ _ _ h => h) (Or.inl ⟨by kernel_rfl, ?_⟩) (by assumption) ?_
    rotate_left
    · (intro wS hSw; (try dsimp only at hSw); go_simp <;> with_reducible rfl)
    try simp only [Act.put, List.getElem_toArray, List.getElem_cons_succ, List.getElem_cons_zero, List.setIfInBounds_toArray, List.set_cons_zero, List.set_cons_succ]
    refine wpAnyH_ready (rs := [9]) (by kernel_rfl) (by simp) (AllReadyH.cons rfl (fun K hK => ?_) AllReadyH.nil)
    go_simp
    go_at_call 59
    refine (CT.out _ (Below.refl _ _).drew).mono ?_
    rintro e w2 ⟨rfl, hB2⟩
    have BW : Hid (Below wr.heap.size wr w2) := (Below.refl _ _).drew.trans hB2
    clear hB2
    refine hK.out _ _ ?_ (fun hHeld => ?_)
    · (first | exact CX.out _ (Below.refl _ _) | exact CX.out _ (Below.refl _ _).drew | exact CX.out _ BW.out)
    clear hK K
    try simp only [Act.put, List.getElem_toArray, List.getElem_cons_succ, List.getElem_cons_zero, List.setIfInBounds_toArray, List.set_cons_zero, List.set_cons_succ]
    refine wpAnyH_done (by kernel_rfl) ?_ _
    have HB2 := Lib.hid (HW.out.2.later BW.out)
    have hws : IntKind.i64.wrap ((s : Int) + 1) = (s : Int) + 1 := by rw [IntKind.wrap_i64]; omega
    cases he : hasB cell a
    case false =>
      have HN : Hid (s = setsN rows c a (k + 1)) := by show _ = _; rw [HS.out, he]; simp
      clear HS CT he
      go_wp2_with fail
      go_roundw
      case rel => exact ⟨k + 1, by omega, by go_num, s, by go_num, HN.out, HB2.out⟩
      case measure => simp [intOf]; omega
    case true =>
      have HN : Hid (s + 1 = setsN rows c a (k + 1)) := by show _ = _; rw [HS.out, he]; simp
      clear HS CT he
      go_wp2_with fail
      go_roundw
      case rel => exact ⟨k + 1, by omega, by go_num, s + 1, by go_num, HN.out, HB2.out⟩
      case measure => simp [intOf]; omega
end Go.Proofs.Ytlkkmafnjdbofaa
namespace Go.Proofs.Ytlkkmafnjdbofaa
set_option linter.unusedSimpArgs false
/-! the sets of Strong columns that a row is in: the sums -/
/-- a column that counts: Strong, and its Ref is the table's name -/
def pullB (c : Cl) (nm : List UInt8) : Bool := c.st && decide (c.rf = nm)
/-- of the first k columns of a table -/
def colsN (cols : List Cl) (rows : List RowV) (nm : List UInt8) (a : At) (k : Nat) : Nat := sumN k (fun c => match cols[c]? with
  | some y => if pullB y nm = true then setsN rows c a rows.length else 0
  | none => 0)
/-- of the first k tables -/
def strongN (l : List Tb) (ts : List (List RowV)) (nm : List UInt8) (a : At) (k : Nat) : Nat := sumN k (fun i => match l[i]?, ts[i]? with
  | some t, some rows => colsN t.cols rows nm a t.cols.length
  | _, _ => 0)
theorem colsN_zero (cols : List Cl) (rows : List RowV) (nm : List UInt8) (a : At) : colsN cols rows nm a 0 = 0 := rfl
theorem colsN_yes {cols : List Cl} {rows : List RowV} {nm : List UInt8} {a : At} {k : Nat} (h : k < cols.length) (hp : pullB cols[k] nm = true) : colsN cols rows nm a (k + 1) = colsN cols rows nm a k + setsN rows k a rows.length := by
  unfold colsN
  rw [sumN_succ]
  simp [List.getElem?_eq_getElem h, hp]
theorem colsN_no {cols : List Cl} {rows : List RowV} {nm : List UInt8} {a : At} {k : Nat} (h : k < cols.length) (hp : pullB cols[k] nm = false) : colsN cols rows nm a (k + 1) = colsN cols rows nm a k := by
  unfold colsN
  rw [sumN_succ]
  simp [List.getElem?_eq_getElem h, hp]
theorem colsN_le (cols : List Cl) (rows : List RowV) (nm : List UInt8) (a : At) : ∀ k, colsN cols rows nm a k ≤ k * rows.length
  | 0 => Nat.zero_le _
  | k + 1 => by
    have h := colsN_le cols rows nm a k
    have hs := setsN_le rows k a rows.length
    unfold colsN at h ⊢
    rw [sumN_succ, Nat.succ_mul]
    split
    · split <;> omega
    · omega
theorem strongN_zero (l : List Tb) (ts : List (List RowV)) (nm : List UInt8) (a : At) : strongN l ts nm a 0 = 0 := rfl
theorem strongN_succ {l : List Tb} {ts : List (List RowV)} {nm : List UInt8} {a : At} {k : Nat} (h : k < l.length) (h' : k < ts.length) : strongN l ts nm a (k + 1) = strongN l ts nm a k + colsN l[k].cols ts[k] nm a l[k].cols.length := by
  unfold strongN
  rw [sumN_succ]
  simp [List.getElem?_eq_getElem h, List.getElem?_eq_getElem h']
/-- where no table has more than m columns and n rows -/
theorem strongN_le {l : List Tb} {ts : List (List RowV)} {m n : Nat} (nm : List UInt8) (a : At) (hc : ∀ i (h : i < l.length), l[i].cols.length ≤ m) (hr : ∀ i (h : i < ts.length), ts[i].length ≤ n) : ∀ k, strongN l ts nm a k ≤ k * (m * n)
  | 0 => Nat.zero_le _
  | k + 1 => by
    have h := strongN_le nm a hc hr k
    rw [Nat.succ_mul]
    by_cases h1 : k < l.length
    · by_cases h2 : k < ts.length
      · rw [strongN_succ h1 h2]
        have hx := colsN_le l[k].cols ts[k] nm a l[k].cols.length
        have hy := Nat.mul_le_mul (hc k h1) (hr k h2)
        omega
      · unfold strongN at h ⊢
        rw [sumN_succ]
        simp [List.getElem?_eq_none (Nat.not_lt.1 h2)]
        omega
    · unfold strongN at h ⊢
      rw [sumN_succ]
      simp [List.getElem?_eq_none (Nat.not_lt.1 h1)]
      omega
end Go.Proofs.Ytlkkmafnjdbofaa
namespace Go.Proofs.Ytlkkmafnjdbofaa
open Go.RowKit
set_option linter.unusedSimpArgs false
theorem row_of5 {t : Tb} {id : Int} {l : List (List At)} (h : rowB t id l = true) : RowP t id l := by unfold rowB at h; exact @of_decide_eq_true _ (Classical.propDecidable _) h
set_option maxRecDepth 100000 in
set_option maxHeartbeats 6400000 in
theorem strongCountI (l : List Tb) (sa : Option Addr) (sc : Nat) (A : Nat → Prop) (x : StV) (xa : Option Addr) (xc : Nat) (B : Nat → Prop) (tb : Nat) (htb : tb < l.length) (id : Int) (w : World) (hlo : (dTableS l).le maxLen) (ho : (dRowSS x.tables).le maxLen) (hl4 : l.length ≤ 1000) (hc6 : ∀ i (h : i < l.length), l[i].cols.length ≤ 1000) (hf : FormP l x) (hT : Rd w A (dTableS l) (.slice sa l.length sc)) (hR : Rd w B (dRowSS x.tables) (.slice xa x.tables.length xc)) :
    Calls Try.prog 24 #[.agg #[.slice sa l.length sc], .agg #[.slice xa x.tables.length xc, .int .i64 x.next], .int .i64 tb, .int .i64 id] w fun e w' => e = .returned (.int .i64 (strongN l x.tables l[tb].nm ⟨4, id, []⟩ l.length)) ∧ Below w.heap.size w w' := by
  have HL : Hid (∀ W, Below w.heap.size w W → Rd W B (Ls 1 cRowS x.tables) (.slice xa x.tables.length xc)) := fun W h => Rd.later hR h
  obtain ⟨Ad, hA⟩ := hT.tabs
  have HS : Hid (∀ W, Below w.heap.size w W → Tabs W A sa l Ad) := fun W h => hA.later h
  have HO := Lib.hid (And.intro (le_tables hlo) ho)
  have HF := Lib.hid hf
  have HC6 := Lib.hid hc6
  have HSL : Hid (∀ k, strongN l x.tables l[tb].nm ⟨4, id, []⟩ k ≤ k * (1000 * 12)) := fun k => strongN_le _ _ hc6 (fun i h => (hf.2.2 i (by have := hf.1; omega) h).1) k
  have htj : (tb : Int) < (l.length : Int) := by omega
  have hb := boxE 34 38 w #[.slice sa l.length sc] #[.slice xa x.tables.length xc, .int .i64 x.next]
  have x0 := cell_at (o := 0) hb.a rfl
  have HB := Lib.hid hb
  clear hlo ho hT hR hA hf hc6 hb
  go_enter Try.func24, Try.ntmps24
  go_wp2_with fail
  clear x0
  go_loopw [9, 17] (fun n i wr => ∃ k : Nat, k ≤ l.length ∧ i = .int .i64 k ∧ ∃ s : Nat, n = .int .i64 s ∧ Hid (s = strongN l x.tables l[tb].nm ⟨4, id, []⟩ k ∧ BoxE 34 38 w wr #[.slice sa l.length sc] #[.slice xa x.tables.length xc, .int .i64 x.next])) (fun _ i _ => l.length - (intOf i).toNat)
  case atStart => exact ⟨0, Nat.zero_le _, rfl, 0, rfl, rfl, HB.out⟩
  case round =>
    obtain ⟨i, hi, rfl, s, rfl, HW⟩ := hrel
    generalize wr = wo at *
    have hsk : s ≤ 12000000 := by have := HSL.out i; rw [← HW.out.1] at this; omega
    by_cases hlt : i < l.length
    case neg =>
      have hki : decide ((i : Int) < (l.length : Int)) = false := by simp; omega
      have HE : Hid ((s : Int) = (strongN l x.tables l[tb].nm ⟨4, id, []⟩ l.length : Nat)) := by
        show (s : Int) = _
        rw [HW.out.1, show i = l.length by omega]
      go_wp2_with fail
      go_ret
      exact ⟨ret_i HE.out, HW.out.2.bel⟩
    have hlt' : i < x.tables.length := by have := HF.out.1; omega
    have hki : (i : Int) < (l.length : Int) := by omega
    have hkj : (i : Int) < (x.tables.length : Int) := by omega
    obtain ⟨b, off, rfl, -, hc⟩ := (HS.out _ HW.out.2.bel).at i hlt
    obtain ⟨t0, t1, t2, t3⟩ := hc i hlt
    have n0 := (hc tb htb).1
    obtain ⟨xb, xoff, rfl, -, hd⟩ := (HL.out _ HW.out.2.bel).things i hlt'
    obtain ⟨u0, q0, r0⟩ := hd 0 (by omega)
    replace r0 : Rd wo B (dRowS x.tables[i]) u0 := r0
    obtain ⟨ra, rq, rfl⟩ := r0.lsSlice
    rw [Nat.mul_one, Nat.add_zero] at q0
    have HRP := Lib.hid (HF.out.2.2 i hlt hlt')
    have HRO : Hid ((dRowS x.tables[i]).le maxLen) := (Ls_le.1 HO.out.2).2.2 i hlt' 0 (by omega)
    have HH : Hid (∀ W, Below w.heap.size w W → l[i].Has W A (Ad i).ca (Ad i).ua) := fun W h => (HS.out _ h).has i hlt
    have hzl := HC6.out i hlt
    have HNX : Hid (∀ v, v = s + colsN l[i].cols x.tables[i] l[tb].nm ⟨4, id, []⟩ l[i].cols.length → v = strongN l x.tables l[tb].nm ⟨4, id, []⟩ (i + 1)) := fun v h => by rw [strongN_succ hlt hlt', ← HW.out.1]; exact h
    have CX : Hid (∀ W, Below wo.heap.size wo W → W.cell? ⟨w.heap.size, 0, none⟩ = some (.slice (some ⟨b, off, none⟩) l.length sc) ∧ W.cell? ⟨w.heap.size + 1, 0, none⟩ = some (.slice (some ⟨xb, xoff, none⟩) x.tables.length xc) ∧ W.cell? ⟨b, off + tb * 4, none⟩ = some (.string ⟨l[tb].nm.toArray⟩) ∧ W.cell? ⟨xb, xoff + i, none⟩ = some (.slice ra x.tables[i].length rq)) := fun W h => ⟨cell_at (o := 0) (HW.out.2.later h).a rfl, cell_at (o := 0) (HW.out.2.later h).b rfl, (h.cell (p := ⟨b, off + tb * 4, none⟩) (World.block_lt_of_cell? _ _ n0)).trans n0, (h.cell (p := ⟨xb, xoff + i, none⟩) (World.block_lt_of_cell? _ _ q0)).trans q0⟩
    have SW : Hid (∀ k, k < l[i].cols.length → ∀ W, Below wo.heap.size wo W → Calls Try.prog 39 #[.slice ra x.tables[i].length rq, .int .i64 k, .agg #[.int .i64 4, .int .i64 id, .string ⟨#[]⟩]] W fun e w' => e = .returned (.int .i64 (setsN x.tables[i] k ⟨4, id, []⟩ x.tables[i].length)) ∧ Below W.heap.size W w') := fun k hk W h => setsWithI x.tables[i] ra rq B k ⟨4, id, []⟩ W HRO.out (by have := HRP.out.1; omega) (fun m hm => by have := (row_of5 (HRP.out.2.2 m hm).2).len; omega) (r0.later h)
    have HR12 := Lib.hid HRP.out.1
    clear hc hd n0 q0 r0 HRP HRO
    generalize x.tables[i] = rows at *
    generalize l[tb].nm = nm at *
    generalize Ad i = ad at *
    obtain ⟨ca, cc, ua, uc⟩ := ad
    simp only at t1 t2 HH
    have hx0 := (CX.out _ (Below.refl _ _)).1
    generalize l[i] = z at *
    go_wp2_with fail
    clear t0 t1 t2 t3 hx0
    go_loopw [9, 25] (fun n q wr => ∃ k : Nat, k ≤ z.cols.length ∧ q = .int .i64 k ∧ ∃ v : Nat, n = .int .i64 v ∧ Hid (v = s + colsN z.cols rows nm ⟨4, id, []⟩ k ∧ Below wo.heap.size wo wr)) (fun _ q _ => z.cols.length - (intOf q).toNat)
    case atStart => exact ⟨0, Nat.zero_le _, rfl, s, rfl, rfl, below_allocD _ _⟩
    case round =>
      obtain ⟨k, hk, rfl, v, rfl, HV⟩ := hrel
      have hvk : v ≤ 12012000 := by
        have h1 := colsN_le z.cols rows nm ⟨4, id, []⟩ k
        have h2 := Nat.mul_le_mul (show k ≤ 1000 by omega) HR12.out
        rw [HV.out.1]; omega
      by_cases hkl : k < z.cols.length
      case neg =>
        have hkd : decide ((k : Int) < (z.cols.length : Int)) = false := by simp; omega
        have HG := Lib.hid (HNX.out v (by rw [HV.out.1, show k = z.cols.length by omega]))
        have HV2 := Lib.hid (HW.out.2.later HV.out.2)
        clear HV HW
        go_wp2_with fail
        go_roundw
        case rel => exact ⟨i + 1, by omega, by go_num, v, rfl, HG.out, HV2.out⟩
        case measure => simp [intOf]; omega
      have hkk : (k : Int) < (z.cols.length : Int) := by omega
      obtain ⟨bc, oc, rfl, -, hcc⟩ := (HH.out _ (HW.out.2.later HV.out.2).bel).1.at k hkl
      obtain ⟨c0, c1, c2, c3, c4, c5, c6, c7⟩ := hcc k hkl
      have HY : Hid (pullB z.cols[k] nm = true → v + setsN rows k ⟨4, id, []⟩ rows.length = s + colsN z.cols rows nm ⟨4, id, []⟩ (k + 1)) := fun h => by rw [colsN_yes hkl h, HV.out.1]; omega
      have HN : Hid (pullB z.cols[k] nm = false → v = s + colsN z.cols rows nm ⟨4, id, []⟩ (k + 1)) := fun h => by rw [colsN_no hkl h]; exact HV.out.1
      have SK := Lib.hid (SW.out k hkl)
      have HVB := Lib.hid HV.out.2
      clear HV hcc
      generalize z.cols[k] = y at *
      obtain ⟨ynm, yk, ymn, ymx, ylo, yhi, yrf, yst⟩ := y
      dsimp only at c0 c1 c2 c3 c4 c5 c6 c7
      have HWB : Hid (Below wo.heap.size wo (wr.alloc (.cells #[.string ⟨ynm.toArray⟩, .int .i64 yk, .int .i64 ymn, .int .i64 ymx, .int .i64 ylo, .int .i64 yhi, .string ⟨yrf.toArray⟩, .bool yst] 72))) := HVB.out.trans ((below_allocD _ _).mono HVB.out.size)
      have x0 := (CX.out (wr.alloc (.cells #[.string ⟨ynm.toArray⟩, .int .i64 yk, .int .i64 ymn, .int .i64 ymx, .int .i64 ylo, .int .i64 yhi, .string ⟨yrf.toArray⟩, .bool yst] 72)) HWB.out).1
      have y0 := (CX.out (wr.alloc (.cells #[.string ⟨ynm.toArray⟩, .int .i64 yk, .int .i64 ymn, .int .i64 ymx, .int .i64 ylo, .int .i64 yhi, .string ⟨yrf.toArray⟩, .bool yst] 72)) HWB.out).2.1
      have n0 := (CX.out (wr.alloc (.cells #[.string ⟨ynm.toArray⟩, .int .i64 yk, .int .i64 ymn, .int .i64 ymx, .int .i64 ylo, .int .i64 yhi, .string ⟨yrf.toArray⟩, .bool yst] 72)) HWB.out).2.2.1
      have q0 := (CX.out (wr.alloc (.cells #[.string ⟨ynm.toArray⟩, .int .i64 yk, .int .i64 ymn, .int .i64 ymx, .int .i64 ylo, .int .i64 yhi, .string ⟨yrf.toArray⟩, .bool yst] 72)) HWB.out).2.2.2
      have z6 := cell_at (o := 6) (heap_newD wr (.cells #[.string ⟨ynm.toArray⟩, .int .i64 yk, .int .i64 ymn, .int .i64 ymx, .int .i64 ylo, .int .i64 yhi, .string ⟨yrf.toArray⟩, .bool yst] 72)) rfl
      have z7 := cell_at (o := 7) (heap_newD wr (.cells #[.string ⟨ynm.toArray⟩, .int .i64 yk, .int .i64 ymn, .int .i64 ymx, .int .i64 ylo, .int .i64 yhi, .string ⟨yrf.toArray⟩, .bool yst] 72)) rfl
      cases yst
      case false =>
        have HG := Lib.hid (HN.out rfl)
        clear HY HN SK
        go_wp2_with fail
        go_quiet (fail)
        go_wp2_with fail
        go_roundw
        case rel => exact ⟨k + 1, by omega, by go_num, v, rfl, HG.out, below_drewN HWB.out _⟩
        case measure => simp [intOf]; omega
      by_cases hrf : yrf = nm
      case neg =>
        have HG := Lib.hid (HN.out (by unfold pullB; simpa using hrf))
        have hne : (yrf == nm) = false := by simpa using hrf
        clear HY HN SK hrf
        go_wp2_with fail
        go_quiet (fail)
        go_wp2_with fail
        go_roundw
        case rel => exact ⟨k + 1, by omega, by go_num, v, rfl, HG.out, below_drewN HWB.out _⟩
        case measure => simp [intOf]; omega
      have HG := Lib.hid (HY.out (by unfold pullB; simpa using hrf))
      have hsl := setsN_le rows k ⟨4, id, []⟩ rows.length
      have hsm : setsN rows k ⟨4, id, []⟩ rows.length ≤ 12 := Nat.le_trans hsl HR12.out
      clear HY HN hsl
      subst hrf
      generalize setsN rows k ⟨4, id, []⟩ rows.length = m at *
      have hws : IntKind.i64.wrap ((v : Int) + (m : Int)) = (v : Int) + (m : Int) := by rw [IntKind.wrap_i64]; omega
      go_wp2_with fail
      go_quiet (fail)
      go_wp2_with fail
      refine (SK.out _ (by first | exact below_drewN HWB.out _ | exact HWB.out.drew | exact HWB.out)).mono ?_
      rintro e w3 ⟨rfl, hB⟩
      have HW3 : Hid (Below wo.heap.size wo w3) := by
        first
        | exact (below_drewN HWB.out _).trans (hB.mono (below_drewN HWB.out _).size)
        | exact HWB.out.trans (hB.mono HWB.out.size)
      clear x0 y0 n0 q0 z6 z7 hB
      go_wp2_with fail
      go_roundw
      case rel => exact ⟨k + 1, by omega, by go_num, v + m, by go_num, HG.out, HW3.out⟩
      case measure => simp [intOf]; omega
end Go.Proofs.Ytlkkmafnjdbofaa
namespace Go.Proofs.Ytlkkmafnjdbofaa
open Go.RowKit
set_option linter.unusedSimpArgs false
set_option maxRecDepth 100000 in
set_option maxHeartbeats 6400000 in
theorem strongS (l : List Tb) (sa : Option Addr) (sc : Nat) (A : Nat → Prop) (x : StV) (xa : Option Addr) (xc : Nat) (B : Nat → Prop) (tb : Nat) (htb : tb < l.length) (id : Int) (w : World) (hlo : (dTableS l).le maxLen) (ho : (dRowSS x.tables).le maxLen) (hl4 : l.length ≤ 1000) (hc6 : ∀ i (h : i < l.length), l[i].cols.length ≤ 1000) (hf : FormP l x) (hT : Rd w A (dTableS l) (.slice sa l.length sc)) (hR : Rd w B (dRowSS x.tables) (.slice xa x.tables.length xc)) :
    Calls Try.prog 18 #[.agg #[.slice sa l.length sc], .agg #[.slice xa x.tables.length xc, .int .i64 x.next], .int .i64 tb, .int .i64 id] w fun e w' => e = .returned (.int .i64 (strongN l x.tables l[tb].nm ⟨4, id, []⟩ l.length)) ∧ Below w.heap.size w w' := by
  have HL : Hid (∀ W, Below w.heap.size w W → Rd W B (Ls 1 cRowS x.tables) (.slice xa x.tables.length xc)) := fun W h => Rd.later hR h
  obtain ⟨Ad, hA⟩ := hT.tabs
  have HS : Hid (∀ W, Below w.heap.size w W → Tabs W A sa l Ad) := fun W h => hA.later h
  have HO := Lib.hid (And.intro (le_tables hlo) ho)
  have HF := Lib.hid hf
  have HC6 := Lib.hid hc6
  have HSL : Hid (∀ k, strongN l x.tables l[tb].nm ⟨4, id, []⟩ k ≤ k * (1000 * 12)) := fun k => strongN_le _ _ hc6 (fun i h => (hf.2.2 i (by have := hf.1; omega) h).1) k
  have htj : (tb : Int) < (l.length : Int) := by omega
  have hxl : x.tables.length ≤ 1000 := by have := hf.1; omega
  have HB := Lib.hid (boxE 34 38 w #[.slice sa l.length sc] #[.slice xa x.tables.length xc, .int .i64 x.next])
  clear hlo ho hT hR hA hf hc6
  go_enter Try.func18, Try.ntmps18
  go_wp2_with fail
  go_loopw [9, 10] (fun n i wr => ∃ k : Nat, k ≤ x.tables.length ∧ i = .int .i64 k ∧ ∃ s : Nat, n = .int .i64 s ∧ Hid (s = strongN l x.tables l[tb].nm ⟨4, id, []⟩ k ∧ BoxE 34 38 w wr #[.slice sa l.length sc] #[.slice xa x.tables.length xc, .int .i64 x.next])) (fun _ i _ => x.tables.length - (intOf i).toNat)
  case atStart => exact ⟨0, Nat.zero_le _, rfl, 0, rfl, rfl, HB.out⟩
  case round =>
    obtain ⟨i, hi, rfl, s, rfl, HW⟩ := hrel
    generalize wr = wo at *
    have y0 := cell_at (o := 0) HW.out.2.b rfl
    have hsk : s ≤ 12000000 := by have := HSL.out i; rw [← HW.out.1] at this; omega
    by_cases hlt' : i < x.tables.length
    case neg =>
      have hki : decide ((i : Int) < (x.tables.length : Int)) = false := by simp; omega
      have HE : Hid ((s : Int) = (strongN l x.tables l[tb].nm ⟨4, id, []⟩ l.length : Nat)) := by
        show (s : Int) = _
        rw [HW.out.1, show i = l.length by have := HF.out.1; omega]
      go_wp2_with fail
      go_ret
      exact ⟨ret_i HE.out, HW.out.2.bel⟩
    have hlt : i < l.length := by have := HF.out.1; omega
    have hki : (i : Int) < (l.length : Int) := by omega
    have hkj : (i : Int) < (x.tables.length : Int) := by omega
    obtain ⟨b, off, rfl, -, hc⟩ := (HS.out _ HW.out.2.bel).at i hlt
    obtain ⟨t0, t1, t2, t3⟩ := hc i hlt
    have n0 := (hc tb htb).1
    obtain ⟨xb, xoff, rfl, -, hd⟩ := (HL.out _ HW.out.2.bel).things i hlt'
    obtain ⟨u0, q0, r0⟩ := hd 0 (by omega)
    replace r0 : Rd wo B (dRowS x.tables[i]) u0 := r0
    obtain ⟨ra, rq, rfl⟩ := r0.lsSlice
    rw [Nat.mul_one, Nat.add_zero] at q0
    have HRP := Lib.hid (HF.out.2.2 i hlt hlt')
    have HRO : Hid ((dRowS x.tables[i]).le maxLen) := (Ls_le.1 HO.out.2).2.2 i hlt' 0 (by omega)
    have HH : Hid (∀ W, Below w.heap.size w W → l[i].Has W A (Ad i).ca (Ad i).ua) := fun W h => (HS.out _ h).has i hlt
    have HRR : Hid (∀ W, Below wo.heap.size wo W → Rd W B (Ls 2 dRow x.tables[i]) (.slice ra x.tables[i].length rq)) := fun W h => Rd.later r0 h
    have HCL : Hid (∀ m (h : m < x.tables[i].length), x.tables[i][m].cells.length = l[i].cols.length) := fun m hm => (row_of5 (HRP.out.2.2 m hm).2).len
    have hzl := HC6.out i hlt
    have HNX : Hid (∀ v, v = s + colsN l[i].cols x.tables[i] l[tb].nm ⟨4, id, []⟩ l[i].cols.length → v = strongN l x.tables l[tb].nm ⟨4, id, []⟩ (i + 1)) := fun v h => by rw [strongN_succ hlt hlt', ← HW.out.1]; exact h
    have CX : Hid (∀ W, Below wo.heap.size wo W → W.cell? ⟨w.heap.size, 0, none⟩ = some (.slice (some ⟨b, off, none⟩) l.length sc) ∧ W.cell? ⟨w.heap.size + 1, 0, none⟩ = some (.slice (some ⟨xb, xoff, none⟩) x.tables.length xc) ∧ W.cell? ⟨b, off + tb * 4, none⟩ = some (.string ⟨l[tb].nm.toArray⟩) ∧ W.cell? ⟨xb, xoff + i, none⟩ = some (.slice ra x.tables[i].length rq) ∧ W.cell? ⟨b, off + i * 4 + 1, none⟩ = some (.slice (Ad i).ca l[i].cols.length (Ad i).cc)) := fun W h => ⟨cell_at (o := 0) (HW.out.2.later h).a rfl, cell_at (o := 0) (HW.out.2.later h).b rfl, (h.cell (p := ⟨b, off + tb * 4, none⟩) (World.block_lt_of_cell? _ _ n0)).trans n0, (h.cell (p := ⟨xb, xoff + i, none⟩) (World.block_lt_of_cell? _ _ q0)).trans q0, (h.cell (p := ⟨b, off + i * 4 + 1, none⟩) (World.block_lt_of_cell? _ _ t1)).trans t1⟩
    have hr12 := HRP.out.1
    clear hc hd n0 q0 r0 HRP t0 t1 t2 t3
    generalize x.tables[i] = rows at *
    generalize l[tb].nm = nm at *
    generalize Ad i = ad at *
    obtain ⟨ca, cc, ua, uc⟩ := ad
    dsimp only at CX HH
    generalize l[i] = z at *
    go_wp2_with fail
    clear y0
    go_loopw [9, 11] (fun n q wr => ∃ k : Nat, k ≤ z.cols.length ∧ q = .int .i64 k ∧ ∃ v : Nat, n = .int .i64 v ∧ Hid (v = s + colsN z.cols rows nm ⟨4, id, []⟩ k ∧ Below wo.heap.size wo wr)) (fun _ q _ => z.cols.length - (intOf q).toNat)
    case atStart => exact ⟨0, Nat.zero_le _, rfl, s, rfl, rfl, Below.refl _ _⟩
    case round =>
      obtain ⟨k, hk, rfl, v, rfl, HV⟩ := hrel
      generalize wr = wm at *
      have hvk : v ≤ 12012000 := by
        have h1 := colsN_le z.cols rows nm ⟨4, id, []⟩ k
        have h2 := Nat.mul_le_mul (show k ≤ 1000 by omega) hr12
        rw [HV.out.1]; omega
      have x0 := (CX.out wm HV.out.2).1
      have k0 := (CX.out wm HV.out.2).2.2.2.2
      by_cases hkl : k < z.cols.length
      case neg =>
        have hkd : decide ((k : Int) < (z.cols.length : Int)) = false := by simp; omega
        have HG := Lib.hid (HNX.out v (by rw [HV.out.1, show k = z.cols.length by omega]))
        have HV2 := Lib.hid (HW.out.2.later HV.out.2)
        clear HV HW
        go_wp2_with fail
        go_roundw
        case rel => exact ⟨i + 1, by omega, by go_num, v, rfl, HG.out, HV2.out⟩
        case measure => simp [intOf]; omega
      have hkk : (k : Int) < (z.cols.length : Int) := by omega
      obtain ⟨bc, oc, rfl, -, hcc⟩ := (HH.out _ (HW.out.2.later HV.out.2).bel).1.at k hkl
      obtain ⟨c0, c1, c2, c3, c4, c5, c6, c7⟩ := hcc k hkl
      have HY : Hid (pullB z.cols[k] nm = true → ∀ n, n = v + setsN rows k ⟨4, id, []⟩ rows.length → n = s + colsN z.cols rows nm ⟨4, id, []⟩ (k + 1)) := fun h n e => by rw [colsN_yes hkl h, e, HV.out.1]; omega
      have HN : Hid (pullB z.cols[k] nm = false → v = s + colsN z.cols rows nm ⟨4, id, []⟩ (k + 1)) := fun h => by rw [colsN_no hkl h]; exact HV.out.1
      have HVB := Lib.hid HV.out.2
      clear HV hcc
      generalize z.cols[k] = y at *
      obtain ⟨ynm, yk, ymn, ymx, ylo, yhi, yrf, yst⟩ := y
      dsimp only at c0 c1 c2 c3 c4 c5 c6 c7
      have HWB : Hid (Below wo.heap.size wo (wm.alloc (.cells #[.string ⟨ynm.toArray⟩, .int .i64 yk, .int .i64 ymn, .int .i64 ymx, .int .i64 ylo, .int .i64 yhi, .string ⟨yrf.toArray⟩, .bool yst] 72))) := HVB.out.trans ((below_allocD _ _).mono HVB.out.size)
      have x1 := (CX.out (wm.alloc (.cells #[.string ⟨ynm.toArray⟩, .int .i64 yk, .int .i64 ymn, .int .i64 ymx, .int .i64 ylo, .int .i64 yhi, .string ⟨yrf.toArray⟩, .bool yst] 72)) HWB.out).1
      have n0 := (CX.out (wm.alloc (.cells #[.string ⟨ynm.toArray⟩, .int .i64 yk, .int .i64 ymn, .int .i64 ymx, .int .i64 ylo, .int .i64 yhi, .string ⟨yrf.toArray⟩, .bool yst] 72)) HWB.out).2.2.1
      have z6 := cell_at (o := 6) (heap_newD wm (.cells #[.string ⟨ynm.toArray⟩, .int .i64 yk, .int .i64 ymn, .int .i64 ymx, .int .i64 ylo, .int .i64 yhi, .string ⟨yrf.toArray⟩, .bool yst] 72)) rfl
      have z7 := cell_at (o := 7) (heap_newD wm (.cells #[.string ⟨ynm.toArray⟩, .int .i64 yk, .int .i64 ymn, .int .i64 ymx, .int .i64 ylo, .int .i64 yhi, .string ⟨yrf.toArray⟩, .bool yst] 72)) rfl
      cases yst
      case false =>
        have HG := Lib.hid (HN.out rfl)
        clear HY HN
        go_wp2_with fail
        go_quiet (fail)
        go_wp2_with fail
        go_roundw
        case rel => exact ⟨k + 1, by omega, by go_num, v, rfl, HG.out, below_drewN HWB.out _⟩
        case measure => simp [intOf]; omega
      by_cases hrf : yrf = nm
      case neg =>
        have HG := Lib.hid (HN.out (by unfold pullB; simpa using hrf))
        have hne : (yrf == nm) = false := by simpa using hrf
        have hnn : (yrf != nm) = true := by simpa using hrf
        clear HY HN hrf
        go_wp2_with fail
        go_quiet (fail)
        go_wp2_with fail
        go_roundw
        case rel => exact ⟨k + 1, by omega, by go_num, v, rfl, HG.out, below_drewN HWB.out _⟩
        case measure => simp [intOf]; omega
      have HG := Lib.hid (HY.out (by unfold pullB; simpa using hrf))
      clear HY HN
      subst hrf
      have hnn : (yrf != yrf) = false := by simp
      go_wp2_with fail
      go_quiet (fail)
      go_wp2_with fail
      clear x0 x1 k0 n0 z6 z7 c0 c1 c2 c3 c4 c5 c6 c7
      go_loopw [9, 13] (fun n q wr => ∃ m : Nat, m ≤ rows.length ∧ q = .int .i64 m ∧ ∃ u : Nat, n = .int .i64 u ∧ Hid (u = v + setsN rows k ⟨4, id, []⟩ m ∧ Below wo.heap.size wo wr)) (fun _ q _ => rows.length - (intOf q).toNat)
      case atStart => exact ⟨0, Nat.zero_le _, rfl, v, rfl, rfl, by first | exact below_drewN HWB.out _ | exact HWB.out⟩
      case round =>
        obtain ⟨m, hm, rfl, u, rfl, HU⟩ := hrel
        have huk : u ≤ 12012012 := by
          have h1 := setsN_le rows k ⟨4, id, []⟩ m
          rw [HU.out.1]; omega
        have y0 := (CX.out wr HU.out.2).2.1
        have q0 := (CX.out wr HU.out.2).2.2.2.1
        by_cases hml : m < rows.length
        case neg =>
          have hmd : decide ((m : Int) < (rows.length : Int)) = false := by simp; omega
          have HG2 := Lib.hid (HG.out u (by rw [HU.out.1, show m = rows.length by omega]))
          have HU2 := Lib.hid HU.out.2
          clear HU
          go_wp2_with fail
          go_roundw
          case rel => exact ⟨k + 1, by omega, by go_num, u, rfl, HG2.out, HU2.out⟩
          case measure => simp [intOf]; omega
        have hmm : (m : Int) < (rows.length : Int) := by omega
        have hcl : k < rows[m].cells.length := by have := HCL.out m hml; omega
        have hcj : (k : Int) < (rows[m].cells.length : Int) := by omega
        obtain ⟨rb, roff, rfl, -, hr⟩ := (HRR.out _ HU.out.2).things m hml
        obtain ⟨u1, d1, r1⟩ := hr 1 (by omega)
        replace r1 : Rd wr B (Ls 1 cAtomS rows[m].cells) u1 := r1
        obtain ⟨ea, eq, rfl⟩ := r1.lsSlice
        obtain ⟨eb, eoff, rfl, -, hs⟩ := r1.things k hcl
        obtain ⟨u2, d2, r2⟩ := hs 0 (by omega)
        replace r2 : Rd wr B (dAtomS rows[m].cells[k]) u2 := r2
        obtain ⟨va, vq, rfl⟩ := r2.lsSlice
        rw [Nat.mul_one, Nat.add_zero] at d2
        have HLE : Hid ((dAtomS rows[m].cells[k]).le maxLen) := (Ls_le.1 ((Ls_le.1 HRO.out).2.2 m hml 1 (by omega))).2.2 k hcl 0 (by omega)
        have CT := Lib.hid (hasS rows[m].cells[k] ⟨4, id, []⟩ va vq B wr (le_atoms HLE.out).1 r2.ats)
        have HS2 : Hid (v + setsN rows k ⟨4, id, []⟩ (m + 1) = u + (if hasB rows[m].cells[k] ⟨4, id, []⟩ = true then 1 else 0)) := by
          show v + setsN rows k ⟨4, id, []⟩ (m + 1) = _
          rw [setsN_succ, cellAtN_at hml hcl, HU.out.1]; omega
        clear hr hs r1 r2 HLE
        generalize rows[m].cells[k] = cell at *
        clear hcl
        generalize rows[m].cells.length = nc at *
        go_wp2_with fail
        refine CT.out.mono ?_
        rintro e w4 ⟨rfl, hB⟩
        have HU4 : Hid (Below wo.heap.size wo w4) := HU.out.2.trans (hB.mono HU.out.2.size)
        clear y0 q0 d1 d2 hB
        have hws : IntKind.i64.wrap ((u : Int) + 1) = (u : Int) + 1 := by rw [IntKind.wrap_i64]; omega
        have hws0 : IntKind.i64.wrap ((u : Int) + 0) = (u : Int) := by rw [IntKind.wrap_i64]; omega
        cases he : hasB cell ⟨4, id, []⟩
        case false =>
          have HZ : Hid (u = v + setsN rows k ⟨4, id, []⟩ (m + 1)) := by show _ = _; rw [HS2.out, he]; simp
          go_wp2_with fail
          refine (bitS false _).mono ?_
          rintro e w5 ⟨rfl, rfl⟩
          clear HS2 CT he
          go_wp2_with fail
          go_roundw
          case rel => exact ⟨m + 1, by omega, by go_num, u, by first | rfl | (simp; done) | (simp [hws0]; done) | go_num, HZ.out, HU4.out⟩
          case measure => simp [intOf]; omega
        have HZ : Hid (u + 1 = v + setsN rows k ⟨4, id, []⟩ (m + 1)) := by show _ = _; rw [HS2.out, he]; simp
        go_wp2_with fail
        refine (bitS true _).mono ?_
        rintro e w5 ⟨rfl, rfl⟩
        clear HS2 CT he
        go_wp2_with fail
        go_roundw
        case rel => exact ⟨m + 1, by omega, by go_num, u + 1, by first | rfl | go_num, HZ.out, HU4.out⟩
        case measure => simp [intOf]; omega
end Go.Proofs.Ytlkkmafnjdbofaa
namespace Go.Proofs.Ytlkkmafnjdbofaa
open Go.RowKit Go.Maps
set_option linter.unusedSimpArgs false
/-- a pointer in a map is told as it is -/
def ptrR : Value → Option (DataW Value × List MemPlace) := fun v => some (.held v, [])
theorem intK : Keyed Try.prog 3 := int_keyed Try.underlying3
/-- where the last of the first k rows with that Id lies -/
def ptrOf (l : List RowV) (rb roff : Nat) : Nat → Int → Value
  | 0, _ => .pointer none
  | k + 1, id => if (l.getD k rowZ).id = id then .pointer (some ⟨rb, roff + k * 2, none⟩) else ptrOf l rb roff k id
theorem ptr_none {l : List RowV} {rb roff : Nat} {id : Int} : ∀ {k : Nat}, k ≤ l.length → (∀ m (h : m < l.length), l[m].id ≠ id) → ptrOf l rb roff k id = .pointer none
  | 0, _, _ => rfl
  | k + 1, hk, hn => by
    rw [ptrOf, getD_tab (by omega), if_neg (hn k (by omega))]
    exact ptr_none (by omega) hn
theorem ptr_at {l : List RowV} {rb roff : Nat} {id : Int} (hu : ∀ i j (hi : i < l.length) (hj : j < l.length), l[i].id = l[j].id → i = j) {j : Nat} (hj : j < l.length) (he : l[j].id = id) : ∀ {k : Nat}, k ≤ l.length → j < k → ptrOf l rb roff k id = .pointer (some ⟨rb, roff + j * 2, none⟩)
  | k + 1, hk, hjk => by
    rw [ptrOf, getD_tab (by omega)]
    by_cases e : l[k].id = id
    · have := hu k j (by omega) hj (by rw [e, he])
      subst this
      rw [if_pos e]
    · rw [if_neg e]
      refine ptr_at hu hj he (by omega) ?_
      rcases Nat.lt_or_ge j k with h | h
      · exact h
      · have : j = k := by omega
        subst this
        exact absurd he e
theorem rise_uniq {l : List RowV} (h : riseIds l) : ∀ i j (hi : i < l.length) (hj : j < l.length), l[i].id = l[j].id → i = j := by
  have lt : ∀ j i (hj : j < l.length) (hij : i < j), (l[i]'(by omega)).id < l[j].id := by
    intro j
    induction j with
    | zero => intro i _ h; omega
    | succ j ih =>
      intro i hj hij
      have h1 := h j hj
      by_cases e : i = j
      · subst e; exact h1
      · have := ih i (by omega) (by omega); omega
  intro i j hi hj e
  rcases Nat.lt_trichotomy i j with hlt | heq | hgt
  · have := lt j i hj hlt; omega
  · exact heq
  · have := lt i j hi hgt; omega
/-- a map from Ids to where their rows lie -/
def ShM (D : DataW Value) (l : List RowV) (rb roff k : Nat) : Prop := ∀ id : Int, D.atKey (.int .i64 id) (.held (.pointer none)) = .held (ptrOf l rb roff k id)
theorem ShM.put {D : DataW Value} {l : List RowV} {rb roff k : Nat} (h : ShM D l rb roff k) (hD : IsMap D) (hk : k < l.length) : ShM (D.put (.int .i64 l[k].id) (.held (.pointer (some ⟨rb, roff + k * 2, none⟩)))) l rb roff (k + 1) := fun id => by
  rw [ptrOf, getD_tab hk]
  by_cases e : l[k].id = id
  · subst e
    rw [if_pos rfl, atKey_put_same hD (by simp [WideAt.IsKeyLit])]
  · rw [if_neg e, atKey_put_other (by simpa using fun h => e h.symm), h id]
theorem run_makeMapR (n : Int) (w : World) : (Instr.makeMap 56 (some (.int .i64 n))).run Try.prog w = .ok (.map (some w.heap.size)) (w.alloc (.map #[] 0)) := by
  simp [Instr.makeMap, run_underlying Try.underlying56, asInt, asIntOf, Result.andThen]
def ShAns (l : List RowV) (rb roff : Nat) (w : World) (e : Ending) (w' : World) : Prop := ∃ m D, e = .returned (.map (some m)) ∧ w'.ownsMap Try.prog 3 ptrR m l.length D ∧ ShM D l rb roff l.length ∧ w.heap.size ≤ m ∧ Below w.heap.size w w'
set_option maxRecDepth 100000 in
set_option maxHeartbeats 3200000 in
theorem shelveI (l : List RowV) (a : Option Addr) (c rb roff : Nat) (B : Nat → Prop) (w : World) (ha : 0 < l.length → a = some ⟨rb, roff, none⟩) (ho : (dRowS l).le maxLen) (hS : Rd w B (dRowS l) (.slice a l.length c)) :
    Calls Try.prog 23 #[.slice a l.length c] w (ShAns l rb roff w) := by
  have hl : l.length ≤ maxLen := (Ls_le.1 ho).2.1
  unfold maxLen at hl
  have HI : Hid (∀ i (h : i < l.length), iOK l[i].id) := fun i h => (Ls_le.1 ho).2.2 i h 0 (by omega)
  have HS : Hid (∀ W, Below w.heap.size w W → Rd W (· < w.heap.size) (Ls 2 dRow l) (.slice a l.length c)) := fun W h => Rd.same (fun b hb => h.block b hb) (fun _ h => h) _ _ hS.lt
  have HA := Lib.hid ha
  have hmm := run_makeMapR (l.length : Int)
  have H0 : Hid (Below w.heap.size w (w.alloc (.map #[] 0)) ∧ ∃ D, IsMap D ∧ (w.alloc (.map #[] 0)).ownsMap Try.prog 3 ptrR w.heap.size 0 D ∧ ShM D l rb roff 0) := ⟨below_allocD _ _, _, isMap_empty, World.ownsMap_made (H := Value) w Try.prog 3 ptrR, fun id => rfl⟩
  clear ho hS ha
  go_enter Try.func23, Try.ntmps23
  go_wp2_with fail
  clear hmm
  go_loopw [10] (fun i wr => ∃ k : Nat, k ≤ l.length ∧ i = .int .i64 k ∧ Hid (Below w.heap.size w wr ∧ ∃ D, IsMap D ∧ wr.ownsMap Try.prog 3 ptrR w.heap.size k D ∧ ShM D l rb roff k)) (fun i _ => l.length - (intOf i).toNat)
  case atStart => exact ⟨0, Nat.zero_le _, rfl, H0.out⟩
  case round =>
    obtain ⟨k, hk, rfl, HW⟩ := hrel
    obtain ⟨hb, D, hD, hown, hP⟩ := HW.out
    by_cases hlt : k < l.length
    case neg =>
      have hk' : k = l.length := by omega
      subst hk'
      have hkd : decide ((l.length : Int) < (l.length : Int)) = false := by simp
      have HX := Lib.hid hb
      have HOW := Lib.hid (And.intro hown hP)
      clear HW hb hown hP hD
      go_wp2_with fail
      go_ret
      exact ⟨_, D, rfl, HOW.out.1, HOW.out.2, Nat.le_refl _, HX.out⟩
    have hki : (k : Int) < (l.length : Int) := by omega
    obtain rfl := HA.out (by omega)
    have CE : Hid (∀ W, Below w.heap.size w W → W.cell? ⟨rb, roff + k * 2, none⟩ = some (.int .i64 l[k].id)) := fun W h => by
      obtain ⟨u, e, r⟩ := (HS.out W h).spotT hlt (j := 0) (by omega)
      obtain rfl : u = .int .i64 l[k].id := r
      exact e
    have hkey : keyOf Try.prog 3 (.int .i64 l[k].id) = some (.int .i64 l[k].id) := keyOf_int_mk Try.underlying3 (HI.out k hlt)
    obtain ⟨w1, hrun, hown1, hgr1⟩ := World.ownsMap.update (w := wr.drew) (t := 56) (val := .pointer (some ⟨rb, roff + k * 2, none⟩)) hown.drew intK Try.underlying56 (by unfold maxLen; omega) hkey rfl
    have HB := Lib.hid hb
    have HB1 : Hid (Below w.heap.size w w1) := hb.drew.grown hgr1 hb.size (fun q hq => by cases hq; exact Nat.le_refl _)
    have HN := Lib.hid (And.intro (hD.put (.int .i64 l[k].id) (.held (.pointer (some ⟨rb, roff + k * 2, none⟩)))) (And.intro hown1 (hP.put hD hlt)))
    clear HW hb hown hP hD hown1 hgr1 hkey
    generalize l[k].id = y at *
    go_wp2_with fail
    refine wp_region_held_drew (S := (fun W => W.cell? ⟨rb, roff + k * 2, none⟩ = some (.int .i64 y))) (by kernel_rfl) ?_ (fun hHeld => ?_)
    · (first | exact CE.out _ HB.out | exact CE.out _ HB.out.drew | exact CE.out _ HB1.out)
    refine wpAnyH_take (i := 0) (v := ?_) rfl (by kernel_rfl) (by kernel_rfl) (by kernel_rfl) (fun _ _ _ h => h) (Or.inl ⟨by kernel_rfl, ?_⟩) (by assumption) ?_
    rotate_left
    · (intro wS hSw; (try dsimp only at hSw); go_simp <;> with_reducible rfl)
    try simp only [Act.put, List.getElem_toArray, List.getElem_cons_succ, List.getElem_cons_zero, List.setIfInBounds_toArray, List.set_cons_zero, List.set_cons_succ]
    refine wpAnyH_take (i := 1) (v := ?_) rfl (by kernel_rfl) (by kernel_rfl) (by kernel_rfl) (fun _ _ _ h => h) (Or.inl ⟨by kernel_rfl, ?_⟩) (by assumption) ?_
    rotate_left
    · (intro wS hSw; (try dsimp only at hSw); go_simp <;> with_reducible rfl)
    try simp only [Act.put, List.getElem_toArray, List.getElem_cons_succ, List.getElem_cons_zero, List.setIfInBounds_toArray, List.set_cons_zero, List.set_cons_succ]
    refine wpAnyH_take (i := 2) (v := ?_) rfl (by kernel_rfl) (by kernel_rfl) (by kernel_rfl) (fun _ _ _ h => h) (Or.inl ⟨by kernel_rfl, ?_⟩) (by assumption) ?_
    rotate_left
    · (intro wS hSw; (try dsimp only at hSw); go_simp <;> with_reducible rfl)
    try simp only [Act.put, List.getElem_toArray, List.getElem_cons_succ, List.getElem_cons_zero, List.setIfInBounds_toArray, List.set_cons_zero, List.set_cons_succ]
    refine wpAnyH_take (i := 3) (v := ?_) rfl (by kernel_rfl) (by kernel_rfl) (by kernel_rfl) (fun _ _ _ h => h) (Or.inl ⟨by kernel_rfl, ?_⟩) (by assumption) ?_
    rotate_left
    · (intro wS hSw; (try dsimp only at hSw); go_simp <;> with_reducible rfl)
    try simp only [Act.put, List.getElem_toArray, List.getElem_cons_succ, List.getElem_cons_zero, List.setIfInBounds_toArray, List.set_cons_zero, List.set_cons_succ]
    refine wpAnyH_take (i := 4) (v := ?_) rfl (by kernel_rfl) (by kernel_rfl) (by kernel_rfl) (fun _ _ _ h => h) (Or.inl ⟨by kernel_rfl, ?_⟩) (by assumption) ?_
    rotate_left
    · (intro wS hSw; (try dsimp only at hSw); go_simp <;> with_reducible rfl)
    try simp only [Act.put, List.getElem_toArray, List.getElem_cons_succ, List.getElem_cons_zero, List.setIfInBounds_toArray, List.set_cons_zero, List.set_cons_succ]
    refine wpAnyH_take (i := 5) (v := ?_) rfl (by kernel_rfl) (by kernel_rfl) (by kernel_rfl) (fun _ _ _ h => h) (Or.inl ⟨by kernel_rfl, ?_⟩) (by assumption) ?_
    rotate_left
    · (intro wS hSw; (try dsimp only at hSw); go_simp <;> with_reducible rfl)
    try simp only [Act.put, List.getElem_toArray, List.getElem_cons_succ, List.getElem_cons_zero, List.setIfInBounds_toArray, List.set_cons_zero, List.set_cons_succ]
    refine wpAnyH_take (i := 6) (v := ?_) rfl (by kernel_rfl) (by kernel_rfl) (by kernel_rfl) (fun _ _ _ h => h) (Or.inl ⟨by kernel_rfl, ?_⟩) (by assumption) ?_
    rotate_left
    · (intro wS hSw; (try dsimp only at hSw); go_simp <;> with_reducible rfl)
    try simp only [Act.put, List.getElem_toArray, List.getElem_cons_succ, List.getElem_cons_zero, List.setIfInBounds_toArray, List.set_cons_zero, List.set_cons_succ]
    refine wpAnyH_take (i := 7) (v := ?_) rfl (by kernel_rfl) (by kernel_rfl) (by kernel_rfl) (fun _ _ _ h => h) (Or.inl ⟨by kernel_rfl, ?_⟩) (by assumption) ?_
    rotate_left
    · (intro wS hSw; (try dsimp only at hSw); go_simp <;> with_reducible rfl)
    try simp only [Act.put, List.getElem_toArray, List.getElem_cons_succ, List.getElem_cons_zero, List.setIfInBounds_toArray, List.set_cons_zero, List.set_cons_succ]
    refine wpAnyH_take (i := 8) (v := ?_) rfl (by kernel_rfl) (by kernel_rfl) (by kernel_rfl) (fun _ _ _ h => h) (Or.inl ⟨by kernel_rfl, ?_⟩) (by assumption) ?_
    rotate_left
    · (intro wS hSw; (try dsimp only at hSw); go_simp <;> with_reducible rfl)
    try simp only [Act.put, List.getElem_toArray, List.getElem_cons_succ, List.getElem_cons_zero, List.setIfInBounds_toArray, List.set_cons_zero, List.set_cons_succ]
    refine wpAnyH_ready (rs := [9]) (by kernel_rfl) (by simp) (AllReadyH.cons rfl (fun K hK => ?_) AllReadyH.nil)
    go_simp
    skip
    refine hK.out _ _ ?_ (fun hHeld => ?_)
    · (first | exact CE.out _ HB.out | exact CE.out _ HB.out.drew | exact CE.out _ HB1.out)
    clear hK K
    try simp only [Act.put, List.getElem_toArray, List.getElem_cons_succ, List.getElem_cons_zero, List.setIfInBounds_toArray, List.set_cons_zero, List.set_cons_succ]
    refine wpAnyH_done (by kernel_rfl) ?_ _
    go_wp2_with fail
    go_roundw
    case rel => exact ⟨k + 1, by omega, by go_num, HB1.out, _, HN.out.1, HN.out.2.1, HN.out.2.2⟩
    case measure => simp [intOf]; omega
end Go.Proofs.Ytlkkmafnjdbofaa
