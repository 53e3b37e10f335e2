import Derived.Test.YtmebbinolkohjaaGreatZbo
import Derived.Test.YtmebbinolkohjaaGreatZbp
import Derived.Test.YtmebbinolkohjaaGreatZTk
namespace Go.Proofs.YtmebbinolkohjaaGreat
open Go.RowKit
set_option linter.unusedSimpArgs false
def uniqP (l : List Tb) (x : List (List RowV)) (i : Nat) : Prop := ∀ (hi : i < l.length) (hx : i < x.length), l[i].uq.length = 0 ∨ twinB l[i].uq x[i] = false
noncomputable def uniqB (l : List Tb) (x : List (List RowV)) : Bool := @decide (∀ i, i < l.length → uniqP l x i) (Classical.propDecidable _)
theorem uniq_yes {l : List Tb} {x : List (List RowV)} (h : ∀ i, i < l.length → uniqP l x i) : uniqB l x = true := by unfold uniqB; exact @decide_eq_true _ (Classical.propDecidable _) h
theorem uniq_no {l : List Tb} {x : List (List RowV)} {i : Nat} (hi : i < l.length) (h : ¬ uniqP l x i) : uniqB l x = false := by unfold uniqB; exact @decide_eq_false _ (Classical.propDecidable _) (fun hn => h (hn i hi))
theorem sch_ofU {l : List Tb} (h : schB l = true) : SchP l := by unfold schB at h; exact @of_decide_eq_true _ (Classical.propDecidable _) h
theorem tab_ofU {t : Tb} (h : tabB t = true) : TabP t := by unfold tabB at h; exact @of_decide_eq_true _ (Classical.propDecidable _) h
theorem row_ofU {t : Tb} {id : Int} {l : List (List At)} (h : rowB t id l = true) : RowP t id l := by unfold rowB at h; exact @of_decide_eq_true _ (Classical.propDecidable _) h
theorem uqBound {l : List Tb} {x : StV} (hs : SchP l) (hf : FormP l x) {i : Nat} (hi : i < l.length) (hx : i < x.tables.length) : l[i].uq.length ≤ 1000 ∧ x.tables[i].length ≤ 12 ∧ ∀ m (h : m < l[i].uq.length) k (hk : k < x.tables[i].length), 0 ≤ l[i].uq[m] ∧ l[i].uq[m] < (x.tables[i][k].cells.length : Int) := by
  have ht := tab_ofU (hs.tab i hi)
  have hr := hf.2.2 i hi hx
  refine ⟨by have := uq_len ht.uq; have := ht.len; omega, hr.1, fun m h k hk => ?_⟩
  have h1 := (ht.uq m h).1
  have h2 := (row_ofU (hr.2.2 k hk).2).len
  omega
set_option maxRecDepth 100000 in
set_option maxHeartbeats 6400000 in
theorem uniqI (l : List Tb) (sa : Option Addr) (sc : Nat) (A : Nat → Prop) (x : StV) (xa : Option Addr) (xc : Nat) (B : Nat → Prop) (w : World) (ho : (dRowSS x.tables).le maxLen) (hs : SchP l) (hf : FormP l x) (hT : Rd w A (dTableS l) (.slice sa l.length sc)) (hR : Rd w B (dRowSS x.tables) (.slice xa x.tables.length xc)) :
    Calls Tryz.prog 65 #[.agg #[.slice sa l.length sc], .agg #[.slice xa x.tables.length xc, .int .i64 x.next]] w fun e w' => e = .returned (.bool (uniqB l x.tables)) ∧ Below w.heap.size w w' := by
  have HR : Hid (∀ W, Below w.heap.size w W → Rd W B (dRowSS x.tables) (.slice xa x.tables.length xc)) := fun W h => Rd.later hR h
  have HT : Hid (∀ W, Below w.heap.size w W → Rd W A (dTableS l) (.slice sa l.length sc)) := fun W h => Rd.later hT h
  have HO := Lib.hid ho
  have HLE := Lib.hid hf.1
  have hl4 : l.length ≤ 4 := hs.len.2
  have HUB : Hid (∀ i (hi : i < l.length) (hx : i < x.tables.length), l[i].uq.length ≤ 1000 ∧ x.tables[i].length ≤ 12 ∧ ∀ m (h : m < l[i].uq.length) k (hk : k < x.tables[i].length), 0 ≤ l[i].uq[m] ∧ l[i].uq[m] < (x.tables[i][k].cells.length : Int)) := fun i hi hx => uqBound hs hf hi hx
  have hxl : x.tables.length ≤ 4 := by have := hf.1; omega
  have HB := Lib.hid (boxE 37 32 w #[.slice sa l.length sc] #[.slice xa x.tables.length xc, .int .i64 x.next])
  clear ho hs hf hT hR
  have x0 := cell_at (o := 0) HB.out.a rfl
  go_enter Tryz.func65, Tryz.ntmps65
  go_wp2_with fail
  clear x0
  go_loopw [10] (fun t wr => ∃ i : Nat, i ≤ l.length ∧ t = .int .i64 i ∧ Hid ((∀ m, m < l.length → m < i → uniqP l x.tables m) ∧ BoxE 37 32 w wr #[.slice sa l.length sc] #[.slice xa x.tables.length xc, .int .i64 x.next])) (fun t _ => l.length - (intOf t).toNat)
  case atStart => exact ⟨0, Nat.zero_le _, rfl, fun m _ h => absurd h (by omega), HB.out⟩
  case round =>
    obtain ⟨i, hi, rfl, HW⟩ := hrel
    generalize wr = wo at *
    by_cases hlb : i < l.length
    case neg =>
      have hki : decide ((i : Int) < (l.length : Int)) = false := by simp; omega
      have HE := Lib.hid (uniq_yes (fun m hm => HW.out.1 m hm (by omega)))
      go_wp2_with fail
      go_ret
      exact ⟨ret_b HE.out.symm, HW.out.2.bel⟩
    have hix : i < x.tables.length := by have := HLE.out; omega
    have hi1 : (i : Int) < (x.tables.length : Int) := by omega
    have hi2 : (i : Int) < (l.length : Int) := by omega
    obtain ⟨xb, xo, ra, rq, hxa, hti⟩ := tabsAt (HR.out _ HW.out.2.bel) hix
    subst hxa
    obtain ⟨tq, tf, ca, cc, ua, uc, hsa, hbi⟩ := tblAt (HT.out _ HW.out.2.bel) hlb
    subst hsa
    have HRO : Hid ((dRowS x.tables[i]).le maxLen) := (Ls_le.1 HO.out).2.2 i hix 0 (by omega)
    have HUI := Lib.hid (HUB.out i hlb hix)
    have hul := HUI.out.1
    obtain ⟨t0, t1, t2, t3, -, -⟩ := hbi _ (Below.refl _ _)
    have HWB : Hid (Below wo.heap.size wo (wo.alloc (.cells #[.string ⟨l[i].nm.toArray⟩, .slice ca l[i].cols.length cc, .slice ua l[i].uq.length uc, .bool l[i].rt] 73))) := below_allocD _ _
    have BK : Hid (∀ W, Below (wo.alloc (.cells #[.string ⟨l[i].nm.toArray⟩, .slice ca l[i].cols.length cc, .slice ua l[i].uq.length uc, .bool l[i].rt] 73)).heap.size (wo.alloc (.cells #[.string ⟨l[i].nm.toArray⟩, .slice ca l[i].cols.length cc, .slice ua l[i].uq.length uc, .bool l[i].rt] 73)) W → BoxE 37 32 w W #[.slice (some ⟨tq, tf, none⟩) l.length sc] #[.slice (some ⟨xb, xo, none⟩) x.tables.length xc, .int .i64 x.next]) := fun W h => HW.out.2.later (HWB.out.trans (h.mono HWB.out.size))
    have CX : Hid (∀ W, Below (wo.alloc (.cells #[.string ⟨l[i].nm.toArray⟩, .slice ca l[i].cols.length cc, .slice ua l[i].uq.length uc, .bool l[i].rt] 73)).heap.size (wo.alloc (.cells #[.string ⟨l[i].nm.toArray⟩, .slice ca l[i].cols.length cc, .slice ua l[i].uq.length uc, .bool l[i].rt] 73)) W → W.cell? ⟨wo.heap.size, 2, none⟩ = some (.slice ua l[i].uq.length uc) ∧ W.cell? ⟨w.heap.size + 1, 0, none⟩ = some (.slice (some ⟨xb, xo, none⟩) x.tables.length xc) ∧ W.cell? ⟨xb, xo + i, none⟩ = some (.slice ra x.tables[i].length rq)) := fun W h => ⟨cell_keptS (cell_at (o := 2) (heap_newD wo _) rfl) h, cell_at (o := 0) (BK.out W h).b rfl, (hti W (HWB.out.trans (h.mono HWB.out.size))).1⟩
    have AL : Hid (∀ W, Below (wo.alloc (.cells #[.string ⟨l[i].nm.toArray⟩, .slice ca l[i].cols.length cc, .slice ua l[i].uq.length uc, .bool l[i].rt] 73)).heap.size (wo.alloc (.cells #[.string ⟨l[i].nm.toArray⟩, .slice ca l[i].cols.length cc, .slice ua l[i].uq.length uc, .bool l[i].rt] 73)) W → Calls Tryz.prog 96 #[.slice ua l[i].uq.length uc, .slice ra x.tables[i].length rq] W fun e w' => e = .returned (.bool (twinB l[i].uq x.tables[i])) ∧ Below W.heap.size W w') := fun W h => alikeInI l[i].uq ua uc A x.tables[i] ra rq B W HUI.out.1 (by have := HUI.out.2.1; omega) (hbi W (HWB.out.trans (h.mono HWB.out.size))).2.2.2.2.2 HUI.out.2.2 HRO.out (hti W (HWB.out.trans (h.mono HWB.out.size))).2
    have HNX : Hid (l[i].uq.length = 0 ∨ twinB l[i].uq x.tables[i] = false → ∀ m, m < l.length → m < i + 1 → uniqP l x.tables m) := fun he m hm hmi => by
      by_cases e : m = i
      · subst e; exact fun _ _ => he
      · exact HW.out.1 m hm (by omega)
    have HNO : Hid (¬ l[i].uq.length = 0 → twinB l[i].uq x.tables[i] = true → uniqB l x.tables = false) := fun h1 h2 => uniq_no hlb (fun hn => by
      rcases hn hlb hix with h | h
      · exact h1 h
      · rw [h2] at h; cases h)
    have x0 := cell_at (o := 0) HW.out.2.a rfl
    clear hti hbi HUI HRO
    generalize l[i] = z at *
    generalize x.tables[i] = rows at *
    clear hlb hix
    generalize hun : z.uq.length = un at *
    clear hun
    by_cases h0 : un = 0
    case pos =>
      have HN := Lib.hid (HNX.out (.inl h0))
      clear HNO HNX AL
      subst h0
      go_wp2_with fail
      refine wp_region_held_drew (S := (fun W => W.cell? ⟨wo.heap.size, 2, none⟩ = some (.slice ua 0 uc) ∧ W.cell? ⟨w.heap.size + 1, 0, none⟩ = some (.slice (some ⟨xb, xo, none⟩) x.tables.length xc) ∧ W.cell? ⟨xb, xo + i, none⟩ = some (.slice ra rows.length rq))) (by kernel_rfl) ?_ (fun hHeld => ?_)
      · (first | exact CX.out _ (Below.refl _ _) | exact CX.out _ (Below.refl _ _).drew | exact CX.out _ BW.out)
      refine wpAnyH_take (i := 0) (v := ?_) rfl (by kernel_rfl) (by kernel_rfl) (by kernel_rfl) (fun _ _ _ h => h) (Or.inl ⟨by kernel_rfl, ?_⟩) (by assumption) ?_
      rotate_left
      · (intro wS hSw; (try dsimp only at hSw); go_simp <;> with_reducible rfl)
      try simp only [Act.put, tkS]
      refine wpAnyH_take (i := 1) (v := ?_) rfl (by kernel_rfl) (by kernel_rfl) (by kernel_rfl) (fun _ _ _ h => h) (Or.inl ⟨by kernel_rfl, ?_⟩) (by assumption) ?_
      rotate_left
      · (intro wS hSw; (try dsimp only at hSw); go_simp <;> with_reducible rfl)
      try simp only [Act.put, tkS]
      refine wpAnyH_take (i := 2) (v := ?_) rfl (by kernel_rfl) (by kernel_rfl) (by kernel_rfl) (fun _ _ _ h => h) (Or.inl ⟨by kernel_rfl, ?_⟩) (by assumption) ?_
      rotate_left
      · (intro wS hSw; (try dsimp only at hSw); go_simp <;> with_reducible rfl)
      try simp only [Act.put, tkS]
      refine wpAnyH_take (i := 3) (v := ?_) rfl (by kernel_rfl) (by kernel_rfl) (by kernel_rfl) (fun _ _ _ h => h) (Or.inl ⟨by kernel_rfl, ?_⟩) (by assumption) ?_
      rotate_left
      · (intro wS hSw; (try dsimp only at hSw); go_simp <;> with_reducible rfl)
      try simp only [Act.put, tkS]
      refine wpAnyH_take (i := 4) (v := ?_) rfl (by kernel_rfl) (by kernel_rfl) (by kernel_rfl) (fun _ _ _ h => h) (Or.inl ⟨by kernel_rfl, ?_⟩) (by assumption) ?_
      rotate_left
      · (intro wS hSw; (try dsimp only at hSw); go_simp <;> with_reducible rfl)
      try simp only [Act.put, tkS]
      refine wpAnyH_take (i := 5) (v := undef) rfl (by kernel_rfl) (by kernel_rfl) (by kernel_rfl) (fun _ _ _ h => h) (Or.inr ⟨by kernel_rfl, rfl⟩) (by assumption) ?_
      try simp only [Act.put, tkS]
      refine wpAnyH_take (i := 6) (v := undef) rfl (by kernel_rfl) (by kernel_rfl) (by kernel_rfl) (fun _ _ _ h => h) (Or.inr ⟨by kernel_rfl, rfl⟩) (by assumption) ?_
      try simp only [Act.put, tkS]
      refine wpAnyH_take (i := 7) (v := undef) rfl (by kernel_rfl) (by kernel_rfl) (by kernel_rfl) (fun _ _ _ h => h) (Or.inr ⟨by kernel_rfl, rfl⟩) (by assumption) ?_
      try simp only [Act.put, tkS]
      refine wpAnyH_take (i := 8) (v := undef) rfl (by kernel_rfl) (by kernel_rfl) (by kernel_rfl) (fun _ _ _ h => h) (Or.inr ⟨by kernel_rfl, rfl⟩) (by assumption) ?_
      try simp only [Act.put, tkS]
      refine wpAnyH_take (i := 9) (v := undef) rfl (by kernel_rfl) (by kernel_rfl) (by kernel_rfl) (fun _ _ _ h => h) (Or.inr ⟨by kernel_rfl, rfl⟩) (by assumption) ?_
      try simp only [Act.put, tkS]
      refine wpAnyH_take (i := 10) (v := undef) rfl (by kernel_rfl) (by kernel_rfl) (by kernel_rfl) (fun _ _ _ h => h) (Or.inr ⟨by kernel_rfl, rfl⟩) (by assumption) ?_
      try simp only [Act.put, tkS]
      refine wpAnyH_take (i := 11) (v := undef) rfl (by kernel_rfl) (by kernel_rfl) (by kernel_rfl) (fun _ _ _ h => h) (Or.inr ⟨by kernel_rfl, rfl⟩) (by assumption) ?_
      try simp only [Act.put, tkS]
      refine wpAnyH_take (i := 12) (v := undef) rfl (by kernel_rfl) (by kernel_rfl) (by kernel_rfl) (fun _ _ _ h => h) (Or.inr ⟨by kernel_rfl, rfl⟩) (by assumption) ?_
      try simp only [Act.put, tkS]
      refine wpAnyH_take (i := 13) (v := ?_) rfl (by kernel_rfl) (by kernel_rfl) (by kernel_rfl) (fun _ _ _ h => h) (Or.inl ⟨by kernel_rfl, ?_⟩) (by assumption) ?_
      rotate_left
      · (intro wS hSw; (try dsimp only at hSw); go_simp <;> with_reducible rfl)
      try simp only [Act.put, tkS]
      refine wpAnyH_done (by kernel_rfl) ?_ _
      go_wp2_with fail
      go_roundw
      case rel => exact ⟨i + 1, by omega, by go_num, HN.out, BK.out _ (Below.refl _ _).drew⟩
      case measure => simp [intOf]; omega
    have hgd : (0 : Int) < (un : Int) := by omega
    have hgd1 : (un : Int) > 0 := by omega
    have hgd2 : 0 < un := by omega
    go_wp2_with fail
    refine wp_region_held_drew (S := (fun W => W.cell? ⟨wo.heap.size, 2, none⟩ = some (.slice ua un uc) ∧ W.cell? ⟨w.heap.size + 1, 0, none⟩ = some (.slice (some ⟨xb, xo, none⟩) x.tables.length xc) ∧ W.cell? ⟨xb, xo + i, none⟩ = some (.slice ra rows.length rq))) (by kernel_rfl) ?_ (fun hHeld => ?_)
    · (first | exact CX.out _ (Below.refl _ _) | exact CX.out _ (Below.refl _ _).drew | exact CX.out _ BW.out)
    refine wpAnyH_take (i := 0) (v := ?_) rfl (by kernel_rfl) (by kernel_rfl) (by kernel_rfl) (fun _ _ _ h => h) (Or.inl ⟨by kernel_rfl, ?_⟩) (by assumption) ?_
    rotate_left
    · (intro wS hSw; (try dsimp only at hSw); go_simp <;> with_reducible rfl)
    try simp only [Act.put, tkS]
    refine wpAnyH_take (i := 1) (v := ?_) rfl (by kernel_rfl) (by kernel_rfl) (by kernel_rfl) (fun _ _ _ h => h) (Or.inl ⟨by kernel_rfl, ?_⟩) (by assumption) ?_
    rotate_left
    · (intro wS hSw; (try dsimp only at hSw); go_simp <;> with_reducible rfl)
    try simp only [Act.put, tkS]
    refine wpAnyH_take (i := 2) (v := ?_) rfl (by kernel_rfl) (by kernel_rfl) (by kernel_rfl) (fun _ _ _ h => h) (Or.inl ⟨by kernel_rfl, ?_⟩) (by assumption) ?_
    rotate_left
    · (intro wS hSw; (try dsimp only at hSw); go_simp <;> with_reducible rfl)
    try simp only [Act.put, tkS]
    refine wpAnyH_take (i := 3) (v := ?_) rfl (by kernel_rfl) (by kernel_rfl) (by kernel_rfl) (fun _ _ _ h => h) (Or.inl ⟨by kernel_rfl, ?_⟩) (by assumption) ?_
    rotate_left
    · (intro wS hSw; (try dsimp only at hSw); go_simp <;> with_reducible rfl)
    try simp only [Act.put, tkS]
    refine wpAnyH_take (i := 4) (v := ?_) rfl (by kernel_rfl) (by kernel_rfl) (by kernel_rfl) (fun _ _ _ h => h) (Or.inl ⟨by kernel_rfl, ?_⟩) (by assumption) ?_
    rotate_left
    · (intro wS hSw; (try dsimp only at hSw); go_simp <;> with_reducible rfl)
    try simp only [Act.put, tkS]
    refine wpAnyH_take (i := 5) (v := ?_) rfl (by kernel_rfl) (by kernel_rfl) (by kernel_rfl) (fun _ _ _ h => h) (Or.inl ⟨by kernel_rfl, ?_⟩) (by assumption) ?_
    rotate_left
    · (intro wS hSw; (try dsimp only at hSw); go_simp <;> with_reducible rfl)
    try simp only [Act.put, tkS]
    refine wpAnyH_take (i := 6) (v := ?_) rfl (by kernel_rfl) (by kernel_rfl) (by kernel_rfl) (fun _ _ _ h => h) (Or.inl ⟨by kernel_rfl, ?_⟩) (by assumption) ?_
    rotate_left
    · (intro wS hSw; (try dsimp only at hSw); go_simp <;> with_reducible rfl)
    try simp only [Act.put, tkS]
    refine wpAnyH_take (i := 7) (v := ?_) rfl (by kernel_rfl) (by kernel_rfl) (by kernel_rfl) (fun _ _ _ h => h) (Or.inl ⟨by kernel_rfl, ?_⟩) (by assumption) ?_
    rotate_left
    · (intro wS hSw; (try dsimp only at hSw); go_simp <;> with_reducible rfl)
    try simp only [Act.put, tkS]
    refine wpAnyH_take (i := 8) (v := ?_) rfl (by kernel_rfl) (by kernel_rfl) (by kernel_rfl) (fun _ _ _ h => h) (Or.inl ⟨by kernel_rfl, ?_⟩) (by assumption) ?_
    rotate_left
    · (intro wS hSw; (try dsimp only at hSw); go_simp <;> with_reducible rfl)
    try simp only [Act.put, tkS]
    refine wpAnyH_take (i := 9) (v := ?_) rfl (by kernel_rfl) (by kernel_rfl) (by kernel_rfl) (fun _ _ _ h => h) (Or.inl ⟨by kernel_rfl, ?_⟩) (by assumption) ?_
    rotate_left
    · (intro wS hSw; (try dsimp only at hSw); go_simp <;> with_reducible rfl)
    try simp only [Act.put, tkS]
    refine wpAnyH_take (i := 10) (v := ?_) rfl (by kernel_rfl) (by kernel_rfl) (by kernel_rfl) (fun _ _ _ h => h) (Or.inl ⟨by kernel_rfl, ?_⟩) (by assumption) ?_
    rotate_left
    · (intro wS hSw; (try dsimp only at hSw); go_simp <;> with_reducible rfl)
    try simp only [Act.put, tkS]
    refine wpAnyH_take (i := 11) (v := ?_) rfl (by kernel_rfl) (by kernel_rfl) (by kernel_rfl) (fun _ _ _ h => h) (Or.inl ⟨by kernel_rfl, ?_⟩) (by assumption) ?_
    rotate_left
    · (intro wS hSw; (try dsimp only at hSw); go_simp <;> with_reducible rfl)
    try simp only [Act.put, tkS]
    refine wpAnyH_ready (rs := [12]) (by kernel_rfl) (by simp) (AllReadyH.cons rfl (fun K hK => ?_) AllReadyH.nil)
    go_simp
    (go_at_call 96; refine (AL.out _ (Below.refl _ _).drew).mono ?_; rintro e w1 ⟨rfl, hB⟩; have BW : Hid (Below (wo.alloc (.cells #[.string ⟨z.nm.toArray⟩, .slice ca z.cols.length cc, .slice ua un uc, .bool z.rt] 73)).heap.size (wo.alloc (.cells #[.string ⟨z.nm.toArray⟩, .slice ca z.cols.length cc, .slice ua un uc, .bool z.rt] 73)) w1) := (Below.refl _ _).drew.trans hB; clear hB)
    refine hK.out _ _ ?_ (fun hHeld => ?_)
    · (first | exact CX.out _ (Below.refl _ _) | exact CX.out _ (Below.refl _ _).drew | exact CX.out _ BW.out)
    clear hK K
    try simp only [Act.put, tkS]
    refine wpAnyH_take (i := 13) (v := ?_) rfl (by kernel_rfl) (by kernel_rfl) (by kernel_rfl) (fun _ _ _ h => h) (Or.inl ⟨by kernel_rfl, ?_⟩) (by assumption) ?_
    rotate_left
    · (intro wS hSw; (try dsimp only at hSw); go_simp <;> with_reducible rfl)
    try simp only [Act.put, tkS]
    refine wpAnyH_done (by kernel_rfl) ?_ _
    have HB1 := Lib.hid (BK.out _ BW.out)
    cases he : twinB z.uq rows
    case true =>
      have HE := Lib.hid (HNO.out h0 he)
      clear he HNO HNX AL CX h0
      go_wp2_with fail
      go_ret
      exact ⟨ret_b HE.out.symm, HB1.out.bel⟩
    have HN := Lib.hid (HNX.out (.inr he))
    clear he HNO HNX AL CX h0
    go_wp2_with fail
    go_roundw
    case rel => exact ⟨i + 1, by omega, by go_num, HN.out, HB1.out⟩
    case measure => simp [intOf]; omega
end Go.Proofs.YtmebbinolkohjaaGreat
