import Derived.Test.YtjfkfeiohcfdaaaDNew
import Derived.Test.YtjfkfeiohcfdaaaDBr
import Derived.Test.YtjfkfeiohcfdaaaSLaw
namespace Go.Proofs.Ytjfkfeiohcfdaaa
open Go.RowKit
set_option linter.unusedSimpArgs false
theorem Rd.tabs {w : World} {B : Nat → Prop} {l : List Tb} {a : Option Addr} {c : Nat} (h : Rd w B (dTableS l) (.slice a l.length c)) : ∃ A, Tabs w B a l A := by
  have hp : ∀ i, ∃ ad : Ad, ∀ hi : i < l.length, ∀ b off, a = some ⟨b, off, none⟩ → (∀ j, j < 4 → w.cell? ⟨b, off + i * 4 + j, none⟩ = some ((tbC l[i] ad).getD j undef)) ∧ l[i].Has w B ad.ca ad.ua := fun i => by
    by_cases hi : i < l.length
    · obtain ⟨b, off, ha, -, hc⟩ := Rd.things (d := dTable) (n := 4) h i hi
      obtain ⟨u0, c0, r0⟩ := hc 0 (by omega)
      obtain rfl : u0 = .string ⟨l[i].nm.toArray⟩ := r0
      obtain ⟨u1, c1, r1⟩ := hc 1 (by omega)
      replace r1 : Rd w B (dColumnS l[i].cols) u1 := r1
      obtain ⟨a1, q1, rfl⟩ := r1.lsSlice
      obtain ⟨u2, c2, r2⟩ := hc 2 (by omega)
      replace r2 : Rd w B (dIntS l[i].uq) u2 := r2
      obtain ⟨a2, q2, rfl⟩ := r2.lsSlice
      obtain ⟨u3, c3, r3⟩ := hc 3 (by omega)
      obtain rfl : u3 = .bool l[i].rt := r3
      refine ⟨⟨a1, q1, a2, q2⟩, fun _ b' off' ha' => ?_⟩
      rw [ha] at ha'
      simp only [Option.some.injEq, Addr.mk.injEq, and_true] at ha'
      obtain ⟨rfl, rfl⟩ := ha'
      refine ⟨fun j hj => ?_, Rd.hasT r1 r2⟩
      rcases (by omega : j = 0 ∨ j = 1 ∨ j = 2 ∨ j = 3) with rfl | rfl | rfl | rfl
      · exact c0
      · exact c1
      · exact c2
      · exact c3
    · exact ⟨⟨none, 0, none, 0⟩, fun hi' => absurd hi' hi⟩
  obtain ⟨A, hA⟩ := Classical.axiomOfChoice hp
  refine ⟨A, ?_, fun i hi => ?_⟩
  · by_cases h0 : l.length = 0
    · exact .inl (by rw [h0])
    obtain ⟨b, off, ha, hb, -⟩ := Rd.things (d := dTable) (n := 4) h 0 (by omega)
    refine .inr ⟨b, off, ha, hb, fun m hm => ?_⟩
    have hi : m / 4 < l.length := by omega
    have h1 := (hA (m / 4) hi b off ha).1 (m % 4) (by omega)
    rw [Nat.add_assoc, Nat.div_add_mod'] at h1
    rw [h1]
    have h2 := tbF_at (l := l) (A := A) hi (show m % 4 < 4 by omega)
    rw [Nat.div_add_mod'] at h2
    rw [h2]
  · obtain ⟨b, off, ha, -, -⟩ := Rd.things (d := dTable) (n := 4) h i hi
    exact (hA i hi b off ha).2
theorem le_tables {l : List Tb} (h : (dTableS l).le maxLen) : TbsOk l := by
  refine ⟨(Ls_le.1 h).2.1, fun t ht => ?_⟩
  obtain ⟨i, hi, rfl⟩ := List.mem_iff_getElem.1 ht
  have hx := (Ls_le.1 h).2.2 i hi
  exact le_table (hx 0 (by omega)) (hx 1 (by omega)) (hx 2 (by omega))
noncomputable def newP (l : List Tb) : Int × StV := if schB l = true then (0, ⟨noRows l.length, 1⟩) else (1, ⟨[], 0⟩)
def NwAns (w : World) (l : List Tb) (e : Ending) (w' : World) : Prop := ∃ (ra : Option Addr) (rc : Nat), e = .returned (.tuple #[.agg #[.slice ra (newP l).2.tables.length rc, .int .i64 (newP l).2.next], .int .i64 (newP l).1]) ∧ Rd w' (· < w'.heap.size) (dRowSS (newP l).2.tables) (.slice ra (newP l).2.tables.length rc) ∧ Below w.heap.size w w'
theorem new_le {l : List Tb} (hl : l.length ≤ 1048576) : (dRowSS (newP l).2.tables).le maxLen ∧ (dRowSS (newP l).2.tables).sz ≤ 100000000 := by
  have key : ∀ m, m ≤ 1048576 → (dRowSS (noRows m)).le maxLen ∧ (dRowSS (noRows m)).sz ≤ 100000000 := fun m hm => by
    have h0 : ∀ i (h : i < (noRows m).length), (noRows m)[i] = [] := fun i h => by simp [noRows]
    constructor
    · refine Ls_le.2 ⟨by omega, by rw [noRows_len]; unfold maxLen; omega, fun i hi j _ => ?_⟩
      rw [h0 i hi]
      exact Ls_le.2 ⟨by omega, by simp, fun i h => absurd h (by simp)⟩
    · show (Ls 1 cRowS (noRows m)).sz ≤ _
      rw [Ls_sz, noRows_len]
      have : szL 1 cRowS (noRows m) m = 0 := by
        unfold szL
        rw [sumN_congr (h := fun _ => 0) (fun i hi => by rw [lsF_at (by rw [noRows_len]; exact hi), h0 i (by rw [noRows_len]; exact hi)]; rfl)]
        have := sumN_lin 0 0 (fun _ => 0) m
        simpa using this
      omega
  unfold newP
  split
  · exact key _ hl
  · exact key 0 (by omega)
set_option maxRecDepth 100000 in
set_option maxHeartbeats 3200000 in
theorem newStoreS (l : List Tb) (a : Option Addr) (c : Nat) (B : Nat → Prop) (w : World) (hl : l.length ≤ 1048576) (ho : (dTableS l).le maxLen) (hS : Rd w B (dTableS l) (.slice a l.length c)) :
    Calls Try.prog 6 #[.agg #[.slice a l.length c]] w (NwAns w l) := by
  obtain ⟨A, hA⟩ := hS.tabs
  obtain ⟨V, hV⟩ : ∃ V, V = (w.alloc (.cells #[.slice a l.length c] 33)).alloc (.cells #[.slice none 0 0, .int .i64 0] 28) := ⟨_, rfl⟩
  have hb : Below w.heap.size w V := by rw [hV]; exact (below_allocD _ _).trans ((below_allocD _ _).mono (by simp))
  have hx : V.heap[w.heap.size]? = some (.cells #[.slice a l.length c] 33) := by rw [hV]; exact heap_keptD (heap_newD _ _) (below_allocD _ _)
  have hr : V.heap[w.heap.size + 1]? = some (.cells #[.slice none 0 0, .int .i64 0] 28) := by
    have h := heap_newD (w.alloc (.cells #[.slice a l.length c] 33)) (.cells #[.slice none 0 0, .int .i64 0] 28)
    rw [size_allocD] at h
    rw [hV]; exact h
  have SC := Lib.hid (schemaS l a c A B V (le_tables ho) (hA.later hb))
  have x0 := cell_at (o := 0) hx rfl
  have r0 := cell_at (o := 0) hr rfl
  have r1 := cell_at (o := 1) hr rfl
  have g0 := frozen_at 0 hr
  have g1 := frozen_at 1 hr
  have M0 := Lib.hid (And.intro hx (And.intro hr hb))
  have HV := Lib.hid hV
  have HL := Lib.hid hl
  clear hx hr hb hA ho hS hl
  cases hs : schB l
  case false =>
    have HN : Hid (newP l = (1, ⟨[], 0⟩)) := by show newP l = _; unfold newP; rw [hs]; simp
    rw [hs] at SC
    clear hs
    go_enter Try.func6, Try.ntmps6
    go_wp2_with fail
    rw [← HV.out]
    clear hV
    refine SC.out.mono ?_
    rintro e w1 ⟨rfl, hB⟩
    have hr1 := heap_keptD M0.out.2.1 hB
    have q0 := cell_at (o := 0) hr1 rfl
    have q1 := cell_at (o := 1) hr1 rfl
    have k0 := frozen_at 0 hr1
    have k1 := frozen_at 1 hr1
    have HB := Lib.hid (M0.out.2.2.trans (hB.mono M0.out.2.2.size))
    clear hr1 hB x0 r0 r1 g0 g1
    go_wp2_with fail
    refine bodyPost_ret (v := .tuple #[.agg #[.slice none 0 0, .int .i64 0], .int .i64 1]) (by simp [results, Try.results6, go_sem, *]) rfl ?_
    refine ⟨none, 0, by rw [HN.out]; rfl, by rw [HN.out]; exact Rd.lsNil none 0, ?_⟩
    exact (HB.out.setCell (by simp <;> omega) _).setCell (by simp <;> omega) _
  have HN : Hid (newP l = (0, ⟨noRows l.length, 1⟩)) := by show newP l = _; unfold newP; rw [hs]; simp
  rw [hs] at SC
  clear hs
  go_enter Try.func6, Try.ntmps6
  go_wp2_with fail
  rw [← HV.out]
  clear hV
  refine SC.out.mono ?_
  rintro e w1 ⟨rfl, hB⟩
  have hx1 := heap_keptD M0.out.1 hB
  have hr1 := heap_keptD M0.out.2.1 hB
  have x0 := cell_at (o := 0) hx1 rfl
  have HB := Lib.hid (M0.out.2.2.trans (hB.mono M0.out.2.2.size))
  have HR1 := Lib.hid hr1
  clear hx1 hr1 hB r0 r1 g0 g1
  go_wp2_with fail
  refine (newS l.length a c w1 HL.out).mono ?_
  rintro e w2 ⟨ra, rc, rfl, hrd, hB2⟩
  have hr2 := heap_keptD HR1.out hB2
  have q0 := cell_at (o := 0) hr2 rfl
  have q1 := cell_at (o := 1) hr2 rfl
  have k0 := frozen_at 0 hr2
  have k1 := frozen_at 1 hr2
  have HRD := Lib.hid hrd
  have HB2 := Lib.hid (HB.out.trans (hB2.mono HB.out.size))
  have HLT : Hid (w.heap.size + 1 < w1.heap.size ∧ Below w1.heap.size w1 w2) := ⟨(Array.getElem?_eq_some_iff.1 HR1.out).1, hB2⟩
  clear hr2 hrd hB2 x0
  go_wp2_with fail
  refine bodyPost_ret (v := .tuple #[.agg #[.slice ra (noRows l.length).length rc, .int .i64 1], .int .i64 0]) (by simp [results, Try.results6, go_sem, *]) rfl ?_
  have hfr : Frm (· = w.heap.size + 1) w2 ((w2.setCell ⟨w.heap.size + 1, 0, none⟩ (.slice ra (noRows l.length).length rc)).setCell ⟨w.heap.size + 1, 1, none⟩ (.int .i64 1)) := (frm_set _ _ _ _).trans (frm_set _ _ _ _)
  refine ⟨ra, rc, by rw [HN.out], ?_, ?_⟩
  · rw [HN.out]
    exact (HRD.out.frm hfr (fun b hb e => by have h1 := HLT.out.1; have h2 := hb.1; have e' : b = w.heap.size + 1 := e; omega)).mono (fun b hb => by simpa using hb.2)
  · exact (HB2.out.setCell (by simp <;> omega) _).setCell (by simp <;> omega) _
def NiAns (w : World) (l : List Tb) (e : Ending) (w' : World) : Prop := ∃ (ra : Option Addr) (rc : Nat), e = .returned (.tuple #[.agg #[.slice ra (newP l).2.tables.length rc, .int .i64 (newP l).2.next], .int .i64 (newP l).1]) ∧ Own w' (dRowSS (newP l).2.tables) (fun c => w.heap.size ≤ c ∧ c < w'.heap.size) (.slice ra (newP l).2.tables.length rc) ∧ Below w.heap.size w w'
theorem own_made (w : World) (m : Nat) : Own (w.alloc (.cells (madeCells #[.slice none 0 0] m) 85)) (dRowSS (noRows m)) (fun c => w.heap.size ≤ c ∧ c < w.heap.size + 1) (.slice (some ⟨w.heap.size, 0, none⟩) m m) := by
  have e : dRowSS (noRows m) = .l 1 m (lsF cRowS (noRows m)) := by unfold dRowSS Ls; rw [noRows_len]
  rw [e]
  have hr := World.rowIs_made w (.slice none 0 0) m 85
  refine OwnR.own (off := 0) (X := fun _ _ _ => False) ⟨⟨Nat.le_refl _, by omega⟩, by omega, fun _ _ _ h => h.elim, fun _ _ _ _ _ h => h.elim, fun i j hi hj => ?_⟩ m
  obtain rfl : j = 0 := by omega
  refine ⟨.slice none 0 0, by rw [Nat.mul_one, Nat.zero_add, Nat.add_zero]; exact hr.cell hi, by rw [Nat.mul_one, Nat.zero_add, Nat.add_zero]; exact hr.frozen _, ?_⟩
  rw [lsF_at (by rw [noRows_len]; exact hi)]
  have h0 : (noRows m)[i]'(by rw [noRows_len]; exact hi) = [] := by simp [noRows]
  rw [h0]
  exact ⟨none, 0, rfl, .inl rfl⟩
set_option maxRecDepth 100000 in
set_option maxHeartbeats 3200000 in
theorem newStoreI (l : List Tb) (a : Option Addr) (c : Nat) (B : Nat → Prop) (w : World) (hl : l.length ≤ 1048576) (ho : (dTableS l).le maxLen) (hS : Rd w B (dTableS l) (.slice a l.length c)) :
    Calls Try.prog 8 #[.agg #[.slice a l.length c]] w (NiAns w l) := by
  obtain ⟨A, hA⟩ := hS.tabs
  obtain ⟨V, hV⟩ : ∃ V, V = (w.alloc (.cells #[.slice a l.length c] 33)).alloc (.cells #[.slice none 0 0, .int .i64 0] 28) := ⟨_, rfl⟩
  have hb : Below w.heap.size w V := by rw [hV]; exact (below_allocD _ _).trans ((below_allocD _ _).mono (by simp))
  have hx : V.heap[w.heap.size]? = some (.cells #[.slice a l.length c] 33) := by rw [hV]; exact heap_keptD (heap_newD _ _) (below_allocD _ _)
  have hr : V.heap[w.heap.size + 1]? = some (.cells #[.slice none 0 0, .int .i64 0] 28) := by
    have h := heap_newD (w.alloc (.cells #[.slice a l.length c] 33)) (.cells #[.slice none 0 0, .int .i64 0] 28)
    rw [size_allocD] at h
    rw [hV]; exact h
  have SC := Lib.hid (schemaI l a c A B V (le_tables ho) (hA.later hb))
  have x0 := cell_at (o := 0) hx rfl
  have M0 := Lib.hid (And.intro hx (And.intro hr hb))
  have HV := Lib.hid hV
  have HL := Lib.hid hl
  clear hx hr hb hA ho hS hl
  cases hs : schB l
  case false =>
    have HN : Hid (newP l = (1, ⟨[], 0⟩)) := by show newP l = _; unfold newP; rw [hs]; simp
    rw [hs] at SC
    clear hs
    go_enter Try.func8, Try.ntmps8
    go_wp2_with fail
    rw [← HV.out]
    clear hV
    refine SC.out.mono ?_
    rintro e w1 ⟨rfl, hB⟩
    have hr1 := heap_keptD M0.out.2.1 hB
    have q0 := cell_at (o := 0) hr1 rfl
    have q1 := cell_at (o := 1) hr1 rfl
    have k0 := frozen_at 0 hr1
    have k1 := frozen_at 1 hr1
    have HB := Lib.hid (M0.out.2.2.trans (hB.mono M0.out.2.2.size))
    clear hr1 hB x0
    go_wp2_with fail
    refine bodyPost_ret (v := .tuple #[.agg #[.slice none 0 0, .int .i64 0], .int .i64 1]) (by simp [results, Try.results8, go_sem, *]) rfl ?_
    refine ⟨none, 0, by rw [HN.out]; rfl, by rw [HN.out]; exact ⟨none, 0, rfl, .inl rfl⟩, ?_⟩
    exact (HB.out.setCell (by simp <;> omega) _).setCell (by simp <;> omega) _
  have HN : Hid (newP l = (0, ⟨noRows l.length, 1⟩)) := by show newP l = _; unfold newP; rw [hs]; simp
  rw [hs] at SC
  clear hs
  go_enter Try.func8, Try.ntmps8
  go_wp2_with fail
  rw [← HV.out]
  clear hV
  refine SC.out.mono ?_
  rintro e w1 ⟨rfl, hB⟩
  have hx1 := heap_keptD M0.out.1 hB
  have hr1 := heap_keptD M0.out.2.1 hB
  have x0 := cell_at (o := 0) hx1 rfl
  have HB := Lib.hid (M0.out.2.2.trans (hB.mono M0.out.2.2.size))
  have hmk := run_mkRowSS l.length HL.out w1
  rw [Nat.mul_one] at hmk
  have hr2 := heap_keptD hr1 (below_allocD w1 (.cells (madeCells #[.slice none 0 0] l.length) 85))
  have q0 := cell_at (o := 0) hr2 rfl
  have q1 := cell_at (o := 1) hr2 rfl
  have k0 := frozen_at 0 hr2
  have k1 := frozen_at 1 hr2
  have HLT : Hid (w.heap.size + 1 < w1.heap.size) := (Array.getElem?_eq_some_iff.1 hr1).1
  clear hx1 hr1 hr2 hB
  go_wp2_with fail
  refine bodyPost_ret (v := .tuple #[.agg #[.slice (some ⟨w1.heap.size, 0, none⟩) l.length l.length, .int .i64 1], .int .i64 0]) (by simp [results, Try.results8, go_sem, *]) rfl ?_
  obtain ⟨W2, hW2⟩ : ∃ W2, W2 = w1.alloc (.cells (madeCells #[.slice none 0 0] l.length) 85) := ⟨_, rfl⟩
  have ho := own_made w1 l.length
  have hb2 := below_allocD w1 (.cells (madeCells #[.slice none 0 0] l.length) 85)
  have hsz : W2.heap.size = w1.heap.size + 1 := by rw [hW2]; simp
  rw [← hW2] at ho hb2 ⊢
  have hfr : Frm (· = w.heap.size + 1) W2 ((W2.setCell ⟨w.heap.size + 1, 0, none⟩ (.slice (some ⟨w1.heap.size, 0, none⟩) l.length l.length)).setCell ⟨w.heap.size + 1, 1, none⟩ (.int .i64 1)) := (frm_set _ _ _ _).trans (frm_set _ _ _ _)
  have hlt := HLT.out
  have hbs := HB.out.size
  refine ⟨some ⟨w1.heap.size, 0, none⟩, l.length, by rw [HN.out, noRows_len], ?_, ?_⟩
  · rw [HN.out]
    simp only [noRows_len]
    exact (ho.frm hfr (fun b hb e => by have h2 := hb.1; have e' : b = w.heap.size + 1 := e; omega)).mono (fun b hb => by
      have h1 := hb.1; have h2 := hb.2
      refine ⟨by omega, ?_⟩
      simp [World.setCell, hsz]; omega)
  · exact ((HB.out.trans (hb2.mono hbs)).setCell (by simp <;> omega) _).setCell (by simp <;> omega) _
end Go.Proofs.Ytjfkfeiohcfdaaa
