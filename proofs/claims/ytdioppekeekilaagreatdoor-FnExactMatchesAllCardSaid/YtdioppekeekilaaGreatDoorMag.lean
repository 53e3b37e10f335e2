import Derived.Test.YtdioppekeekilaaGreatDoorMaf
import Derived.Deep.RegionWith
import Derived.BigQuiet
namespace Go.Proofs.YtdioppekeekilaaGreatDoor
open Go.RowKit
set_option linter.unusedSimpArgs false
/-- a table in its box -/
def BoxT (ty : TypeId) (w W : World) (t : Tb) (ca : Option Addr) (cc : Nat) (ua : Option Addr) (uc : Nat) : Prop := W.heap[w.heap.size]? = some (.cells #[.string ⟨t.nm.toArray⟩, .slice ca t.cols.length cc, .slice ua t.uq.length uc, .bool t.rt] ty) ∧ Below w.heap.size w W
theorem BoxT.later {ty : TypeId} {w W W' : World} {t : Tb} {ca : Option Addr} {cc : Nat} {ua : Option Addr} {uc : Nat} (h : BoxT ty w W t ca cc ua uc) (hB : Below W.heap.size W W') : BoxT ty w W' t ca cc ua uc := ⟨heap_keptC h.1 hB, h.2.trans (hB.mono h.2.size)⟩
theorem boxT (ty : TypeId) (w : World) (t : Tb) (ca : Option Addr) (cc : Nat) (ua : Option Addr) (uc : Nat) : BoxT ty w (w.alloc (.cells #[.string ⟨t.nm.toArray⟩, .slice ca t.cols.length cc, .slice ua t.uq.length uc, .bool t.rt] ty)) t ca cc ua uc := ⟨heap_newC _ _, (Below.refl _ _).alloc (Nat.le_refl _) _⟩
theorem BoxT.drew {ty : TypeId} {w W : World} {t : Tb} {ca : Option Addr} {cc : Nat} {ua : Option Addr} {uc : Nat} (h : BoxT ty w W t ca cc ua uc) : BoxT ty w W.drew t ca cc ua uc := h.later (Below.refl _ _).drew
theorem BoxT.drewN {ty : TypeId} {w W : World} {t : Tb} {ca : Option Addr} {cc : Nat} {ua : Option Addr} {uc : Nat} (h : BoxT ty w W t ca cc ua uc) (n : Nat) : BoxT ty w (W.drewN n) t ca cc ua uc := h.later (below_drewN (Below.refl _ _) n)
set_option maxHeartbeats 1600000 in
theorem szTable (t : Tb) (ca : Option Addr) (cc : Nat) (ua : Option Addr) (uc : Nat) (L : Int) (B : Nat → Prop) (w : World) (h0 : 0 ≤ L) (h1 : L ≤ 1048576) (ho : t.ok) (hS : t.Has w B ca ua) :
    Calls Tryz.prog 5 #[.agg #[.string ⟨t.nm.toArray⟩, .slice ca t.cols.length cc, .slice ua t.uq.length uc, .bool t.rt], .int .i64 L] w fun e w' => e = .returned (.int .i64 (lessI L t.sz)) ∧ Below w.heap.size w w' := by
  have HO : Hid t.ok := ho
  have hnm := ho.1
  unfold maxLen at hnm
  have HS : Hid (t.Has w B ca ua) := hS
  have hx := boxT 25 w t ca cc ua uc
  clear ho hS
  have x0 := cell_at (o := 0) hx.1 rfl
  have x1 := cell_at (o := 1) hx.1 rfl
  have x2 := cell_at (o := 2) hx.1 rfl
  by_cases hn : L - (t.nm.length : Int) < 0
  · have HR : Hid (lessI L t.sz = -1) := by show lessI L t.sz = -1; unfold lessI Tb.sz; rw [if_neg (by omega)]
    have d1 : decide (L - (t.nm.length : Int) < 0) = true := decide_eq_true hn
    go_enter Tryz.func5, Tryz.ntmps5
    go_wp2_with fail
    go_ret
    exact ⟨ret_i HR.out.symm, hx.2⟩
  obtain ⟨L1, hL1⟩ : ∃ L1 : Int, L1 = L - (t.nm.length : Int) := ⟨_, rfl⟩
  have f1 : IntKind.i64.wrap (L - (t.nm.length : Int)) = L1 := by rw [IntKind.wrap_i64]; omega
  have d1 : decide (L1 < 0) = false := decide_eq_false (by omega)
  have hL1' : 0 ≤ L1 ∧ L1 ≤ 1048576 := by omega
  have HL1 := Lib.hid hL1
  have hl1 := Lib.hid hL1'
  clear hL1 hL1' hn h0 h1
  go_enter Tryz.func5, Tryz.ntmps5
  go_wp2_with fail
  refine (szColumns t.cols ca cc L1 B _ hl1.out.1 hl1.out.2 HO.out.2.1 HO.out.2.2.1 (HS.out.later hx.2).1).mono ?_
  rintro e w1 ⟨rfl, hB1⟩
  have hx := hx.later hB1
  have x0 := cell_at (o := 0) hx.1 rfl
  have x1 := cell_at (o := 1) hx.1 rfl
  have x2 := cell_at (o := 2) hx.1 rfl
  clear hB1
  by_cases hc : L1 - (szCs t.cols : Int) < 0
  · have HR : Hid (lessI L t.sz = -1) := by have := HL1.out; show lessI L t.sz = -1; unfold lessI Tb.sz; rw [if_neg (by omega)]
    rw [less_no hc]
    go_wp2_with fail
    go_ret
    exact ⟨ret_i HR.out.symm, hx.2⟩
  rw [less_yes (by omega)]
  obtain ⟨L2, hL2⟩ : ∃ L2 : Int, L2 = L1 - (szCs t.cols : Int) := ⟨_, rfl⟩
  rw [← hL2]
  have d2 : decide (L2 < 0) = false := decide_eq_false (by omega)
  have hl2 : Hid (0 ≤ L2 ∧ L2 ≤ 1048576) := by have := hl1.out; show _ ∧ _; omega
  have HL2 := Lib.hid hL2
  clear hL2 hc
  go_wp2_with fail
  refine (szInts t.uq.length ua uc L2 _ hl2.out.1 hl2.out.2 HO.out.2.2.2).mono ?_
  rintro e w2 ⟨rfl, hB2⟩
  have hx := hx.later hB2
  clear hB2
  by_cases hu : L2 - (t.uq.length : Int) < 0
  · have HR : Hid (lessI L t.sz = -1) := by have := HL1.out; have := HL2.out; show lessI L t.sz = -1; unfold lessI Tb.sz; rw [if_neg (by omega)]
    rw [less_no hu]
    go_wp2_with fail
    go_ret
    exact ⟨ret_i HR.out.symm, hx.2⟩
  rw [less_yes (by omega)]
  obtain ⟨L3, hL3⟩ : ∃ L3 : Int, L3 = L2 - (t.uq.length : Int) := ⟨_, rfl⟩
  rw [← hL3]
  have HR : Hid (lessI L t.sz = L3) := by have := HL1.out; have := HL2.out; show lessI L t.sz = L3; unfold lessI Tb.sz; rw [if_pos (by omega)]; omega
  have d3 : decide (L3 < 0) = false := decide_eq_false (by omega)
  clear hL3 hu
  go_wp2_with fail
  go_ret
  exact ⟨ret_i HR.out.symm, hx.2⟩
/-- while a table is copied -/
structure TtSt (w V : World) (t : Tb) (ca : Option Addr) (cc : Nat) (ua : Option Addr) (uc : Nat) (o : Array Value) : Prop where
  bx : V.heap[w.heap.size]? = some (.cells #[.string ⟨t.nm.toArray⟩, .slice ca t.cols.length cc, .slice ua t.uq.length uc, .bool t.rt] 25)
  rv : V.heap[w.heap.size + 1]? = some (.cells #[.string ⟨#[]⟩, .slice none 0 0, .slice none 0 0, .bool false] 39)
  ot : V.heap[w.heap.size + 1 + 1]? = some (.cells o 39)
  bel : Below w.heap.size w V
variable {w V V' : World} {t : Tb} {ca : Option Addr} {cc : Nat} {ua : Option Addr} {uc : Nat} {o : Array Value}
theorem TtSt.later (h : TtSt w V t ca cc ua uc o) (hB : Below V.heap.size V V') : TtSt w V' t ca cc ua uc o := ⟨heap_keptC h.bx hB, heap_keptC h.rv hB, heap_keptC h.ot hB, h.bel.trans (hB.mono h.bel.size)⟩
theorem TtSt.set (h : TtSt w V t ca cc ua uc o) (k : Nat) (v : Value) : TtSt w (V.setCell ⟨w.heap.size + 1 + 1, k, none⟩ v) t ca cc ua uc (o.setIfInBounds k v) :=
  ⟨by rw [Below.heap_setCell _ ⟨w.heap.size + 1 + 1, k, none⟩ v _ (by show w.heap.size ≠ w.heap.size + 1 + 1; omega)]; exact h.bx, by rw [Below.heap_setCell _ ⟨w.heap.size + 1 + 1, k, none⟩ v _ (by show w.heap.size + 1 ≠ w.heap.size + 1 + 1; omega)]; exact h.rv, heap_set k v h.ot, h.bel.setCell (by show w.heap.size ≤ w.heap.size + 1 + 1; omega) _⟩
theorem ttFirst (w : World) (t : Tb) (ca : Option Addr) (cc : Nat) (ua : Option Addr) (uc : Nat) (o : Array Value) : TtSt w (((w.alloc (.cells #[.string ⟨t.nm.toArray⟩, .slice ca t.cols.length cc, .slice ua t.uq.length uc, .bool t.rt] 25)).alloc (.cells #[.string ⟨#[]⟩, .slice none 0 0, .slice none 0 0, .bool false] 39)).alloc (.cells o 39)) t ca cc ua uc o := by
  have al : ∀ (V : World) (o : Obj), Below V.heap.size V (V.alloc o) := fun V o => (Below.refl _ _).alloc (Nat.le_refl _) _
  have sz : ∀ (V : World) (o : Obj), (V.alloc o).heap.size = V.heap.size + 1 := fun V o => by simp
  refine ⟨heap_keptC (heap_keptC (heap_newC _ _) (al _ _)) (al _ _), ?_, ?_, (((Below.refl _ _).alloc (Nat.le_refl _) _).alloc (by simp) _).alloc (by simp; omega) _⟩
  · have h := heap_keptC (heap_newC (w.alloc (.cells #[.string ⟨t.nm.toArray⟩, .slice ca t.cols.length cc, .slice ua t.uq.length uc, .bool t.rt] 25)) (.cells #[.string ⟨#[]⟩, .slice none 0 0, .slice none 0 0, .bool false] 39)) (al _ (.cells o 39))
    rw [sz] at h
    exact h
  · have h := heap_newC ((w.alloc (.cells #[.string ⟨t.nm.toArray⟩, .slice ca t.cols.length cc, .slice ua t.uq.length uc, .bool t.rt] 25)).alloc (.cells #[.string ⟨#[]⟩, .slice none 0 0, .slice none 0 0, .bool false] 39)) (.cells o 39)
    rw [sz, sz] at h
    exact h
/-- a copy of a table in memory of its own -/
def TbAns (w : World) (t : Tb) (e : Ending) (w' : World) : Prop := ∃ q1 q2 : Nat, e = .returned (.agg #[.string ⟨t.nm.toArray⟩, .slice (some ⟨q1, 0, none⟩) t.cols.length t.cols.length, .slice (some ⟨q2, 0, none⟩) t.uq.length t.uq.length, .bool t.rt]) ∧ w.heap.size ≤ q1 ∧ q1 ≤ q2 ∧ q2 ≤ w'.heap.size ∧ OwnCols w' (fun b => q1 ≤ b ∧ b < q2) (some ⟨q1, 0, none⟩) t.cols ∧ OwnInts w' (fun b => q2 ≤ b ∧ b < w'.heap.size) (some ⟨q2, 0, none⟩) t.uq ∧ Below w.heap.size w w'
set_option maxRecDepth 100000 in
set_option maxHeartbeats 3200000 in
theorem toTable (t : Tb) (ca : Option Addr) (cc : Nat) (ua : Option Addr) (uc : Nat) (B : Nat → Prop) (w : World) (h1 : t.cols.length ≤ 1048576) (h2 : t.uq.length ≤ 1048576) (hS : t.Has w B ca ua) :
    Calls Tryz.prog 9 #[.agg #[.string ⟨t.nm.toArray⟩, .slice ca t.cols.length cc, .slice ua t.uq.length uc, .bool t.rt]] w (TbAns w t) := by
  have H1 : Hid (t.cols.length ≤ 1048576 ∧ t.uq.length ≤ 1048576) := ⟨h1, h2⟩
  have HS : Hid (t.Has w B ca ua) := hS
  have T0 := Lib.hid (ttFirst w t ca cc ua uc #[.string ⟨t.nm.toArray⟩, .slice none 0 0, .slice none 0 0, .bool false])
  clear hS h1 h2
  go_enter Tryz.func9, Tryz.ntmps9
  go_wp2_with fail
  refine (toColumns t.cols ca cc B _ H1.out.1 (HS.out.later T0.out.bel).1).mono ?_
  rintro e w1 ⟨rfl, ho1, hB1⟩
  obtain ⟨q1, hq1⟩ : ∃ q, q = (((w.alloc (.cells #[.string ⟨t.nm.toArray⟩, .slice ca t.cols.length cc, .slice ua t.uq.length uc, .bool t.rt] 25)).alloc (.cells #[.string ⟨#[]⟩, .slice none 0 0, .slice none 0 0, .bool false] 39)).alloc (.cells #[.string ⟨t.nm.toArray⟩, .slice none 0 0, .slice none 0 0, .bool false] 39)).heap.size := ⟨_, rfl⟩
  have hq1' : w.heap.size + 1 + 1 < q1 := by rw [hq1]; simp
  have T1 := Lib.hid (T0.out.later hB1)
  rw [← hq1] at ho1 ⊢
  have hlt1 : q1 ≤ w1.heap.size := by rw [hq1]; exact hB1.size
  have O1 := Lib.hid ho1
  have x1 := cell_at (o := 1) T1.out.ot rfl
  have z1 := frozen_at 1 T1.out.ot
  have y2 := cell_at (o := 2) T1.out.bx rfl
  have hne : (w.heap.size = w.heap.size + 1 + 1) = False := by simp; omega
  have T2 := Lib.hid (T1.out.set 1 (.slice (some ⟨q1, 0, none⟩) t.cols.length t.cols.length))
  clear ho1 hB1 hq1 T0
  go_wp2_with fail
  refine (toInts t.uq ua uc B _ H1.out.2 (HS.out.later T2.out.bel).2).mono ?_
  rintro e w2 ⟨rfl, ho2, hB2⟩
  have es : (w1.setCell ⟨w.heap.size + 1 + 1, 1, none⟩ (.slice (some ⟨q1, 0, none⟩) t.cols.length t.cols.length)).heap.size = w1.heap.size := by simp
  rw [es] at ho2 hB2
  try rw [es]
  obtain ⟨q2, hq2⟩ : ∃ q, q = w1.heap.size := ⟨_, rfl⟩
  have hs2 : w1.heap.size ≤ w2.heap.size := by have h := hB2.size; rwa [es] at h
  have O1' : Hid (OwnCols w2 (fun b => q1 ≤ b ∧ b < q2) (some ⟨q1, 0, none⟩) t.cols) := by
    refine OwnRw.same O1.out (fun b hb => ?_) (fun b hb => by rw [hq2]; exact hb)
    rw [hB2.block b hb.2, Below.heap_setCell _ ⟨w.heap.size + 1 + 1, 1, none⟩ _ _ (by show b ≠ w.heap.size + 1 + 1; omega)]
  rw [← hq2] at ho2 hs2 ⊢
  have O2 := Lib.hid ho2
  have T3 := Lib.hid (T2.out.later (by rw [es]; exact hB2))
  have x0 := cell_at (o := 0) T3.out.ot rfl
  have x1 := cell_at (o := 1) T3.out.ot rfl
  have x2 := cell_at (o := 2) T3.out.ot rfl
  have x3 := cell_at (o := 3) T3.out.ot rfl
  have z2 := frozen_at 2 T3.out.ot
  have z3 := frozen_at 3 T3.out.ot
  have y3 := cell_at (o := 3) T3.out.bx rfl
  have r0 := cell_at (o := 0) T3.out.rv rfl
  have r1 := cell_at (o := 1) T3.out.rv rfl
  have r2 := cell_at (o := 2) T3.out.rv rfl
  have r3 := cell_at (o := 3) T3.out.rv rfl
  have g0 := frozen_at 0 T3.out.rv
  have g1 := frozen_at 1 T3.out.rv
  have g2 := frozen_at 2 T3.out.rv
  have g3 := frozen_at 3 T3.out.rv
  have HQ : Hid (w.heap.size + 1 + 1 < q1 ∧ q1 ≤ q2 ∧ q2 ≤ w2.heap.size) := ⟨hq1', by rw [hq2]; exact hlt1, hs2⟩
  clear ho2 hB2 T2 T1 O1 es hq2 hs2 hlt1 hq1'
  go_wp2_with fail
  refine bodyPost_ret (v := .agg #[.string ⟨t.nm.toArray⟩, .slice (some ⟨q1, 0, none⟩) t.cols.length t.cols.length, .slice (some ⟨q2, 0, none⟩) t.uq.length t.uq.length, .bool t.rt]) (by simp [results, Tryz.results9, go_sem, *]) rfl ?_
  have hb := T3.out.bel
  refine ⟨q1, q2, rfl, by have := HQ.out; omega, HQ.out.2.1, by simpa using HQ.out.2.2, ?_, ?_, ?_⟩
  · refine OwnRw.same O1'.out (fun b hb => ?_) (fun _ h => h)
    have hq := HQ.out
    iterate 6 rw [Below.heap_setCell _ _ _ _ (by simp; omega)]
  · refine OwnRw.same O2.out (fun b hb => ?_) (fun b hb => by simpa using hb)
    have hq := HQ.out
    iterate 6 rw [Below.heap_setCell _ _ _ _ (by simp; omega)]
  · exact ((((((hb.setCell (by simp <;> omega) _).setCell (by simp <;> omega) _).setCell (by simp <;> omega) _).setCell (by simp <;> omega) _).setCell (by simp <;> omega) _).setCell (by simp <;> omega) _)
end Go.Proofs.YtdioppekeekilaaGreatDoor
namespace Go.Proofs.YtdioppekeekilaaGreatDoor
open Go.RowKit
set_option linter.unusedSimpArgs false
/-! right tables -/
def GoodC (l : List Cl) (i : Nat) (h : i < l.length) : Prop := colB l[i] = true ∧ ∀ k (hk : k < i), (l[k]'(by omega)).nm ≠ l[i].nm
def GoodU (n : Nat) (u : List Int) (i : Nat) (h : i < u.length) : Prop := (0 ≤ u[i] ∧ u[i] < (n : Int)) ∧ ∀ j (hj : j + 1 = i), (u[j]'(by omega)) < u[i]
structure TabP (t : Tb) : Prop where
  nm : nameB t.nm = true
  len : 1 ≤ t.cols.length ∧ t.cols.length ≤ 6
  cols : ∀ i (h : i < t.cols.length), GoodC t.cols i h
  uq : ∀ i (h : i < t.uq.length), GoodU t.cols.length t.uq i h
noncomputable def tabB (t : Tb) : Bool := @decide (TabP t) (Classical.propDecidable _)
theorem tab_yes {t : Tb} (h : TabP t) : tabB t = true := by unfold tabB; exact @decide_eq_true _ (Classical.propDecidable _) h
theorem tab_no {t : Tb} (h : ¬ TabP t) : tabB t = false := by unfold tabB; exact @decide_eq_false _ (Classical.propDecidable _) h
theorem uq_ge {n : Nat} {u : List Int} (h : ∀ i (h : i < u.length), GoodU n u i h) : ∀ i (hi : i < u.length), (i : Int) ≤ u[i]
  | 0, hi => by have := (h 0 hi).1.1; omega
  | i + 1, hi => by
    have h1 := uq_ge h i (by omega)
    have h2 := (h (i + 1) hi).2 i rfl
    omega
theorem uq_len {n : Nat} {u : List Int} (h : ∀ i (h : i < u.length), GoodU n u i h) : u.length ≤ n := by
  by_cases h0 : u.length = 0
  · omega
  · have h1 := uq_ge h (u.length - 1) (by omega)
    have h2 := (h (u.length - 1) (by omega)).1.2
    omega
/-- where a column of that name is, the first one -/
def FirstC (l : List Cl) (t : List UInt8) (q : Int) : Prop := (q = -1 ∧ ∀ k (h : k < l.length), l[k].nm ≠ t) ∨ ∃ k, ∃ h : k < l.length, q = (k : Int) ∧ l[k].nm = t ∧ ∀ j (hj : j < k), (l[j]'(by omega)).nm ≠ t
theorem first_one {l : List Cl} {t : List UInt8} {q q' : Int} (h : FirstC l t q) (h' : FirstC l t q') : q = q' := by
  rcases h with ⟨rfl, h⟩ | ⟨k, hk, rfl, e, h⟩
  · rcases h' with ⟨rfl, -⟩ | ⟨k', hk', rfl, e', -⟩
    · rfl
    · exact absurd e' (h k' hk')
  · rcases h' with ⟨rfl, h'⟩ | ⟨k', hk', rfl, e', h'⟩
    · exact absurd e (h' k hk)
    · rcases Nat.lt_trichotomy k k' with c | c | c
      · exact absurd e (h' k c)
      · rw [c]
      · exact absurd e' (h k' c)
theorem least_nat {P : Nat → Prop} (n : Nat) (h : P n) : ∃ k, P k ∧ ∀ j, j < k → ¬ P j := by
  induction n using Nat.strongRecOn with
  | _ n ih =>
    by_cases hh : ∃ j, j < n ∧ P j
    · obtain ⟨j, hj, hp⟩ := hh
      exact ih j hj hp
    · exact ⟨n, h, fun j hj hp => hh ⟨j, hj, hp⟩⟩
theorem first_some (l : List Cl) (t : List UInt8) : ∃ q, FirstC l t q := by
  by_cases h : ∃ k, ∃ h : k < l.length, l[k].nm = t
  · obtain ⟨n, hn⟩ := h
    obtain ⟨k, ⟨hk, e⟩, hmin⟩ := least_nat (P := fun k => ∃ h : k < l.length, l[k].nm = t) n hn
    exact ⟨k, .inr ⟨k, hk, rfl, e, fun j hj he => hmin j hj ⟨by omega, he⟩⟩⟩
  · exact ⟨-1, .inl ⟨rfl, fun k hk e => h ⟨k, hk, e⟩⟩⟩
noncomputable def placeC (l : List Cl) (t : List UInt8) : Int := Classical.choose (first_some l t)
theorem place_first (l : List Cl) (t : List UInt8) : FirstC l t (placeC l t) := Classical.choose_spec (first_some l t)
theorem place_eq {l : List Cl} {t : List UInt8} {q : Int} (h : FirstC l t q) : placeC l t = q := first_one (place_first l t) h
theorem place_rng (l : List Cl) (t : List UInt8) : -1 ≤ placeC l t ∧ placeC l t < l.length := by
  rcases place_first l t with ⟨e, -⟩ | ⟨k, hk, e, -⟩ <;> omega
/-- what ColumnOf answers -/
noncomputable def coR (t : Tb) (s : List UInt8) : Int := if 65536 < s.length then 0 else if tabB t = true then (if placeC t.cols s < 0 then 0 else placeC t.cols s) else 0
noncomputable def coC (t : Tb) (s : List UInt8) : Int := if 65536 < s.length then 2 else if tabB t = true then (if placeC t.cols s < 0 then 11 else 0) else 1
set_option maxRecDepth 100000 in
set_option maxHeartbeats 3200000 in
theorem placeS (t : Tb) (s : List UInt8) (ca : Option Addr) (cc : Nat) (ua : Option Addr) (uc : Nat) (B : Nat → Prop) (w : World) (hl : t.cols.length ≤ maxLen) (hS : t.Has w B ca ua) :
    Calls Tryz.prog 50 #[.agg #[.string ⟨t.nm.toArray⟩, .slice ca t.cols.length cc, .slice ua t.uq.length uc, .bool t.rt], .string ⟨s.toArray⟩] w fun e w' => e = .returned (.int .i64 (placeC t.cols s)) ∧ Below w.heap.size w w' := by
  unfold maxLen at hl
  have HS : Hid (t.Has w B ca ua) := hS
  have HX := Lib.hid (boxT 39 w t ca cc ua uc)
  clear hS
  go_enter Tryz.func50, Tryz.ntmps50
  go_wp2_with fail
  go_loopw [5] (fun i wr => ∃ k : Nat, k ≤ t.cols.length ∧ i = .int .i64 k ∧ Hid ((∀ m (h : m < t.cols.length), m < k → t.cols[m].nm ≠ s) ∧ BoxT 39 w wr t ca cc ua uc)) (fun i _ => t.cols.length - (intOf i).toNat)
  case atStart => exact ⟨0, Nat.zero_le _, rfl, fun m _ h => absurd h (by omega), HX.out⟩
  case round =>
    obtain ⟨k, hk, rfl, HW⟩ := hrel
    have x1 := cell_at (o := 1) HW.out.2.1 rfl
    by_cases hlt : k < t.cols.length
    · have hki : (k : Int) < (t.cols.length : Int) := by omega
      obtain ⟨b, off, rfl, -, hc⟩ := (HS.out.later HW.out.2.2).1.at k hlt
      have c0 := (hc k hlt).1
      clear hc
      by_cases he : t.cols[k].nm = s
      · have HP : Hid (placeC t.cols s = k) := place_eq (.inr ⟨k, hlt, rfl, he, fun j hj => HW.out.1 j (by omega) hj⟩)
        rw [he] at c0
        clear he
        go_wp2_with fail
        go_ret
        exact ⟨ret_i HP.out.symm, HW.out.2.2⟩
      · have HN : Hid (∀ m (h : m < t.cols.length), m < k + 1 → t.cols[m].nm ≠ s) := fun m h hm => by
          by_cases e : m = k
          · subst e; exact he
          · exact HW.out.1 m h (by omega)
        have hne : (t.cols[k].nm == s) = false := by simpa using he
        clear he
        generalize t.cols[k] = x at *
        go_wp2_with fail
        go_roundw
        case rel => exact ⟨k + 1, by omega, by go_num, HN.out, HW.out.2⟩
        case measure => simp [intOf]; omega
    · have HP : Hid (placeC t.cols s = -1) := place_eq (.inl ⟨rfl, fun m h => HW.out.1 m h (by omega)⟩)
      have hki : decide ((k : Int) < (t.cols.length : Int)) = false := by simp; omega
      go_wp2_with fail
      go_ret
      exact ⟨ret_i HP.out.symm, HW.out.2.2⟩
set_option maxRecDepth 100000 in
set_option maxHeartbeats 3200000 in
theorem placeI (t : Tb) (s : List UInt8) (ca : Option Addr) (cc : Nat) (ua : Option Addr) (uc : Nat) (B : Nat → Prop) (w : World) (hl : t.cols.length ≤ maxLen) (hS : t.Has w B ca ua) :
    Calls Tryz.prog 73 #[.agg #[.string ⟨t.nm.toArray⟩, .slice ca t.cols.length cc, .slice ua t.uq.length uc, .bool t.rt], .string ⟨s.toArray⟩] w fun e w' => e = .returned (.int .i64 (placeC t.cols s)) ∧ Below w.heap.size w w' := by
  unfold maxLen at hl
  have HS : Hid (t.Has w B ca ua) := hS
  have HX := Lib.hid (boxT 39 w t ca cc ua uc)
  clear hS
  go_enter Tryz.func73, Tryz.ntmps73
  go_wp2_with fail
  go_loopw [9] (fun i wr => ∃ k : Nat, k ≤ t.cols.length ∧ i = .int .i64 k ∧ Hid ((∀ m (h : m < t.cols.length), m < k → t.cols[m].nm ≠ s) ∧ BoxT 39 w wr t ca cc ua uc)) (fun i _ => t.cols.length - (intOf i).toNat)
  case atStart => exact ⟨0, Nat.zero_le _, rfl, fun m _ h => absurd h (by omega), HX.out⟩
  case round =>
    obtain ⟨k, hk, rfl, HW⟩ := hrel
    have x1 := cell_at (o := 1) HW.out.2.1 rfl
    by_cases hlt : k < t.cols.length
    · have hki : (k : Int) < (t.cols.length : Int) := by omega
      obtain ⟨b, off, rfl, -, hc⟩ := (HS.out.later HW.out.2.2).1.at k hlt
      have c0 := (hc k hlt).1
      clear hc
      by_cases he : t.cols[k].nm = s
      · have HP : Hid (placeC t.cols s = k) := place_eq (.inr ⟨k, hlt, rfl, he, fun j hj => HW.out.1 j (by omega) hj⟩)
        rw [he] at c0
        clear he
        go_wp2_with fail
        go_ret
        exact ⟨ret_i HP.out.symm, HW.out.2.2⟩
      · have HN : Hid (∀ m (h : m < t.cols.length), m < k + 1 → t.cols[m].nm ≠ s) := fun m h hm => by
          by_cases e : m = k
          · subst e; exact he
          · exact HW.out.1 m h (by omega)
        have hne : (t.cols[k].nm == s) = false := by simpa using he
        clear he
        generalize t.cols[k] = x at *
        go_wp2_with fail
        go_roundw
        case rel => exact ⟨k + 1, by omega, by go_num, HN.out, HW.out.2⟩
        case measure => simp [intOf]; omega
    · have HP : Hid (placeC t.cols s = -1) := place_eq (.inl ⟨rfl, fun m h => HW.out.1 m h (by omega)⟩)
      have hki : decide ((k : Int) < (t.cols.length : Int)) = false := by simp; omega
      go_wp2_with fail
      go_ret
      exact ⟨ret_i HP.out.symm, HW.out.2.2⟩
end Go.Proofs.YtdioppekeekilaaGreatDoor
