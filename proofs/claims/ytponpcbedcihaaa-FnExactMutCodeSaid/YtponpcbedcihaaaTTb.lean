import Derived.Test.YtponpcbedcihaaaTTo
import Derived.Deep.RegionWith
import Derived.BigQuiet
namespace Go.Proofs.Ytponpcbedcihaaa
open Go.RowKit
set_option linter.unusedSimpArgs false
/-- a table in its box -/
def BoxT (ty : TypeId) (w W : World) (t : Tb) (ca : Option Addr) (cc : Nat) (ua : Option Addr) (uc : Nat) : Prop := W.heap[w.heap.size]? = some (.cells #[.string ⟨t.nm.toArray⟩, .slice ca t.cols.length cc, .slice ua t.uq.length uc, .bool t.rt] ty) ∧ Below w.heap.size w W
theorem BoxT.later {ty : TypeId} {w W W' : World} {t : Tb} {ca : Option Addr} {cc : Nat} {ua : Option Addr} {uc : Nat} (h : BoxT ty w W t ca cc ua uc) (hB : Below W.heap.size W W') : BoxT ty w W' t ca cc ua uc := ⟨heap_keptC h.1 hB, h.2.trans (hB.mono h.2.size)⟩
theorem boxT (ty : TypeId) (w : World) (t : Tb) (ca : Option Addr) (cc : Nat) (ua : Option Addr) (uc : Nat) : BoxT ty w (w.alloc (.cells #[.string ⟨t.nm.toArray⟩, .slice ca t.cols.length cc, .slice ua t.uq.length uc, .bool t.rt] ty)) t ca cc ua uc := ⟨heap_newC _ _, (Below.refl _ _).alloc (Nat.le_refl _) _⟩
theorem BoxT.drew {ty : TypeId} {w W : World} {t : Tb} {ca : Option Addr} {cc : Nat} {ua : Option Addr} {uc : Nat} (h : BoxT ty w W t ca cc ua uc) : BoxT ty w W.drew t ca cc ua uc := h.later (Below.refl _ _).drew
theorem BoxT.drewN {ty : TypeId} {w W : World} {t : Tb} {ca : Option Addr} {cc : Nat} {ua : Option Addr} {uc : Nat} (h : BoxT ty w W t ca cc ua uc) (n : Nat) : BoxT ty w (W.drewN n) t ca cc ua uc := h.later (below_drewN (Below.refl _ _) n)
set_option maxHeartbeats 1600000 in
theorem szTable (t : Tb) (ca : Option Addr) (cc : Nat) (ua : Option Addr) (uc : Nat) (L : Int) (B : Nat → Prop) (w : World) (h0 : 0 ≤ L) (h1 : L ≤ 1048576) (ho : t.ok) (hS : t.Has w B ca ua) :
    Calls Try.prog 4 #[.agg #[.string ⟨t.nm.toArray⟩, .slice ca t.cols.length cc, .slice ua t.uq.length uc, .bool t.rt], .int .i64 L] w fun e w' => e = .returned (.int .i64 (lessI L t.sz)) ∧ Below w.heap.size w w' := by
  have HO : Hid t.ok := ho
  have hnm := ho.1
  unfold maxLen at hnm
  have HS : Hid (t.Has w B ca ua) := hS
  have hx := boxT 25 w t ca cc ua uc
  clear ho hS
  have x0 := cell_at (o := 0) hx.1 rfl
  have x1 := cell_at (o := 1) hx.1 rfl
  have x2 := cell_at (o := 2) hx.1 rfl
  by_cases hn : L - (t.nm.length : Int) < 0
  · have HR : Hid (lessI L t.sz = -1) := by show lessI L t.sz = -1; unfold lessI Tb.sz; rw [if_neg (by omega)]
    have d1 : decide (L - (t.nm.length : Int) < 0) = true := decide_eq_true hn
    go_enter Try.func4, Try.ntmps4
    go_wp2_with fail
    go_ret
    exact ⟨ret_i HR.out.symm, hx.2⟩
  obtain ⟨L1, hL1⟩ : ∃ L1 : Int, L1 = L - (t.nm.length : Int) := ⟨_, rfl⟩
  have f1 : IntKind.i64.wrap (L - (t.nm.length : Int)) = L1 := by rw [IntKind.wrap_i64]; omega
  have d1 : decide (L1 < 0) = false := decide_eq_false (by omega)
  have hL1' : 0 ≤ L1 ∧ L1 ≤ 1048576 := by omega
  have HL1 := Lib.hid hL1
  have hl1 := Lib.hid hL1'
  clear hL1 hL1' hn h0 h1
  go_enter Try.func4, Try.ntmps4
  go_wp2_with fail
  refine (szColumns t.cols ca cc L1 B _ hl1.out.1 hl1.out.2 HO.out.2.1 HO.out.2.2.1 (HS.out.later hx.2).1).mono ?_
  rintro e w1 ⟨rfl, hB1⟩
  have hx := hx.later hB1
  have x0 := cell_at (o := 0) hx.1 rfl
  have x1 := cell_at (o := 1) hx.1 rfl
  have x2 := cell_at (o := 2) hx.1 rfl
  clear hB1
  by_cases hc : L1 - (szCs t.cols : Int) < 0
  · have HR : Hid (lessI L t.sz = -1) := by have := HL1.out; show lessI L t.sz = -1; unfold lessI Tb.sz; rw [if_neg (by omega)]
    rw [less_no hc]
    go_wp2_with fail
    go_ret
    exact ⟨ret_i HR.out.symm, hx.2⟩
  rw [less_yes (by omega)]
  obtain ⟨L2, hL2⟩ : ∃ L2 : Int, L2 = L1 - (szCs t.cols : Int) := ⟨_, rfl⟩
  rw [← hL2]
  have d2 : decide (L2 < 0) = false := decide_eq_false (by omega)
  have hl2 : Hid (0 ≤ L2 ∧ L2 ≤ 1048576) := by have := hl1.out; show _ ∧ _; omega
  have HL2 := Lib.hid hL2
  clear hL2 hc
  go_wp2_with fail
  refine (szInts t.uq.length ua uc L2 _ hl2.out.1 hl2.out.2 HO.out.2.2.2).mono ?_
  rintro e w2 ⟨rfl, hB2⟩
  have hx := hx.later hB2
  clear hB2
  by_cases hu : L2 - (t.uq.length : Int) < 0
  · have HR : Hid (lessI L t.sz = -1) := by have := HL1.out; have := HL2.out; show lessI L t.sz = -1; unfold lessI Tb.sz; rw [if_neg (by omega)]
    rw [less_no hu]
    go_wp2_with fail
    go_ret
    exact ⟨ret_i HR.out.symm, hx.2⟩
  rw [less_yes (by omega)]
  obtain ⟨L3, hL3⟩ : ∃ L3 : Int, L3 = L2 - (t.uq.length : Int) := ⟨_, rfl⟩
  rw [← hL3]
  have HR : Hid (lessI L t.sz = L3) := by have := HL1.out; have := HL2.out; show lessI L t.sz = L3; unfold lessI Tb.sz; rw [if_pos (by omega)]; omega
  have d3 : decide (L3 < 0) = false := decide_eq_false (by omega)
  clear hL3 hu
  go_wp2_with fail
  go_ret
  exact ⟨ret_i HR.out.symm, hx.2⟩
/-- while a table is copied -/
structure TtSt (w V : World) (t : Tb) (ca : Option Addr) (cc : Nat) (ua : Option Addr) (uc : Nat) (o : Array Value) : Prop where
  bx : V.heap[w.heap.size]? = some (.cells #[.string ⟨t.nm.toArray⟩, .slice ca t.cols.length cc, .slice ua t.uq.length uc, .bool t.rt] 25)
  rv : V.heap[w.heap.size + 1]? = some (.cells #[.string ⟨#[]⟩, .slice none 0 0, .slice none 0 0, .bool false] 35)
  ot : V.heap[w.heap.size + 1 + 1]? = some (.cells o 35)
  bel : Below w.heap.size w V
variable {w V V' : World} {t : Tb} {ca : Option Addr} {cc : Nat} {ua : Option Addr} {uc : Nat} {o : Array Value}
theorem TtSt.later (h : TtSt w V t ca cc ua uc o) (hB : Below V.heap.size V V') : TtSt w V' t ca cc ua uc o := ⟨heap_keptC h.bx hB, heap_keptC h.rv hB, heap_keptC h.ot hB, h.bel.trans (hB.mono h.bel.size)⟩
theorem TtSt.set (h : TtSt w V t ca cc ua uc o) (k : Nat) (v : Value) : TtSt w (V.setCell ⟨w.heap.size + 1 + 1, k, none⟩ v) t ca cc ua uc (o.setIfInBounds k v) :=
  ⟨by rw [Below.heap_setCell _ ⟨w.heap.size + 1 + 1, k, none⟩ v _ (by show w.heap.size ≠ w.heap.size + 1 + 1; omega)]; exact h.bx, by rw [Below.heap_setCell _ ⟨w.heap.size + 1 + 1, k, none⟩ v _ (by show w.heap.size + 1 ≠ w.heap.size + 1 + 1; omega)]; exact h.rv, heap_set k v h.ot, h.bel.setCell (by show w.heap.size ≤ w.heap.size + 1 + 1; omega) _⟩
theorem ttFirst (w : World) (t : Tb) (ca : Option Addr) (cc : Nat) (ua : Option Addr) (uc : Nat) (o : Array Value) : TtSt w (((w.alloc (.cells #[.string ⟨t.nm.toArray⟩, .slice ca t.cols.length cc, .slice ua t.uq.length uc, .bool t.rt] 25)).alloc (.cells #[.string ⟨#[]⟩, .slice none 0 0, .slice none 0 0, .bool false] 35)).alloc (.cells o 35)) t ca cc ua uc o := by
  have al : ∀ (V : World) (o : Obj), Below V.heap.size V (V.alloc o) := fun V o => (Below.refl _ _).alloc (Nat.le_refl _) _
  have sz : ∀ (V : World) (o : Obj), (V.alloc o).heap.size = V.heap.size + 1 := fun V o => by simp
  refine ⟨heap_keptC (heap_keptC (heap_newC _ _) (al _ _)) (al _ _), ?_, ?_, (((Below.refl _ _).alloc (Nat.le_refl _) _).alloc (by simp) _).alloc (by simp; omega) _⟩
  · have h := heap_keptC (heap_newC (w.alloc (.cells #[.string ⟨t.nm.toArray⟩, .slice ca t.cols.length cc, .slice ua t.uq.length uc, .bool t.rt] 25)) (.cells #[.string ⟨#[]⟩, .slice none 0 0, .slice none 0 0, .bool false] 35)) (al _ (.cells o 35))
    rw [sz] at h
    exact h
  · have h := heap_newC ((w.alloc (.cells #[.string ⟨t.nm.toArray⟩, .slice ca t.cols.length cc, .slice ua t.uq.length uc, .bool t.rt] 25)).alloc (.cells #[.string ⟨#[]⟩, .slice none 0 0, .slice none 0 0, .bool false] 35)) (.cells o 35)
    rw [sz, sz] at h
    exact h
/-- a copy of a table in memory of its own -/
def TbAns (w : World) (t : Tb) (e : Ending) (w' : World) : Prop := ∃ q1 q2 : Nat, e = .returned (.agg #[.string ⟨t.nm.toArray⟩, .slice (some ⟨q1, 0, none⟩) t.cols.length t.cols.length, .slice (some ⟨q2, 0, none⟩) t.uq.length t.uq.length, .bool t.rt]) ∧ w.heap.size ≤ q1 ∧ q1 ≤ q2 ∧ q2 ≤ w'.heap.size ∧ OwnCols w' (fun b => q1 ≤ b ∧ b < q2) (some ⟨q1, 0, none⟩) t.cols ∧ OwnInts w' (fun b => q2 ≤ b ∧ b < w'.heap.size) (some ⟨q2, 0, none⟩) t.uq ∧ Below w.heap.size w w'
set_option maxRecDepth 100000 in
set_option maxHeartbeats 3200000 in
theorem toTable (t : Tb) (ca : Option Addr) (cc : Nat) (ua : Option Addr) (uc : Nat) (B : Nat → Prop) (w : World) (h1 : t.cols.length ≤ 1048576) (h2 : t.uq.length ≤ 1048576) (hS : t.Has w B ca ua) :
    Calls Try.prog 7 #[.agg #[.string ⟨t.nm.toArray⟩, .slice ca t.cols.length cc, .slice ua t.uq.length uc, .bool t.rt]] w (TbAns w t) := by
  have H1 : Hid (t.cols.length ≤ 1048576 ∧ t.uq.length ≤ 1048576) := ⟨h1, h2⟩
  have HS : Hid (t.Has w B ca ua) := hS
  have T0 := Lib.hid (ttFirst w t ca cc ua uc #[.string ⟨t.nm.toArray⟩, .slice none 0 0, .slice none 0 0, .bool false])
  clear hS h1 h2
  go_enter Try.func7, Try.ntmps7
  go_wp2_with fail
  refine (toColumns t.cols ca cc B _ H1.out.1 (HS.out.later T0.out.bel).1).mono ?_
  rintro e w1 ⟨rfl, ho1, hB1⟩
  obtain ⟨q1, hq1⟩ : ∃ q, q = (((w.alloc (.cells #[.string ⟨t.nm.toArray⟩, .slice ca t.cols.length cc, .slice ua t.uq.length uc, .bool t.rt] 25)).alloc (.cells #[.string ⟨#[]⟩, .slice none 0 0, .slice none 0 0, .bool false] 35)).alloc (.cells #[.string ⟨t.nm.toArray⟩, .slice none 0 0, .slice none 0 0, .bool false] 35)).heap.size := ⟨_, rfl⟩
  have hq1' : w.heap.size + 1 + 1 < q1 := by rw [hq1]; simp
  have T1 := Lib.hid (T0.out.later hB1)
  rw [← hq1] at ho1 ⊢
  have hlt1 : q1 ≤ w1.heap.size := by rw [hq1]; exact hB1.size
  have O1 := Lib.hid ho1
  have x1 := cell_at (o := 1) T1.out.ot rfl
  have z1 := frozen_at 1 T1.out.ot
  have y2 := cell_at (o := 2) T1.out.bx rfl
  have hne : (w.heap.size = w.heap.size + 1 + 1) = False := by simp; omega
  have T2 := Lib.hid (T1.out.set 1 (.slice (some ⟨q1, 0, none⟩) t.cols.length t.cols.length))
  clear ho1 hB1 hq1 T0
  go_wp2_with fail
  refine (toInts t.uq ua uc B _ H1.out.2 (HS.out.later T2.out.bel).2).mono ?_
  rintro e w2 ⟨rfl, ho2, hB2⟩
  have es : (w1.setCell ⟨w.heap.size + 1 + 1, 1, none⟩ (.slice (some ⟨q1, 0, none⟩) t.cols.length t.cols.length)).heap.size = w1.heap.size := by simp
  rw [es] at ho2 hB2
  try rw [es]
  obtain ⟨q2, hq2⟩ : ∃ q, q = w1.heap.size := ⟨_, rfl⟩
  have hs2 : w1.heap.size ≤ w2.heap.size := by have h := hB2.size; rwa [es] at h
  have O1' : Hid (OwnCols w2 (fun b => q1 ≤ b ∧ b < q2) (some ⟨q1, 0, none⟩) t.cols) := by
    refine OwnRw.same O1.out (fun b hb => ?_) (fun b hb => by rw [hq2]; exact hb)
    rw [hB2.block b hb.2, Below.heap_setCell _ ⟨w.heap.size + 1 + 1, 1, none⟩ _ _ (by show b ≠ w.heap.size + 1 + 1; omega)]
  rw [← hq2] at ho2 hs2 ⊢
  have O2 := Lib.hid ho2
  have T3 := Lib.hid (T2.out.later (by rw [es]; exact hB2))
  have x0 := cell_at (o := 0) T3.out.ot rfl
  have x1 := cell_at (o := 1) T3.out.ot rfl
  have x2 := cell_at (o := 2) T3.out.ot rfl
  have x3 := cell_at (o := 3) T3.out.ot rfl
  have z2 := frozen_at 2 T3.out.ot
  have z3 := frozen_at 3 T3.out.ot
  have y3 := cell_at (o := 3) T3.out.bx rfl
  have r0 := cell_at (o := 0) T3.out.rv rfl
  have r1 := cell_at (o := 1) T3.out.rv rfl
  have r2 := cell_at (o := 2) T3.out.rv rfl
  have r3 := cell_at (o := 3) T3.out.rv rfl
  have g0 := frozen_at 0 T3.out.rv
  have g1 := frozen_at 1 T3.out.rv
  have g2 := frozen_at 2 T3.out.rv
  have g3 := frozen_at 3 T3.out.rv
  have HQ : Hid (w.heap.size + 1 + 1 < q1 ∧ q1 ≤ q2 ∧ q2 ≤ w2.heap.size) := ⟨hq1', by rw [hq2]; exact hlt1, hs2⟩
  clear ho2 hB2 T2 T1 O1 es hq2 hs2 hlt1 hq1'
  go_wp2_with fail
  refine bodyPost_ret (v := .agg #[.string ⟨t.nm.toArray⟩, .slice (some ⟨q1, 0, none⟩) t.cols.length t.cols.length, .slice (some ⟨q2, 0, none⟩) t.uq.length t.uq.length, .bool t.rt]) (by simp [results, Try.results7, go_sem, *]) rfl ?_
  have hb := T3.out.bel
  refine ⟨q1, q2, rfl, by have := HQ.out; omega, HQ.out.2.1, by simpa using HQ.out.2.2, ?_, ?_, ?_⟩
  · refine OwnRw.same O1'.out (fun b hb => ?_) (fun _ h => h)
    have hq := HQ.out
    iterate 6 rw [Below.heap_setCell _ _ _ _ (by simp; omega)]
  · refine OwnRw.same O2.out (fun b hb => ?_) (fun b hb => by simpa using hb)
    have hq := HQ.out
    iterate 6 rw [Below.heap_setCell _ _ _ _ (by simp; omega)]
  · exact ((((((hb.setCell (by simp <;> omega) _).setCell (by simp <;> omega) _).setCell (by simp <;> omega) _).setCell (by simp <;> omega) _).setCell (by simp <;> omega) _).setCell (by simp <;> omega) _)
end Go.Proofs.Ytponpcbedcihaaa
