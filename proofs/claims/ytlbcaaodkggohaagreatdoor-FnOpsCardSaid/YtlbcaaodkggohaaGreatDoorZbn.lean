import Derived.Test.YtlbcaaodkggohaaGreatDoorZbl
import Derived.Test.YtlbcaaodkggohaaGreatDoorZbc
import Derived.Test.YtlbcaaodkggohaaGreatDoorZbm
import Derived.Test.YtlbcaaodkggohaaGreatDoorZbh
namespace Go.Proofs.YtlbcaaodkggohaaGreatDoor
open Go.RowKit
set_option linter.unusedSimpArgs false
noncomputable def ocC (l : List Tb) (o : OpV) : Int :=
 if 6 < o.kd then (if o.kd = 10 ∧ nameB o.nm = false then 3 else 0)
 else if tplC l o.tb < 0 then 10
 else if o.kd = 1 ∧ o.nm ≠ [] ∧ nameB o.nm = false then 3
 else orL [pkN (tabN l o.tb) o.cs, condsC (tabN l o.tb) o.wh, setsC (tabN l o.tb) o.row, mutsC (tabN l o.tb) o.mu]
theorem oc_lock {l : List Tb} {o : OpV} (h : 6 < o.kd) (hk : o.kd = 10) : ocC l o = lkK o.nm := by
 unfold ocC lkK; rw [if_pos h]
 cases hn : nameB o.nm <;> simp [hk]
theorem oc_free {l : List Tb} {o : OpV} (h : 6 < o.kd) (hk : o.kd ≠ 10) : ocC l o = 0 := by
 unfold ocC; rw [if_pos h, if_neg (by simp [hk])]
theorem oc_none {l : List Tb} {o : OpV} (h : ¬ 6 < o.kd) (ht : tplC l o.tb = -1) : ocC l o = 10 := by
 unfold ocC; rw [if_neg h, ht, if_pos (by omega)]
theorem oc_nm {l : List Tb} {o : OpV} {k : Nat} (h : ¬ 6 < o.kd) (ht : tplC l o.tb = k) (hk : o.kd = 1) (hz : o.nm ≠ []) (hn : nameB o.nm = false) : ocC l o = 3 := by
 unfold ocC; rw [if_neg h, ht, if_neg (by omega), if_pos ⟨hk, hz, hn⟩]
theorem oc_or {l : List Tb} {o : OpV} {k : Nat} (h : ¬ 6 < o.kd) (hl : k < l.length) (ht : tplC l o.tb = k) (hn : ¬ (o.kd = 1 ∧ o.nm ≠ [] ∧ nameB o.nm = false)) : ocC l o = orL [pkN l[k] o.cs, condsC l[k] o.wh, setsC l[k] o.row, mutsC l[k] o.mu] := by
 unfold ocC; rw [if_neg h, (tabN_at hl ht).1, ht, if_neg (by omega), if_neg hn]
theorem or4_0 {a b c d : Int} (h : a ≠ 0) : orL [a, b, c, d] = a := by simp [orL, h]
theorem or4_1 {a b c d : Int} (h : a = 0) (h1 : b ≠ 0) : orL [a, b, c, d] = b := by simp [orL, h, h1]
theorem or4_2 {a b c d : Int} (h : a = 0) (h1 : b = 0) (h2 : c ≠ 0) : orL [a, b, c, d] = c := by simp [orL, h, h1, h2]
theorem or4_3 {a b c d : Int} (h : a = 0) (h1 : b = 0) (h2 : c = 0) : orL [a, b, c, d] = d := by
 by_cases h3 : d = 0 <;> simp [orL, h, h1, h2, h3]
noncomputable def ocR (l : List Tb) (o : OpV) : Int × Int := if (schB l && opB o) = true then (ocC l o, 0) else (0, 1)
theorem ocR_bad {l : List Tb} {o : OpV} (h : (schB l && opB o) = false) : ocR l o = (0, 1) := by unfold ocR; rw [h]; rfl
theorem ocR_ok {l : List Tb} {o : OpV} (h : (schB l && opB o) = true) : ocR l o = (ocC l o, 0) := by unfold ocR; rw [if_pos h]
structure OCB (w W : World) (sc oc : Array Value) (ot : TypeId) (p : Nat) (tc : Array Value) : Prop where
 a : W.heap[w.heap.size]? = some (.cells sc 25)
 b : W.heap[w.heap.size + 1]? = some (.cells oc ot)
 c : W.heap[p]? = some (.cells tc 48)
 bel : Below w.heap.size w W
theorem OCB.later {w W W' : World} {sc oc : Array Value} {ot : TypeId} {p : Nat} {tc : Array Value} (h : OCB w W sc oc ot p tc) (hB : Below W.heap.size W W') : OCB w W' sc oc ot p tc := ⟨heap_keptD h.a hB, heap_keptD h.b hB, heap_keptD h.c hB, h.bel.trans (hB.mono h.bel.size)⟩
theorem OCB.drew {w W : World} {sc oc : Array Value} {ot : TypeId} {p : Nat} {tc : Array Value} (h : OCB w W sc oc ot p tc) : OCB w W.drew sc oc ot p tc := h.later (Below.refl _ _).drew
theorem BoxE.ocb {ot : TypeId} {w W : World} {sc oc : Array Value} (h : BoxE 25 ot w W sc oc) (tc : Array Value) : OCB w (W.alloc (.cells tc 48)) sc oc ot W.heap.size tc := ⟨heap_keptD h.a (below_allocD _ _), heap_keptD h.b (below_allocD _ _), heap_newD _ _, h.bel.trans ((below_allocD _ _).mono h.bel.size)⟩
end Go.Proofs.YtlbcaaodkggohaaGreatDoor
