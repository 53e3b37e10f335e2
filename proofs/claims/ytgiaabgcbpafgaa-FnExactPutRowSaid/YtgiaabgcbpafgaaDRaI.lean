import Derived.Test.YtgiaabgcbpafgaaDPi
import Derived.Test.YtgiaabgcbpafgaaDShf
import Derived.Test.YtgiaabgcbpafgaaDCpy
namespace Go.Proofs.Ytgiaabgcbpafgaa
open Go.RowKit Go.Maps
set_option linter.unusedSimpArgs false
theorem zeroP (w : World) : (zeroValue 57).run Try.prog w = .ok (.pointer none) w := by
  have h : (Try.prog.info? 57).map (fun i => i.zero) = some (some (.pointer none)) := by kernel_rfl
  obtain ⟨i, hi, hz⟩ := Option.map_eq_some_iff.1 h
  simp [zeroValue, typeInfo, hi, hz]
/-- what a shelf tells of an Id -/
theorem look_shelf {w : World} {m n : Nat} {D : DataW Value} {l : List RowV} {rb roff : Nat} (hown : w.ownsMap Try.prog 3 ptrR m n D) (hs : ShM D l rb roff l.length) {id : Int} (hid : iOK id) : (Instr.lookup 59 (.map (some m)) (.int .i64 id) false).run Try.prog w = .ok (ptrOf l rb roff l.length id) w := by
  obtain ⟨v, ps, hrun, hv⟩ := hown.lookup (t := 59) intK Try.underlying59 (zeroP w) (zd := .held (.pointer none)) (zp := []) rfl (keyOf_int_mk Try.underlying3 hid)
  rw [hs id] at hv
  simp only [ptrR, Option.some.injEq, Prod.mk.injEq, DataW.held.injEq] at hv
  rw [hrun, hv.1]
def RaAns (w : World) (x : StV) (t id : Int) (e : Ending) (w' : World) : Prop := ∃ (ra : Option Addr) (rc : Nat), e = .returned (.tuple #[.agg #[.int .i64 (rowAtP x t id).2.id, .slice ra (rowAtP x t id).2.cells.length rc], .int .i64 (rowAtP x t id).1]) ∧ Own w' (dAtomSS (rowAtP x t id).2.cells) (fun c => w.heap.size ≤ c ∧ c < w'.heap.size) (.slice ra (rowAtP x t id).2.cells.length rc) ∧ Below w.heap.size w w'
theorem RaAns.zero {w w' : World} {x : StV} {t id code : Int} (hP : rowAtP x t id = (code, rowZ)) (hB : Below w.heap.size w w') : RaAns w x t id (.returned (.tuple #[.agg #[.int .i64 0, .slice none 0 0], .int .i64 code])) w' := by
  refine ⟨none, 0, by rw [hP]; rfl, by rw [hP]; exact ⟨none, 0, rfl, .inl rfl⟩, hB⟩
/-- boxes of a store and of a row -/
structure RaB (w W : World) (x : StV) (a : Option Addr) (c : Nat) : Prop where
  bx : W.heap[w.heap.size]? = some (.cells #[.slice a x.tables.length c, .int .i64 x.next] 32)
  rv : W.heap[w.heap.size + 1]? = some (.cells #[.int .i64 0, .slice none 0 0] 38)
  bel : Below w.heap.size w W
theorem RaB.first (w : World) (x : StV) (a : Option Addr) (c : Nat) : RaB w ((w.alloc (.cells #[.slice a x.tables.length c, .int .i64 x.next] 32)).alloc (.cells #[.int .i64 0, .slice none 0 0] 38)) x a c := by
  refine ⟨heap_keptD (heap_newD _ _) (below_allocD _ _), ?_, (below_allocD _ _).trans ((below_allocD _ _).mono (by simp))⟩
  have h := heap_newD (w.alloc (.cells #[.slice a x.tables.length c, .int .i64 x.next] 32)) (.cells #[.int .i64 0, .slice none 0 0] 38)
  rw [size_allocD] at h
  exact h
theorem RaB.later {w W W' : World} {x : StV} {a : Option Addr} {c : Nat} (h : RaB w W x a c) (hB : Below W.heap.size W W') : RaB w W' x a c := ⟨heap_keptD h.bx hB, heap_keptD h.rv hB, h.bel.trans (hB.mono h.bel.size)⟩
end Go.Proofs.Ytgiaabgcbpafgaa
