import Derived.Test.YtponpcbedcihaaaTSt
import Derived.Test.YtponpcbedcihaaaTIm
import Derived.Test.YtponpcbedcihaaaKIc
import Derived.Test.YtponpcbedcihaaaDCdA
import Derived.Test.YtponpcbedcihaaaDBr
namespace Go.Proofs.Ytponpcbedcihaaa
open Go.RowKit
set_option linter.unusedSimpArgs false
/-! conditions -/
def idN : List UInt8 := [95, 117, 117, 105, 100]
/-- a right condition -/
def condB (c : CondV) : Bool := inB 1 c.fn 8 && (datumB c.val && decide (c.col.length ≤ 40))
/-- the kind and the Max of the column that a name asks for -/
noncomputable def askC (t : Tb) (s : List UInt8) : Option (Int × Int) := if placeC t.cols s < 0 then (if s = idN then some (4, 1) else none) else (t.cols[(placeC t.cols s).toNat]?).map fun x => (x.k, x.mx)
def kindNo (kd : Int) (l : List At) : Bool := match l with
  | [] => false
  | x :: _ => x.k != kd
def condK (kd mx : Int) (c : CondV) : Int := if kindNo kd c.val = true then 9 else if inB 3 c.fn 6 = true ∧ (kd ≠ 1 ∨ mx ≠ 1 ∨ c.val.length ≠ 1) then 9 else 0
/-- what hinders a condition -/
noncomputable def condC (t : Tb) (c : CondV) : Int := match askC t c.col with
  | none => 11
  | some (kd, mx) => condK kd mx c
theorem cond_none {t : Tb} {c : CondV} (hp : placeC t.cols c.col = -1) (hn : c.col ≠ idN) : condC t c = 11 := by
  unfold condC askC; rw [hp, if_pos (by omega), if_neg hn]
theorem cond_id {t : Tb} {c : CondV} (hp : placeC t.cols c.col = -1) (hn : c.col = idN) : condC t c = condK 4 1 c := by
  unfold condC askC; rw [hp, if_pos (by omega), if_pos hn]
theorem cond_at {t : Tb} {c : CondV} {k : Nat} (hk : k < t.cols.length) (hp : placeC t.cols c.col = (k : Int)) : condC t c = condK t.cols[k].k t.cols[k].mx c := by
  unfold condC askC; rw [hp, if_neg (by omega), Int.toNat_natCast, List.getElem?_eq_getElem hk]; rfl
theorem condK_kind {kd mx : Int} {c : CondV} (h : kindNo kd c.val = true) : condK kd mx c = 9 := by unfold condK; rw [if_pos h]
theorem condK_ok {kd mx : Int} {c : CondV} (h : kindNo kd c.val = false) (hf : inB 3 c.fn 6 = false) : condK kd mx c = 0 := by
  unfold condK; rw [if_neg (by simp [h]), if_neg (by simp [hf])]
theorem condK_no {kd mx : Int} {c : CondV} (h : kindNo kd c.val = false) (hf : inB 3 c.fn 6 = true) (ho : kd ≠ 1 ∨ mx ≠ 1 ∨ c.val.length ≠ 1) : condK kd mx c = 9 := by
  unfold condK; rw [if_neg (by simp [h]), if_pos ⟨hf, ho⟩]
theorem condK_yes {kd mx : Int} {c : CondV} (h : kindNo kd c.val = false) (h1 : kd = 1) (h2 : mx = 1) (h3 : c.val.length = 1) : condK kd mx c = 0 := by
  unfold condK; rw [if_neg (by simp [h]), if_neg (by intro h'; rcases h'.2 with h' | h' | h' <;> contradiction)]
theorem kindNo_nil {kd : Int} {l : List At} (h : l.length = 0) : kindNo kd l = false := by
  cases l with
  | nil => rfl
  | cons x r => simp at h
theorem kindNo_at {kd : Int} {l : List At} (h : 0 < l.length) : kindNo kd l = (l[0].k != kd) := by
  cases l with
  | nil => simp at h
  | cons x r => rfl
theorem place_cases (l : List Cl) (s : List UInt8) : placeC l s = -1 ∨ ∃ k, ∃ _ : k < l.length, placeC l s = (k : Int) := by
  rcases place_first l s with ⟨e, -⟩ | ⟨k, hk, e, -⟩
  · exact .inl e
  · exact .inr ⟨k, hk, e⟩
/-- two structs of two types in their boxes -/
structure BoxE (ty ty' : TypeId) (w W : World) (cs ds : Array Value) : Prop where
  a : W.heap[w.heap.size]? = some (.cells cs ty)
  b : W.heap[w.heap.size + 1]? = some (.cells ds ty')
  bel : Below w.heap.size w W
theorem boxE (ty ty' : TypeId) (w : World) (cs ds : Array Value) : BoxE ty ty' w ((w.alloc (.cells cs ty)).alloc (.cells ds ty')) cs ds := by
  refine ⟨heap_keptD (heap_newD _ _) (below_allocD _ _), ?_, (below_allocD _ _).trans ((below_allocD _ _).mono (by simp))⟩
  have h := heap_newD (w.alloc (.cells cs ty)) (.cells ds ty')
  rw [size_allocD] at h
  exact h
theorem BoxE.later {ty ty' : TypeId} {w W W' : World} {cs ds : Array Value} (h : BoxE ty ty' w W cs ds) (hB : Below W.heap.size W W') : BoxE ty ty' w W' cs ds := ⟨heap_keptD h.a hB, heap_keptD h.b hB, h.bel.trans (hB.mono h.bel.size)⟩
theorem BoxE.drew {ty ty' : TypeId} {w W : World} {cs ds : Array Value} (h : BoxE ty ty' w W cs ds) : BoxE ty ty' w W.drew cs ds := h.later (Below.refl _ _).drew
/-- the first atom's kind, where there is one -/
theorem Ats.head {w : World} {S : Nat} {a : Option Addr} {l : List At} (h : Ats w (· < S) a l) : l.length = 0 ∨ ∃ b off, ∃ q : Int, 0 < l.length ∧ a = some ⟨b, off, none⟩ ∧ (∀ kd, kindNo kd l = (q != kd)) ∧ ∀ W, Below S w W → W.cell? ⟨b, off, none⟩ = some (.int .i64 q) := by
  by_cases h0 : 0 < l.length
  · obtain ⟨b, off, e, -, -⟩ := h.item 0 h0
    refine .inr ⟨b, off, l[0].k, h0, e, fun kd => kindNo_at h0, fun W hW => ?_⟩
    have h' := h.below hW
    subst e
    have := (h'.three 0 h0).1
    rwa [Nat.zero_mul, Nat.add_zero] at this
  · exact .inl (by omega)
end Go.Proofs.Ytponpcbedcihaaa
