import Derived.Test.YtkjfefjkelckiaaYak
import Derived.Test.YtkjfefjkelckiaaYae
import Derived.Test.YtkjfefjkelckiaaYbf
import Derived.Test.YtkjfefjkelckiaaYbh
import Derived.Test.YtkjfefjkelckiaaYas
import Derived.Test.YtkjfefjkelckiaaYbd
import Derived.Test.YtkjfefjkelckiaaYba
import Derived.Test.YtkjfefjkelckiaaYag
namespace Go.Proofs.Ytkjfefjkelckiaa
open Go.RowKit
set_option linter.unusedSimpArgs false
theorem SG.at {wr : World} {base : Nat} {G : Nat → Prop} {T : TypeId} {cs : List (List At)} {v : Value} {k : Nat} (h : SG wr base G T 1 (lsF cAtomS cs) cs.length v) (hk : k < cs.length) : ∃ g cap da dc, v = .slice (some ⟨g, 0, none⟩) cs.length cap ∧ (base ≤ g ∧ g < wr.heap.size) ∧ wr.cell? ⟨g, k, none⟩ = some (.slice da cs[k].length dc) ∧ wr.frozen? ⟨g, k, none⟩ = false ∧ Rd wr (fun c => (c ≠ g ∧ c < wr.heap.size) ∧ G c) (dAtomS cs[k]) (.slice da cs[k].length dc) := by
  obtain ⟨xs, h1, h2⟩ := h
  rcases h1.2 with ⟨-, h0⟩ | ⟨g, cap, cur, rfl, hg, hh, r1, r2, r3, r4⟩
  · omega
  obtain ⟨u, hu, hr⟩ := h2 k 0 hk (by omega)
  rw [Nat.mul_one, Nat.add_zero, ← r4, Nat.mul_one, List.getElem?_take_of_lt hk, Array.getElem?_toList] at hu
  rw [lsF_at hk] at hr
  replace hr : Rd wr _ (dAtomS cs[k]) u := hr
  obtain ⟨da, dc, rfl⟩ := hr.lsSlice
  refine ⟨g, cap, da, dc, rfl, ⟨hg, (Array.getElem?_eq_some_iff.1 hh).1⟩, by simp [World.cell?, hh, hu], by simp [World.frozen?, hh], hr.mono (fun c hc => ⟨⟨fun e => hc.1.1 (by rw [e]; rfl), hc.1.2⟩, hc.2⟩)⟩
def RowAns (w : World) (x : RowV) (n : Int) (e : Ending) (w' : World) : Prop := ∃ ra rc, e = .returned (.tuple #[.agg #[.int .i64 x.id, .slice ra x.cells.length rc], .int .i64 n]) ∧ Rd w' (fun b => w.heap.size ≤ b ∧ b < w'.heap.size) (dAtomSS x.cells) (.slice ra x.cells.length rc) ∧ Below w.heap.size w w'
noncomputable def rokM (t : Tb) (r : RowV) : Bool := tabB t && rowB t r.id r.cells
theorem Rd.rowX {w : World} {B : Nat → Prop} {l : List (List At)} {a : Option Addr} {c : Nat} (h : Rd w B (dAtomSS l) (.slice a l.length c)) : ∃ X, Sets w (· < w.heap.size) a l X := h.lt.sets
structure MB3 (w W : World) (tc rc zc : Array Value) : Prop where
  tb : W.heap[w.heap.size]? = some (.cells tc 55)
  rb : W.heap[w.heap.size + 1]? = some (.cells rc 50)
  zr : W.heap[w.heap.size + 1 + 1]? = some (.cells zc 50)
  bel : Below w.heap.size w W
theorem MB3.later {w W W' : World} {tc rc zc : Array Value} (h : MB3 w W tc rc zc) (hB : Below W.heap.size W W') : MB3 w W' tc rc zc := ⟨heap_keptD h.tb hB, heap_keptD h.rb hB, heap_keptD h.zr hB, h.bel.trans (hB.mono h.bel.size)⟩
theorem mb3 (w : World) (tc rc zc : Array Value) : MB3 w (((w.alloc (.cells tc 55)).alloc (.cells rc 50)).alloc (.cells zc 50)) tc rc zc := by
  refine ⟨heap_keptD (heap_keptD (heap_newD _ _) (below_allocD _ _)) (below_allocD _ _), ?_, ?_, (((Below.refl _ _).alloc (Nat.le_refl _) _).alloc (by simp) _).alloc (by simp; omega) _⟩
  · have h := heap_newD (w.alloc (.cells tc 55)) (.cells rc 50)
    rw [size_allocD] at h
    exact heap_keptD h (below_allocD _ _)
  · have h := heap_newD ((w.alloc (.cells tc 55)).alloc (.cells rc 50)) (.cells zc 50)
    rw [size_allocD, size_allocD] at h
    exact h
def RowAnsO (w : World) (x : RowV) (n : Int) (e : Ending) (w' : World) : Prop := ∃ ra rc, e = .returned (.tuple #[.agg #[.int .i64 x.id, .slice ra x.cells.length rc], .int .i64 n]) ∧ Own w' (dAtomSS x.cells) (fun b => w.heap.size ≤ b ∧ b < w'.heap.size) (.slice ra x.cells.length rc) ∧ Below w.heap.size w w'
end Go.Proofs.Ytkjfefjkelckiaa
namespace Go.Proofs.Ytkjfefjkelckiaa
open Go.RowKit
set_option linter.unusedSimpArgs false
def idN : List UInt8 := [95, 117, 117, 105, 100]
theorem place_cases (l : List Cl) (s : List UInt8) : placeC l s = -1 ∨ ∃ k, ∃ _ : k < l.length, placeC l s = (k : Int) := by
  rcases place_first l s with ⟨e, -⟩ | ⟨k, hk, e, -⟩
  · exact .inl e
  · exact .inr ⟨k, hk, e⟩
structure BoxE (ty ty' : TypeId) (w W : World) (cs ds : Array Value) : Prop where
  a : W.heap[w.heap.size]? = some (.cells cs ty)
  b : W.heap[w.heap.size + 1]? = some (.cells ds ty')
  bel : Below w.heap.size w W
theorem boxE (ty ty' : TypeId) (w : World) (cs ds : Array Value) : BoxE ty ty' w ((w.alloc (.cells cs ty)).alloc (.cells ds ty')) cs ds := by
  refine ⟨heap_keptD (heap_newD _ _) (below_allocD _ _), ?_, (below_allocD _ _).trans ((below_allocD _ _).mono (by simp))⟩
  have h := heap_newD (w.alloc (.cells cs ty)) (.cells ds ty')
  rw [size_allocD] at h
  exact h
theorem BoxE.later {ty ty' : TypeId} {w W W' : World} {cs ds : Array Value} (h : BoxE ty ty' w W cs ds) (hB : Below W.heap.size W W') : BoxE ty ty' w W' cs ds := ⟨heap_keptD h.a hB, heap_keptD h.b hB, h.bel.trans (hB.mono h.bel.size)⟩
theorem BoxE.drew {ty ty' : TypeId} {w W : World} {cs ds : Array Value} (h : BoxE ty ty' w W cs ds) : BoxE ty ty' w W.drew cs ds := h.later (Below.refl _ _).drew
end Go.Proofs.Ytkjfefjkelckiaa
