import Derived.Test.YtajhjjpanjpfoaaZay
import Derived.Test.YtajhjjpanjpfoaaZbc
import Derived.Test.YtajhjjpanjpfoaaZaj
import Derived.Test.YtajhjjpanjpfoaaZau
import Derived.Test.YtajhjjpanjpfoaaZbf
import Derived.Test.YtajhjjpanjpfoaaZam
import Derived.Test.YtajhjjpanjpfoaaZag
import Derived.Test.YtajhjjpanjpfoaaZal
import Derived.Test.YtajhjjpanjpfoaaZba
namespace Go.Proofs.Ytajhjjpanjpfoaa
open Go.RowKit
set_option linter.unusedSimpArgs false
def idN : List UInt8 := [95, 117, 117, 105, 100]
def kindNo (kd : Int) (l : List At) : Bool := match l with
  | [] => false
  | x :: _ => x.k != kd
theorem kindNo_nil {kd : Int} {l : List At} (h : l.length = 0) : kindNo kd l = false := by
  cases l with
  | nil => rfl
  | cons x r => simp at h
theorem kindNo_at {kd : Int} {l : List At} (h : 0 < l.length) : kindNo kd l = (l[0].k != kd) := by
  cases l with
  | nil => simp at h
  | cons x r => rfl
theorem place_cases (l : List Cl) (s : List UInt8) : placeC l s = -1 ∨ ∃ k, ∃ _ : k < l.length, placeC l s = (k : Int) := by
  rcases place_first l s with ⟨e, -⟩ | ⟨k, hk, e, -⟩
  · exact .inl e
  · exact .inr ⟨k, hk, e⟩
structure BoxE (ty ty' : TypeId) (w W : World) (cs ds : Array Value) : Prop where
  a : W.heap[w.heap.size]? = some (.cells cs ty)
  b : W.heap[w.heap.size + 1]? = some (.cells ds ty')
  bel : Below w.heap.size w W
theorem boxE (ty ty' : TypeId) (w : World) (cs ds : Array Value) : BoxE ty ty' w ((w.alloc (.cells cs ty)).alloc (.cells ds ty')) cs ds := by
  refine ⟨heap_keptD (heap_newD _ _) (below_allocD _ _), ?_, (below_allocD _ _).trans ((below_allocD _ _).mono (by simp))⟩
  have h := heap_newD (w.alloc (.cells cs ty)) (.cells ds ty')
  rw [size_allocD] at h
  exact h
theorem BoxE.later {ty ty' : TypeId} {w W W' : World} {cs ds : Array Value} (h : BoxE ty ty' w W cs ds) (hB : Below W.heap.size W W') : BoxE ty ty' w W' cs ds := ⟨heap_keptD h.a hB, heap_keptD h.b hB, h.bel.trans (hB.mono h.bel.size)⟩
theorem BoxE.drew {ty ty' : TypeId} {w W : World} {cs ds : Array Value} (h : BoxE ty ty' w W cs ds) : BoxE ty ty' w W.drew cs ds := h.later (Below.refl _ _).drew
theorem Ats.head {w : World} {S : Nat} {a : Option Addr} {l : List At} (h : Ats w (· < S) a l) : l.length = 0 ∨ ∃ b off, ∃ q : Int, 0 < l.length ∧ a = some ⟨b, off, none⟩ ∧ (∀ kd, kindNo kd l = (q != kd)) ∧ ∀ W, Below S w W → W.cell? ⟨b, off, none⟩ = some (.int .i64 q) := by
  by_cases h0 : 0 < l.length
  · obtain ⟨b, off, e, -, -⟩ := h.item 0 h0
    refine .inr ⟨b, off, l[0].k, h0, e, fun kd => kindNo_at h0, fun W hW => ?_⟩
    have h' := h.below hW
    subst e
    have := (h'.three 0 h0).1
    rwa [Nat.zero_mul, Nat.add_zero] at this
  · exact .inl (by omega)
end Go.Proofs.Ytajhjjpanjpfoaa
namespace Go.Proofs.Ytajhjjpanjpfoaa
open Go.RowKit
set_option linter.unusedSimpArgs false
def Dk (k : Int) (L : List At) : Prop := Rise L ∧ ∀ y ∈ L, y.k = k ∧ atOK y = true
theorem Dk.nil (k : Int) : Dk k [] := ⟨rise_nil, fun y hy => absurd hy (by simp)⟩
theorem Dk.put {k : Int} {A : List At} {x : At} (ha : Dk k A) (hx : x.k = k ∧ atOK x = true) : Dk k (putL A x) := ⟨rise_put ha.1 x, fun y hy => by
  rcases mem_put.1 hy with h | h
  · exact ha.2 y h
  · subst h; exact hx⟩
theorem Dk.of {k : Int} {L : List At} (h : datumB L = true) (hk : 0 < L.length → (L.getD 0 atZ).k = k) : Dk k L ∧ L.length ≤ 8 := by
  rw [datumB_eq] at h
  simp only [Bool.and_eq_true, decide_eq_true_eq] at h
  refine ⟨⟨rise_of h.2.2, fun y hy => ?_⟩, h.1⟩
  obtain ⟨i, hi, rfl⟩ := List.mem_iff_getElem.1 hy
  have e := errAt_zero.1 ((errOf_zero L).1 h.2.1 i hi)
  rw [at_getD hi] at e
  exact ⟨e.2.trans (hk (by omega)), e.1⟩
theorem col_most {x : Cl} (h : colB x = true) : x.mx ≤ 8 := by
  unfold colB at h
  simp only [Bool.and_eq_true] at h
  have := h.2.2.1
  unfold inB at this
  simp only [decide_eq_true_eq] at this
  exact this.2
theorem Dk.first {k : Int} {L : List At} (h : Dk k L) : ¬ (0 < L.length ∧ (L.getD 0 atZ).k ≠ k) := fun hn => by
  rw [at_getD hn.1] at hn
  exact hn.2 (h.2 _ (List.getElem_mem hn.1)).1
theorem fit_few {x : Cl} {L : List At} (hc : colB x = true) (h : fitC x L = 0) : L.length ≤ 8 ∧ (0 < L.length → (L.getD 0 atZ).k = x.k) := by
  have hm := col_most hc
  unfold fitC at h
  split at h
  · omega
  · rename_i h1
    split at h
    · omega
    · rename_i h2
      refine ⟨?_, fun h0 => ?_⟩
      · unfold inB at h2
        simp only [Bool.not_eq_false, decide_eq_true_eq] at h2
        omega
      · cases Int.decEq (L.getD 0 atZ).k x.k with
        | isTrue e => exact e
        | isFalse e => exact absurd ⟨h0, e⟩ h1
theorem Dk.n {L : List At} (h : Dk 1 L) {x : At} (hx : x ∈ L) : -1000000000 ≤ x.n ∧ x.n ≤ 1000000000 := by
  have h1 := h.2 x hx
  have h2 := h1.2
  rw [atOK1 h1.1] at h2
  simp only [Bool.and_eq_true] at h2
  have := h2.1
  unfold inB at this
  simpa using this
end Go.Proofs.Ytajhjjpanjpfoaa
namespace Go.Proofs.Ytajhjjpanjpfoaa
open Go.RowKit
set_option linter.unusedSimpArgs false
def RowI (t : Tb) (cs : List (List At)) : Prop := ∃ h : cs.length = t.cols.length, ∀ i (hi : i < t.cols.length), colB t.cols[i] = true ∧ Dk t.cols[i].k (cs[i]'(by omega)) ∧ (cs[i]'(by omega)).length ≤ 8
theorem rok_I {t : Tb} {r : RowV} (h : rokM t r = true) : RowI t r.cells := by
  unfold rokM at h
  simp only [Bool.and_eq_true] at h
  have hT : TabP t := by have := h.1; unfold tabB at this; exact @of_decide_eq_true _ (Classical.propDecidable _) this
  have hR : RowP t r.id r.cells := by have := h.2; unfold rowB at this; exact @of_decide_eq_true _ (Classical.propDecidable _) this
  refine ⟨hR.len, fun i hi => ?_⟩
  have hcol : colB t.cols[i] = true := (hT.cols i hi).1
  have hc := hR.fit i (by have := hR.len; omega) hi
  have hk := Dk.of hc.1 (fit_few hcol hc.2).2
  exact ⟨hcol, hk.1, hk.2⟩
theorem iOK_small {n : Int} (h : -9223372036854775808 ≤ n ∧ n ≤ 9223372036854775807) : iOK n := by
  show (decide (IntKind.i64.min ≤ n) && decide (n ≤ IntKind.i64.max)) = true
  rw [show IntKind.i64.min = -9223372036854775808 from by decide, show IntKind.i64.max = 9223372036854775807 from by decide, decide_eq_true h.1, decide_eq_true h.2]; rfl
theorem dk_le {k : Int} {L : List At} (hk : 1 ≤ k ∧ k ≤ 4) (h : Dk k L) (h8 : L.length ≤ 8) : (dAtomS L).le maxLen ∧ (dAtomS L).sz ≤ 2000 := by
  have ht : ∀ i (hi : i < L.length), L[i].t.length ≤ 200 := fun i hi => atOK_text (h.2 _ (List.getElem_mem hi)).2
  refine ⟨Ls_le.2 ⟨by omega, by unfold maxLen; omega, fun i hi j hj => ?_⟩, ?_⟩
  · have hx := h.2 _ (List.getElem_mem hi)
    rcases (by omega : j = 0 ∨ j = 1 ∨ j = 2) with rfl | rfl | rfl
    · exact iOK_small (by rw [hx.1]; omega)
    · refine iOK_small ?_
      have ho := hx.2
      rw [show L[i] = L[i] from rfl] at ho
      unfold atOK at ho
      unfold inB at ho
      split at ho
      · simp at ho; omega
      · split at ho
        · simp at ho; omega
        · split at ho
          · simp at ho; omega
          · split at ho
            · simp at ho; omega
            · cases ho
    · show L[i].t.length ≤ maxLen
      have := ht i hi
      unfold maxLen; omega
  · show L.length + szL 3 dAtom L L.length ≤ 2000
    have : szL 3 dAtom L L.length ≤ L.length * 200 := by
      unfold szL
      have h1 := sumN_bound (g := fun i => szT 3 (lsF dAtom L i)) (h := fun _ => 200 + 0 * 0) (n := L.length) (fun i hi => by
        rw [lsF_at hi]
        have := ht i hi
        simp [szT, sumN, dAtom, D.sz]
        omega)
      have h2 := sumN_lin 200 0 (fun _ => 0) L.length
      omega
    omega
theorem rowI_le {t : Tb} {cs : List (List At)} (h : RowI t cs) (h6 : t.cols.length ≤ 6) : (dAtomSS cs).le maxLen ∧ (dAtomSS cs).sz ≤ 100000 := by
  obtain ⟨hl, h⟩ := h
  have hd : ∀ i (hi : i < cs.length), (dAtomS cs[i]).le maxLen ∧ (dAtomS cs[i]).sz ≤ 2000 := fun i hi => by
    obtain ⟨h1, h2, h3⟩ := h i (by omega)
    exact dk_le (colB_kind h1) h2 h3
  refine ⟨Ls_le.2 ⟨by omega, by unfold maxLen; omega, fun i hi j _ => (hd i hi).1⟩, ?_⟩
  show cs.length + szL 1 cAtomS cs cs.length ≤ 100000
  have : szL 1 cAtomS cs cs.length ≤ cs.length * 2000 := by
    unfold szL
    have h1 := sumN_bound (g := fun i => szT 1 (lsF cAtomS cs i)) (h := fun _ => 2000 + 0 * 0) (n := cs.length) (fun i hi => by
      rw [lsF_at hi]
      have := (hd i hi).2
      simp [szT, sumN, cAtomS]
      exact this)
    have h2 := sumN_lin 2000 0 (fun _ => 0) cs.length
    omega
  omega
end Go.Proofs.Ytajhjjpanjpfoaa
