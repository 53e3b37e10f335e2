import Derived.Test.YtdhlndpobpdfmaaZaz
import Derived.Test.YtdhlndpobpdfmaaZba
import Derived.Test.YtdhlndpobpdfmaaZbb
import Derived.Deep.CutRange
namespace Go.Proofs.Ytdhlndpobpdfmaa
open Go.RowKit
set_option linter.unusedSimpArgs false
structure ApB (w W : World) (X : StV) (xa : Option Addr) (xc : Nat) : Prop where
  bx : W.heap[w.heap.size]? = some (.cells #[.slice xa X.tables.length xc, .int .i64 X.next] 30)
  rv : W.heap[w.heap.size + 1]? = some (.cells #[.slice none 0 0, .int .i64 0] 30)
  rd : Rd W (fun d => w.heap.size + 1 < d) (dRowSS X.tables) (.slice xa X.tables.length xc)
  bel : Below w.heap.size w W
theorem ApB.later {w W W' : World} {X : StV} {xa : Option Addr} {xc : Nat} (h : ApB w W X xa xc) (hB : Below W.heap.size W W') : ApB w W' X xa xc := ⟨heap_keptD h.bx hB, heap_keptD h.rv hB, h.rd.later hB, h.bel.trans (hB.mono h.bel.size)⟩
theorem ApB.put {w W W' : World} {X X' : StV} {xa xa' : Option Addr} {xc xc' : Nat} (h : ApB w W X xa xc) (hB : Below W.heap.size W W') (hr : Rd W' (fun d => W.heap.size ≤ d) (dRowSS X'.tables) (.slice xa' X'.tables.length xc')) : ApB w ((W'.setCell ⟨w.heap.size, 0, none⟩ (.slice xa' X'.tables.length xc')).setCell ⟨w.heap.size, 1, none⟩ (.int .i64 X'.next)) X' xa' xc' := by
  have h2 := h.later hB
  refine ⟨by rw [heap_set 1 _ (heap_set 0 _ h2.bx)]; rfl, ?_, ?_, (h2.bel.setCell (Nat.le_refl _) _).setCell (Nat.le_refl _) _⟩
  · rw [Below.heap_setCell _ _ _ _ (by show w.heap.size + 1 ≠ w.heap.size; omega), Below.heap_setCell _ _ _ _ (by show w.heap.size + 1 ≠ w.heap.size; omega)]; exact h2.rv
  · have hlt := (Array.getElem?_eq_some_iff.1 h.rv).1
    exact (hr.frm (F := (· = w.heap.size)) ((frm_set _ _ _ _).trans (frm_set _ _ _ _)) (fun d hd e => by have e2 : d = w.heap.size := e; omega)).mono (fun d hd => by omega)
theorem ApB.next {w W : World} {X : StV} {xa : Option Addr} {xc : Nat} (h : ApB w W X xa xc) (n : Int) : ApB w (W.setCell ⟨w.heap.size, 1, none⟩ (.int .i64 n)) ⟨X.tables, n⟩ xa xc :=
  ⟨by rw [heap_set 1 _ h.bx]; rfl, by rw [Below.heap_setCell _ _ _ _ (by show w.heap.size + 1 ≠ w.heap.size; omega)]; exact h.rv, (h.rd.frm (F := (· = w.heap.size)) (frm_set _ _ _ _) (fun d hd e => by have e2 : d = w.heap.size := e; omega)), h.bel.setCell (Nat.le_refl _) _⟩
def ApAns (w : World) (R : StV × Int) (e : Ending) (w' : World) : Prop := ∃ a c, e = .returned (.tuple #[.agg #[.slice a R.1.tables.length c, .int .i64 R.1.next], .int .i64 R.2]) ∧ Rd w' (fun d => w.heap.size ≤ d ∧ d < w'.heap.size) (dRowSS R.1.tables) (.slice a R.1.tables.length c) ∧ Below w.heap.size w w'
theorem ApB.ans {w W : World} {X : StV} {xa : Option Addr} {xc : Nat} {R : StV × Int} {n : Int} (h : ApB w W X xa xc) (hR : R = (X, n)) (v0 v1 : Value) : ApAns w R (.returned (.tuple #[.agg #[.slice xa X.tables.length xc, .int .i64 X.next], .int .i64 n])) ((W.setCell ⟨w.heap.size + 1, 0, none⟩ v0).setCell ⟨w.heap.size + 1, 1, none⟩ v1) := by
  subst hR
  have hB : Below w.heap.size w ((W.setCell ⟨w.heap.size + 1, 0, none⟩ v0).setCell ⟨w.heap.size + 1, 1, none⟩ v1) := (h.bel.setCell (by show w.heap.size ≤ w.heap.size + 1; omega) _).setCell (by show w.heap.size ≤ w.heap.size + 1; omega) _
  refine ⟨xa, xc, rfl, ?_, hB⟩
  exact (Rd.inside _ _ (h.rd.frm (F := (· = w.heap.size + 1)) ((frm_set _ _ _ _).trans (frm_set _ _ _ _)) (fun d hd e => by have e2 : d = w.heap.size + 1 := e; omega))).mono (fun d hd => ⟨by have := hd.1; omega, hd.2⟩)
structure ApC (w W : World) (X : StV) (xa : Option Addr) (xc : Nat) (q : Nat) (cs : Array Value) : Prop where
  ap : ApB w W X xa xc
  cb : W.heap[q]? = some (.cells cs 55)
  lo : w.heap.size + 1 < q
theorem ApC.later {w W W' : World} {X : StV} {xa : Option Addr} {xc : Nat} {q : Nat} {cs : Array Value} (h : ApC w W X xa xc q cs) (hB : Below W.heap.size W W') : ApC w W' X xa xc q cs := ⟨h.ap.later hB, heap_keptD h.cb hB, h.lo⟩
theorem ApC.drew {w W : World} {X : StV} {xa : Option Addr} {xc : Nat} {q : Nat} {cs : Array Value} (h : ApC w W X xa xc q cs) : ApC w W.drew X xa xc q cs := h.later (Below.refl _ _).drew
theorem ap_bad {x : StV} {c : ChV} {r : List ChV} (h : c.cid < 1 ∨ ¬ (0 ≤ c.tab ∧ c.tab < x.tables.length) ∨ kindC c = 0) : apL x (c :: r) = (x, 1) := by rw [apL, if_pos h]
theorem ap_ref {x : StV} {c : ChV} {r : List ChV} (h : ¬ (c.cid < 1 ∨ ¬ (0 ≤ c.tab ∧ c.tab < x.tables.length) ∨ kindC c = 0)) (h2 : eqB (rowD (tabI x c.tab) c.cid) ⟨c.oid, c.ocs⟩ = false) : apL x (c :: r) = (x, 13) := by rw [apL, if_neg h, if_pos h2]
theorem ap_drop {x : StV} {c : ChV} {r : List ChV} (h : ¬ (c.cid < 1 ∨ ¬ (0 ≤ c.tab ∧ c.tab < x.tables.length) ∨ kindC c = 0)) (h2 : eqB (rowD (tabI x c.tab) c.cid) ⟨c.oid, c.ocs⟩ = true) (h3 : kindC c = 2) : apL x (c :: r) = apL (dropC x c) r := by rw [apL, if_neg h, if_neg (by simp [h2]), if_pos h3]
theorem ap_full {x : StV} {c : ChV} {r : List ChV} (h : ¬ (c.cid < 1 ∨ ¬ (0 ≤ c.tab ∧ c.tab < x.tables.length) ∨ kindC c = 0)) (h2 : eqB (rowD (tabI x c.tab) c.cid) ⟨c.oid, c.ocs⟩ = true) (h3 : kindC c = 1) (h4 : 12 ≤ (tabI x c.tab).length) : apL x (c :: r) = (x, 7) := by rw [apL, if_neg h, if_neg (by simp [h2]), if_neg (by omega), if_pos ⟨h3, h4⟩]
theorem ap_put {x : StV} {c : ChV} {r : List ChV} (h : ¬ (c.cid < 1 ∨ ¬ (0 ≤ c.tab ∧ c.tab < x.tables.length) ∨ kindC c = 0)) (h2 : eqB (rowD (tabI x c.tab) c.cid) ⟨c.oid, c.ocs⟩ = true) (h3 : kindC c ≠ 2) (h4 : ¬ (kindC c = 1 ∧ 12 ≤ (tabI x c.tab).length)) : apL x (c :: r) = apL (putC' x c) r := by rw [apL, if_neg h, if_neg (by simp [h2]), if_neg h3, if_neg h4]
theorem rowD_le6 {rows : List RowV} (h : (dRowS rows).le 1048576) (id : Int) : (dAtomSS (rowD rows id).cells).le maxLen := by
  rcases rpl_cases rows id with ⟨hp, -⟩ | ⟨k, hk, hp, -⟩
  · rw [rowD_none hp]; exact Ls_le.2 ⟨by omega, Nat.zero_le _, fun i hi => absurd hi (by simp [rowZ])⟩
  · rw [rowD_at hk hp]; exact D.le.mono (by unfold maxLen; omega) _ ((Ls_le.1 h).2.2 k hk 1 (by omega))
theorem drop_at {α : Type} {l : List α} {k : Nat} (h : k < l.length) : l.drop k = l[k] :: l.drop (k + 1) := List.drop_eq_getElem_cons h
theorem ApP.tab {x : StV} (h : ApP x) {i : Nat} (hi : i < x.tables.length) : AscR x.tables[i] ∧ (dRowS x.tables[i]).le 1048576 := ⟨h.1 _ (List.getElem_mem hi), (Ls_le.1 h.2).2.2 i hi 0 (by omega)⟩
theorem ap_dropP {x : StV} {i k : Nat} (h : ApP x) (hi : i < x.tables.length) (n : Int) : ApP ⟨x.tables.set i (x.tables[i].eraseIdx k), n⟩ :=
  ap_set h (asc_erase (h.tab hi).1 k) (rows_le (Nat.le_trans (List.length_eraseIdx_le _ _) (Ls_le.1 (h.tab hi).2).2.1) (fun z hz => le_rows (h.tab hi).2 z (List.mem_of_mem_eraseIdx hz)))
theorem ap_putP {x : StV} {i : Nat} {r : RowV} (h : ApP x) (hi : i < x.tables.length) (n : Int) (hr : iOK r.id ∧ (dAtomSS r.cells).le 1048576) (hl : (∃ y ∈ x.tables[i], y.id = r.id) ∨ x.tables[i].length < 12) : ApP ⟨x.tables.set i (putL x.tables[i] r), n⟩ := by
  refine ap_set h (asc_put (h.tab hi).1) (rows_le ?_ (fun z hz => ?_))
  · rcases hl with hl | hl
    · rw [len_put_old (h.tab hi).1 hl]; exact (Ls_le.1 (h.tab hi).2).2.1
    · have := len_put (r := r) x.tables[i]; omega
  · rcases mem_put hz with rfl | hz
    · exact hr
    · exact le_rows (h.tab hi).2 z hz
end Go.Proofs.Ytdhlndpobpdfmaa
