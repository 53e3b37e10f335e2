import Derived.Test.YtgiaabgcbpafgaaDPuO
import Derived.Test.YtgiaabgcbpafgaaDInR
import Derived.Test.YtgiaabgcbpafgaaDPuS
namespace Go.Proofs.Ytgiaabgcbpafgaa
open Go.RowKit
set_option linter.unusedSimpArgs false
/-! a store in which a row has been put -/
/-- the cells of a list of rows -/
def rowCs (g : Nat → Value) (n : Nat) : List Value := (List.range (n * 2)).map g
theorem rowCs_len (g : Nat → Value) (n : Nat) : (rowCs g n).length = n * 2 := by simp [rowCs]
theorem rowCs_at {g : Nat → Value} {n m : Nat} (h : m < n * 2) : (rowCs g n)[m]? = some (g m) := by simp [rowCs, h]
theorem rowIs_cells {w : World} {p n : Nat} {T : TypeId} {g : Nat → Value} (h : w.rowIs p T (n * 2) g) : w.heap[p]? = some (.cells (rowCs g n).toArray T (0, 0)) := by
  obtain ⟨c, h1, h2, h3⟩ := h
  rw [h1]
  congr 2
  apply Array.ext'
  apply List.ext_getElem?
  intro j
  by_cases hj : j < n * 2
  · simp only [List.toList_toArray]
    rw [rowCs_at hj, Array.getElem?_toList]
    exact h3 j hj
  · rw [List.getElem?_eq_none (by simp; omega), List.getElem?_eq_none (by simp [rowCs]; omega)]
theorem ins_lt {g : Nat → Value} {n k m : Nat} {us : List Value} (hk : k ≤ n) (h : m < k * 2) : (insC (rowCs g n) k us)[m]? = some (g m) := by
  unfold insC
  rw [List.append_assoc, List.getElem?_append_left (by rw [List.length_take, rowCs_len]; omega), List.getElem?_take_of_lt h, rowCs_at (by omega)]
theorem ins_mid {g : Nat → Value} {n k j : Nat} {us : List Value} (hk : k ≤ n) (hj : j < us.length) : (insC (rowCs g n) k us)[k * 2 + j]? = us[j]? := by
  unfold insC
  have hT : ((rowCs g n).take (k * 2)).length = k * 2 := by rw [List.length_take, rowCs_len]; omega
  rw [List.append_assoc, List.getElem?_append_right (by omega), hT, Nat.add_sub_cancel_left, List.getElem?_append_left hj]
theorem ins_gt {g : Nat → Value} {n k m : Nat} {us : List Value} (hu : us.length = 2) (hk : k ≤ n) (h : m < (n - k) * 2) : (insC (rowCs g n) k us)[(k + 1) * 2 + m]? = some (g (k * 2 + m)) := by
  unfold insC
  have hT : ((rowCs g n).take (k * 2)).length = k * 2 := by rw [List.length_take, rowCs_len]; omega
  rw [List.append_assoc, List.getElem?_append_right (by omega), List.getElem?_append_right (by omega), hT, hu, List.getElem?_drop, rowCs_at (by omega)]
  congr 2
  omega
theorem put_ins {W1 W2 wA w4 w6 : World} {x : StV} {r : RowV} {i k q p q2 gn cap : Nat} {g gq : Nat → Value} {cur : Array Value} {Tq : TypeId} (hi : i < x.tables.length)
    (hO2 : Own W2 (dRowSS x.tables) (fun d => q ≤ d ∧ d < W1.heap.size) (.slice (some ⟨q, 0, none⟩) x.tables.length x.tables.length))
    (hcq2 : W2.cell? ⟨q, i, none⟩ = some (.slice (some ⟨p, 0, none⟩) x.tables[i].length x.tables[i].length)) (hrp2 : W2.rowIs p 38 (x.tables[i].length * 2) g) (hrq2 : W2.rowIs q Tq x.tables.length gq)
    (hlow : W1.heap.size < W2.heap.size ∧ p < W1.heap.size ∧ q < W1.heap.size) (hA : Below W2.heap.size W2 wA)
    (hq : Own w4 (dAtomSS r.cells) (fun c => wA.heap.size ≤ c ∧ c < w4.heap.size) (.slice (some ⟨q2, 0, none⟩) r.cells.length r.cells.length)) (hB4 : Below wA.heap.size wA w4)
    (hB6 : Below w4.heap.size w4 w6) (hgn : w4.heap.size < gn) (hcur : w6.heap[gn]? = some (.cells cur 38 (0, 0)))
    (htake : cur.toList.take ((x.tables[i].length + 1) * 2) = insC (rowCs g x.tables[i].length) k [.int .i64 r.id, .slice (some ⟨q2, 0, none⟩) r.cells.length r.cells.length]) (hcap : x.tables[i].length + 1 ≤ cap) (hsz : cur.size = cap * 2)
    (hk : k ≤ x.tables[i].length) (hlt : ∀ m (h : m < x.tables[i].length), m < k → x.tables[i][m].id < r.id) (hge : ∀ h : k < x.tables[i].length, ¬ x.tables[i][k].id < r.id) (hno : ∀ m (h : m < x.tables[i].length), x.tables[i][m].id ≠ r.id) :
    Own (w6.setCell ⟨q, i, none⟩ (.slice (some ⟨gn, 0, none⟩) (x.tables[i].length + 1) cap)) (dRowSS (x.tables.set i (putL x.tables[i] r))) (fun c => (q ≤ c ∧ c < W1.heap.size) ∨ (wA.heap.size ≤ c ∧ c < w6.heap.size)) (.slice (some ⟨q, 0, none⟩) (x.tables.set i (putL x.tables[i] r)).length x.tables.length) := by
  have hsA := hA.size
  have hs4 := hB4.size
  have hs6 := hB6.size
  have hgl : gn < w6.heap.size := (Array.getElem?_eq_some_iff.1 hcur).1
  have hput : putL x.tables[i] r = x.tables[i].take k ++ r :: x.tables[i].drop k := putL_at hk hlt hge (.inr ⟨rfl, fun h => hno k h⟩)
  have hold : ∀ c, c < W2.heap.size → w6.heap[c]? = W2.heap[c]? := fun c hc => by rw [hB6.block c (by omega), hB4.block c (by omega), hA.block c hc]
  refine Own.mono (own_putN (w := W2) (p := p) (v' := .slice (some ⟨gn, 0, none⟩) (x.tables[i].length + 1) cap) (N := fun c => (wA.heap.size ≤ c ∧ c < w4.heap.size) ∨ c = gn) hi hO2 hcq2 (fun c hc h1 _ => ?_) hrq2 ?_ (fun c hc h => ?_) (fun Y hY hOY => ?_)) (fun c h => ?_)
  · rw [Below.heap_setCell _ _ _ _ h1]; exact hold c (by have := hc.2; omega)
  · exact (hrq2.of_block (hold q (by omega))).set i _
  · rcases hc with hc | hc
    · have := h.2; omega
    · have := h.2; omega
  · rw [hput]
    have hlen := P_len (l := x.tables[i]) (r := r) (t := k) hk
    have h9 := own_newL (w5 := w6.setCell ⟨q, i, none⟩ (.slice (some ⟨gn, 0, none⟩) (x.tables[i].length + 1) cap)) (r := r) (k := k) (t := k) (b' := gn) (cp := cap) (G := fun m => (insC (rowCs g x.tables[i].length) k [.int .i64 r.id, .slice (some ⟨q2, 0, none⟩) r.cells.length r.cells.length]).getD m undef) (N0 := fun c => wA.heap.size ≤ c ∧ c < w4.heap.size) (vq := .slice (some ⟨q2, 0, none⟩) r.cells.length r.cells.length) hk (Nat.le_refl _) hk hOY hrp2
      (fun c hc _ => by rw [Below.heap_setCell _ _ _ _ (hY c hc).2]; exact hold c (by have := (hY c hc).1.2; omega))
      (fun m hm => ?_) (fun m hm => ?_) ?_ ?_ (fun m hm => ?_) (fun c hc _ => by have := (hY c hc).1.2; omega) (fun c hc => ⟨fun h => by have := (hY c h).1.2; omega, by omega⟩) ?_
    · rw [show (x.tables[i].take k ++ r :: x.tables[i].drop k).length = x.tables[i].length + 1 by rw [hlen]; omega] at h9
      exact Own.mono h9 (fun c h => by rcases h with (h | h) | h; exact .inl h; exact .inr (.inl h); exact .inr (.inr h))
    · have hm' : m < (x.tables[i].length + 1) * 2 := by rw [hlen] at hm; omega
      have hb : (w6.setCell ⟨q, i, none⟩ (.slice (some ⟨gn, 0, none⟩) (x.tables[i].length + 1) cap)).heap[gn]? = some (.cells cur 38 (0, 0)) := by rw [Below.heap_setCell _ _ _ _ (by show gn ≠ q; omega)]; exact hcur
      have hcm : m < cur.size := by omega
      refine ⟨?_, by simp [World.frozen?, hb]⟩
      have e : cur[m]? = some ((insC (rowCs g x.tables[i].length) k [.int .i64 r.id, .slice (some ⟨q2, 0, none⟩) r.cells.length r.cells.length]).getD m undef) := by
        rw [← htake, List.getD_eq_getElem?_getD, List.getElem?_take_of_lt hm', Array.getElem?_toList, Array.getElem?_eq_getElem hcm]; rfl
      simp only [World.cell?, hb]
      exact e
    · show List.getD _ _ _ = _
      rw [List.getD_eq_getElem?_getD, ins_lt hk hm]; rfl
    · show List.getD _ _ _ = _
      rw [List.getD_eq_getElem?_getD, show k * 2 = k * 2 + 0 by omega, ins_mid hk (by simp)]; rfl
    · show List.getD _ _ _ = _
      rw [List.getD_eq_getElem?_getD, ins_mid hk (by simp)]; rfl
    · show List.getD _ _ _ = _
      rw [List.getD_eq_getElem?_getD, ins_gt rfl hk hm]; rfl
    · exact (Own.later hq hB6).frm (F := (· = q)) (frm_set _ _ _ _) (fun c hc e => by have e' : c = q := e; omega)
  · rcases h with h | h | h
    · exact .inl h
    · exact .inr ⟨h.1, by omega⟩
    · exact .inr ⟨by omega, by omega⟩
theorem put_rep {W1 W2 wA w4 : World} {x : StV} {r : RowV} {i k q p q2 : Nat} {g gq : Nat → Value} {Tq : TypeId} (hi : i < x.tables.length)
    (hO2 : Own W2 (dRowSS x.tables) (fun d => q ≤ d ∧ d < W1.heap.size) (.slice (some ⟨q, 0, none⟩) x.tables.length x.tables.length))
    (hcq2 : W2.cell? ⟨q, i, none⟩ = some (.slice (some ⟨p, 0, none⟩) x.tables[i].length x.tables[i].length)) (hrp2 : W2.rowIs p 38 (x.tables[i].length * 2) g) (hrq2 : W2.rowIs q Tq x.tables.length gq)
    (hlow : W1.heap.size < W2.heap.size ∧ p < W1.heap.size ∧ q < W1.heap.size) (hqp : q < p) (hA : Below W2.heap.size W2 wA)
    (hq : Own w4 (dAtomSS r.cells) (fun c => wA.heap.size ≤ c ∧ c < w4.heap.size) (.slice (some ⟨q2, 0, none⟩) r.cells.length r.cells.length)) (hB4 : Below wA.heap.size wA w4)
    (hk : k < x.tables[i].length) (hlt : ∀ m (h : m < x.tables[i].length), m < k → x.tables[i][m].id < r.id) (he : x.tables[i][k].id = r.id) :
    Own ((w4.setCell ⟨p, k * 2, none⟩ (.int .i64 r.id)).setCell ⟨p, k * 2 + 1, none⟩ (.slice (some ⟨q2, 0, none⟩) r.cells.length r.cells.length)) (dRowSS (x.tables.set i (putL x.tables[i] r))) (fun c => (q ≤ c ∧ c < W1.heap.size) ∨ (wA.heap.size ≤ c ∧ c < w4.heap.size)) (.slice (some ⟨q, 0, none⟩) (x.tables.set i (putL x.tables[i] r)).length x.tables.length) := by
  have hsA := hA.size
  have hs4 := hB4.size
  have hput : putL x.tables[i] r = x.tables[i].take k ++ r :: x.tables[i].drop (k + 1) := putL_at (by omega) hlt (fun h => by omega) (.inl ⟨rfl, hk, he⟩)
  have hold : ∀ c, c < W2.heap.size → w4.heap[c]? = W2.heap[c]? := fun c hc => by rw [hB4.block c (by omega), hA.block c hc]
  have hne : ∀ c, c ≠ p → ((w4.setCell ⟨p, k * 2, none⟩ (.int .i64 r.id)).setCell ⟨p, k * 2 + 1, none⟩ (.slice (some ⟨q2, 0, none⟩) r.cells.length r.cells.length)).heap[c]? = w4.heap[c]? := fun c hc => by
    rw [Below.heap_setCell _ _ _ _ hc, Below.heap_setCell _ _ _ _ hc]
  have hrow := ((hrp2.of_block (hold p (by omega))).set (k * 2) (.int .i64 r.id)).set (k * 2 + 1) (.slice (some ⟨q2, 0, none⟩) r.cells.length r.cells.length)
  have hlen := P_len (l := x.tables[i]) (r := r) (t := k + 1) (Nat.le_of_lt hk)
  have hlen' : (x.tables[i].take k ++ r :: x.tables[i].drop (k + 1)).length = x.tables[i].length := by rw [hlen]; omega
  refine own_putN (w := W2) (p := p) (v' := .slice (some ⟨p, 0, none⟩) x.tables[i].length x.tables[i].length) (N := fun c => wA.heap.size ≤ c ∧ c < w4.heap.size) hi hO2 hcq2 (fun c hc h1 h2 => ?_) hrq2 ?_ (fun c hc h => by have := h.2; omega) (fun Y hY hOY => ?_)
  · have hcp : c ≠ p := fun e => by have := h2 e; omega
    rw [hne c hcp]; exact hold c (by have := hc.2; omega)
  · refine ((hrq2.of_block ((hne q (by omega)).trans (hold q (by omega))))).congr (fun m hm => ?_)
    by_cases e : m = i
    · subst e
      rw [if_pos rfl]
      have := hrq2.cell (i := m) hm
      rw [hcq2] at this
      simp only [Option.some.injEq] at this
      exact this.symm
    · rw [if_neg e]
  · have hYp : Y p := by
      obtain ⟨a2, c2, e2, h2⟩ := hOY
      rcases h2 with h2 | ⟨b2, off2, X2, ha2, hB2, -⟩
      · omega
      simp only [Value.slice.injEq, true_and] at e2
      obtain ⟨rfl, rfl⟩ := e2
      simp only [Option.some.injEq, Addr.mk.injEq, and_true] at ha2
      obtain ⟨rfl, rfl⟩ := ha2
      exact hB2
    rw [hput]
    have h9 := own_newL (w5 := (w4.setCell ⟨p, k * 2, none⟩ (.int .i64 r.id)).setCell ⟨p, k * 2 + 1, none⟩ (.slice (some ⟨q2, 0, none⟩) r.cells.length r.cells.length)) (r := r) (k := k) (t := k + 1) (b' := p) (cp := x.tables[i].length) (G := fun m => if m = k * 2 + 1 then .slice (some ⟨q2, 0, none⟩) r.cells.length r.cells.length else if m = k * 2 then .int .i64 r.id else g m) (N0 := fun c => wA.heap.size ≤ c ∧ c < w4.heap.size) (vq := .slice (some ⟨q2, 0, none⟩) r.cells.length r.cells.length) (Nat.le_of_lt hk) (Nat.le_succ _) hk hOY hrp2
      (fun c hc h1 => by rw [hne c h1]; exact hold c (by have := (hY c hc).1.2; omega))
      (fun m hm => ⟨hrow.cell (by rw [hlen'] at hm; exact hm), hrow.frozen _⟩) (fun m hm => ?_) ?_ ?_ (fun m hm => ?_) (fun c _ h1 => h1) (fun c hc => ⟨fun h => by have := (hY c h).1.2; omega, by omega⟩) ?_
    · rw [hlen'] at h9
      exact Own.mono h9 (fun c h => by rcases h with (h | h) | h; exact .inl h; exact .inr h; exact .inl (by rw [h]; exact hYp))
    · show (if _ then _ else _) = _
      rw [if_neg (by omega), if_neg (by omega)]
    · show (if _ then _ else _) = _
      rw [if_neg (by omega), if_pos rfl]
    · show (if _ then _ else _) = _
      rw [if_pos rfl]
    · show (if _ then _ else _) = _
      rw [if_neg (by omega), if_neg (by omega)]
    · exact hq.frm (F := (· = p)) ((frm_set _ _ _ _).trans (frm_set _ _ _ _)) (fun c hc e => by have e' : c = p := e; omega)
end Go.Proofs.Ytgiaabgcbpafgaa
