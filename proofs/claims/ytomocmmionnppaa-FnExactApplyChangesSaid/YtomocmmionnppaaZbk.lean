import Derived.Test.YtomocmmionnppaaZbh
import Derived.Test.YtomocmmionnppaaZbi
import Derived.Test.YtomocmmionnppaaZbj
namespace Go.Proofs.Ytomocmmionnppaa
open Go.RowKit
set_option linter.unusedSimpArgs false
theorem own_one {W : World} {l : List (List At)} {X : Nat → Prop} {v : Value} (h : Own W (dAtomSS l) X v) : v.oneCell' = true := by
  obtain ⟨a, c, rfl, -⟩ := h; rfl
theorem TabW.one {W : World} {T : Tab3} (h : TabW W T) : ∀ u ∈ cs3 T.ts, u.oneCell' = true := fun u hu => by
  unfold cs3 at hu
  rw [List.mem_flatMap] at hu
  obtain ⟨t, ht, hu⟩ := hu
  rcases List.mem_cons.1 hu with rfl | hu
  · rfl
  · rcases List.mem_cons.1 hu with rfl | hu
    · exact own_one (h.ow t ht).1
    · cases hu
theorem map_setV (Ts : List Tab3) (i : Nat) (T' : Tab3) : ((Ts.map Tab3.v).toArray.setIfInBounds i T'.v) = ((Ts.set i T').map Tab3.v).toArray := by simp [List.map_set]
theorem MSt.ins {W W4 W5 w6 : World} {lo m q : Nat} {Ts : List Tab3} {n : Int} (h : MSt W lo m q Ts n) {i : Nat} (hi : i < Ts.length) {k : Nat} (hk : k ≤ Ts[i].ts.length) {r : RowV} {v : Value} (h4 : Below W.heap.size W W4) (hv : Own W4 (dAtomSS r.cells) (fun c => W.heap.size ≤ c ∧ c < W4.heap.size) v) (h5 : Below W4.heap.size W4 W5)
    {g' cap' : Nat} {cur : Array Value} (hg : (g' = Ts[i].p ∧ 0 < Ts[i].cap) ∨ W5.heap.size ≤ g') (hh : w6.heap[g']? = some (.cells cur 53 (0, 0))) (ht : cur.toList.take ((Ts[i].ts.length + 1) * 2) = insC (cs3 Ts[i].ts) k [.int .i64 r.id, v]) (hc : Ts[i].ts.length + 1 ≤ cap') (hm : cap' ≤ maxLen) (hs : cur.size = cap' * 2) (hF : Frm (fun c => c = Ts[i].p ∧ 0 < Ts[i].cap) W5 w6) :
    MSt (w6.setCell ⟨q, i, none⟩ (.slice (some ⟨g', 0, none⟩) (Ts[i].ts.length + 1) cap')) lo m q (Ts.set i (Ts[i].spl g' cap' k k [⟨r, v, fun c => W.heap.size ≤ c ∧ c < W4.heap.size⟩])) n := by
  have hql := (Array.getElem?_eq_some_iff.1 h.rq).1
  have s4 := h4.size
  have s5 := h5.size
  have s6 := hF.size
  have hgl := (Array.getElem?_eq_some_iff.1 hh).1
  have hlen : (Ts[i].spl g' cap' k k [⟨r, v, fun c => W.heap.size ≤ c ∧ c < W4.heap.size⟩]).ts.length = Ts[i].ts.length + 1 := by unfold Tab3.spl; simp; omega
  have hkeep : ∀ c, c < W.heap.size → ¬ (c = Ts[i].p ∧ 0 < Ts[i].cap) → w6.heap[c]? = W.heap[c]? := fun c hc hn => by
    rw [hF.block c (by omega) hn, h5.block c (by omega), h4.block c hc]
  have hqp : ¬ (q = Ts[i].p ∧ 0 < Ts[i].cap) := fun e => (h.nq i hi).1 (.inl e)
  have hgq : g' ≠ q := by
    rcases hg with ⟨e, e2⟩ | e
    · intro e3; exact hqp ⟨by rw [← e3, e], e2⟩
    · omega
  have hsz : (w6.setCell ⟨q, i, none⟩ (.slice (some ⟨g', 0, none⟩) (Ts[i].ts.length + 1) cap')).heap.size = w6.heap.size := by simp [World.setCell]
  have hoth : ∀ c, c ≠ q → (w6.setCell ⟨q, i, none⟩ (.slice (some ⟨g', 0, none⟩) (Ts[i].ts.length + 1) cap')).heap[c]? = w6.heap[c]? := fun c hc => Below.heap_setCell _ _ _ _ hc
  have hrq6 : w6.heap[q]? = some (.cells (Ts.map Tab3.v).toArray 73) := by rw [hkeep q hql hqp]; exact h.rq
  have hcs : cur.toList.take ((Ts[i].spl g' cap' k k [⟨r, v, fun c => W.heap.size ≤ c ∧ c < W4.heap.size⟩]).ts.length * 2) = cs3 (Ts[i].spl g' cap' k k [⟨r, v, fun c => W.heap.size ≤ c ∧ c < W4.heap.size⟩]).ts := by
    rw [hlen, ht]
    unfold insC Tab3.spl
    rw [cs3_take _ _ hk, cs3_drop _ _ hk]
    simp only [cs3_app]
    rfl
  have hbl : ∀ c, Ts[i].bl c → c < W.heap.size := (h.tb i hi).lt
  have hT := (h.tb i hi).spl (W' := w6.setCell ⟨q, i, none⟩ (.slice (some ⟨g', 0, none⟩) (Ts[i].ts.length + 1) cap')) (p := g') (cap := cap') (k := k) (j := k) (nw := [⟨r, v, fun c => W.heap.size ≤ c ∧ c < W4.heap.size⟩]) (Nat.le_refl _)
    (fun c hc hne => by rw [hoth c (fun e => (h.nq i hi).1 (by rw [← e]; exact hc)), hkeep c (hbl c hc) (fun e => hne e.1)]) (by rw [hsz]; omega) ⟨cur, by rw [hoth g' hgq]; exact hh, hs, hcs⟩ (by rw [hlen]; exact hc) hm
    (by rcases hg with e | e; exact .inl e; exact .inr (by omega)) (by simp) (fun t ht => by
      obtain rfl := List.mem_singleton.1 ht
      refine ⟨?_, fun c hc => ⟨hc.1, by rw [hsz]; have := hc.2; omega⟩, fun hx => ?_⟩
      · refine ((hv.later h5).frm hF (fun c hc e => ?_)).frm (F := (· = q)) (frm_set _ _ _ _) (fun c hc e => ?_)
        · have h1 := hbl c (.inl e); have h2 := hc.1; omega
        · have e' : c = q := e; have h2 := hc.1; omega
      · have hx' : W.heap.size ≤ g' ∧ g' < W4.heap.size := hx
        rcases hg with e | e
        · have h1 := hbl g' (.inl e); omega
        · omega)
  have hv' : (Value.slice (some ⟨g', 0, none⟩) (Ts[i].ts.length + 1) cap') = (Ts[i].spl g' cap' k k [⟨r, v, fun c => W.heap.size ≤ c ∧ c < W4.heap.size⟩]).v := by
    unfold Tab3.v; rw [hlen]; rfl
  refine h.tab hi (by rw [hsz]; omega) (fun c hc hn => ?_) ?_ hT.1 hT.2
  · rw [hoth c (fun e => hn (.inr e)), hkeep c hc (fun e => hn (.inl (.inl e)))]
  · rw [heap_set i _ hrq6, hv', map_setV]
theorem MSt.del {W w' : World} {lo m q : Nat} {Ts : List Tab3} {n : Int} (h : MSt W lo m q Ts n) {i : Nat} (hi : i < Ts.length) {k mm : Nat} (hm : Ts[i].ts.length = mm + 1) (hk : k ≤ mm) {cur : Array Value} (hh : w'.heap[Ts[i].p]? = some (.cells cur 53 (0, 0))) (ht : cur.toList.take (mm * 2) = (cs3 Ts[i].ts).take (k * 2) ++ (cs3 Ts[i].ts).drop ((k + 1) * 2)) (hs : cur.size = Ts[i].cap * 2) (hF : Frm (· = Ts[i].p) W w') :
    MSt (w'.setCell ⟨q, i, none⟩ (.slice (some ⟨Ts[i].p, 0, none⟩) mm Ts[i].cap)) lo m q (Ts.set i (Ts[i].spl Ts[i].p Ts[i].cap k (k + 1) [])) n := by
  have hql := (Array.getElem?_eq_some_iff.1 h.rq).1
  have hle := (h.tb i hi).le
  have hc0 : 0 < Ts[i].cap := by omega
  have s6 := hF.size
  have hlen : (Ts[i].spl Ts[i].p Ts[i].cap k (k + 1) []).ts.length = mm := by unfold Tab3.spl; simp; omega
  have hqp : q ≠ Ts[i].p := fun e => (h.nq i hi).1 (.inl ⟨e, hc0⟩)
  have hsz : (w'.setCell ⟨q, i, none⟩ (.slice (some ⟨Ts[i].p, 0, none⟩) mm Ts[i].cap)).heap.size = w'.heap.size := by simp [World.setCell]
  have hoth : ∀ c, c ≠ q → (w'.setCell ⟨q, i, none⟩ (.slice (some ⟨Ts[i].p, 0, none⟩) mm Ts[i].cap)).heap[c]? = w'.heap[c]? := fun c hc => Below.heap_setCell _ _ _ _ hc
  have hrq6 : w'.heap[q]? = some (.cells (Ts.map Tab3.v).toArray 73) := by rw [hF.block q hql hqp]; exact h.rq
  have hbl : ∀ c, Ts[i].bl c → c < W.heap.size := (h.tb i hi).lt
  have hcs : cur.toList.take ((Ts[i].spl Ts[i].p Ts[i].cap k (k + 1) []).ts.length * 2) = cs3 (Ts[i].spl Ts[i].p Ts[i].cap k (k + 1) []).ts := by
    rw [hlen, ht]
    unfold Tab3.spl
    rw [cs3_take _ _ (by omega), cs3_drop _ _ (by omega)]
    simp only [cs3_app, List.append_nil]
  have hT := (h.tb i hi).spl (W' := w'.setCell ⟨q, i, none⟩ (.slice (some ⟨Ts[i].p, 0, none⟩) mm Ts[i].cap)) (p := Ts[i].p) (cap := Ts[i].cap) (k := k) (j := k + 1) (nw := []) (Nat.le_succ _)
    (fun c hc hne => by rw [hoth c (fun e => (h.nq i hi).1 (by rw [← e]; exact hc)), hF.block c (hbl c hc) hne]) (by rw [hsz]; omega) ⟨cur, by rw [hoth _ (fun e => hqp e.symm)]; exact hh, hs, hcs⟩ (by rw [hlen]; omega) (h.tb i hi).cm (.inl ⟨rfl, hc0⟩) (by simp) (fun t ht => by cases ht)
  have hv' : (Value.slice (some ⟨Ts[i].p, 0, none⟩) mm Ts[i].cap) = (Ts[i].spl Ts[i].p Ts[i].cap k (k + 1) []).v := by
    unfold Tab3.v; rw [hlen]; rfl
  refine h.tab hi (by rw [hsz]; omega) (fun c hc hn => ?_) ?_ hT.1 hT.2
  · rw [hoth c (fun e => hn (.inr e)), hF.block c hc (fun e => hn (.inl (.inl ⟨e, hc0⟩)))]
  · rw [heap_set i _ hrq6, hv', map_setV]
theorem take_set2 {cs cur : List Value} {k len : Nat} {a b : Value} (hk : k < len) (hc : len * 2 ≤ cur.length) (h : cur.take (len * 2) = cs) : ((cur.set (k * 2) a).set (k * 2 + 1) b).take (len * 2) = cs.take (k * 2) ++ [a, b] ++ cs.drop ((k + 1) * 2) := by
  have hl : cs.length = len * 2 := by rw [← h, List.length_take]; omega
  have hT : (cs.take (k * 2)).length = k * 2 := by rw [List.length_take]; omega
  have hT2 : (cs.take (k * 2) ++ [a, b]).length = (k + 1) * 2 := by rw [List.length_append, hT]; simp; omega
  refine List.ext_getElem? (fun j => ?_)
  by_cases hj : j < len * 2
  · rcases (by omega : j < k * 2 ∨ j = k * 2 ∨ j = k * 2 + 1 ∨ (k + 1) * 2 ≤ j) with e | e | e | e
    · rw [List.getElem?_take_of_lt hj, List.getElem?_set_ne (by omega), List.getElem?_set_ne (by omega), List.append_assoc, List.getElem?_append_left (by omega), List.getElem?_take_of_lt e, ← h, List.getElem?_take_of_lt hj]
    · subst e
      rw [List.getElem?_take_of_lt hj, List.getElem?_set_ne (by omega), List.getElem?_set_self (by omega), List.append_assoc, List.getElem?_append_right (by omega), hT, Nat.sub_self]; rfl
    · subst e
      rw [List.getElem?_take_of_lt hj, List.getElem?_set_self (by rw [List.length_set]; omega), List.append_assoc, List.getElem?_append_right (by omega), hT, show k * 2 + 1 - k * 2 = 1 by omega]; rfl
    · rw [List.getElem?_take_of_lt hj, List.getElem?_set_ne (by omega), List.getElem?_set_ne (by omega), List.getElem?_append_right (by omega), hT2, List.getElem?_drop, show (k + 1) * 2 + (j - (k + 1) * 2) = j by omega, ← h, List.getElem?_take_of_lt hj]
  · rw [List.getElem?_eq_none (by rw [List.length_take]; omega), List.getElem?_eq_none (by rw [List.length_append, hT2, List.length_drop]; omega)]
theorem MSt.rep {W W4 : World} {lo m q : Nat} {Ts : List Tab3} {n : Int} (h : MSt W lo m q Ts n) {i : Nat} (hi : i < Ts.length) {k : Nat} (hk : k < Ts[i].ts.length) {r : RowV} {v : Value} (h4 : Below W.heap.size W W4) (hv : Own W4 (dAtomSS r.cells) (fun c => W.heap.size ≤ c ∧ c < W4.heap.size) v) :
    MSt ((W4.setCell ⟨Ts[i].p, k * 2, none⟩ (.int .i64 r.id)).setCell ⟨Ts[i].p, k * 2 + 1, none⟩ v) lo m q (Ts.set i (Ts[i].spl Ts[i].p Ts[i].cap k (k + 1) [⟨r, v, fun c => W.heap.size ≤ c ∧ c < W4.heap.size⟩])) n := by
  have hql := (Array.getElem?_eq_some_iff.1 h.rq).1
  have hle := (h.tb i hi).le
  have hc0 : 0 < Ts[i].cap := by omega
  have s4 := h4.size
  obtain ⟨cur, hh, hs, ht⟩ := (h.tb i hi).hp hc0
  have hpl := (Array.getElem?_eq_some_iff.1 hh).1
  have hlen : (Ts[i].spl Ts[i].p Ts[i].cap k (k + 1) [⟨r, v, fun c => W.heap.size ≤ c ∧ c < W4.heap.size⟩]).ts.length = Ts[i].ts.length := by unfold Tab3.spl; simp; omega
  have hqp : q ≠ Ts[i].p := fun e => (h.nq i hi).1 (.inl ⟨e, hc0⟩)
  have hbl : ∀ c, Ts[i].bl c → c < W.heap.size := (h.tb i hi).lt
  generalize hW : (W4.setCell ⟨Ts[i].p, k * 2, none⟩ (.int .i64 r.id)).setCell ⟨Ts[i].p, k * 2 + 1, none⟩ v = W'
  have hsz : W'.heap.size = W4.heap.size := by rw [← hW]; simp [World.setCell]
  have hoth : ∀ c, c ≠ Ts[i].p → W'.heap[c]? = W4.heap[c]? := fun c hc => by rw [← hW, Below.heap_setCell _ _ _ _ hc, Below.heap_setCell _ _ _ _ hc]
  have hpp : W'.heap[Ts[i].p]? = some (.cells ((cur.setIfInBounds (k * 2) (.int .i64 r.id)).setIfInBounds (k * 2 + 1) v) 53 (0, 0)) := by
    rw [← hW]
    exact heap_set (k * 2 + 1) v (heap_set (k * 2) (.int .i64 r.id) (by rw [h4.block _ hpl]; exact hh))
  have hcs : ((cur.setIfInBounds (k * 2) (.int .i64 r.id)).setIfInBounds (k * 2 + 1) v).toList.take ((Ts[i].spl Ts[i].p Ts[i].cap k (k + 1) [⟨r, v, fun c => W.heap.size ≤ c ∧ c < W4.heap.size⟩]).ts.length * 2) = cs3 (Ts[i].spl Ts[i].p Ts[i].cap k (k + 1) [⟨r, v, fun c => W.heap.size ≤ c ∧ c < W4.heap.size⟩]).ts := by
    rw [hlen, Array.toList_setIfInBounds, Array.toList_setIfInBounds, take_set2 hk (by rw [Array.length_toList]; omega) ht]
    unfold Tab3.spl
    rw [cs3_take _ _ (by omega), cs3_drop _ _ (by omega)]
    simp only [cs3_app]
    rfl
  have hT := (h.tb i hi).spl (W' := W') (p := Ts[i].p) (cap := Ts[i].cap) (k := k) (j := k + 1) (nw := [⟨r, v, fun c => W.heap.size ≤ c ∧ c < W4.heap.size⟩]) (Nat.le_succ _)
    (fun c hc hne => by rw [hoth c hne, h4.block c (hbl c hc)]) (by rw [hsz]; omega) ⟨_, hpp, by simp [hs], hcs⟩ (by rw [hlen]; omega) (h.tb i hi).cm (.inl ⟨rfl, hc0⟩) (by simp) (fun t ht => by
      obtain rfl := List.mem_singleton.1 ht
      refine ⟨?_, fun c hc => ⟨hc.1, by rw [hsz]; exact hc.2⟩, fun hx => ?_⟩
      · exact Own.same _ _ _ _ (fun c hc => hoth c (fun e => by have := hc.1; omega)) (fun _ h => h) hv
      · have hx' : W.heap.size ≤ Ts[i].p ∧ Ts[i].p < W4.heap.size := hx
        omega)
  have hv' : Ts[i].v = (Ts[i].spl Ts[i].p Ts[i].cap k (k + 1) [⟨r, v, fun c => W.heap.size ≤ c ∧ c < W4.heap.size⟩]).v := by
    unfold Tab3.v; rw [hlen]; rfl
  refine h.tab hi (by rw [hsz]; omega) (fun c hc hn => ?_) ?_ hT.1 hT.2
  · rw [hoth c (fun e => hn (.inl (.inl ⟨e, hc0⟩))), h4.block c hc]
  · rw [hoth q hqp, h4.block q hql, h.rq, List.map_set, ← hv']
    congr 2
    apply Array.ext'
    simp only [List.toList_toArray]
    refine List.ext_getElem (by simp) (fun j h1 h2 => ?_)
    by_cases e : j = i
    · subst e; simp
    · rw [List.getElem_set_ne (by omega)]
noncomputable def dnC (x : StV) (c : ChV) : StV × Int :=
  if c.cid < 1 ∨ ¬ (0 ≤ c.tab ∧ c.tab < x.tables.length) ∨ kindC c = 0 then (x, 1)
  else if eqB (rowD (tabI x c.tab) c.cid) ⟨c.oid, c.ocs⟩ = false then (x, 13)
  else if kindC c = 2 then (dropC x c, 0)
  else if kindC c = 1 ∧ 12 ≤ (tabI x c.tab).length then (x, 7)
  else (putC' x c, 0)
theorem apL_cons (x : StV) (c : ChV) (r : List ChV) : apL x (c :: r) = if (dnC x c).2 = 0 then apL (dnC x c).1 r else dnC x c := by
  rw [apL]
  unfold dnC
  by_cases h1 : c.cid < 1 ∨ ¬ (0 ≤ c.tab ∧ c.tab < x.tables.length) ∨ kindC c = 0
  · simp only [if_pos h1]; rfl
  simp only [if_neg h1]
  by_cases h2 : eqB (rowD (tabI x c.tab) c.cid) ⟨c.oid, c.ocs⟩ = false
  · simp only [if_pos h2]; rfl
  simp only [if_neg h2]
  by_cases h3 : kindC c = 2
  · simp only [if_pos h3]; rfl
  simp only [if_neg h3]
  by_cases h4 : kindC c = 1 ∧ 12 ≤ (tabI x c.tab).length
  · simp only [if_pos h4]; rfl
  simp only [if_neg h4]; rfl
theorem dn_P {x : StV} {c : ChV} (h : ApP x) (hc : iOK c.nid ∧ (dAtomSS c.ncs).le 1048576) : ApP (dnC x c).1 := by
  unfold dnC
  by_cases h1 : c.cid < 1 ∨ ¬ (0 ≤ c.tab ∧ c.tab < x.tables.length) ∨ kindC c = 0
  · simp only [if_pos h1]; exact h
  simp only [if_neg h1]
  by_cases h2 : eqB (rowD (tabI x c.tab) c.cid) ⟨c.oid, c.ocs⟩ = false
  · simp only [if_pos h2]; exact h
  simp only [if_neg h2]
  have hi : c.tab.toNat < x.tables.length := by omega
  have ht : tabI x c.tab = x.tables[c.tab.toNat] := by unfold tabI; rw [List.getD_eq_getElem?_getD, List.getElem?_eq_getElem hi]; rfl
  by_cases h3 : kindC c = 2
  · simp only [if_pos h3]; unfold dropC; rw [ht]; exact ap_dropP h hi _
  simp only [if_neg h3]
  by_cases h4 : kindC c = 1 ∧ 12 ≤ (tabI x c.tab).length
  · simp only [if_pos h4]; exact h
  simp only [if_neg h4]
  unfold putC'
  rw [ht]
  refine ap_putP h hi _ hc ?_
  by_cases h5 : kindC c = 1
  · rw [← ht]; exact .inr (by omega)
  · left
    have hk := kind_rng c
    have h6 : kindC c = 3 := by omega
    have hs := kind_three h6
    have he := eqB_iff.1 (by simpa using h2)
    rw [ht] at he
    obtain ⟨k, hk, -, hid⟩ := rowD_there (by omega) hs.1 he
    exact ⟨_, List.getElem_mem hk, by rw [hid]; exact hs.2.symm⟩
end Go.Proofs.Ytomocmmionnppaa
