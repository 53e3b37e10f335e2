import Derived.Test.YtngbhifafdbpkaaGreatZbc
import Derived.Test.YtngbhifafdbpkaaGreatZbp
import Derived.Test.YtngbhifafdbpkaaGreatZbm
namespace Go.Proofs.YtngbhifafdbpkaaGreat
open Go.RowKit
set_option linter.unusedSimpArgs false
def weakB (c : Cl) : Bool := c.k == 4 && !c.st
def thB (X : List (List RowV)) (f : Int) (a : At) : Bool := decide (0 ≤ rplI (X.getD f.toNat []) a.n)
def stkC (l : List Tb) (X : List (List RowV)) (col : Cl) (cell : List At) : List At := if weakB col = true then cell.filter (thB X (tplC l col.rf)) else cell
def stkR (l : List Tb) (X : List (List RowV)) (cols : List Cl) (m : Nat) (r : RowV) : RowV := ⟨r.id, r.cells.mapIdx (fun c cell => if c < m then (match cols[c]? with | some col => stkC l X col cell | none => cell) else cell)⟩
def midT (l : List Tb) (X : List (List RowV)) (i m k : Nat) : List (List RowV) := X.mapIdx (fun j rows => match l[j]? with
  | none => rows
  | some t => rows.mapIdx (fun q r => stkR l X t.cols (if j < i then t.cols.length else if j = i then (if q < k then m + 1 else m) else 0) r))
def strike (l : List Tb) (X : List (List RowV)) : List (List RowV) := X.mapIdx (fun j rows => match l[j]? with
  | none => rows
  | some t => rows.map (stkR l X t.cols t.cols.length))
theorem stkR_zero (l : List Tb) (X : List (List RowV)) (cols : List Cl) (r : RowV) : stkR l X cols 0 r = r := by
  unfold stkR
  have : r.cells.mapIdx (fun c cell => if c < 0 then (match cols[c]? with | some col => stkC l X col cell | none => cell) else cell) = r.cells := by
    refine List.ext_getElem (by simp) (fun c h1 h2 => ?_)
    rw [List.getElem_mapIdx, if_neg (by omega)]
  rw [this]
theorem midT_len (l : List Tb) (X : List (List RowV)) (i m k : Nat) : (midT l X i m k).length = X.length := by unfold midT; simp
theorem midT_row {l : List Tb} {X : List (List RowV)} {i m k j : Nat} (hj : j < X.length) (hl : j < l.length) : (midT l X i m k)[j]'(by rw [midT_len]; exact hj) = X[j].mapIdx (fun q r => stkR l X l[j].cols (if j < i then l[j].cols.length else if j = i then (if q < k then m + 1 else m) else 0) r) := by
  unfold midT
  rw [List.getElem_mapIdx, List.getElem?_eq_getElem hl]
theorem midT_ext {l : List Tb} {X Y : List (List RowV)} {i m k : Nat} (hX : X.length = l.length) (hY : Y.length = X.length) (h : ∀ j (hj : j < X.length), Y[j]'(by omega) = X[j].mapIdx (fun q r => stkR l X (l[j]'(by omega)).cols (if j < i then (l[j]'(by omega)).cols.length else if j = i then (if q < k then m + 1 else m) else 0) r)) : Y = midT l X i m k := by
  refine List.ext_getElem (by rw [midT_len, hY]) (fun j h1 h2 => ?_)
  rw [midT_row (by omega) (by omega)]
  exact h j (by omega)
theorem mid_first {l : List Tb} {X : List (List RowV)} (hX : X.length = l.length) : midT l X 0 0 0 = X := by
  refine (midT_ext hX rfl (fun j hj => ?_)).symm
  refine List.ext_getElem (by simp) (fun q h1 h2 => ?_)
  rw [List.getElem_mapIdx]
  have : (if j < 0 then (l[j]'(by omega)).cols.length else if j = 0 then (if q < 0 then 0 + 1 else 0) else 0) = 0 := by simp
  rw [this, stkR_zero]
theorem mid_end {l : List Tb} {X : List (List RowV)} (hX : X.length = l.length) : midT l X l.length 0 0 = strike l X := by
  refine (midT_ext hX (by unfold strike; simp) (fun j hj => ?_)).symm
  unfold strike
  rw [List.getElem_mapIdx, List.getElem?_eq_getElem (by omega)]
  refine List.ext_getElem (by simp) (fun q h1 h2 => ?_)
  rw [List.getElem_map, List.getElem_mapIdx, if_pos (by omega)]
theorem mid_col {l : List Tb} {X : List (List RowV)} {i m k : Nat} (hX : X.length = l.length) (hi : i < X.length) (hk : X[i].length ≤ k) : midT l X i m k = midT l X i (m + 1) 0 := by
  refine midT_ext hX (midT_len _ _ _ _ _) (fun j hj => ?_)
  rw [midT_row hj (by omega)]
  refine List.ext_getElem (by simp) (fun q h1 h2 => ?_)
  rw [List.getElem_mapIdx, List.getElem_mapIdx]
  have hq : q < X[j].length := by simpa using h1
  congr 1
  by_cases e1 : j < i
  · rw [if_pos e1, if_pos e1]
  · rw [if_neg e1, if_neg e1]
    by_cases e2 : j = i
    · subst e2
      rw [if_pos rfl, if_pos rfl, if_pos (by omega), if_neg (by omega)]
    · rw [if_neg e2, if_neg e2]
theorem mid_skip {l : List Tb} {X : List (List RowV)} {i m : Nat} (hX : X.length = l.length) (hi : i < l.length) (hm : m < l[i].cols.length) (hw : weakB l[i].cols[m] = false) : midT l X i m 0 = midT l X i (m + 1) 0 := by
  refine midT_ext hX (midT_len _ _ _ _ _) (fun j hj => ?_)
  rw [midT_row hj (by omega)]
  refine List.ext_getElem (by simp) (fun q h1 h2 => ?_)
  rw [List.getElem_mapIdx, List.getElem_mapIdx]
  by_cases e1 : j < i
  · rw [if_pos e1, if_pos e1]
  · rw [if_neg e1, if_neg e1]
    by_cases e2 : j = i
    · subst e2
      rw [if_pos rfl, if_pos rfl, if_neg (by omega), if_neg (by omega)]
      unfold stkR
      congr 1
      refine List.ext_getElem (by simp) (fun c h3 h4 => ?_)
      rw [List.getElem_mapIdx, List.getElem_mapIdx]
      by_cases e3 : c < m
      · rw [if_pos e3, if_pos (by omega)]
      · rw [if_neg e3]
        by_cases e4 : c < m + 1
        · have : c = m := by omega
          subst this
          rw [if_pos e4, List.getElem?_eq_getElem hm]
          simp only
          unfold stkC
          rw [hw, if_neg (by decide)]
        · rw [if_neg e4]
    · rw [if_neg e2, if_neg e2]
theorem mid_tab {l : List Tb} {X : List (List RowV)} {i m : Nat} (hX : X.length = l.length) (hi : i < l.length) (hm : l[i].cols.length = m) : midT l X i m 0 = midT l X (i + 1) 0 0 := by
  refine midT_ext hX (midT_len _ _ _ _ _) (fun j hj => ?_)
  rw [midT_row hj (by omega)]
  refine List.ext_getElem (by simp) (fun q h1 h2 => ?_)
  rw [List.getElem_mapIdx, List.getElem_mapIdx]
  by_cases e1 : j < i
  · rw [if_pos e1, if_pos (by omega)]
  · rw [if_neg e1]
    by_cases e2 : j = i
    · subst e2
      rw [if_pos rfl, if_neg (by omega), if_pos (by omega)]
      rw [show stkR l X l[j].cols l[j].cols.length = stkR l X l[j].cols m from congrArg _ hm]
    · rw [if_neg e2, if_neg (by omega)]
      by_cases e3 : j = i + 1
      · rw [if_pos e3, if_neg (by omega)]
      · rw [if_neg e3]
theorem mid_at {l : List Tb} {X : List (List RowV)} {i m k : Nat} (hi : i < l.length) (hx : i < X.length) (hk : k < X[i].length) : ∃ (h1 : i < (midT l X i m k).length) (h2 : k < (midT l X i m k)[i].length), (midT l X i m k)[i].length = X[i].length ∧ (midT l X i m k)[i][k] = stkR l X l[i].cols m X[i][k] := by
  have h1 : i < (midT l X i m k).length := by rw [midT_len]; exact hx
  have e := midT_row (l := l) (X := X) (i := i) (m := m) (k := k) hx hi
  have hl : (midT l X i m k)[i].length = X[i].length := by rw [e]; simp
  refine ⟨h1, by omega, hl, ?_⟩
  have : (midT l X i m k)[i][k]'(by omega) = (X[i].mapIdx (fun q r => stkR l X l[i].cols (if i < i then l[i].cols.length else if i = i then (if q < k then m + 1 else m) else 0) r))[k]'(by simpa using hk) := by
    congr 1
  rw [this, List.getElem_mapIdx, if_neg (by omega), if_pos rfl, if_neg (by omega)]
theorem stk_cell {l : List Tb} {X : List (List RowV)} {cols : List Cl} {m : Nat} {r : RowV} (hm : m < r.cells.length) : ∃ h : m < (stkR l X cols m r).cells.length, (stkR l X cols m r).cells[m] = r.cells[m] ∧ (stkR l X cols m r).cells.length = r.cells.length := by
  have hl : (stkR l X cols m r).cells.length = r.cells.length := by unfold stkR; simp
  refine ⟨by omega, ?_, hl⟩
  unfold stkR
  simp only
  rw [List.getElem_mapIdx, if_neg (by omega)]
theorem mid_next {l : List Tb} {X : List (List RowV)} {i m k : Nat} (hX : X.length = l.length) (hi : i < l.length) (hx : i < X.length) (hk : k < X[i].length) (hm : m < l[i].cols.length) (hc : m < X[i][k].cells.length) (hw : weakB l[i].cols[m] = true) :
    ∀ (h1 : i < (midT l X i m k).length), (midT l X i m k).set i ((midT l X i m k)[i].set k ⟨X[i][k].id, (stkR l X l[i].cols m X[i][k]).cells.set m (X[i][k].cells[m].filter (thB X (tplC l l[i].cols[m].rf)))⟩) = midT l X i m (k + 1) := by
  intro h1
  refine midT_ext hX (by rw [List.length_set, midT_len]) (fun j hj => ?_)
  by_cases e : j = i
  · subst e
    rw [List.getElem_set_self]
    have er := midT_row (l := l) (X := X) (i := j) (m := m) (k := k) hj hi
    refine List.ext_getElem (by rw [List.length_set, er]; simp) (fun q h3 h4 => ?_)
    rw [List.getElem_mapIdx, if_neg (by omega), if_pos rfl]
    have hq : q < X[j].length := by simpa using h4
    by_cases e2 : q = k
    · subst e2
      rw [List.getElem_set_self, if_pos (by omega)]
      unfold stkR
      simp only [RowV.mk.injEq, true_and]
      refine List.ext_getElem (by simp) (fun c h5 h6 => ?_)
      rw [List.getElem_mapIdx]
      by_cases e3 : c = m
      · subst e3
        rw [List.getElem_set_self, if_pos (by omega), List.getElem?_eq_getElem hm]
        simp only
        unfold stkC
        rw [if_pos hw]
      · rw [List.getElem_set_ne (by omega), List.getElem_mapIdx]
        by_cases e4 : c < m
        · rw [if_pos e4, if_pos (by omega)]
        · rw [if_neg e4, if_neg (by omega)]
    · rw [List.getElem_set_ne (by omega)]
      have : (midT l X j m k)[j][q]'(by rw [er]; simpa using hq) = (X[j].mapIdx (fun q r => stkR l X l[j].cols (if j < j then l[j].cols.length else if j = j then (if q < k then m + 1 else m) else 0) r))[q]'(by simpa using hq) := by
        congr 1
      rw [this, List.getElem_mapIdx, if_neg (by omega), if_pos rfl]
      congr 1
      by_cases e3 : q < k
      · rw [if_pos e3, if_pos (by omega)]
      · rw [if_neg e3, if_neg (by omega)]
  · rw [List.getElem_set_ne (by omega), midT_row hj (by omega)]
    refine List.ext_getElem (by simp) (fun q h3 h4 => ?_)
    rw [List.getElem_mapIdx, List.getElem_mapIdx]
    by_cases e1 : j < i
    · rw [if_pos e1, if_pos e1]
    · rw [if_neg e1, if_neg e1, if_neg e, if_neg e]
theorem rplI_ids : ∀ {a b : List RowV}, a.map RowV.id = b.map RowV.id → ∀ id, rplI a id = rplI b id
  | [], [], _, _ => rfl
  | [], _ :: _, h, _ => by cases h
  | _ :: _, [], h, _ => by cases h
  | r :: a, s :: b, h, id => by
    simp only [List.map_cons, List.cons.injEq] at h
    have ih := rplI_ids h.2 id
    unfold rplI
    rw [h.1, ih]
theorem mid_there {l : List Tb} {X : List (List RowV)} {i m k f : Nat} (hX : X.length = l.length) (hf : f < X.length) (id : Int) : rplI ((midT l X i m k)[f]'(by rw [midT_len]; exact hf)) id = rplI (X.getD f []) id := by
  refine rplI_ids ?_ id
  rw [midT_row hf (by omega), List.getD_eq_getElem?_getD, List.getElem?_eq_getElem hf]
  refine List.ext_getElem (by simp) (fun q h1 h2 => ?_)
  simp [stkR]
theorem mid_rows {l : List Tb} {X : List (List RowV)} {i m k j : Nat} (hX : X.length = l.length) (hj : j < X.length) : ∃ h : j < (midT l X i m k).length, (midT l X i m k)[j].length = X[j].length := by
  refine ⟨by rw [midT_len]; exact hj, ?_⟩
  rw [midT_row hj (by omega)]
  simp
theorem mid_step {l : List Tb} {X : List (List RowV)} {i m k : Nat} (hX : X.length = l.length) (hi : i < l.length) (hx : i < X.length) (hk : k < X[i].length) (hm : m < l[i].cols.length) (hc : m < X[i][k].cells.length) :
    ∃ (h1 : i < (midT l X i m k).length) (h2 : k < (midT l X i m k)[i].length) (h3 : m < (midT l X i m k)[i][k].cells.length), (midT l X i m k)[i].length = X[i].length ∧ (midT l X i m k)[i][k].cells[m] = X[i][k].cells[m] ∧
      (weakB l[i].cols[m] = true → (midT l X i m k).set i ((midT l X i m k)[i].set k ⟨(midT l X i m k)[i][k].id, (midT l X i m k)[i][k].cells.set m (X[i][k].cells[m].filter (thB X (tplC l l[i].cols[m].rf)))⟩) = midT l X i m (k + 1)) := by
  obtain ⟨h1, h2, e1, e2⟩ := mid_at (m := m) hi hx hk
  obtain ⟨h3, e3, e4⟩ := stk_cell (l := l) (X := X) (cols := l[i].cols) (r := X[i][k]) hc
  refine ⟨h1, h2, by rw [e2]; exact h3, e1, by simp only [e2]; exact e3, fun hw => ?_⟩
  rw [e2]
  exact mid_next hX hi hx hk hm hc hw h1
theorem flt_full {p : At → Bool} (s : List At) {n : Nat} (h : s.length ≤ n) : (s.take n).filter p = s.filter p := by rw [List.take_of_length_le h]
theorem flt_no {p : At → Bool} {s : List At} {n : Nat} (h : n < s.length) (hp : p s[n] = false) : ((s.take (n + 1)).filter p).length = ((s.take n).filter p).length := by
  rw [List.take_succ_eq_append_getElem h, List.filter_append]
  simp [hp]
theorem flt_yes {p : At → Bool} {s : List At} {n : Nat} (h : n < s.length) (hp : p s[n] = true) : ((s.take (n + 1)).filter p).length = ((s.take n).filter p).length + 1 := by
  rw [List.take_succ_eq_append_getElem h, List.filter_append]
  simp [hp]
theorem flt_at {p : At → Bool} {s : List At} {n : Nat} (h : n < s.length) (hp : p s[n] = true) : ∃ hc : ((s.take n).filter p).length < (s.filter p).length, (s.filter p)[((s.take n).filter p).length] = s[n] := by
  have e : s.filter p = (s.take n).filter p ++ (s[n] :: (s.drop (n + 1)).filter p) := by
    conv => lhs; rw [← List.take_append_drop n s, List.drop_eq_getElem_cons h]
    rw [List.filter_append, List.filter_cons, if_pos hp]
  have hc : ((s.take n).filter p).length < (s.filter p).length := by
    rw [e, List.length_append, List.length_cons]; omega
  refine ⟨hc, ?_⟩
  have e2 : (s.filter p)[((s.take n).filter p).length]? = some s[n] := by
    rw [e, List.getElem?_append_right (Nat.le_refl _), Nat.sub_self]; rfl
  rw [List.getElem?_eq_getElem hc] at e2
  exact Option.some.inj e2
theorem weak_tpl {l : List Tb} {X : List (List RowV)} (hs : SchP l) {j : Nat} (hj : j < l.length) (hx : j < X.length) {rf : List UInt8} (e : l[j].nm = rf) : tplC l rf = j ∧ ∀ a, thB X (tplC l rf) a = decide (0 ≤ rplI X[j] a.n) := by
  have h : tplC l rf = j := tpl_at hj e (fun m hm hmj e2 => by have := nm_uniqU hs hm hj (e2.trans e.symm); omega)
  refine ⟨h, fun a => ?_⟩
  unfold thB
  rw [h, Int.toNat_natCast, getD_tab hx]
end Go.Proofs.YtngbhifafdbpkaaGreat
