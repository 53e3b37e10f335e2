import Derived.Test.YtnkgojjgiemgmaaZbl
import Derived.Test.YtnkgojjgiemgmaaZbm
namespace Go.Proofs.Ytnkgojjgiemgmaa
open Go.RowKit
set_option linter.unusedSimpArgs false
def rz (r : RowV) : Nat := (dAtomSS r.cells).sz
theorem rz_zero : rz rowZ = 0 := rfl
theorem rowD_nil (id : Int) : rowD [] id = rowZ := rowD_none (rpl_none (fun m h => absurd h (by simp)))
theorem rowD_cons (r : RowV) (l : List RowV) (id : Int) : rowD (r :: l) id = if r.id = id then r else rowD l id := by
  by_cases h : r.id = id
  · rw [if_pos h]
    exact rowD_at (k := 0) (by simp) (rpl_at (k := 0) (by simp) h (fun m _ hm => by omega))
  · rw [if_neg h]
    rcases rpl_cases l id with ⟨hp, hno⟩ | ⟨k, hk, hp, he, hn⟩
    · rw [rowD_none hp]
      refine rowD_none (rpl_none (fun m hm => ?_))
      cases m with
      | zero => exact h
      | succ m => simpa using hno m (by simpa using hm)
    · rw [rowD_at hk hp]
      have hk' : k + 1 < (r :: l).length := by simpa using hk
      have := rowD_at hk' (rpl_at hk' (by simpa using he) (fun m hm hmk => by
        cases m with
        | zero => exact h
        | succ m => simpa using hn m (by simpa using hm) (by omega)))
      simpa using this
theorem sum_one (a : Int) (A : Nat) (f : Int → Nat) : ∀ ids : List Int, ids.Nodup → (ids.map (fun id => if a = id then A else f id)).sum ≤ A + (ids.map f).sum
  | [], _ => by simp
  | i :: is, h => by
    have h2 := List.nodup_cons.1 h
    simp only [List.map_cons, List.sum_cons]
    by_cases e : a = i
    · subst e
      rw [if_pos rfl]
      have e2 : is.map (fun id => if a = id then A else f id) = is.map f := List.map_congr_left (fun id hid => if_neg (fun e => h2.1 (by rw [e]; exact hid)))
      rw [e2]; omega
    · rw [if_neg e]
      have := sum_one a A f is h2.2
      omega
theorem zero_sum : ∀ l : List Int, (l.map (fun _ => (0 : Nat))).sum = 0
  | [] => rfl
  | _ :: l => by simp only [List.map_cons, List.sum_cons, zero_sum l]
theorem sum_rows : ∀ (l : List RowV) (ids : List Int), ids.Nodup → (ids.map (fun id => rz (rowD l id))).sum ≤ (l.map rz).sum
  | [], ids, _ => by
    have e : ids.map (fun id => rz (rowD [] id)) = ids.map (fun _ => 0) := List.map_congr_left (fun id _ => by rw [rowD_nil, rz_zero])
    rw [e, zero_sum]
    exact Nat.zero_le _
  | r :: l, ids, h => by
    have e : ids.map (fun id => rz (rowD (r :: l) id)) = ids.map (fun id => if r.id = id then rz r else rz (rowD l id)) := List.map_congr_left (fun id _ => by rw [rowD_cons]; split <;> rfl)
    rw [e]
    have h1 := sum_one r.id (rz r) (fun id => rz (rowD l id)) ids h
    have h2 := sum_rows l ids h
    simp only [List.map_cons, List.sum_cons]
    omega
def cz (c : ChV) : Nat := szT 6 (dChange c)
theorem cz_eq (c : ChV) : cz c = (dAtomSS c.ocs).sz + (dAtomSS c.ncs).sz := szT_Change c
theorem chg_sz (t : Int) (la lb : List RowV) : ∀ ids : List Int, ((ids.flatMap (chg t la lb)).map cz).sum ≤ (ids.map (fun id => rz (rowD la id))).sum + (ids.map (fun id => rz (rowD lb id))).sum
  | [] => by simp
  | i :: is => by
    have h := chg_sz t la lb is
    rw [List.flatMap_cons, List.map_append, List.sum_append]
    simp only [List.map_cons, List.sum_cons]
    have h2 : ((chg t la lb i).map cz).sum ≤ rz (rowD la i) + rz (rowD lb i) := by
      unfold chg
      split
      · simp
      · simp only [List.map_cons, List.map_nil, List.sum_cons, List.sum_nil, cz_eq]
        exact Nat.le_refl _
    omega
theorem diff_sz (t : Int) (la lb : List RowV) : ((diffT t la lb).map cz).sum ≤ (la.map rz).sum + (lb.map rz).sum := by
  have hn : (idsOf la lb).Nodup := (ids_spec la lb).1.imp (fun {a b} h => by omega)
  have h1 := chg_sz t la lb (idsOf la lb)
  have h2 := sum_rows la _ hn
  have h3 := sum_rows lb _ hn
  show (((idsOf la lb).flatMap (chg t la lb)).map cz).sum ≤ _
  omega
def rowsZ (l : List (List RowV)) (k : Nat) : Nat := sumN k (fun t => ((l.getD t []).map rz).sum)
theorem pre_sz (ta tb : List (List RowV)) : ∀ k, ((preT ta tb k).map cz).sum ≤ rowsZ ta k + rowsZ tb k
  | 0 => by simp [preT]
  | k + 1 => by
    have h1 := pre_sz ta tb k
    have h2 := diff_sz k (ta.getD k []) (tb.getD k [])
    have e : preT ta tb (k + 1) = preT ta tb k ++ diffT k (ta.getD k []) (tb.getD k []) := by
      unfold preT; rw [List.range_succ, List.flatMap_append]; simp
    have e1 : rowsZ ta (k + 1) = rowsZ ta k + ((ta.getD k []).map rz).sum := sumN_succ _ _
    have e2 : rowsZ tb (k + 1) = rowsZ tb k + ((tb.getD k []).map rz).sum := sumN_succ _ _
    rw [e, List.map_append, List.sum_append, e1, e2]; omega
theorem tab_rz (l : List RowV) : (l.map rz).sum ≤ (dRowS l).sz := by
  have e : (dRowS l).sz = _ := sz_list (n := 2) (d := dRow) l
  have e2 : l.map (fun x => szT 2 (dRow x)) = l.map rz := List.map_congr_left (fun r _ => by simp [szT, sumN, dRow, D.sz, rz])
  rw [e2] at e
  omega
theorem rowsZ_sz (l : List (List RowV)) {k : Nat} (hk : k ≤ l.length) : rowsZ l k ≤ (dRowSS l).sz := by
  have h : rowsZ l k ≤ szL 1 cRowS l k := by
    unfold rowsZ szL
    refine sumN_bound (fun i hi => ?_)
    rw [lsF_at (by omega), List.getD_eq_getElem?_getD, List.getElem?_eq_getElem (by omega)]
    show ((l[i]'(by omega)).map rz).sum ≤ 0 + (dRowS (l[i]'(by omega))).sz
    have := tab_rz (l[i]'(by omega))
    omega
  have h2 := szL_mono (n := 1) (d := cRowS) (l := l) hk
  have h3 : (dRowSS l).sz = l.length + szL 1 cRowS l l.length := Ls_sz
  omega
theorem rowD_all {l : List RowV} (h : (dRowS l).le 1048576) (id : Int) : iOK (rowD l id).id ∧ (dAtomSS (rowD l id).cells).le maxLen := by
  refine ⟨?_, rowD_le h id⟩
  rcases rpl_cases l id with ⟨hp, -⟩ | ⟨k, hk, hp, -⟩
  · rw [rowD_none hp]; exact WalkArith.wf_i64 (n := 0) ⟨by omega, by omega⟩
  · rw [rowD_at hk hp]; exact (Ls_le.1 h).2.2 k hk 0 (by omega)
theorem df_le {x y : StV} (hx : (dRowSS x.tables).le 1048576) (hy : (dRowSS y.tables).le 1048576) (zx : (dRowSS x.tables).sz ≤ 1048576) (zy : (dRowSS y.tables).sz ≤ 1048576) : (dChangeS (dfR x y)).le maxLen ∧ (dChangeS (dfR x y)).sz ≤ 100000000 := by
  cases hb : (plainB x && plainB y && (x.tables.length == y.tables.length))
  · rw [(df_no hb).1]
    exact ⟨Ls_le.2 ⟨by omega, by simp, fun i hi => absurd hi (by simp)⟩, by decide⟩
  rw [(df_yes hb).1]
  have hlen : x.tables.length = y.tables.length := by
    simp only [Bool.and_eq_true, beq_iff_eq] at hb
    exact hb.2
  have hxl : x.tables.length ≤ 1048576 := (Ls_le.1 hx).2.1
  have h1 := preT_len x.tables y.tables x.tables.length
  have h2 := rowsN_sz x.tables (k := x.tables.length) (Nat.le_refl _)
  have h3 := rowsN_sz y.tables (k := x.tables.length) (by omega)
  have h4 := pre_sz x.tables y.tables x.tables.length
  have h5 := rowsZ_sz x.tables (k := x.tables.length) (Nat.le_refl _)
  have h6 := rowsZ_sz y.tables (k := x.tables.length) (by omega)
  have e : (dChangeS (preT x.tables y.tables x.tables.length)).sz = _ := sz_list (n := 6) (d := dChange) _
  have e2 : ((preT x.tables y.tables x.tables.length).map (fun c => szT 6 (dChange c))).sum = ((preT x.tables y.tables x.tables.length).map cz).sum := rfl
  rw [e2] at e
  refine ⟨Ls_le.2 ⟨by omega, by unfold maxLen; omega, fun k hk j hj => ?_⟩, by omega⟩
  have hm := List.getElem_mem hk
  generalize (preT x.tables y.tables x.tables.length)[k] = c at hm
  unfold preT at hm
  rw [List.mem_flatMap] at hm
  obtain ⟨t, ht, hm⟩ := hm
  rw [List.mem_range] at ht
  unfold diffT at hm
  rw [List.mem_flatMap] at hm
  obtain ⟨id, hid, hm⟩ := hm
  have hla : (dRowS (x.tables.getD t [])).le 1048576 := by rw [getD_tbl ht]; exact (Ls_le.1 hx).2.2 t ht 0 (by omega)
  have hlb : (dRowS (y.tables.getD t [])).le 1048576 := by rw [getD_tbl (by omega)]; exact (Ls_le.1 hy).2.2 t (by omega) 0 (by omega)
  have hido := ids_ok hla hlb hid
  unfold chg at hm
  split at hm
  · cases hm
  · obtain rfl := List.mem_singleton.1 hm
    have ra := rowD_all hla id
    have rb := rowD_all hlb id
    rcases (by omega : j = 0 ∨ j = 1 ∨ j = 2 ∨ j = 3 ∨ j = 4 ∨ j = 5) with rfl | rfl | rfl | rfl | rfl | rfl
    · show iOK (t : Int)
      exact WalkArith.wf_i64 ⟨by omega, by omega⟩
    · exact hido
    · exact ra.1
    · exact ra.2
    · exact rb.1
    · exact rb.2
end Go.Proofs.Ytnkgojjgiemgmaa
