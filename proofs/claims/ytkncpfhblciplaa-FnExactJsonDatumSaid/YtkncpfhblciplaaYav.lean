import Derived.Test.YtkncpfhblciplaaYau
import Derived.Laws.CopyRow
import Derived.Lib.Overlaps
import Derived.Lib.AppendZerosOnto
import Derived.Deep.RegionLaw
import Derived.Lib.Hide
namespace Go.Proofs.Ytkncpfhblciplaa
open Go.RowKit
set_option linter.unusedSimpArgs false
theorem atCs_take (l : List At) (i : Nat) (h : i ≤ l.length) : (atCs l).take (i * 3) = atCs (l.take i) := by
  have hl : (atCs (l.take i)).length = i * 3 := by rw [atCs_len]; simp; omega
  conv => lhs; rw [← List.take_append_drop i l, atCs_app, ← hl]
  exact List.take_left
theorem atCs_drop (l : List At) (i : Nat) (h : i ≤ l.length) : (atCs l).drop (i * 3) = atCs (l.drop i) := by
  have hl : (atCs (l.take i)).length = i * 3 := by rw [atCs_len]; simp; omega
  conv => lhs; rw [← List.take_append_drop i l, atCs_app, ← hl]
  exact List.drop_left
theorem atCs_one' {l : List At} : ∀ u ∈ atCs l, u.oneCell' = true := fun u hu => by
  obtain ⟨m, -, rfl⟩ := List.mem_map.1 hu
  unfold atF
  split
  · rfl
  · split <;> rfl
theorem run_copyA (w : World) (ty : TypeId) (g o dLen dCap : Nat) (a : Addr) (sLen sCap : Nat) (cur : Array Value) (l : List At) (hg : w.heap[g]? = some (.cells cur 31 (0, 0))) (hn : l.length = Nat.min sLen dLen)
    (hsrc : ∀ j v, (atCs l)[j]? = some v → w.cell? (a.add j) = some v) (hfit : o + l.length * 3 ≤ cur.size) :
    (Builtin.copy_ #[48, 48] ty #[.slice (some ⟨g, o, none⟩) dLen dCap, .slice (some a) sLen sCap]).run Try.prog w =
      .ok (goInt l.length) (w.setRow g (cur.toList.take o ++ atCs l ++ cur.toList.drop (o + l.length * 3)).toArray) := by
  obtain ⟨i, hi, hz, hs, hby⟩ := infoAt'
  have hl := run_loadCells_list (P := Try.prog) w a (atCs l) hsrc
  have hst := run_storeCells_at Try.prog g o 31 (atCs l) 0 cur w hg (by rw [atCs_len]; simpa using hfit) atCs_one'
  rw [atCs_len] at hl hst
  simp [Builtin.copy_, run_underlying Try.underlying48, Builtin.lenOf, Builtin.firstCells, sizeOf, typeInfo, hi, hs, ← hn, hl, hst]
def insA (l : List At) (i : Nat) (x : At) : List At := l.take i ++ [x] ++ l.drop i
theorem insA_len (l : List At) (i : Nat) (x : At) (h : i ≤ l.length) : (insA l i x).length = l.length + 1 := by unfold insA; simp; omega
theorem row_in {cur : List Value} {l : List At} {i : Nat} (x : At) (h : cur.take (l.length * 3) = atCs l) (hi : i ≤ l.length) (hc : (l.length + 1) * 3 ≤ cur.length) (c1 c2 : List Value)
    (h1 : c1 = cur.take ((i + 1) * 3) ++ atCs (l.drop i) ++ cur.drop ((i + 1) * 3 + (l.drop i).length * 3)) (h2 : c2 = c1.take (i * 3) ++ atCs [x] ++ c1.drop (i * 3 + [x].length * 3)) :
    c2.length = cur.length ∧ c2.take ((l.length + 1) * 3) = atCs (insA l i x) := by
  have hA : (cur.take ((i + 1) * 3)).length = (i + 1) * 3 := by rw [List.length_take]; omega
  have hD : (atCs (l.drop i)).length = (l.length - i) * 3 := by rw [atCs_len, List.length_drop]
  have hX : (atCs [x]).length = 3 := by rw [atCs_len]; rfl
  have e1 : c1.take (i * 3) = atCs (l.take i) := by
    rw [h1, List.append_assoc, List.take_append_of_le_length (by omega), List.take_take, show min (i * 3) ((i + 1) * 3) = i * 3 by omega, ← atCs_take l i hi, ← h, List.take_take, show min (i * 3) (l.length * 3) = i * 3 by omega]
  have e2 : c1.drop (i * 3 + [x].length * 3) = atCs (l.drop i) ++ cur.drop ((l.length + 1) * 3) := by
    rw [h1, List.append_assoc, show i * 3 + [x].length * 3 = (cur.take ((i + 1) * 3)).length by rw [hA]; simp; omega, List.drop_left, List.length_drop, show (i + 1) * 3 + (l.length - i) * 3 = (l.length + 1) * 3 by omega]
  have hT : (atCs (l.take i)).length = i * 3 := by rw [atCs_len]; simp; omega
  rw [h2, e1, e2]
  constructor
  · simp only [List.length_append, List.length_drop, hT, hD, hX]; omega
  · rw [← List.append_assoc]
    unfold insA
    rw [atCs_app, atCs_app]
    have hL : (atCs (l.take i) ++ atCs [x] ++ atCs (l.drop i)).length = (l.length + 1) * 3 := by
      simp only [List.length_append, hT, hD, hX]; omega
    rw [← hL]
    exact List.take_left
theorem row_new {r0 : List Value} {l : List At} {i : Nat} (x : At) (h : r0.take (i * 3) = atCs (l.take i)) (hi : i ≤ l.length) (hc : (l.length + 1) * 3 ≤ r0.length) (c1 c2 : List Value)
    (h1 : c1 = r0.take (i * 3) ++ atCs [x] ++ r0.drop (i * 3 + [x].length * 3)) (h2 : c2 = c1.take ((i + 1) * 3) ++ atCs (l.drop i) ++ c1.drop ((i + 1) * 3 + (l.drop i).length * 3)) :
    c2.length = r0.length ∧ c2.take ((l.length + 1) * 3) = atCs (insA l i x) := by
  have hT : (atCs (l.take i)).length = i * 3 := by rw [atCs_len]; simp; omega
  have hD : (atCs (l.drop i)).length = (l.length - i) * 3 := by rw [atCs_len, List.length_drop]
  have hX : (atCs [x]).length = 3 := by rw [atCs_len]; rfl
  have hl1 : c1.length = r0.length := by rw [h1, h]; simp only [List.length_append, List.length_drop, hT, hX, List.length_singleton]; omega
  have e1 : c1.take ((i + 1) * 3) = atCs (l.take i) ++ atCs [x] := by
    rw [h1, h]
    have hL : (atCs (l.take i) ++ atCs [x]).length = (i + 1) * 3 := by simp only [List.length_append, hT, hX]; omega
    rw [← hL]
    exact List.take_left
  rw [h2, e1]
  constructor
  · simp only [List.length_append, List.length_drop, hT, hD, hX, hl1]; omega
  · unfold insA
    rw [atCs_app, atCs_app]
    have hL : (atCs (l.take i) ++ atCs [x] ++ atCs (l.drop i)).length = (l.length + 1) * 3 := by
      simp only [List.length_append, hT, hD, hX]; omega
    rw [← hL]
    exact List.take_left
end Go.Proofs.Ytkncpfhblciplaa
namespace Go.Proofs.Ytkncpfhblciplaa
open Go.RowKit
set_option linter.unusedSimpArgs false
def InsAns (w : World) (B : Nat) (v : Value) (l : List At) (e : Ending) (w' : World) : Prop := ∃ v', e = .returned v' ∧ ABuf w' B v' l ∧ AppA w v w' v'
theorem insA_end (l : List At) (x : At) : insA l l.length x = l ++ [x] := by unfold insA; simp
set_option maxRecDepth 100000 in
set_option maxHeartbeats 1600000 in
theorem insertEnd (l : List At) (x : At) (v : Value) (vb B : Nat) (w : World) (hl : l.length ≤ 1000) (hb : ABuf w B v l) (hB : B ≤ w.heap.size) (ho : OneA w v vb x) :
    Calls Try.prog 130 #[v, .int .i64 l.length, .slice (some ⟨vb, 0, none⟩) 1 1] w (InsAns w B v (l ++ [x])) := by
  have HB : Hid (ABuf w B v l) := hb
  have HO : Hid (OneA w v vb x) := ho
  rcases hb.2 with ⟨rfl, h0⟩ | ⟨g, cap, cur, rfl, hg, hbq, hn, hcap, hcs, hxs⟩
  · clear ho hb
    rw [h0] at *
    go_enter Try.func130, Try.ntmps130
    go_wp2_with (at_builtin; refine wpList_apushN rfl (.tmp 23) (.tmp 24) rfl B (.slice none 0 0) l [x] ⟨vb, 0, none⟩ 1 1 rfl rfl rfl HB.out hB (by simp; omega) (by simp) HO.out.news ?_; intro v2 w3 hb2 ha2)
    go_ret
    exact ⟨v2, rfl, hb2, ha2⟩
  · clear ho hb hbq hcs hxs
    unfold maxLen at hcap
    by_cases hc : cap = l.length
    · subst hc
      go_enter Try.func130, Try.ntmps130
      go_wp2_with (at_builtin; refine wpList_apushN rfl (.tmp 23) (.tmp 24) rfl B _ l [x] ⟨vb, 0, none⟩ 1 1 rfl rfl rfl HB.out hB (by simp; omega) (by simp) HO.out.news ?_; intro v2 w3 hb2 ha2)
      go_ret
      exact ⟨v2, rfl, hb2, ha2⟩
    · go_enter Try.func130, Try.ntmps130
      go_wp2_with (at_builtin; refine wpList_apushN rfl (.tmp 23) (.tmp 24) rfl B _ l [x] ⟨vb, 0, none⟩ 1 1 rfl rfl rfl HB.out hB (by simp; omega) (by simp) HO.out.news ?_; intro v2 w3 hb2 ha2)
      go_ret
      exact ⟨v2, rfl, hb2, ha2⟩
theorem sizeAt (w : World) : (Go.sizeOf 31).run Try.prog w = .ok 3 w := by
  obtain ⟨i, hi, hz, hs, hby⟩ := infoAt'
  simp [sizeOf, typeInfo, hi, hs]
theorem cell_row {w : World} {g : Nat} {cur : Array Value} {t : TypeId} (h : w.heap[g]? = some (.cells cur t (0, 0))) (j : Nat) : w.cell? ⟨g, j, none⟩ = cur[j]? := by simp [World.cell?, h]
theorem news_row {w : World} {g : Nat} {cur : Array Value} {l : List At} (h : w.heap[g]? = some (.cells cur 31 (0, 0))) (hx : cur.toList.take (l.length * 3) = atCs l) (i : Nat) (hi : i ≤ l.length) :
    ∀ j u, (atCs (l.drop i))[j]? = some u → w.cell? ((⟨g, i * 3, none⟩ : Addr).add j) = some u := fun j u hj => by
  rw [Addr.add_mid, cell_row h]
  rw [← atCs_drop l i hi, ← hx, List.getElem?_drop] at hj
  have hlt := (List.getElem?_eq_some_iff.1 hj).1
  rw [List.length_take] at hlt
  rw [List.getElem?_take_of_lt (by omega), Array.getElem?_toList] at hj
  exact hj
theorem news_head {w : World} {g : Nat} {cur : Array Value} {l : List At} (h : w.heap[g]? = some (.cells cur 31 (0, 0))) (hx : cur.toList.take (l.length * 3) = atCs l) (i : Nat) (hi : i ≤ l.length) :
    ∀ j u, (atCs (l.take i))[j]? = some u → w.cell? ((⟨g, 0, none⟩ : Addr).add j) = some u := fun j u hj => by
  rw [Addr.add_mid, cell_row h, Nat.zero_add]
  rw [← atCs_take l i hi, ← hx, List.take_take] at hj
  have hlt := (List.getElem?_eq_some_iff.1 hj).1
  rw [List.length_take] at hlt
  rw [List.getElem?_take_of_lt (by omega), Array.getElem?_toList] at hj
  exact hj
theorem ov_apart {w : World} {g vb : Nat} {cur cv : Array Value} (hg : w.heap[g]? = some (.cells cur 31 (0, 0))) (hv : w.heap[vb]? = some (.cells cv 31 (0, 0))) (hne : vb ≠ g) (hc : cur.size ≠ 0) (o la ca lb cb : Nat) :
    (callFunc 131 #[.slice (some ⟨vb, 0, none⟩) la ca, .slice (some ⟨g, o, none⟩) lb cb]).run Try.prog w = .ok (.value (.bool false)) w := by
  rw [run_callFunc_extern Try.func131 (by kernel_rfl) (by kernel_rfl) (by kernel_rfl) (e := Extern.SlicesOverlaps.overlaps #[48, 48] #[4]) (by kernel_rfl),
    Lib.run_overlaps_apart w 48 4 31 Try.underlying48 3 sizeAt ⟨vb, 0, none⟩ ⟨g, o, none⟩ la ca lb cb hne 31 31 cv.size cur.size (by simp [World.shape?, hv]) (by simp [World.shape?, hg]) hc (by simp [World.frozen?, hv]) (by simp [World.frozen?, hv])]
  rfl
end Go.Proofs.Ytkncpfhblciplaa
