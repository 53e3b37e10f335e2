import Derived.Test.YtgpoigkfoliflaaGreatDoorZax
import Derived.Laws.CopyRow
import Derived.Lib.Overlaps
import Derived.Lib.AppendZerosOnto
import Derived.Deep.RegionLaw
import Derived.Lib.Hide
namespace Go.Proofs.YtgpoigkfoliflaaGreatDoor
open Go.RowKit
set_option linter.unusedSimpArgs false
theorem atCs_take (l : List At) (i : Nat) (h : i ≤ l.length) : (atCs l).take (i * 3) = atCs (l.take i) := by
  have hl : (atCs (l.take i)).length = i * 3 := by rw [atCs_len]; simp; omega
  conv => lhs; rw [← List.take_append_drop i l, atCs_app, ← hl]
  exact List.take_left
theorem atCs_drop (l : List At) (i : Nat) (h : i ≤ l.length) : (atCs l).drop (i * 3) = atCs (l.drop i) := by
  have hl : (atCs (l.take i)).length = i * 3 := by rw [atCs_len]; simp; omega
  conv => lhs; rw [← List.take_append_drop i l, atCs_app, ← hl]
  exact List.drop_left
theorem atCs_one' {l : List At} : ∀ u ∈ atCs l, u.oneCell' = true := fun u hu => by
  obtain ⟨m, -, rfl⟩ := List.mem_map.1 hu
  unfold atF
  split
  · rfl
  · split <;> rfl
theorem run_copyA (w : World) (ty : TypeId) (g o dLen dCap : Nat) (a : Addr) (sLen sCap : Nat) (cur : Array Value) (l : List At) (hg : w.heap[g]? = some (.cells cur 55 (0, 0))) (hn : l.length = Nat.min sLen dLen)
    (hsrc : ∀ j v, (atCs l)[j]? = some v → w.cell? (a.add j) = some v) (hfit : o + l.length * 3 ≤ cur.size) :
    (Builtin.copy_ #[35, 35] ty #[.slice (some ⟨g, o, none⟩) dLen dCap, .slice (some a) sLen sCap]).run Tryz.prog w =
      .ok (goInt l.length) (w.setRow g (cur.toList.take o ++ atCs l ++ cur.toList.drop (o + l.length * 3)).toArray) := by
  obtain ⟨i, hi, hz, hs, hby⟩ := infoAt'
  have hl := run_loadCells_list (P := Tryz.prog) w a (atCs l) hsrc
  have hst := run_storeCells_at Tryz.prog g o 55 (atCs l) 0 cur w hg (by rw [atCs_len]; simpa using hfit) atCs_one'
  rw [atCs_len] at hl hst
  simp [Builtin.copy_, run_underlying Tryz.underlying35, Builtin.lenOf, Builtin.firstCells, sizeOf, typeInfo, hi, hs, ← hn, hl, hst]
def insA (l : List At) (i : Nat) (x : At) : List At := l.take i ++ [x] ++ l.drop i
theorem insA_len (l : List At) (i : Nat) (x : At) (h : i ≤ l.length) : (insA l i x).length = l.length + 1 := by unfold insA; simp; omega
theorem row_in {cur : List Value} {l : List At} {i : Nat} (x : At) (h : cur.take (l.length * 3) = atCs l) (hi : i ≤ l.length) (hc : (l.length + 1) * 3 ≤ cur.length) (c1 c2 : List Value)
    (h1 : c1 = cur.take ((i + 1) * 3) ++ atCs (l.drop i) ++ cur.drop ((i + 1) * 3 + (l.drop i).length * 3)) (h2 : c2 = c1.take (i * 3) ++ atCs [x] ++ c1.drop (i * 3 + [x].length * 3)) :
    c2.length = cur.length ∧ c2.take ((l.length + 1) * 3) = atCs (insA l i x) := by
  have hA : (cur.take ((i + 1) * 3)).length = (i + 1) * 3 := by rw [List.length_take]; omega
  have hD : (atCs (l.drop i)).length = (l.length - i) * 3 := by rw [atCs_len, List.length_drop]
  have hX : (atCs [x]).length = 3 := by rw [atCs_len]; rfl
  have e1 : c1.take (i * 3) = atCs (l.take i) := by
    rw [h1, List.append_assoc, List.take_append_of_le_length (by omega), List.take_take, show min (i * 3) ((i + 1) * 3) = i * 3 by omega, ← atCs_take l i hi, ← h, List.take_take, show min (i * 3) (l.length * 3) = i * 3 by omega]
  have e2 : c1.drop (i * 3 + [x].length * 3) = atCs (l.drop i) ++ cur.drop ((l.length + 1) * 3) := by
    rw [h1, List.append_assoc, show i * 3 + [x].length * 3 = (cur.take ((i + 1) * 3)).length by rw [hA]; simp; omega, List.drop_left, List.length_drop, show (i + 1) * 3 + (l.length - i) * 3 = (l.length + 1) * 3 by omega]
  have hT : (atCs (l.take i)).length = i * 3 := by rw [atCs_len]; simp; omega
  rw [h2, e1, e2]
  constructor
  · simp only [List.length_append, List.length_drop, hT, hD, hX]; omega
  · rw [← List.append_assoc]
    unfold insA
    rw [atCs_app, atCs_app]
    have hL : (atCs (l.take i) ++ atCs [x] ++ atCs (l.drop i)).length = (l.length + 1) * 3 := by
      simp only [List.length_append, hT, hD, hX]; omega
    rw [← hL]
    exact List.take_left
theorem row_new {r0 : List Value} {l : List At} {i : Nat} (x : At) (h : r0.take (i * 3) = atCs (l.take i)) (hi : i ≤ l.length) (hc : (l.length + 1) * 3 ≤ r0.length) (c1 c2 : List Value)
    (h1 : c1 = r0.take (i * 3) ++ atCs [x] ++ r0.drop (i * 3 + [x].length * 3)) (h2 : c2 = c1.take ((i + 1) * 3) ++ atCs (l.drop i) ++ c1.drop ((i + 1) * 3 + (l.drop i).length * 3)) :
    c2.length = r0.length ∧ c2.take ((l.length + 1) * 3) = atCs (insA l i x) := by
  have hT : (atCs (l.take i)).length = i * 3 := by rw [atCs_len]; simp; omega
  have hD : (atCs (l.drop i)).length = (l.length - i) * 3 := by rw [atCs_len, List.length_drop]
  have hX : (atCs [x]).length = 3 := by rw [atCs_len]; rfl
  have hl1 : c1.length = r0.length := by rw [h1, h]; simp only [List.length_append, List.length_drop, hT, hX, List.length_singleton]; omega
  have e1 : c1.take ((i + 1) * 3) = atCs (l.take i) ++ atCs [x] := by
    rw [h1, h]
    have hL : (atCs (l.take i) ++ atCs [x]).length = (i + 1) * 3 := by simp only [List.length_append, hT, hX]; omega
    rw [← hL]
    exact List.take_left
  rw [h2, e1]
  constructor
  · simp only [List.length_append, List.length_drop, hT, hD, hX, hl1]; omega
  · unfold insA
    rw [atCs_app, atCs_app]
    have hL : (atCs (l.take i) ++ atCs [x] ++ atCs (l.drop i)).length = (l.length + 1) * 3 := by
      simp only [List.length_append, hT, hD, hX]; omega
    rw [← hL]
    exact List.take_left
end Go.Proofs.YtgpoigkfoliflaaGreatDoor
namespace Go.Proofs.YtgpoigkfoliflaaGreatDoor
open Go.RowKit
set_option linter.unusedSimpArgs false
def InsAns (w : World) (B : Nat) (v : Value) (l : List At) (e : Ending) (w' : World) : Prop := ∃ v', e = .returned v' ∧ ABuf w' B v' l ∧ AppA w v w' v'
theorem insA_end (l : List At) (x : At) : insA l l.length x = l ++ [x] := by unfold insA; simp
set_option maxRecDepth 100000 in
set_option maxHeartbeats 1600000 in
theorem insertEnd (l : List At) (x : At) (v : Value) (vb B : Nat) (w : World) (hl : l.length ≤ 1000) (hb : ABuf w B v l) (hB : B ≤ w.heap.size) (ho : OneA w v vb x) :
    Calls Tryz.prog 100 #[v, .int .i64 l.length, .slice (some ⟨vb, 0, none⟩) 1 1] w (InsAns w B v (l ++ [x])) := by
  have HB : Hid (ABuf w B v l) := hb
  have HO : Hid (OneA w v vb x) := ho
  rcases hb.2 with ⟨rfl, h0⟩ | ⟨g, cap, cur, rfl, hg, hbq, hn, hcap, hcs, hxs⟩
  · clear ho hb
    rw [h0] at *
    go_enter Tryz.func100, Tryz.ntmps100
    go_wp2_with (at_builtin; refine wpList_apushN rfl (.tmp 23) (.tmp 24) rfl B (.slice none 0 0) l [x] ⟨vb, 0, none⟩ 1 1 rfl rfl rfl HB.out hB (by simp; omega) (by simp) HO.out.news ?_; intro v2 w3 hb2 ha2)
    go_ret
    exact ⟨v2, rfl, hb2, ha2⟩
  · clear ho hb hbq hcs hxs
    unfold maxLen at hcap
    by_cases hc : cap = l.length
    · subst hc
      go_enter Tryz.func100, Tryz.ntmps100
      go_wp2_with (at_builtin; refine wpList_apushN rfl (.tmp 23) (.tmp 24) rfl B _ l [x] ⟨vb, 0, none⟩ 1 1 rfl rfl rfl HB.out hB (by simp; omega) (by simp) HO.out.news ?_; intro v2 w3 hb2 ha2)
      go_ret
      exact ⟨v2, rfl, hb2, ha2⟩
    · go_enter Tryz.func100, Tryz.ntmps100
      go_wp2_with (at_builtin; refine wpList_apushN rfl (.tmp 23) (.tmp 24) rfl B _ l [x] ⟨vb, 0, none⟩ 1 1 rfl rfl rfl HB.out hB (by simp; omega) (by simp) HO.out.news ?_; intro v2 w3 hb2 ha2)
      go_ret
      exact ⟨v2, rfl, hb2, ha2⟩
theorem sizeAt (w : World) : (Go.sizeOf 55).run Tryz.prog w = .ok 3 w := by
  obtain ⟨i, hi, hz, hs, hby⟩ := infoAt'
  simp [sizeOf, typeInfo, hi, hs]
theorem cell_row {w : World} {g : Nat} {cur : Array Value} {t : TypeId} (h : w.heap[g]? = some (.cells cur t (0, 0))) (j : Nat) : w.cell? ⟨g, j, none⟩ = cur[j]? := by simp [World.cell?, h]
theorem news_row {w : World} {g : Nat} {cur : Array Value} {l : List At} (h : w.heap[g]? = some (.cells cur 55 (0, 0))) (hx : cur.toList.take (l.length * 3) = atCs l) (i : Nat) (hi : i ≤ l.length) :
    ∀ j u, (atCs (l.drop i))[j]? = some u → w.cell? ((⟨g, i * 3, none⟩ : Addr).add j) = some u := fun j u hj => by
  rw [Addr.add_mid, cell_row h]
  rw [← atCs_drop l i hi, ← hx, List.getElem?_drop] at hj
  have hlt := (List.getElem?_eq_some_iff.1 hj).1
  rw [List.length_take] at hlt
  rw [List.getElem?_take_of_lt (by omega), Array.getElem?_toList] at hj
  exact hj
theorem news_head {w : World} {g : Nat} {cur : Array Value} {l : List At} (h : w.heap[g]? = some (.cells cur 55 (0, 0))) (hx : cur.toList.take (l.length * 3) = atCs l) (i : Nat) (hi : i ≤ l.length) :
    ∀ j u, (atCs (l.take i))[j]? = some u → w.cell? ((⟨g, 0, none⟩ : Addr).add j) = some u := fun j u hj => by
  rw [Addr.add_mid, cell_row h, Nat.zero_add]
  rw [← atCs_take l i hi, ← hx, List.take_take] at hj
  have hlt := (List.getElem?_eq_some_iff.1 hj).1
  rw [List.length_take] at hlt
  rw [List.getElem?_take_of_lt (by omega), Array.getElem?_toList] at hj
  exact hj
theorem ov_apart {w : World} {g vb : Nat} {cur cv : Array Value} (hg : w.heap[g]? = some (.cells cur 55 (0, 0))) (hv : w.heap[vb]? = some (.cells cv 55 (0, 0))) (hne : vb ≠ g) (hc : cur.size ≠ 0) (o la ca lb cb : Nat) :
    (callFunc 101 #[.slice (some ⟨vb, 0, none⟩) la ca, .slice (some ⟨g, o, none⟩) lb cb]).run Tryz.prog w = .ok (.value (.bool false)) w := by
  rw [run_callFunc_extern Tryz.func101 (by kernel_rfl) (by kernel_rfl) (by kernel_rfl) (e := Extern.SlicesOverlaps.overlaps #[35, 35] #[4]) (by kernel_rfl),
    Lib.run_overlaps_apart w 35 4 55 Tryz.underlying35 3 sizeAt ⟨vb, 0, none⟩ ⟨g, o, none⟩ la ca lb cb hne 55 55 cv.size cur.size (by simp [World.shape?, hv]) (by simp [World.shape?, hg]) hc (by simp [World.frozen?, hv]) (by simp [World.frozen?, hv])]
  rfl
end Go.Proofs.YtgpoigkfoliflaaGreatDoor
namespace Go.Proofs.YtgpoigkfoliflaaGreatDoor
open Go.RowKit
set_option linter.unusedSimpArgs false
set_option maxRecDepth 100000 in
set_option maxHeartbeats 3200000 in
theorem insertIn (l : List At) (x : At) (i g cap vb B : Nat) (w : World) (hl : l.length ≤ 1000) (hi : i < l.length) (hr : l.length < cap) (hb : ABuf w B (.slice (some ⟨g, 0, none⟩) l.length cap) l) (ho : OneA w (.slice (some ⟨g, 0, none⟩) l.length cap) vb x) :
    Calls Tryz.prog 100 #[.slice (some ⟨g, 0, none⟩) l.length cap, .int .i64 i, .slice (some ⟨vb, 0, none⟩) 1 1] w (InsAns w B (.slice (some ⟨g, 0, none⟩) l.length cap) (insA l i x)) := by
  obtain ⟨cur, hg, hbq, hn, hcap, hcs, hxs⟩ : ∃ cur, B ≤ g ∧ w.heap[g]? = some (.cells cur 55 (0, 0)) ∧ l.length ≤ cap ∧ cap ≤ maxLen ∧ cur.size = cap * 3 ∧ cur.toList.take (l.length * 3) = atCs l := by
    rcases hb.2 with ⟨e, -⟩ | ⟨g', cap', cur, e, hg, hbq, hn, hcap, hcs, hxs⟩
    · cases e
    · injection e with e1 e2 e3
      injection e1 with e1
      injection e1 with e1
      subst e1 e3
      exact ⟨cur, hg, hbq, hn, hcap, hcs, hxs⟩
  have hne : vb ≠ g := fun e => ho.2 (by rw [e]; rfl)
  have HOV : Hid (∀ W : World, (∀ k, W.heap[k]? = w.heap[k]?) → ∀ o la ca lb cb, (callFunc 101 #[.slice (some ⟨vb, 0, none⟩) la ca, .slice (some ⟨g, o, none⟩) lb cb]).run Tryz.prog W = .ok (.value (.bool false)) W) := fun W hW o la ca lb cb =>
    ov_apart (by rw [hW]; exact hbq) (by rw [hW]; exact ho.1) hne (by omega) o la ca lb cb
  have HC1 : Hid (∀ W : World, (∀ k, W.heap[k]? = w.heap[k]?) → ∀ ty dc sc, (Builtin.copy_ #[35, 35] ty #[.slice (some ⟨g, (i + 1) * 3, none⟩) (l.length - i) dc, .slice (some ⟨g, i * 3, none⟩) (l.length + 1 - i) sc]).run Tryz.prog W =
      .ok (goInt (l.drop i).length) (W.setRow g (cur.toList.take ((i + 1) * 3) ++ atCs (l.drop i) ++ cur.toList.drop ((i + 1) * 3 + (l.drop i).length * 3)).toArray)) := fun W hW ty dc sc =>
    run_copyA W ty g ((i + 1) * 3) (l.length - i) dc ⟨g, i * 3, none⟩ (l.length + 1 - i) sc cur (l.drop i) (by rw [hW]; exact hbq) (by rw [List.length_drop]; simp only [Nat.min_def]; split <;> omega) (news_row (by rw [hW]; exact hbq) hxs i (by omega)) (by rw [List.length_drop, hcs]; omega)
  obtain ⟨c1, hc1⟩ : ∃ c1, c1 = cur.toList.take ((i + 1) * 3) ++ atCs (l.drop i) ++ cur.toList.drop ((i + 1) * 3 + (l.drop i).length * 3) := ⟨_, rfl⟩
  obtain ⟨c2, hc2⟩ : ∃ c2, c2 = c1.take (i * 3) ++ atCs [x] ++ c1.drop (i * 3 + [x].length * 3) := ⟨_, rfl⟩
  have hrow := row_in x hxs (by omega) (by simp [hcs]; omega) c1 c2 hc1 hc2
  have hc1l : c1.length = cap * 3 := by rw [hc1]; simp only [List.length_append, List.length_take, List.length_drop, Array.length_toList, hcs, atCs_len]; omega
  have HC2 : Hid (∀ W : World, (∀ k, W.heap[k]? = (w.setRow g c1.toArray).heap[k]?) → ∀ ty dc, (Builtin.copy_ #[35, 35] ty #[.slice (some ⟨g, i * 3, none⟩) (l.length + 1 - i) dc, .slice (some ⟨vb, 0, none⟩) 1 1]).run Tryz.prog W =
      .ok (goInt [x].length) (W.setRow g c2.toArray)) := fun W hW ty dc => by
    have h := run_copyA W ty g (i * 3) (l.length + 1 - i) dc ⟨vb, 0, none⟩ 1 1 c1.toArray [x] (by rw [hW]; exact setRow_heap w g cur _ _ _ hbq) (by simp only [Nat.min_def, List.length_singleton]; split <;> omega) (OneA.news (v := .slice none 0 0) ⟨by rw [hW, setRow_other w g vb _ hne]; exact ho.1, by simp [Value.ownBlock]⟩) (by simp; omega)
    rw [h]
    simp only [List.toList_toArray]
    rw [← hc2]
  rw [← hc1] at HC1
  have FIN : Hid (∀ W : World, W.os = w.os → W.tape = w.tape → W.output = w.output → (∀ k, k ≠ g → W.heap[k]? = w.heap[k]?) → W.heap[g]? = some (.cells c2.toArray 55 (0, 0)) → W.heap.size = w.heap.size → InsAns w B (.slice (some ⟨g, 0, none⟩) l.length cap) (insA l i x) (.returned (.slice (some ⟨g, 0, none⟩) (l.length + 1) cap)) W) := fun W h1 h2 h3 h4 h5 h6 => by
    refine ⟨_, rfl, ?_, ⟨h1, h2, h3, by omega, fun k hk hk' => h4 k (fun e => hk' (by rw [e]; rfl)), fun q hq => .inl hq⟩⟩
    unfold ABuf
    rw [insA_len _ _ _ (by omega)]
    refine ⟨by rw [atCs_len, insA_len _ _ _ (by omega)], .inr ⟨g, cap, c2.toArray, rfl, hg, h5, by omega, hcap, ?_, ?_⟩⟩
    · simp [hrow.1, hcs]
    · simpa using hrow.2
  have HW1 : Hid (w.heap[g]? = some (.cells cur 55 (0, 0))) := hbq
  unfold maxLen at hcap
  have hz2 : ¬ ((i : Int) = (l.length : Int)) := by omega
  have hin : i ≤ l.length := by omega
  have hw1 : IntKind.i64.wrap ((i : Int) + 1) = (i : Int) + 1 := by rw [IntKind.wrap_i64]; omega
  have hw2 : IntKind.i64.wrap ((l.length : Int) + 1) = (l.length : Int) + 1 := by rw [IntKind.wrap_i64]; omega
  have hb1 : (0 : Int) ≤ (i : Int) + 1 := by omega
  have htn : ((i : Int) + 1).toNat = i + 1 := by omega
  have htn2 : ((l.length : Int) + 1).toNat = l.length + 1 := by omega
  have hb2 : ¬ (cap = i + 1) := by omega
  have hb3 : (i : Int) ≤ (l.length : Int) + 1 := by omega
  have hb4 : ¬ (cap = i) := by omega
  have hb5 : (l.length : Int) + 1 ≤ (cap : Int) := by omega
  clear hb ho hbq hcs hxs hrow hc1l hc1 hc2 hg hn hne
  go_enter Tryz.func100, Tryz.ntmps100
  go_wp2_with (simp only [HOV.out _ (fun _ => rfl)])
  have hcp := HC1.out w.drew (fun _ => rfl) 3 (cap - (i + 1)) (cap - i)
  go_region
  clear hcp
  have hcp2 := HC2.out (w.drew.setRow g c1.toArray) (fun _ => rfl) 3 (cap - i)
  go_wp2_with fail
  go_ret
  refine FIN.out _ rfl rfl rfl (fun k hk => ?_) ?_ ?_
  · rw [setRow_other _ _ _ _ hk, setRow_other _ _ _ _ hk]; rfl
  · exact setRow_heap _ g c1.toArray _ _ _ (setRow_heap _ g cur _ _ _ HW1.out)
  · rw [setRow_size, setRow_size]; rfl
end Go.Proofs.YtgpoigkfoliflaaGreatDoor
