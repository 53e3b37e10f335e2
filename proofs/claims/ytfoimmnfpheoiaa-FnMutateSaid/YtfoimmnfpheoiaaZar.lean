import Derived.Test.YtfoimmnfpheoiaaZaq
namespace Go.Proofs.Ytfoimmnfpheoiaa
open Go.RowKit
set_option linter.unusedSimpArgs false
def InsAns (w : World) (B : Nat) (v : Value) (l : List At) (e : Ending) (w' : World) : Prop := ∃ v', e = .returned v' ∧ ABuf w' B v' l ∧ AppA w v w' v'
theorem insA_end (l : List At) (x : At) : insA l l.length x = l ++ [x] := by unfold insA; simp
set_option maxRecDepth 100000 in
set_option maxHeartbeats 1600000 in
theorem insertEnd (l : List At) (x : At) (v : Value) (vb B : Nat) (w : World) (hl : l.length ≤ 1000) (hb : ABuf w B v l) (hB : B ≤ w.heap.size) (ho : OneA w v vb x) :
    Calls Try.prog 46 #[v, .int .i64 l.length, .slice (some ⟨vb, 0, none⟩) 1 1] w (InsAns w B v (l ++ [x])) := by
  have HB : Hid (ABuf w B v l) := hb
  have HO : Hid (OneA w v vb x) := ho
  rcases hb.2 with ⟨rfl, h0⟩ | ⟨g, cap, cur, rfl, hg, hbq, hn, hcap, hcs, hxs⟩
  · clear ho hb
    rw [h0] at *
    go_enter Try.func46, Try.ntmps46
    go_wp2_with (at_builtin; refine wpList_apushN rfl (.tmp 23) (.tmp 24) rfl B (.slice none 0 0) l [x] ⟨vb, 0, none⟩ 1 1 rfl rfl rfl HB.out hB (by simp; omega) (by simp) HO.out.news ?_; intro v2 w3 hb2 ha2)
    go_ret
    exact ⟨v2, rfl, hb2, ha2⟩
  · clear ho hb hbq hcs hxs
    unfold maxLen at hcap
    by_cases hc : cap = l.length
    · subst hc
      go_enter Try.func46, Try.ntmps46
      go_wp2_with (at_builtin; refine wpList_apushN rfl (.tmp 23) (.tmp 24) rfl B _ l [x] ⟨vb, 0, none⟩ 1 1 rfl rfl rfl HB.out hB (by simp; omega) (by simp) HO.out.news ?_; intro v2 w3 hb2 ha2)
      go_ret
      exact ⟨v2, rfl, hb2, ha2⟩
    · go_enter Try.func46, Try.ntmps46
      go_wp2_with (at_builtin; refine wpList_apushN rfl (.tmp 23) (.tmp 24) rfl B _ l [x] ⟨vb, 0, none⟩ 1 1 rfl rfl rfl HB.out hB (by simp; omega) (by simp) HO.out.news ?_; intro v2 w3 hb2 ha2)
      go_ret
      exact ⟨v2, rfl, hb2, ha2⟩
theorem sizeAt (w : World) : (Go.sizeOf 34).run Try.prog w = .ok 3 w := by
  obtain ⟨i, hi, hz, hs, hby⟩ := infoAt'
  simp [sizeOf, typeInfo, hi, hs]
theorem cell_row {w : World} {g : Nat} {cur : Array Value} {t : TypeId} (h : w.heap[g]? = some (.cells cur t (0, 0))) (j : Nat) : w.cell? ⟨g, j, none⟩ = cur[j]? := by simp [World.cell?, h]
theorem news_row {w : World} {g : Nat} {cur : Array Value} {l : List At} (h : w.heap[g]? = some (.cells cur 34 (0, 0))) (hx : cur.toList.take (l.length * 3) = atCs l) (i : Nat) (hi : i ≤ l.length) :
    ∀ j u, (atCs (l.drop i))[j]? = some u → w.cell? ((⟨g, i * 3, none⟩ : Addr).add j) = some u := fun j u hj => by
  rw [Addr.add_mid, cell_row h]
  rw [← atCs_drop l i hi, ← hx, List.getElem?_drop] at hj
  have hlt := (List.getElem?_eq_some_iff.1 hj).1
  rw [List.length_take] at hlt
  rw [List.getElem?_take_of_lt (by omega), Array.getElem?_toList] at hj
  exact hj
theorem news_head {w : World} {g : Nat} {cur : Array Value} {l : List At} (h : w.heap[g]? = some (.cells cur 34 (0, 0))) (hx : cur.toList.take (l.length * 3) = atCs l) (i : Nat) (hi : i ≤ l.length) :
    ∀ j u, (atCs (l.take i))[j]? = some u → w.cell? ((⟨g, 0, none⟩ : Addr).add j) = some u := fun j u hj => by
  rw [Addr.add_mid, cell_row h, Nat.zero_add]
  rw [← atCs_take l i hi, ← hx, List.take_take] at hj
  have hlt := (List.getElem?_eq_some_iff.1 hj).1
  rw [List.length_take] at hlt
  rw [List.getElem?_take_of_lt (by omega), Array.getElem?_toList] at hj
  exact hj
theorem ov_apart {w : World} {g vb : Nat} {cur cv : Array Value} (hg : w.heap[g]? = some (.cells cur 34 (0, 0))) (hv : w.heap[vb]? = some (.cells cv 34 (0, 0))) (hne : vb ≠ g) (hc : cur.size ≠ 0) (o la ca lb cb : Nat) :
    (callFunc 57 #[.slice (some ⟨vb, 0, none⟩) la ca, .slice (some ⟨g, o, none⟩) lb cb]).run Try.prog w = .ok (.value (.bool false)) w := by
  rw [run_callFunc_extern Try.func57 (by kernel_rfl) (by kernel_rfl) (by kernel_rfl) (e := Extern.SlicesOverlaps.overlaps #[25, 25] #[4]) (by kernel_rfl),
    Lib.run_overlaps_apart w 25 4 34 Try.underlying25 3 sizeAt ⟨vb, 0, none⟩ ⟨g, o, none⟩ la ca lb cb hne 34 34 cv.size cur.size (by simp [World.shape?, hv]) (by simp [World.shape?, hg]) hc (by simp [World.frozen?, hv]) (by simp [World.frozen?, hv])]
  rfl
end Go.Proofs.Ytfoimmnfpheoiaa
