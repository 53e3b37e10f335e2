import Derived.Test.YtnegmpdllbbnhaaZbi
import Derived.Test.YtnegmpdllbbnhaaZat
import Derived.Lib.Overlaps
namespace Go.Proofs.Ytnegmpdllbbnhaa
open Go.RowKit
set_option linter.unusedSimpArgs false
def Ins2 (w : World) (g cp : Nat) (ds : List Value) (m : Nat) (e : Ending) (w' : World) : Prop := ∃ (g' cap : Nat) (cur : Array Value), e = .returned (.slice (some ⟨g', 0, none⟩) m cap) ∧ ((g' = g ∧ 0 < cp) ∨ w.heap.size ≤ g') ∧ w'.heap[g']? = some (.cells cur 51 (0, 0)) ∧ cur.toList.take (m * 2) = ds ∧ m ≤ cap ∧ cap ≤ maxLen ∧ cur.size = cap * 2 ∧ Frm (fun c => c = g ∧ 0 < cp) w w'
theorem Ins2.of {w w' : World} {g cp m : Nat} {ds : List Value} {e : Ending} (h : InsR w ds m e w') : Ins2 w g cp ds m e w' := by
  obtain ⟨g', cap, cur, h1, h2, h3, h4, h5, h6, h7, h8⟩ := h
  exact ⟨g', cap, cur, h1, .inr h2, h3, h4, h5, h6, h7, frm_below h8⟩
set_option maxRecDepth 100000 in
set_option maxHeartbeats 1600000 in
theorem insertEndX (n g vb : Nat) (cs : List Value) (u0 u1 : Value) (w : World) (hn : n ≤ 10000) (hl : cs.length = n * 2) (hcs : ∀ j u, cs[j]? = some u → w.cell? ((⟨g, 0, none⟩ : Addr).add j) = some u) (hv : w.heap[vb]? = some (.cells #[u0, u1] 51 (0, 0))) :
    Calls Try.prog 44 #[.slice (some ⟨g, 0, none⟩) n n, .int .i64 n, .slice (some ⟨vb, 0, none⟩) 1 1] w (Ins2 w g n (insC cs n [u0, u1]) (n + 1)) := by
  obtain ⟨i, hi, hz, hs, hby⟩ := infoRow2
  obtain ⟨v', w', hr, hown, hgr⟩ := run_append_arg_grows (P := Try.prog) w 26 26 51 i _ 2 32 Try.underlying26 hi hz hs hby rfl (by omega) ⟨g, 0, none⟩ n n cs hl hcs ⟨vb, 0, none⟩ 1 1 [u0, u1] rfl (fun j u hj => cells_rowR (cs := [u0, u1]) hv 0 j u (by simpa using hj)) (by omega) (by unfold maxLen; omega) (by omega)
  have FIN : Hid (Ins2 w g n (insC cs n [u0, u1]) (n + 1) (.returned v') w') := by
    rcases hown.2 with ⟨-, h0⟩ | ⟨g', cap, cur, rfl, hg', hb, hn', hcap, hcs, hx⟩
    · omega
    · refine ⟨g', cap, cur, rfl, .inr hg', hb, ?_, hn', hcap, hcs, ⟨hgr.os, hgr.tape, hgr.output, hgr.size, fun b hb' _ => hgr.block b hb' (by simp)⟩⟩
      rw [hx]
      unfold insC
      rw [List.take_of_length_le (by omega), List.drop_eq_nil_of_le (by omega), List.append_nil]
  have HR := Lib.hid hr
  clear hr hown hgr hi hz hs hby hl hcs hv
  go_enter Try.func44, Try.ntmps44
  go_wp2_with (at_builtin; go_must (refine wpList_append_is rfl (.tmp 23) (.tmp 24) 26 rfl _ _ rfl rfl _ _ HR.out ?_))
  go_ret
  exact FIN.out
theorem frm_row (w : World) (g : Nat) (c : Array Value) : Frm (· = g) w (w.setRow g c) := ⟨rfl, rfl, rfl, by rw [setRow_size]; exact Nat.le_refl _, fun b _ hb => setRow_other _ _ _ _ hb⟩
set_option maxRecDepth 100000 in
set_option maxHeartbeats 1600000 in
theorem insertEndY (n cap g vb : Nat) (cur : Array Value) (cs : List Value) (u0 u1 : Value) (w : World) (hn : n ≤ 10000) (hr : n < cap) (hcm : cap ≤ maxLen) (hg : w.heap[g]? = some (.cells cur 51 (0, 0))) (hsz : cur.size = cap * 2) (hx : cur.toList.take (n * 2) = cs) (hu1 : ∀ u ∈ [u0, u1], u.oneCell' = true) (hv : w.heap[vb]? = some (.cells #[u0, u1] 51 (0, 0))) :
    Calls Try.prog 44 #[.slice (some ⟨g, 0, none⟩) n cap, .int .i64 n, .slice (some ⟨vb, 0, none⟩) 1 1] w (Ins2 w g cap (insC cs n [u0, u1]) (n + 1)) := by
  obtain ⟨i, hi, hz, hs, hby⟩ := infoRow2
  have hrun := run_append_room (P := Try.prog) w 26 26 51 i Try.underlying26 hi g n cap cur hg ⟨vb, 0, none⟩ 1 1 [u0, u1] (by rw [hs]; rfl) (fun j u hj => cells_rowR (cs := [u0, u1]) hv 0 j u (by simpa using hj)) hu1 (by omega) (by rw [hs, hsz]; simp; omega)
  rw [hs] at hrun
  obtain ⟨ds, hds⟩ : ∃ ds, ds = cur.toList.take (n * 2) ++ [u0, u1] ++ cur.toList.drop (n * 2 + [u0, u1].length) := ⟨_, rfl⟩
  rw [← hds] at hrun
  have hT : (cur.toList.take (n * 2)).length = n * 2 := by rw [List.length_take, Array.length_toList]; omega
  have hdl : ds.length = cap * 2 := by rw [hds]; simp only [List.length_append, List.length_drop, hT, Array.length_toList, List.length_cons, List.length_nil]; omega
  have hdt : ds.take ((n + 1) * 2) = insC cs n [u0, u1] := by
    have hL : (cur.toList.take (n * 2) ++ [u0, u1]).length = (n + 1) * 2 := by simp only [List.length_append, hT, List.length_cons, List.length_nil]; omega
    rw [hds, ← hL, List.take_left]
    unfold insC
    rw [← hx, List.take_take, Nat.min_self, List.drop_eq_nil_of_le (by rw [hT]; exact Nat.le_refl _), List.append_nil]
  have FIN : Hid (Ins2 w g cap (insC cs n [u0, u1]) (n + 1) (.returned (.slice (some ⟨g, 0, none⟩) (n + 1) cap)) (w.setRow g ds.toArray)) :=
    ⟨g, cap, ds.toArray, rfl, .inl ⟨rfl, by omega⟩, setRow_heap w g cur _ _ _ hg, by simpa using hdt, by omega, hcm, by simp [hdl], (frm_row _ _ _).mono (fun c h => ⟨h, by omega⟩)⟩
  have HR := Lib.hid hrun
  clear hrun hi hz hs hby hx hv hg hsz hds hT hdl hdt hu1 hcm
  go_enter Try.func44, Try.ntmps44
  go_wp2_with (at_builtin; go_must (refine wpList_append_is rfl (.tmp 23) (.tmp 24) 26 rfl _ _ rfl rfl _ _ HR.out ?_))
  go_ret
  exact FIN.out
theorem sizeRw (w : World) : (Go.sizeOf 51).run Try.prog w = .ok 2 w := by
  obtain ⟨i, hi, hz, hs, hby⟩ := infoRow2
  simp [Go.sizeOf, typeInfo, hi, hs]
theorem ov_apartR {w : World} {g vb : Nat} {cur cv : Array Value} (hg : w.heap[g]? = some (.cells cur 51 (0, 0))) (hv : w.heap[vb]? = some (.cells cv 51 (0, 0))) (hne : vb ≠ g) (hc : cur.size ≠ 0) (o la ca lb cb : Nat) :
    (callFunc 54 #[.slice (some ⟨vb, 0, none⟩) la ca, .slice (some ⟨g, o, none⟩) lb cb]).run Try.prog w = .ok (.value (.bool false)) w := by
  rw [run_callFunc_extern Try.func54 (by kernel_rfl) (by kernel_rfl) (by kernel_rfl) (e := Extern.SlicesOverlaps.overlaps #[26, 26] #[4]) (by kernel_rfl),
    Lib.run_overlaps_apart w 26 4 51 Try.underlying26 2 sizeRw ⟨vb, 0, none⟩ ⟨g, o, none⟩ la ca lb cb hne 51 51 cv.size cur.size (by simp [World.shape?, hv]) (by simp [World.shape?, hg]) hc (by simp [World.frozen?, hv]) (by simp [World.frozen?, hv])]
  rfl
theorem row_inR {cur cs us : List Value} {i n : Nat} (hl : cs.length = n * 2) (hu : us.length = 2) (h : cur.take (n * 2) = cs) (hi : i ≤ n) (hc : (n + 1) * 2 ≤ cur.length) (c1 c2 : List Value)
    (h1 : c1 = cur.take ((i + 1) * 2) ++ cs.drop (i * 2) ++ cur.drop ((i + 1) * 2 + (n - i) * 2)) (h2 : c2 = c1.take (i * 2) ++ us ++ c1.drop (i * 2 + 1 * 2)) :
    c1.length = cur.length ∧ c2.length = cur.length ∧ c2.take ((n + 1) * 2) = insC cs i us := by
  have hA : (cur.take ((i + 1) * 2)).length = (i + 1) * 2 := by rw [List.length_take]; omega
  have hD : (cs.drop (i * 2)).length = (n - i) * 2 := by rw [List.length_drop]; omega
  have hl1 : c1.length = cur.length := by rw [h1]; simp only [List.length_append, List.length_drop, hA]; omega
  have e1 : c1.take (i * 2) = cs.take (i * 2) := by
    rw [h1, List.append_assoc, List.take_append_of_le_length (by omega), List.take_take, ← h, List.take_take]
    congr 1
    omega
  have e2 : c1.drop (i * 2 + 1 * 2) = cs.drop (i * 2) ++ cur.drop ((i + 1) * 2 + (n - i) * 2) := by
    rw [h1, List.append_assoc, show i * 2 + 1 * 2 = (cur.take ((i + 1) * 2)).length by omega, List.drop_left]
  have hC : (c1.take (i * 2)).length = i * 2 := by rw [List.length_take]; omega
  refine ⟨hl1, ?_, ?_⟩
  · rw [h2]; simp only [List.length_append, List.length_drop, hC, hu, hl1]; omega
  · rw [h2, e1, e2, ← List.append_assoc]
    unfold insC
    have hL : (cs.take (i * 2) ++ us ++ cs.drop (i * 2)).length = (n + 1) * 2 := by
      rw [← e1]; simp only [List.length_append, hC, hu, hD]; omega
    rw [← hL]
    exact List.take_left
set_option maxRecDepth 100000 in
set_option maxHeartbeats 3200000 in
theorem insertInR (n i cap g vb : Nat) (cur : Array Value) (cs : List Value) (u0 u1 : Value) (w : World) (hn : n ≤ 10000) (hi : i < n) (hr : n < cap) (hcm : cap ≤ maxLen) (hg : w.heap[g]? = some (.cells cur 51 (0, 0))) (hsz : cur.size = cap * 2) (hx : cur.toList.take (n * 2) = cs) (hc1 : ∀ u ∈ cs, u.oneCell' = true) (hu1 : ∀ u ∈ [u0, u1], u.oneCell' = true) (hv : w.heap[vb]? = some (.cells #[u0, u1] 51 (0, 0))) (hne : vb ≠ g) :
    Calls Try.prog 44 #[.slice (some ⟨g, 0, none⟩) n cap, .int .i64 i, .slice (some ⟨vb, 0, none⟩) 1 1] w (Ins2 w g cap (insC cs i [u0, u1]) (n + 1)) := by
  have hl : cs.length = n * 2 := by rw [← hx, List.length_take, Array.length_toList]; omega
  have HOV : Hid (∀ W : World, (∀ k, W.heap[k]? = w.heap[k]?) → ∀ o la ca lb cb, (callFunc 54 #[.slice (some ⟨vb, 0, none⟩) la ca, .slice (some ⟨g, o, none⟩) lb cb]).run Try.prog W = .ok (.value (.bool false)) W) := fun W hW o la ca lb cb =>
    ov_apartR (by rw [hW]; exact hg) (by rw [hW]; exact hv) hne (by omega) o la ca lb cb
  obtain ⟨c1, hc1'⟩ : ∃ c1, c1 = cur.toList.take ((i + 1) * 2) ++ cs.drop (i * 2) ++ cur.toList.drop ((i + 1) * 2 + (n - i) * 2) := ⟨_, rfl⟩
  obtain ⟨c2, hc2⟩ : ∃ c2, c2 = c1.take (i * 2) ++ [u0, u1] ++ c1.drop (i * 2 + 1 * 2) := ⟨_, rfl⟩
  have hrow := row_inR (us := [u0, u1]) hl rfl hx (by omega) (by simp [hsz]; omega) c1 c2 hc1' hc2
  have HC1 : Hid (∀ W : World, (∀ k, W.heap[k]? = w.heap[k]?) → ∀ ty dc sc, (Builtin.copy_ #[26, 26] ty #[.slice (some ⟨g, (i + 1) * 2, none⟩) (n - i) dc, .slice (some ⟨g, i * 2, none⟩) (n + 1 - i) sc]).run Try.prog W =
      .ok (goInt ((n - i : Nat) : Int)) (W.setRow g c1.toArray)) := fun W hW ty dc sc => by
    have h := run_copyR W ty g ((i + 1) * 2) (n - i) dc ⟨g, i * 2, none⟩ (n + 1 - i) sc (n - i) cur (cs.drop (i * 2)) (by rw [List.length_drop]; omega) (fun u hu => hc1 u (List.mem_of_mem_drop hu)) (by rw [hW]; exact hg) (by simp only [Nat.min_def]; split <;> omega) (fun j u hj => by
      rw [Addr.add_mid]
      rw [List.getElem?_drop, ← hx, List.getElem?_take] at hj
      split at hj
      · rw [Array.getElem?_toList] at hj
        simp [World.cell?, hW, hg, hj]
      · cases hj) (by rw [hsz]; omega)
    rw [h, ← hc1']
  have HC2 : Hid (∀ W : World, (∀ k, W.heap[k]? = (w.setRow g c1.toArray).heap[k]?) → ∀ ty dc, (Builtin.copy_ #[26, 26] ty #[.slice (some ⟨g, i * 2, none⟩) (n + 1 - i) dc, .slice (some ⟨vb, 0, none⟩) 1 1]).run Try.prog W =
      .ok (goInt 1) (W.setRow g c2.toArray)) := fun W hW ty dc => by
    have h := run_copyR W ty g (i * 2) (n + 1 - i) dc ⟨vb, 0, none⟩ 1 1 1 c1.toArray [u0, u1] rfl hu1 (by rw [hW]; exact setRow_heap w g cur _ _ _ hg) (by simp only [Nat.min_def]; split <;> omega) (fun j u hj => cells_rowR (w := W) (cs := [u0, u1]) (by rw [hW, setRow_other w g vb _ hne]; exact hv) 0 j u (by simpa using hj)) (by simp [hrow.1, hsz]; omega)
    rw [h]
    simp only [List.toList_toArray]
    rw [← hc2]
    rfl
  have FIN : Hid (∀ W : World, W.os = w.os → W.tape = w.tape → W.output = w.output → (∀ k, k ≠ g → W.heap[k]? = w.heap[k]?) → W.heap[g]? = some (.cells c2.toArray 51 (0, 0)) → W.heap.size = w.heap.size → Ins2 w g cap (insC cs i [u0, u1]) (n + 1) (.returned (.slice (some ⟨g, 0, none⟩) (n + 1) cap)) W) := fun W h1 h2 h3 h4 h5 h6 =>
    ⟨g, cap, c2.toArray, rfl, .inl ⟨rfl, by omega⟩, h5, by simpa using hrow.2.2, by omega, hcm, by simp [hrow.2.1, hsz], ⟨h1, h2, h3, by omega, fun k _ hk => h4 k (fun e => hk ⟨e, by omega⟩)⟩⟩
  have HW1 : Hid (w.heap[g]? = some (.cells cur 51 (0, 0))) := hg
  unfold maxLen at hcm
  have hz2 : ¬ ((i : Int) = (n : Int)) := by omega
  have hin : i ≤ n := by omega
  have hw1 : IntKind.i64.wrap ((i : Int) + 1) = (i : Int) + 1 := by rw [IntKind.wrap_i64]; omega
  have hw2 : IntKind.i64.wrap ((n : Int) + 1) = (n : Int) + 1 := by rw [IntKind.wrap_i64]; omega
  have hb1 : (0 : Int) ≤ (i : Int) + 1 := by omega
  have htn : ((i : Int) + 1).toNat = i + 1 := by omega
  have htn2 : ((n : Int) + 1).toNat = n + 1 := by omega
  have hb2 : ¬ (cap = i + 1) := by omega
  have hb3 : (i : Int) ≤ (n : Int) + 1 := by omega
  have hb4 : ¬ (cap = i) := by omega
  have hb5 : (n : Int) + 1 ≤ (cap : Int) := by omega
  clear hg hv hsz hx hrow hc1' hc2 hc1 hu1 hne hl
  go_enter Try.func44, Try.ntmps44
  go_wp2_with (simp only [HOV.out _ (fun _ => rfl)])
  have hcp := HC1.out w.drew (fun _ => rfl) 3 (cap - (i + 1)) (cap - i)
  go_region
  clear hcp
  have hcp2 := HC2.out (w.drew.setRow g c1.toArray) (fun _ => rfl) 3 (cap - i)
  go_wp2_with fail
  go_ret
  refine FIN.out _ rfl rfl rfl (fun k hk => ?_) ?_ ?_
  · rw [setRow_other _ _ _ _ hk, setRow_other _ _ _ _ hk]; rfl
  · exact setRow_heap _ g c1.toArray _ _ _ (setRow_heap _ g cur _ _ _ HW1.out)
  · rw [setRow_size, setRow_size]; rfl
theorem insert2 (T : Tab3) (i vb : Nat) (u0 u1 : Value) (w : World) (hT : TabW w T) (hn : T.ts.length ≤ 10000) (hi : i ≤ T.ts.length) (hu1 : ∀ u ∈ [u0, u1], u.oneCell' = true) (hv : w.heap[vb]? = some (.cells #[u0, u1] 51 (0, 0))) (hne : 0 < T.cap → vb ≠ T.p) (hc1 : ∀ u ∈ cs3 T.ts, u.oneCell' = true) :
    Calls Try.prog 44 #[T.v, .int .i64 i, .slice (some ⟨vb, 0, none⟩) 1 1] w (fun e w' => Ins2 w T.p T.cap (insC (cs3 T.ts) i [u0, u1]) (T.ts.length + 1) e w') := by
  obtain ⟨p, cap, ts⟩ := T
  have hle : ts.length ≤ cap := hT.le
  have hcm : cap ≤ maxLen := hT.cm
  have hp : 0 < cap → ∃ cur : Array Value, w.heap[p]? = some (.cells cur 51 (0, 0)) ∧ cur.size = cap * 2 ∧ cur.toList.take (ts.length * 2) = cs3 ts := hT.hp
  have hl : (cs3 ts).length = ts.length * 2 := cs3_len ts
  show Calls Try.prog 44 #[.slice (some ⟨p, 0, none⟩) ts.length cap, .int .i64 i, .slice (some ⟨vb, 0, none⟩) 1 1] w (fun e w' => Ins2 w p cap (insC (cs3 ts) i [u0, u1]) (ts.length + 1) e w')
  replace hi : i ≤ ts.length := hi
  replace hn : ts.length ≤ 10000 := hn
  by_cases h0 : cap = 0
  · have e1 : ts.length = 0 := by omega
    have e2 : ts = [] := List.eq_nil_of_length_eq_zero e1
    have e3 : i = 0 := by omega
    subst h0 e2 e3
    exact insertEndX 0 p vb [] u0 u1 w (by omega) rfl (fun j u hj => by simp at hj) hv
  obtain ⟨cur, hh, hsz, hx⟩ := hp (by omega)
  by_cases hr : ts.length < cap
  · by_cases he : i = ts.length
    · subst he
      exact insertEndY ts.length cap p vb cur (cs3 ts) u0 u1 w hn hr hcm hh hsz hx hu1 hv
    · exact insertInR ts.length i cap p vb cur (cs3 ts) u0 u1 w hn (by omega) hr hcm hh hsz hx hc1 hu1 hv (hne (by show 0 < cap; omega))
  · have ec : cap = ts.length := by omega
    subst ec
    have hcur : cur = (cs3 ts).toArray := by
      rw [← hx, List.take_of_length_le (by rw [Array.length_toList]; omega)]
    subst hcur
    exact (insertR ts.length i p vb (cs3 ts) u0 u1 w hn hi hl hc1 hu1 hh hv).mono (fun e w' h => Ins2.of h)
end Go.Proofs.Ytnegmpdllbbnhaa
