import Derived.Test.YthpenliecgpedaaYbf
import Derived.Deep.RegionHeld3
import Derived.Test.YthpenliecgpedaaYTk
namespace Go.Proofs.Ythpenliecgpedaa
open Go.RowKit
set_option linter.unusedSimpArgs false
theorem zeroLk (w : World) : (zeroValue 54).run Try.prog w = .ok (.agg #[.string ⟨#[]⟩, .slice none 0 0]) w := by
  have h : (Try.prog.info? 54).map (fun i => i.zero) = some (some (.agg #[.string ⟨#[]⟩, .slice none 0 0])) := by kernel_rfl
  obtain ⟨i, hi, hz⟩ := Option.map_eq_some_iff.1 h
  simp [zeroValue, typeInfo, hi, hz]
theorem zeroIn (w : World) : (zeroValue 3).run Try.prog w = .ok (.int .i64 0) w := by
  have h : (Try.prog.info? 3).map (fun i => i.zero) = some (some (.int .i64 0)) := by kernel_rfl
  obtain ⟨i, hi, hz⟩ := Option.map_eq_some_iff.1 h
  simp [zeroValue, typeInfo, hi, hz]
theorem run_clearLk (w : World) (q o c : Nat) (v0 v1 : Value) (e0 : w.cell? ⟨q, o, none⟩ = some v0) (e1 : w.cell? ⟨q, o + 1, none⟩ = some v1) (z0 : w.frozen? ⟨q, o, none⟩ = false) (z1 : w.frozen? ⟨q, o + 1, none⟩ = false) :
    ∃ w', (∀ ty, (Builtin.clear_ #[23] ty #[.slice (some ⟨q, o, none⟩) 1 c]).run Try.prog w = .ok (.tuple #[]) w') ∧ Frm (· = q) w w' ∧ ∀ {T : TypeId} {M : Nat} {g : Nat → Value}, w.rowIs q T M g → ∃ g', w'.rowIs q T M g' ∧ ∀ m, m < o → g' m = g m := by
  have hst := run_storeCells_cells (P := Try.prog) q o [.string ⟨#[]⟩, .slice none 0 0] 0 w (fun j hj => by
    simp only [List.length_cons, List.length_nil] at hj
    rcases (by omega : j = 0 ∨ j = 1) with rfl | rfl
    · simp [e0]
    · simp [e1]) (fun j hj => by
    simp only [List.length_cons, List.length_nil] at hj
    rcases (by omega : j = 0 ∨ j = 1) with rfl | rfl
    · simpa using z0
    · simpa using z1) (by intro v hv; simp only [List.mem_cons, List.not_mem_nil, or_false] at hv; rcases hv with rfl | rfl <;> rfl)
  have hzc : (Builtin.zeroCells (Value.agg #[.string ⟨#[]⟩, .slice none 0 0]).cells 1).toList = [.string ⟨#[]⟩, .slice none 0 0] := by kernel_rfl
  refine ⟨(w.setCell ⟨q, o, none⟩ (.string ⟨#[]⟩)).setCell ⟨q, o + 1, none⟩ (.slice none 0 0), fun ty => ?_, (frm_set _ _ _ _).trans (frm_set _ _ _ _), fun hr => ⟨_, (hr.set o _).set (o + 1) _, fun m hm => by rw [if_neg (by omega), if_neg (by omega)]⟩⟩
  simp only [Nat.add_zero] at hst
  simp [Builtin.clear_, run_underlying Try.underlying23, zeroLk, hzc, hst, World.setCells]
theorem run_clearIn (w : World) (q o c : Nat) (v0 : Value) (e0 : w.cell? ⟨q, o, none⟩ = some v0) (z0 : w.frozen? ⟨q, o, none⟩ = false) :
    ∃ w', (∀ ty, (Builtin.clear_ #[52] ty #[.slice (some ⟨q, o, none⟩) 1 c]).run Try.prog w = .ok (.tuple #[]) w') ∧ Frm (· = q) w w' ∧ ∀ {T : TypeId} {M : Nat} {g : Nat → Value}, w.rowIs q T M g → ∃ g', w'.rowIs q T M g' ∧ ∀ m, m < o → g' m = g m := by
  have hst := run_storeCells_cells (P := Try.prog) q o [.int .i64 0] 0 w (fun j hj => by
    simp only [List.length_cons, List.length_nil] at hj
    obtain rfl : j = 0 := by omega
    simp [e0]) (fun j hj => by
    simp only [List.length_cons, List.length_nil] at hj
    obtain rfl : j = 0 := by omega
    simpa using z0) (by intro v hv; simp only [List.mem_cons, List.not_mem_nil, or_false] at hv; rcases hv with rfl; rfl)
  have hzc : (Builtin.zeroCells (Value.int .i64 0).cells 1).toList = [.int .i64 0] := by kernel_rfl
  refine ⟨w.setCell ⟨q, o, none⟩ (.int .i64 0), fun ty => ?_, frm_set _ _ _ _, fun hr => ⟨_, hr.set o _, fun m hm => by rw [if_neg (by omega)]⟩⟩
  simp only [Nat.add_zero] at hst
  simp [Builtin.clear_, run_underlying Try.underlying52, zeroIn, hzc, hst, World.setCells]
def DelK (w : World) (g cap : Nat) (ds : List Value) (m : Nat) (e : Ending) (w' : World) : Prop := ∃ cur : Array Value, e = .returned (.slice (some ⟨g, 0, none⟩) m cap) ∧ w'.heap[g]? = some (.cells cur 54 (0, 0)) ∧ cur.toList.take (m * 2) = ds ∧ cur.size = cap * 2 ∧ Frm (· = g) w w'
set_option maxRecDepth 100000 in
set_option maxHeartbeats 3200000 in
theorem deleteK (m k cap g : Nat) (cur : Array Value) (cs : List Value) (w : World) (hn : m < 1048576) (hk : k ≤ m) (hr : m + 1 ≤ cap) (hcm : cap ≤ maxLen) (hg : w.heap[g]? = some (.cells cur 54 (0, 0))) (hsz : cur.size = cap * 2) (hx : cur.toList.take ((m + 1) * 2) = cs) (hc1 : ∀ u ∈ cs, u.oneCell' = true) :
    Calls Try.prog 61 #[.slice (some ⟨g, 0, none⟩) (m + 1) cap, .int .i64 k, .int .i64 ((k : Int) + 1)] w (DelK w g cap (cs.take (k * 2) ++ cs.drop ((k + 1) * 2)) m) := by
  obtain ⟨i, hi, hz, hs, hby⟩ := infoLk
  have hl : cs.length = (m + 1) * 2 := by rw [← hx, List.length_take, Array.length_toList]; omega
  have hD : (cs.drop ((k + 1) * 2)).length = (m - k) * 2 := by rw [List.length_drop]; omega
  obtain ⟨c1, hc1'⟩ : ∃ c1, c1 = cur.toList.take (k * 2) ++ cs.drop ((k + 1) * 2) ++ cur.toList.drop (k * 2 + (cs.drop ((k + 1) * 2)).length) := ⟨_, rfl⟩
  have hA : (cur.toList.take (k * 2)).length = k * 2 := by rw [List.length_take, Array.length_toList]; omega
  have hcl : c1.length = cap * 2 := by rw [hc1']; simp only [List.length_append, List.length_drop, hA, hl, Array.length_toList, hsz]; omega
  have hct : c1.take (m * 2) = cs.take (k * 2) ++ cs.drop ((k + 1) * 2) := by
    have hL : (cur.toList.take (k * 2) ++ cs.drop ((k + 1) * 2)).length = m * 2 := by simp only [List.length_append, hA, hD]; omega
    rw [hc1', ← hL, List.take_left]
    congr 1
    rw [← hx, List.take_take]
    congr 1
    omega
  have AP : Hid (∀ W : World, (∀ j, W.heap[j]? = w.heap[j]?) → ∀ ty sc, (cap = k + 1 → ∀ a, (Builtin.append_ #[23, 23] ty #[.slice (some ⟨g, 0, none⟩) k cap, .slice (some a) (m - k) sc]).run Try.prog W = .ok (.slice (some ⟨g, 0, none⟩) m cap) (W.setRow g c1.toArray)) ∧
      (Builtin.append_ #[23, 23] ty #[.slice (some ⟨g, 0, none⟩) k cap, .slice (some ⟨g, (k + 1) * 2, none⟩) (m - k) sc]).run Try.prog W = .ok (.slice (some ⟨g, 0, none⟩) m cap) (W.setRow g c1.toArray)) := fun W hW ty sc => by
    have key : ∀ a : Addr, (∀ j u, (cs.drop ((k + 1) * 2))[j]? = some u → W.cell? (a.add j) = some u) → (Builtin.append_ #[23, 23] ty #[.slice (some ⟨g, 0, none⟩) k cap, .slice (some a) (m - k) sc]).run Try.prog W = .ok (.slice (some ⟨g, 0, none⟩) m cap) (W.setRow g c1.toArray) := fun a ha => by
      have h := run_append_room (P := Try.prog) W 23 ty 54 i Try.underlying23 hi g k cap cur (by rw [hW]; exact hg) a (m - k) sc (cs.drop ((k + 1) * 2)) (by rw [hs]; exact hD) ha (fun u hu => hc1 u (List.mem_of_mem_drop hu)) (by omega) (by rw [hs, hD, hsz]; omega)
      rw [hs, ← hc1', show k + (m - k) = m by omega] at h
      exact h
    refine ⟨fun e a => key a (fun j u hj => ?_), key _ (fun j u hj => ?_)⟩
    · rw [List.drop_eq_nil_of_le (by omega)] at hj
      simp at hj
    · rw [Addr.add_mid]
      rw [List.getElem?_drop, ← hx, List.getElem?_take] at hj
      split at hj
      · rw [Array.getElem?_toList] at hj
        simp [World.cell?, hW, hg, hj]
      · cases hj
  have CL : Hid (∀ W : World, (∀ j, W.heap[j]? = (w.setRow g c1.toArray).heap[j]?) → W.os = w.os → W.tape = w.tape → W.output = w.output → ∃ W', (∀ ty, (Builtin.clear_ #[23] ty #[.slice (some ⟨g, m * 2, none⟩) 1 (cap - m)]).run Try.prog W = .ok (.tuple #[]) W') ∧ DelK w g cap (cs.take (k * 2) ++ cs.drop ((k + 1) * 2)) m (.returned (.slice (some ⟨g, 0, none⟩) m cap)) W') := fun W hW h1 h2 h3 => by
    have hh : W.heap[g]? = some (.cells c1.toArray 54 (0, 0)) := by rw [hW]; exact setRow_heap w g cur _ _ _ hg
    have hsize : W.heap.size = w.heap.size := by
      have e : ∀ j, W.heap[j]? = none ↔ w.heap[j]? = none := fun j => by
        rw [hW]
        by_cases e : j = g
        · subst e; rw [setRow_heap w j cur _ _ _ hg, hg]; simp
        · rw [setRow_other _ _ _ _ e]
      have e1 := (e W.heap.size).1 (by simp)
      have e2 := (e w.heap.size).2 (by simp)
      rw [Array.getElem?_eq_none_iff] at e1 e2
      omega
    have hat : ∀ o, o < cap * 2 → ∃ v, W.cell? ⟨g, o, none⟩ = some v ∧ c1[o]? = some v := fun o ho => by
      have : o < c1.length := by omega
      exact ⟨c1[o], by simp [World.cell?, hh, this], List.getElem?_eq_getElem this⟩
    obtain ⟨v0, e0, -⟩ := hat (m * 2) (by omega)
    obtain ⟨v1, e1, -⟩ := hat (m * 2 + 1) (by omega)
    obtain ⟨W', hr', hF, hrow⟩ := run_clearLk W g (m * 2) (cap - m) v0 v1 e0 e1 (by simp [World.frozen?, hh]) (by simp [World.frozen?, hh])
    obtain ⟨g', ⟨cur', q1, q2, q3⟩, hg'⟩ := hrow (T := 54) (M := cap * 2) (g := fun o => c1.getD o undef) ⟨c1.toArray, hh, by simp [hcl], fun o ho => by
      have : o < c1.length := by omega
      show c1.toArray[o]? = some (c1.getD o undef); rw [List.getElem?_toArray, List.getD_eq_getElem?_getD, List.getElem?_eq_getElem this]; rfl⟩
    refine ⟨W', hr', cur', rfl, q1, ?_, q2, ?_⟩
    · rw [← hct]
      refine List.ext_getElem? (fun o => ?_)
      by_cases ho : o < m * 2
      · have : o < c1.length := by omega
        rw [List.getElem?_take_of_lt ho, List.getElem?_take_of_lt ho, Array.getElem?_toList, q3 o (by omega), hg' o ho]
        show some (c1.getD o undef) = _
        rw [List.getD_eq_getElem?_getD, List.getElem?_eq_getElem this]; rfl
      · rw [List.getElem?_eq_none (by rw [List.length_take]; omega), List.getElem?_eq_none (by rw [List.length_take]; omega)]
    · exact ⟨hF.os.trans h1, hF.tape.trans h2, hF.output.trans h3, by rw [← hsize]; exact hF.size, fun b hb hne => by rw [hF.block b (by omega) hne, hW, setRow_other _ _ _ _ hne]⟩
  unfold maxLen at hcm
  have hz1 : ¬ ((k : Int) = (k : Int) + 1) := by omega
  have hk1 : (k : Int) + 1 ≤ (m : Int) + 1 := by omega
  have hk2 : (0 : Int) ≤ (k : Int) + 1 := by omega
  have hk3 : ((k : Int) + 1).toNat = k + 1 := by omega
  have hk4 : (k : Int) ≤ (k : Int) + 1 := by omega
  have hk5 : (m : Int) + 1 ≤ (cap : Int) := by omega
  have hk6 : ((m : Int) + 1).toNat = m + 1 := by omega
  have hk7 : (k : Int) ≤ (cap : Int) := by omega
  have hk8 : ¬ (cap = m) := by omega
  have hk9 : (m : Int) ≤ (m : Int) + 1 := by omega
  have hkm : (k : Int) ≤ (m : Int) := by omega
  clear hi hz hs hby hl hD hc1' hA hcl hct hg hsz hx hc1
  by_cases hcap : cap = k + 1
  · obtain rfl : m = k := by omega
    subst hcap
    have ap : ∀ a, (Builtin.append_ #[23, 23] 23 #[.slice (some ⟨g, 0, none⟩) m (m + 1), .slice (some a) 0 0]).run Try.prog w.drew = .ok (.slice (some ⟨g, 0, none⟩) m (m + 1)) (w.drew.setRow g c1.toArray) := fun a => by
      have h := (AP.out w.drew (fun _ => rfl) 23 0).1 rfl a
      rw [Nat.sub_self] at h
      exact h
    have AP0 := Lib.hid ap
    clear ap
    obtain ⟨W', cl, fin⟩ := CL.out (w.drew.setRow g c1.toArray) (fun _ => rfl) rfl rfl rfl
    rw [show m + 1 - m = 1 by omega] at cl
    have FIN := Lib.hid fin
    clear fin
    go_enter Try.func61, Try.ntmps61
    go_wp2_with fail
    refine wp_region_held_drew (S := (fun _ => True)) (by kernel_rfl) ?_ (fun hHeld => ?_)
    · (trivial)
    refine tkB (i := 0) ?_
    refine tkB (i := 1) ?_
    refine tkB (i := 2) ?_
    refine tkB (i := 3) ?_
    refine tkB (i := 4) ?_
    refine tkB (i := 5) ?_
    refine tkR (i := 6) (fun K hK => ?_)
    refine step_appIs rfl (.tmp 22) (.tmp 25) 23 rfl _ _ (by rfl) (by rfl) _ _ (AP0.out _) ?_
    refine hK.out _ _ ?_ (fun hHeld => ?_)
    · (trivial)
    clear hK K
    try simp only [Act.put, tkS]
    refine tkB (i := 7) ?_
    refine wpAnyH_done (by kernel_rfl) ?_ _
    go_wp2_with fail
    go_ret
    exact FIN.out
  · have ap := (AP.out w.drew (fun _ => rfl) 23 (cap - (k + 1))).2
    have AP0 := Lib.hid ap
    clear ap
    obtain ⟨W', cl, fin⟩ := CL.out (w.drew.setRow g c1.toArray) (fun _ => rfl) rfl rfl rfl
    have FIN := Lib.hid fin
    clear fin
    go_enter Try.func61, Try.ntmps61
    go_wp2_with fail
    refine wp_region_held_drew (S := (fun _ => True)) (by kernel_rfl) ?_ (fun hHeld => ?_)
    · (trivial)
    refine tkB (i := 0) ?_
    refine tkB (i := 1) ?_
    refine tkB (i := 2) ?_
    refine tkB (i := 3) ?_
    refine tkB (i := 4) ?_
    refine tkB (i := 5) ?_
    refine tkR (i := 6) (fun K hK => ?_)
    refine step_appIs rfl (.tmp 22) (.tmp 25) 23 rfl _ _ (by rfl) (by rfl) _ _ AP0.out ?_
    refine hK.out _ _ ?_ (fun hHeld => ?_)
    · (trivial)
    clear hK K
    try simp only [Act.put, tkS]
    refine tkB (i := 7) ?_
    refine wpAnyH_done (by kernel_rfl) ?_ _
    go_wp2_with fail
    go_ret
    exact FIN.out
def DelN (w : World) (g cap : Nat) (ds : List Value) (m : Nat) (e : Ending) (w' : World) : Prop := ∃ cur : Array Value, e = .returned (.slice (some ⟨g, 0, none⟩) m cap) ∧ w'.heap[g]? = some (.cells cur 3 (0, 0)) ∧ cur.toList.take (m) = ds ∧ cur.size = cap ∧ Frm (· = g) w w'
set_option maxRecDepth 100000 in
set_option maxHeartbeats 3200000 in
theorem deleteN (m k cap g : Nat) (cur : Array Value) (cs : List Value) (w : World) (hn : m < 1048576) (hk : k ≤ m) (hr : m + 1 ≤ cap) (hcm : cap ≤ maxLen) (hg : w.heap[g]? = some (.cells cur 3 (0, 0))) (hsz : cur.size = cap) (hx : cur.toList.take ((m + 1)) = cs) (hc1 : ∀ u ∈ cs, u.oneCell' = true) :
    Calls Try.prog 60 #[.slice (some ⟨g, 0, none⟩) (m + 1) cap, .int .i64 k, .int .i64 ((k : Int) + 1)] w (DelN w g cap (cs.take (k) ++ cs.drop ((k + 1))) m) := by
  obtain ⟨i, hi, hz, hs, hby⟩ := infoIn
  have hl : cs.length = (m + 1) := by rw [← hx, List.length_take, Array.length_toList]; omega
  have hD : (cs.drop ((k + 1))).length = (m - k) := by rw [List.length_drop]; omega
  obtain ⟨c1, hc1'⟩ : ∃ c1, c1 = cur.toList.take (k) ++ cs.drop ((k + 1)) ++ cur.toList.drop (k + (cs.drop ((k + 1))).length) := ⟨_, rfl⟩
  have hA : (cur.toList.take (k)).length = k := by rw [List.length_take, Array.length_toList]; omega
  have hcl : c1.length = cap := by rw [hc1']; simp only [List.length_append, List.length_drop, hA, hl, Array.length_toList, hsz]; omega
  have hct : c1.take (m) = cs.take (k) ++ cs.drop ((k + 1)) := by
    have hL : (cur.toList.take (k) ++ cs.drop ((k + 1))).length = m := by simp only [List.length_append, hA, hD]; omega
    rw [hc1', ← hL, List.take_left]
    congr 1
    rw [← hx, List.take_take]
    congr 1
    omega
  have AP : Hid (∀ W : World, (∀ j, W.heap[j]? = w.heap[j]?) → ∀ ty sc, (cap = k + 1 → ∀ a, (Builtin.append_ #[52, 52] ty #[.slice (some ⟨g, 0, none⟩) k cap, .slice (some a) (m - k) sc]).run Try.prog W = .ok (.slice (some ⟨g, 0, none⟩) m cap) (W.setRow g c1.toArray)) ∧
      (Builtin.append_ #[52, 52] ty #[.slice (some ⟨g, 0, none⟩) k cap, .slice (some ⟨g, (k + 1), none⟩) (m - k) sc]).run Try.prog W = .ok (.slice (some ⟨g, 0, none⟩) m cap) (W.setRow g c1.toArray)) := fun W hW ty sc => by
    have key : ∀ a : Addr, (∀ j u, (cs.drop ((k + 1)))[j]? = some u → W.cell? (a.add j) = some u) → (Builtin.append_ #[52, 52] ty #[.slice (some ⟨g, 0, none⟩) k cap, .slice (some a) (m - k) sc]).run Try.prog W = .ok (.slice (some ⟨g, 0, none⟩) m cap) (W.setRow g c1.toArray) := fun a ha => by
      have h := run_append_room (P := Try.prog) W 52 ty 3 i Try.underlying52 hi g k cap cur (by rw [hW]; exact hg) a (m - k) sc (cs.drop ((k + 1))) (by rw [hs, Nat.mul_one]; exact hD) ha (fun u hu => hc1 u (List.mem_of_mem_drop hu)) (by omega) (by rw [hs, hD, hsz]; omega)
      rw [hs, Nat.mul_one, ← hc1', show k + (m - k) = m by omega] at h
      exact h
    refine ⟨fun e a => key a (fun j u hj => ?_), key _ (fun j u hj => ?_)⟩
    · rw [List.drop_eq_nil_of_le (by omega)] at hj
      simp at hj
    · rw [Addr.add_mid]
      rw [List.getElem?_drop, ← hx, List.getElem?_take] at hj
      split at hj
      · rw [Array.getElem?_toList] at hj
        simp [World.cell?, hW, hg, hj]
      · cases hj
  have CL : Hid (∀ W : World, (∀ j, W.heap[j]? = (w.setRow g c1.toArray).heap[j]?) → W.os = w.os → W.tape = w.tape → W.output = w.output → ∃ W', (∀ ty, (Builtin.clear_ #[52] ty #[.slice (some ⟨g, m, none⟩) 1 (cap - m)]).run Try.prog W = .ok (.tuple #[]) W') ∧ DelN w g cap (cs.take (k) ++ cs.drop ((k + 1))) m (.returned (.slice (some ⟨g, 0, none⟩) m cap)) W') := fun W hW h1 h2 h3 => by
    have hh : W.heap[g]? = some (.cells c1.toArray 3 (0, 0)) := by rw [hW]; exact setRow_heap w g cur _ _ _ hg
    have hsize : W.heap.size = w.heap.size := by
      have e : ∀ j, W.heap[j]? = none ↔ w.heap[j]? = none := fun j => by
        rw [hW]
        by_cases e : j = g
        · subst e; rw [setRow_heap w j cur _ _ _ hg, hg]; simp
        · rw [setRow_other _ _ _ _ e]
      have e1 := (e W.heap.size).1 (by simp)
      have e2 := (e w.heap.size).2 (by simp)
      rw [Array.getElem?_eq_none_iff] at e1 e2
      omega
    have hat : ∀ o, o < cap → ∃ v, W.cell? ⟨g, o, none⟩ = some v ∧ c1[o]? = some v := fun o ho => by
      have : o < c1.length := by omega
      exact ⟨c1[o], by simp [World.cell?, hh, this], List.getElem?_eq_getElem this⟩
    obtain ⟨v0, e0, -⟩ := hat (m) (by omega)
    obtain ⟨W', hr', hF, hrow⟩ := run_clearIn W g (m) (cap - m) v0 e0 (by simp [World.frozen?, hh])
    obtain ⟨g', ⟨cur', q1, q2, q3⟩, hg'⟩ := hrow (T := 3) (M := cap) (g := fun o => c1.getD o undef) ⟨c1.toArray, hh, by simp [hcl], fun o ho => by
      have : o < c1.length := by omega
      show c1.toArray[o]? = some (c1.getD o undef); rw [List.getElem?_toArray, List.getD_eq_getElem?_getD, List.getElem?_eq_getElem this]; rfl⟩
    refine ⟨W', hr', cur', rfl, q1, ?_, q2, ?_⟩
    · rw [← hct]
      refine List.ext_getElem? (fun o => ?_)
      by_cases ho : o < m
      · have : o < c1.length := by omega
        rw [List.getElem?_take_of_lt ho, List.getElem?_take_of_lt ho, Array.getElem?_toList, q3 o (by omega), hg' o ho]
        show some (c1.getD o undef) = _
        rw [List.getD_eq_getElem?_getD, List.getElem?_eq_getElem this]; rfl
      · rw [List.getElem?_eq_none (by rw [List.length_take]; omega), List.getElem?_eq_none (by rw [List.length_take]; omega)]
    · exact ⟨hF.os.trans h1, hF.tape.trans h2, hF.output.trans h3, by rw [← hsize]; exact hF.size, fun b hb hne => by rw [hF.block b (by omega) hne, hW, setRow_other _ _ _ _ hne]⟩
  unfold maxLen at hcm
  have hz1 : ¬ ((k : Int) = (k : Int) + 1) := by omega
  have hk1 : (k : Int) + 1 ≤ (m : Int) + 1 := by omega
  have hk2 : (0 : Int) ≤ (k : Int) + 1 := by omega
  have hk3 : ((k : Int) + 1).toNat = k + 1 := by omega
  have hk4 : (k : Int) ≤ (k : Int) + 1 := by omega
  have hk5 : (m : Int) + 1 ≤ (cap : Int) := by omega
  have hk6 : ((m : Int) + 1).toNat = m + 1 := by omega
  have hk7 : (k : Int) ≤ (cap : Int) := by omega
  have hk8 : ¬ (cap = m) := by omega
  have hk9 : (m : Int) ≤ (m : Int) + 1 := by omega
  have hkm : (k : Int) ≤ (m : Int) := by omega
  clear hi hz hs hby hl hD hc1' hA hcl hct hg hsz hx hc1
  by_cases hcap : cap = k + 1
  · obtain rfl : m = k := by omega
    subst hcap
    have ap : ∀ a, (Builtin.append_ #[52, 52] 52 #[.slice (some ⟨g, 0, none⟩) m (m + 1), .slice (some a) 0 0]).run Try.prog w.drew = .ok (.slice (some ⟨g, 0, none⟩) m (m + 1)) (w.drew.setRow g c1.toArray) := fun a => by
      have h := (AP.out w.drew (fun _ => rfl) 52 0).1 rfl a
      rw [Nat.sub_self] at h
      exact h
    have AP0 := Lib.hid ap
    clear ap
    obtain ⟨W', cl, fin⟩ := CL.out (w.drew.setRow g c1.toArray) (fun _ => rfl) rfl rfl rfl
    rw [show m + 1 - m = 1 by omega] at cl
    have FIN := Lib.hid fin
    clear fin
    go_enter Try.func60, Try.ntmps60
    go_wp2_with fail
    refine wp_region_held_drew (S := (fun _ => True)) (by kernel_rfl) ?_ (fun hHeld => ?_)
    · (trivial)
    refine tkB (i := 0) ?_
    refine tkB (i := 1) ?_
    refine tkB (i := 2) ?_
    refine tkB (i := 3) ?_
    refine tkB (i := 4) ?_
    refine tkB (i := 5) ?_
    refine tkR (i := 6) (fun K hK => ?_)
    refine step_appIs rfl (.tmp 22) (.tmp 25) 52 rfl _ _ (by rfl) (by rfl) _ _ (AP0.out _) ?_
    refine hK.out _ _ ?_ (fun hHeld => ?_)
    · (trivial)
    clear hK K
    try simp only [Act.put, tkS]
    refine tkB (i := 7) ?_
    refine wpAnyH_done (by kernel_rfl) ?_ _
    go_wp2_with fail
    go_ret
    exact FIN.out
  · have ap := (AP.out w.drew (fun _ => rfl) 52 (cap - (k + 1))).2
    have AP0 := Lib.hid ap
    clear ap
    obtain ⟨W', cl, fin⟩ := CL.out (w.drew.setRow g c1.toArray) (fun _ => rfl) rfl rfl rfl
    have FIN := Lib.hid fin
    clear fin
    go_enter Try.func60, Try.ntmps60
    go_wp2_with fail
    refine wp_region_held_drew (S := (fun _ => True)) (by kernel_rfl) ?_ (fun hHeld => ?_)
    · (trivial)
    refine tkB (i := 0) ?_
    refine tkB (i := 1) ?_
    refine tkB (i := 2) ?_
    refine tkB (i := 3) ?_
    refine tkB (i := 4) ?_
    refine tkB (i := 5) ?_
    refine tkR (i := 6) (fun K hK => ?_)
    refine step_appIs rfl (.tmp 22) (.tmp 25) 52 rfl _ _ (by rfl) (by rfl) _ _ AP0.out ?_
    refine hK.out _ _ ?_ (fun hHeld => ?_)
    · (trivial)
    clear hK K
    try simp only [Act.put, tkS]
    refine tkB (i := 7) ?_
    refine wpAnyH_done (by kernel_rfl) ?_ _
    go_wp2_with fail
    go_ret
    exact FIN.out
end Go.Proofs.Ythpenliecgpedaa
