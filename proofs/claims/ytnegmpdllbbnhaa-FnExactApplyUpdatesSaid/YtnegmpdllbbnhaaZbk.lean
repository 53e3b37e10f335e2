import Derived.Test.YtnegmpdllbbnhaaZbj
import Derived.Test.YtnegmpdllbbnhaaZan
import Derived.Deep.RegionHeld3
import Derived.Test.YtnegmpdllbbnhaaZTk
namespace Go.Proofs.Ytnegmpdllbbnhaa
open Go.RowKit
set_option linter.unusedSimpArgs false
def DelR (w : World) (g cap : Nat) (ds : List Value) (m : Nat) (e : Ending) (w' : World) : Prop := ∃ cur : Array Value, e = .returned (.slice (some ⟨g, 0, none⟩) m cap) ∧ w'.heap[g]? = some (.cells cur 51 (0, 0)) ∧ cur.toList.take (m * 2) = ds ∧ cur.size = cap * 2 ∧ Frm (· = g) w w'
set_option maxRecDepth 100000 in
set_option maxHeartbeats 3200000 in
theorem deleteR (m k cap g : Nat) (cur : Array Value) (cs : List Value) (w : World) (hn : m < 1048576) (hk : k ≤ m) (hr : m + 1 ≤ cap) (hcm : cap ≤ maxLen) (hg : w.heap[g]? = some (.cells cur 51 (0, 0))) (hsz : cur.size = cap * 2) (hx : cur.toList.take ((m + 1) * 2) = cs) (hc1 : ∀ u ∈ cs, u.oneCell' = true) :
    Calls Try.prog 45 #[.slice (some ⟨g, 0, none⟩) (m + 1) cap, .int .i64 k, .int .i64 ((k : Int) + 1)] w (DelR w g cap (cs.take (k * 2) ++ cs.drop ((k + 1) * 2)) m) := by
  obtain ⟨i, hi, hz, hs, hby⟩ := infoRow2
  have hl : cs.length = (m + 1) * 2 := by rw [← hx, List.length_take, Array.length_toList]; omega
  have hD : (cs.drop ((k + 1) * 2)).length = (m - k) * 2 := by rw [List.length_drop]; omega
  obtain ⟨c1, hc1'⟩ : ∃ c1, c1 = cur.toList.take (k * 2) ++ cs.drop ((k + 1) * 2) ++ cur.toList.drop (k * 2 + (cs.drop ((k + 1) * 2)).length) := ⟨_, rfl⟩
  have hA : (cur.toList.take (k * 2)).length = k * 2 := by rw [List.length_take, Array.length_toList]; omega
  have hcl : c1.length = cap * 2 := by rw [hc1']; simp only [List.length_append, List.length_drop, hA, hl, Array.length_toList, hsz]; omega
  have hct : c1.take (m * 2) = cs.take (k * 2) ++ cs.drop ((k + 1) * 2) := by
    have hL : (cur.toList.take (k * 2) ++ cs.drop ((k + 1) * 2)).length = m * 2 := by simp only [List.length_append, hA, hD]; omega
    rw [hc1', ← hL, List.take_left]
    congr 1
    rw [← hx, List.take_take]
    congr 1
    omega
  have AP : Hid (∀ W : World, (∀ j, W.heap[j]? = w.heap[j]?) → ∀ ty sc, (cap = k + 1 → ∀ a, (Builtin.append_ #[26, 26] ty #[.slice (some ⟨g, 0, none⟩) k cap, .slice (some a) (m - k) sc]).run Try.prog W = .ok (.slice (some ⟨g, 0, none⟩) m cap) (W.setRow g c1.toArray)) ∧
      (Builtin.append_ #[26, 26] ty #[.slice (some ⟨g, 0, none⟩) k cap, .slice (some ⟨g, (k + 1) * 2, none⟩) (m - k) sc]).run Try.prog W = .ok (.slice (some ⟨g, 0, none⟩) m cap) (W.setRow g c1.toArray)) := fun W hW ty sc => by
    have key : ∀ a : Addr, (∀ j u, (cs.drop ((k + 1) * 2))[j]? = some u → W.cell? (a.add j) = some u) → (Builtin.append_ #[26, 26] ty #[.slice (some ⟨g, 0, none⟩) k cap, .slice (some a) (m - k) sc]).run Try.prog W = .ok (.slice (some ⟨g, 0, none⟩) m cap) (W.setRow g c1.toArray) := fun a ha => by
      have h := run_append_room (P := Try.prog) W 26 ty 51 i Try.underlying26 hi g k cap cur (by rw [hW]; exact hg) a (m - k) sc (cs.drop ((k + 1) * 2)) (by rw [hs]; exact hD) ha (fun u hu => hc1 u (List.mem_of_mem_drop hu)) (by omega) (by rw [hs, hD, hsz]; omega)
      rw [hs, ← hc1', show k + (m - k) = m by omega] at h
      exact h
    refine ⟨fun e a => key a (fun j u hj => ?_), key _ (fun j u hj => ?_)⟩
    · rw [List.drop_eq_nil_of_le (by omega)] at hj
      simp at hj
    · rw [Addr.add_mid]
      rw [List.getElem?_drop, ← hx, List.getElem?_take] at hj
      split at hj
      · rw [Array.getElem?_toList] at hj
        simp [World.cell?, hW, hg, hj]
      · cases hj
  have CL : Hid (∀ W : World, (∀ j, W.heap[j]? = (w.setRow g c1.toArray).heap[j]?) → W.os = w.os → W.tape = w.tape → W.output = w.output → ∃ W', (∀ ty, (Builtin.clear_ #[26] ty #[.slice (some ⟨g, m * 2, none⟩) 1 (cap - m)]).run Try.prog W = .ok (.tuple #[]) W') ∧ DelR w g cap (cs.take (k * 2) ++ cs.drop ((k + 1) * 2)) m (.returned (.slice (some ⟨g, 0, none⟩) m cap)) W') := fun W hW h1 h2 h3 => by
    have hh : W.heap[g]? = some (.cells c1.toArray 51 (0, 0)) := by rw [hW]; exact setRow_heap w g cur _ _ _ hg
    have hsize : W.heap.size = w.heap.size := by
      have e : ∀ j, W.heap[j]? = none ↔ w.heap[j]? = none := fun j => by
        rw [hW]
        by_cases e : j = g
        · subst e; rw [setRow_heap w j cur _ _ _ hg, hg]; simp
        · rw [setRow_other _ _ _ _ e]
      have e1 := (e W.heap.size).1 (by simp)
      have e2 := (e w.heap.size).2 (by simp)
      rw [Array.getElem?_eq_none_iff] at e1 e2
      omega
    have hat : ∀ o, o < cap * 2 → ∃ v, W.cell? ⟨g, o, none⟩ = some v ∧ c1[o]? = some v := fun o ho => by
      have : o < c1.length := by omega
      exact ⟨c1[o], by simp [World.cell?, hh, this], List.getElem?_eq_getElem this⟩
    obtain ⟨v0, e0, -⟩ := hat (m * 2) (by omega)
    obtain ⟨v1, e1, -⟩ := hat (m * 2 + 1) (by omega)
    obtain ⟨W', hr', hF, hrow⟩ := run_clearRow W g (m * 2) (cap - m) v0 v1 e0 e1 (by simp [World.frozen?, hh]) (by simp [World.frozen?, hh])
    obtain ⟨g', ⟨cur', q1, q2, q3⟩, hg'⟩ := hrow (T := 51) (M := cap * 2) (g := fun o => c1.getD o undef) ⟨c1.toArray, hh, by simp [hcl], fun o ho => by
      have : o < c1.length := by omega
      show c1.toArray[o]? = some (c1.getD o undef); rw [List.getElem?_toArray, List.getD_eq_getElem?_getD, List.getElem?_eq_getElem this]; rfl⟩
    refine ⟨W', hr', cur', rfl, q1, ?_, q2, ?_⟩
    · rw [← hct]
      refine List.ext_getElem? (fun o => ?_)
      by_cases ho : o < m * 2
      · have : o < c1.length := by omega
        rw [List.getElem?_take_of_lt ho, List.getElem?_take_of_lt ho, Array.getElem?_toList, q3 o (by omega), hg' o ho]
        show some (c1.getD o undef) = _
        rw [List.getD_eq_getElem?_getD, List.getElem?_eq_getElem this]; rfl
      · rw [List.getElem?_eq_none (by rw [List.length_take]; omega), List.getElem?_eq_none (by rw [List.length_take]; omega)]
    · exact ⟨hF.os.trans h1, hF.tape.trans h2, hF.output.trans h3, by rw [← hsize]; exact hF.size, fun b hb hne => by rw [hF.block b (by omega) hne, hW, setRow_other _ _ _ _ hne]⟩
  unfold maxLen at hcm
  have hz1 : ¬ ((k : Int) = (k : Int) + 1) := by omega
  have hk1 : (k : Int) + 1 ≤ (m : Int) + 1 := by omega
  have hk2 : (0 : Int) ≤ (k : Int) + 1 := by omega
  have hk3 : ((k : Int) + 1).toNat = k + 1 := by omega
  have hk4 : (k : Int) ≤ (k : Int) + 1 := by omega
  have hk5 : (m : Int) + 1 ≤ (cap : Int) := by omega
  have hk6 : ((m : Int) + 1).toNat = m + 1 := by omega
  have hk7 : (k : Int) ≤ (cap : Int) := by omega
  have hk8 : ¬ (cap = m) := by omega
  have hk9 : (m : Int) ≤ (m : Int) + 1 := by omega
  have hkm : (k : Int) ≤ (m : Int) := by omega
  clear hi hz hs hby hl hD hc1' hA hcl hct hg hsz hx hc1
  by_cases hcap : cap = k + 1
  · obtain rfl : m = k := by omega
    subst hcap
    have ap : ∀ a, (Builtin.append_ #[26, 26] 26 #[.slice (some ⟨g, 0, none⟩) m (m + 1), .slice (some a) 0 0]).run Try.prog w.drew = .ok (.slice (some ⟨g, 0, none⟩) m (m + 1)) (w.drew.setRow g c1.toArray) := fun a => by
      have h := (AP.out w.drew (fun _ => rfl) 26 0).1 rfl a
      rw [Nat.sub_self] at h
      exact h
    have AP0 := Lib.hid ap
    clear ap
    obtain ⟨W', cl, fin⟩ := CL.out (w.drew.setRow g c1.toArray) (fun _ => rfl) rfl rfl rfl
    rw [show m + 1 - m = 1 by omega] at cl
    have FIN := Lib.hid fin
    clear fin
    go_enter Try.func45, Try.ntmps45
    go_wp2_with fail
    refine wp_region_held_drew (S := (fun _ => True)) (by kernel_rfl) ?_ (fun hHeld => ?_)
    · (trivial)
    refine wpAnyH_take (i := 0) (v := ?_) rfl (by kernel_rfl) (by kernel_rfl) (by kernel_rfl) (fun _ _ _ h => h) (Or.inl ⟨by kernel_rfl, ?_⟩) (by assumption) ?_
    rotate_left
    · (intro wS hSw; (try dsimp only at hSw); go_simp <;> with_reducible rfl)
    try simp only [Act.put, tkS]
    refine wpAnyH_take (i := 1) (v := ?_) rfl (by kernel_rfl) (by kernel_rfl) (by kernel_rfl) (fun _ _ _ h => h) (Or.inl ⟨by kernel_rfl, ?_⟩) (by assumption) ?_
    rotate_left
    · (intro wS hSw; (try dsimp only at hSw); go_simp <;> with_reducible rfl)
    try simp only [Act.put, tkS]
    refine wpAnyH_take (i := 2) (v := ?_) rfl (by kernel_rfl) (by kernel_rfl) (by kernel_rfl) (fun _ _ _ h => h) (Or.inl ⟨by kernel_rfl, ?_⟩) (by assumption) ?_
    rotate_left
    · (intro wS hSw; (try dsimp only at hSw); go_simp <;> with_reducible rfl)
    try simp only [Act.put, tkS]
    refine wpAnyH_take (i := 3) (v := ?_) rfl (by kernel_rfl) (by kernel_rfl) (by kernel_rfl) (fun _ _ _ h => h) (Or.inl ⟨by kernel_rfl, ?_⟩) (by assumption) ?_
    rotate_left
    · (intro wS hSw; (try dsimp only at hSw); go_simp <;> with_reducible rfl)
    try simp only [Act.put, tkS]
    refine wpAnyH_take (i := 4) (v := ?_) rfl (by kernel_rfl) (by kernel_rfl) (by kernel_rfl) (fun _ _ _ h => h) (Or.inl ⟨by kernel_rfl, ?_⟩) (by assumption) ?_
    rotate_left
    · (intro wS hSw; (try dsimp only at hSw); go_simp <;> with_reducible rfl)
    try simp only [Act.put, tkS]
    refine wpAnyH_take (i := 5) (v := ?_) rfl (by kernel_rfl) (by kernel_rfl) (by kernel_rfl) (fun _ _ _ h => h) (Or.inl ⟨by kernel_rfl, ?_⟩) (by assumption) ?_
    rotate_left
    · (intro wS hSw; (try dsimp only at hSw); go_simp <;> with_reducible rfl)
    try simp only [Act.put, tkS]
    refine wpAnyH_ready (rs := [6]) (by kernel_rfl) (by simp) (AllReadyH.cons rfl (fun K hK => ?_) AllReadyH.nil)
    refine step_append_is rfl (.tmp 22) (.tmp 25) 26 rfl _ _ (by rfl) (by rfl) _ _ (AP0.out _) ?_
    refine hK.out _ _ ?_ (fun hHeld => ?_)
    · (trivial)
    clear hK K
    try simp only [Act.put, tkS]
    refine wpAnyH_take (i := 7) (v := ?_) rfl (by kernel_rfl) (by kernel_rfl) (by kernel_rfl) (fun _ _ _ h => h) (Or.inl ⟨by kernel_rfl, ?_⟩) (by assumption) ?_
    rotate_left
    · (intro wS hSw; (try dsimp only at hSw); go_simp <;> with_reducible rfl)
    try simp only [Act.put, tkS]
    refine wpAnyH_done (by kernel_rfl) ?_ _
    go_wp2_with fail
    go_ret
    exact FIN.out
  · have ap := (AP.out w.drew (fun _ => rfl) 26 (cap - (k + 1))).2
    have AP0 := Lib.hid ap
    clear ap
    obtain ⟨W', cl, fin⟩ := CL.out (w.drew.setRow g c1.toArray) (fun _ => rfl) rfl rfl rfl
    have FIN := Lib.hid fin
    clear fin
    go_enter Try.func45, Try.ntmps45
    go_wp2_with fail
    refine wp_region_held_drew (S := (fun _ => True)) (by kernel_rfl) ?_ (fun hHeld => ?_)
    · (trivial)
    refine wpAnyH_take (i := 0) (v := ?_) rfl (by kernel_rfl) (by kernel_rfl) (by kernel_rfl) (fun _ _ _ h => h) (Or.inl ⟨by kernel_rfl, ?_⟩) (by assumption) ?_
    rotate_left
    · (intro wS hSw; (try dsimp only at hSw); go_simp <;> with_reducible rfl)
    try simp only [Act.put, tkS]
    refine wpAnyH_take (i := 1) (v := ?_) rfl (by kernel_rfl) (by kernel_rfl) (by kernel_rfl) (fun _ _ _ h => h) (Or.inl ⟨by kernel_rfl, ?_⟩) (by assumption) ?_
    rotate_left
    · (intro wS hSw; (try dsimp only at hSw); go_simp <;> with_reducible rfl)
    try simp only [Act.put, tkS]
    refine wpAnyH_take (i := 2) (v := ?_) rfl (by kernel_rfl) (by kernel_rfl) (by kernel_rfl) (fun _ _ _ h => h) (Or.inl ⟨by kernel_rfl, ?_⟩) (by assumption) ?_
    rotate_left
    · (intro wS hSw; (try dsimp only at hSw); go_simp <;> with_reducible rfl)
    try simp only [Act.put, tkS]
    refine wpAnyH_take (i := 3) (v := ?_) rfl (by kernel_rfl) (by kernel_rfl) (by kernel_rfl) (fun _ _ _ h => h) (Or.inl ⟨by kernel_rfl, ?_⟩) (by assumption) ?_
    rotate_left
    · (intro wS hSw; (try dsimp only at hSw); go_simp <;> with_reducible rfl)
    try simp only [Act.put, tkS]
    refine wpAnyH_take (i := 4) (v := ?_) rfl (by kernel_rfl) (by kernel_rfl) (by kernel_rfl) (fun _ _ _ h => h) (Or.inl ⟨by kernel_rfl, ?_⟩) (by assumption) ?_
    rotate_left
    · (intro wS hSw; (try dsimp only at hSw); go_simp <;> with_reducible rfl)
    try simp only [Act.put, tkS]
    refine wpAnyH_take (i := 5) (v := ?_) rfl (by kernel_rfl) (by kernel_rfl) (by kernel_rfl) (fun _ _ _ h => h) (Or.inl ⟨by kernel_rfl, ?_⟩) (by assumption) ?_
    rotate_left
    · (intro wS hSw; (try dsimp only at hSw); go_simp <;> with_reducible rfl)
    try simp only [Act.put, tkS]
    refine wpAnyH_ready (rs := [6]) (by kernel_rfl) (by simp) (AllReadyH.cons rfl (fun K hK => ?_) AllReadyH.nil)
    refine step_append_is rfl (.tmp 22) (.tmp 25) 26 rfl _ _ (by rfl) (by rfl) _ _ AP0.out ?_
    refine hK.out _ _ ?_ (fun hHeld => ?_)
    · (trivial)
    clear hK K
    try simp only [Act.put, tkS]
    refine wpAnyH_take (i := 7) (v := ?_) rfl (by kernel_rfl) (by kernel_rfl) (by kernel_rfl) (fun _ _ _ h => h) (Or.inl ⟨by kernel_rfl, ?_⟩) (by assumption) ?_
    rotate_left
    · (intro wS hSw; (try dsimp only at hSw); go_simp <;> with_reducible rfl)
    try simp only [Act.put, tkS]
    refine wpAnyH_done (by kernel_rfl) ?_ _
    go_wp2_with fail
    go_ret
    exact FIN.out
end Go.Proofs.Ytnegmpdllbbnhaa
