import Derived.Test.YtkncpfhblciplaaYav
namespace Go.Proofs.Ytkncpfhblciplaa
open Go.RowKit
set_option linter.unusedSimpArgs false
set_option maxRecDepth 100000 in
set_option maxHeartbeats 3200000 in
theorem insertIn (l : List At) (x : At) (i g cap vb B : Nat) (w : World) (hl : l.length ≤ 1000) (hi : i < l.length) (hr : l.length < cap) (hb : ABuf w B (.slice (some ⟨g, 0, none⟩) l.length cap) l) (ho : OneA w (.slice (some ⟨g, 0, none⟩) l.length cap) vb x) :
    Calls Try.prog 130 #[.slice (some ⟨g, 0, none⟩) l.length cap, .int .i64 i, .slice (some ⟨vb, 0, none⟩) 1 1] w (InsAns w B (.slice (some ⟨g, 0, none⟩) l.length cap) (insA l i x)) := by
  obtain ⟨cur, hg, hbq, hn, hcap, hcs, hxs⟩ : ∃ cur, B ≤ g ∧ w.heap[g]? = some (.cells cur 31 (0, 0)) ∧ l.length ≤ cap ∧ cap ≤ maxLen ∧ cur.size = cap * 3 ∧ cur.toList.take (l.length * 3) = atCs l := by
    rcases hb.2 with ⟨e, -⟩ | ⟨g', cap', cur, e, hg, hbq, hn, hcap, hcs, hxs⟩
    · cases e
    · injection e with e1 e2 e3
      injection e1 with e1
      injection e1 with e1
      subst e1 e3
      exact ⟨cur, hg, hbq, hn, hcap, hcs, hxs⟩
  have hne : vb ≠ g := fun e => ho.2 (by rw [e]; rfl)
  have HOV : Hid (∀ W : World, (∀ k, W.heap[k]? = w.heap[k]?) → ∀ o la ca lb cb, (callFunc 131 #[.slice (some ⟨vb, 0, none⟩) la ca, .slice (some ⟨g, o, none⟩) lb cb]).run Try.prog W = .ok (.value (.bool false)) W) := fun W hW o la ca lb cb =>
    ov_apart (by rw [hW]; exact hbq) (by rw [hW]; exact ho.1) hne (by omega) o la ca lb cb
  have HC1 : Hid (∀ W : World, (∀ k, W.heap[k]? = w.heap[k]?) → ∀ ty dc sc, (Builtin.copy_ #[48, 48] ty #[.slice (some ⟨g, (i + 1) * 3, none⟩) (l.length - i) dc, .slice (some ⟨g, i * 3, none⟩) (l.length + 1 - i) sc]).run Try.prog W =
      .ok (goInt (l.drop i).length) (W.setRow g (cur.toList.take ((i + 1) * 3) ++ atCs (l.drop i) ++ cur.toList.drop ((i + 1) * 3 + (l.drop i).length * 3)).toArray)) := fun W hW ty dc sc =>
    run_copyA W ty g ((i + 1) * 3) (l.length - i) dc ⟨g, i * 3, none⟩ (l.length + 1 - i) sc cur (l.drop i) (by rw [hW]; exact hbq) (by rw [List.length_drop]; simp only [Nat.min_def]; split <;> omega) (news_row (by rw [hW]; exact hbq) hxs i (by omega)) (by rw [List.length_drop, hcs]; omega)
  obtain ⟨c1, hc1⟩ : ∃ c1, c1 = cur.toList.take ((i + 1) * 3) ++ atCs (l.drop i) ++ cur.toList.drop ((i + 1) * 3 + (l.drop i).length * 3) := ⟨_, rfl⟩
  obtain ⟨c2, hc2⟩ : ∃ c2, c2 = c1.take (i * 3) ++ atCs [x] ++ c1.drop (i * 3 + [x].length * 3) := ⟨_, rfl⟩
  have hrow := row_in x hxs (by omega) (by simp [hcs]; omega) c1 c2 hc1 hc2
  have hc1l : c1.length = cap * 3 := by rw [hc1]; simp only [List.length_append, List.length_take, List.length_drop, Array.length_toList, hcs, atCs_len]; omega
  have HC2 : Hid (∀ W : World, (∀ k, W.heap[k]? = (w.setRow g c1.toArray).heap[k]?) → ∀ ty dc, (Builtin.copy_ #[48, 48] ty #[.slice (some ⟨g, i * 3, none⟩) (l.length + 1 - i) dc, .slice (some ⟨vb, 0, none⟩) 1 1]).run Try.prog W =
      .ok (goInt [x].length) (W.setRow g c2.toArray)) := fun W hW ty dc => by
    have h := run_copyA W ty g (i * 3) (l.length + 1 - i) dc ⟨vb, 0, none⟩ 1 1 c1.toArray [x] (by rw [hW]; exact setRow_heap w g cur _ _ _ hbq) (by simp only [Nat.min_def, List.length_singleton]; split <;> omega) (OneA.news (v := .slice none 0 0) ⟨by rw [hW, setRow_other w g vb _ hne]; exact ho.1, by simp [Value.ownBlock]⟩) (by simp; omega)
    rw [h]
    simp only [List.toList_toArray]
    rw [← hc2]
  rw [← hc1] at HC1
  have FIN : Hid (∀ W : World, W.os = w.os → W.tape = w.tape → W.output = w.output → (∀ k, k ≠ g → W.heap[k]? = w.heap[k]?) → W.heap[g]? = some (.cells c2.toArray 31 (0, 0)) → W.heap.size = w.heap.size → InsAns w B (.slice (some ⟨g, 0, none⟩) l.length cap) (insA l i x) (.returned (.slice (some ⟨g, 0, none⟩) (l.length + 1) cap)) W) := fun W h1 h2 h3 h4 h5 h6 => by
    refine ⟨_, rfl, ?_, ⟨h1, h2, h3, by omega, fun k hk hk' => h4 k (fun e => hk' (by rw [e]; rfl)), fun q hq => .inl hq⟩⟩
    unfold ABuf
    rw [insA_len _ _ _ (by omega)]
    refine ⟨by rw [atCs_len, insA_len _ _ _ (by omega)], .inr ⟨g, cap, c2.toArray, rfl, hg, h5, by omega, hcap, ?_, ?_⟩⟩
    · simp [hrow.1, hcs]
    · simpa using hrow.2
  have HW1 : Hid (w.heap[g]? = some (.cells cur 31 (0, 0))) := hbq
  unfold maxLen at hcap
  have hz2 : ¬ ((i : Int) = (l.length : Int)) := by omega
  have hin : i ≤ l.length := by omega
  have hw1 : IntKind.i64.wrap ((i : Int) + 1) = (i : Int) + 1 := by rw [IntKind.wrap_i64]; omega
  have hw2 : IntKind.i64.wrap ((l.length : Int) + 1) = (l.length : Int) + 1 := by rw [IntKind.wrap_i64]; omega
  have hb1 : (0 : Int) ≤ (i : Int) + 1 := by omega
  have htn : ((i : Int) + 1).toNat = i + 1 := by omega
  have htn2 : ((l.length : Int) + 1).toNat = l.length + 1 := by omega
  have hb2 : ¬ (cap = i + 1) := by omega
  have hb3 : (i : Int) ≤ (l.length : Int) + 1 := by omega
  have hb4 : ¬ (cap = i) := by omega
  have hb5 : (l.length : Int) + 1 ≤ (cap : Int) := by omega
  clear hb ho hbq hcs hxs hrow hc1l hc1 hc2 hg hn hne
  go_enter Try.func130, Try.ntmps130
  go_wp2_with (simp only [HOV.out _ (fun _ => rfl)])
  have hcp := HC1.out w.drew (fun _ => rfl) 3 (cap - (i + 1)) (cap - i)
  go_region
  clear hcp
  have hcp2 := HC2.out (w.drew.setRow g c1.toArray) (fun _ => rfl) 3 (cap - i)
  go_wp2_with fail
  go_ret
  refine FIN.out _ rfl rfl rfl (fun k hk => ?_) ?_ ?_
  · rw [setRow_other _ _ _ _ hk, setRow_other _ _ _ _ hk]; rfl
  · exact setRow_heap _ g c1.toArray _ _ _ (setRow_heap _ g cur _ _ _ HW1.out)
  · rw [setRow_size, setRow_size]; rfl
end Go.Proofs.Ytkncpfhblciplaa
