import Derived.Test.YtgiaabgcbpafgaaDDrM
namespace Go.Proofs.Ytgiaabgcbpafgaa
open Go.RowKit
set_option linter.unusedSimpArgs false
theorem sumN_skip (s : Nat → Nat) (k : Nat) : ∀ n, (n ≤ k → sumN n (fun a => s (if a < k then a else a + 1)) ≤ sumN n s) ∧ sumN n (fun a => s (if a < k then a else a + 1)) ≤ sumN (n + 1) s
  | 0 => ⟨fun _ => Nat.le_refl _, by simp [sumN]⟩
  | n + 1 => by
    obtain ⟨h1, h2⟩ := sumN_skip s k n
    simp only [sumN_succ] at h2 ⊢
    by_cases e : n < k
    · rw [if_pos e]
      have := h1 (by omega)
      exact ⟨fun _ => by omega, by omega⟩
    · rw [if_neg e]
      exact ⟨fun h => by omega, by omega⟩
theorem sz_erase {l : List RowV} {k : Nat} (hk : k < l.length) : (dRowS (l.eraseIdx k)).sz ≤ (dRowS l).sz := by
  have hle := List.length_eraseIdx_of_lt hk
  show (Ls 2 dRow (l.eraseIdx k)).sz ≤ (Ls 2 dRow l).sz
  unfold Ls
  simp only [D.sz]
  rw [hle]
  have h1 : sumN (l.length - 1) (fun i => sumN 2 (fun j => (lsF dRow (l.eraseIdx k) i j).sz)) = sumN (l.length - 1) (fun a => (fun i => sumN 2 (fun j => (lsF dRow l i j).sz)) (if a < k then a else a + 1)) := sumN_congr (fun a ha => by
    have hs : (if a < k then a else a + 1) < l.length := by split <;> omega
    simp only []
    rw [lsF_at (by rw [hle]; exact ha), erase_at hk, lsF_at hs])
  have h2 := (sumN_skip (fun i => sumN 2 (fun j => (lsF dRow l i j).sz)) k (l.length - 1)).2
  rw [show l.length - 1 + 1 = l.length by omega] at h2
  have h3 := Nat.le_trans (Nat.le_of_eq h1) h2
  exact Nat.add_le_add (by omega) h3
theorem sz_set {L : List (List RowV)} {i : Nat} {l' : List RowV} (hi : i < L.length) (h : (dRowS l').sz ≤ (dRowS L[i]).sz) : (dRowSS (L.set i l')).sz ≤ (dRowSS L).sz := by
  show (Ls 1 cRowS (L.set i l')).sz ≤ (Ls 1 cRowS L).sz
  unfold Ls
  simp only [D.sz, List.length_set]
  have h1 : sumN L.length (fun a => sumN 1 (fun j => (lsF cRowS (L.set i l') a j).sz)) ≤ sumN L.length (fun a => sumN 1 (fun j => (lsF cRowS L a j).sz)) := sumN_bound (fun a ha => by
    rw [lsF_at (by rw [List.length_set]; exact ha), lsF_at ha]
    by_cases e : a = i
    · subst e
      rw [List.getElem_set_self]
      simpa [sumN, cRowS] using h
    · rw [List.getElem_set_ne (by omega)]
      exact Nat.le_refl _)
  omega
theorem le_erase {K : Nat} {l : List RowV} {k : Nat} (hk : k < l.length) (h : (dRowS l).le K) : (dRowS (l.eraseIdx k)).le K := by
  have hle := List.length_eraseIdx_of_lt hk
  obtain ⟨h0, h1, h2⟩ := Ls_le.1 h
  refine Ls_le.2 ⟨h0, by omega, fun a ha j hj => ?_⟩
  rw [erase_at hk]
  exact h2 _ _ j hj
theorem le_set {K : Nat} {L : List (List RowV)} {i : Nat} {l' : List RowV} (hl : (dRowS l').le K) (h : (dRowSS L).le K) : (dRowSS (L.set i l')).le K := by
  obtain ⟨h0, h1, h2⟩ := Ls_le.1 h
  refine Ls_le.2 ⟨h0, by rw [List.length_set]; exact h1, fun a ha j hj => ?_⟩
  have ha' : a < L.length := by rw [List.length_set] at ha; exact ha
  by_cases e : a = i
  · subst e
    rw [List.getElem_set_self]
    exact hl
  · rw [List.getElem_set_ne (by omega)]
    exact h2 a ha' j hj
theorem stZ_le : (∀ j, j < 2 → (dStore stZ j).le maxLen) ∧ (dRowSS stZ.tables).sz ≤ 100000000 := ⟨fun j hj => by
    rcases (by omega : j = 0 ∨ j = 1) with rfl | rfl
    · exact Ls_le.2 ⟨by omega, by simp [stZ], fun i h => absurd h (by simp [stZ])⟩
    · exact (by decide : (Lit.int .i64 0).wf = true), by simp [dRowSS, Ls_sz, stZ, szL_zero]⟩
theorem drop_le {x : StV} (t id : Int) (h : (dRowSS x.tables).le maxLen) (hn : (D.i x.next).le 1048576) (hz : (dRowSS x.tables).sz ≤ 1048576) : (∀ j, j < 2 → (dStore (dropP x t id).2 j).le maxLen) ∧ (dRowSS (dropP x t id).2.tables).sz ≤ 100000000 := by
  have two : ∀ y : StV, (dRowSS y.tables).le maxLen → y.next = x.next → ∀ j, j < 2 → (dStore y j).le maxLen := fun y hy he j hj => by
    rcases (by omega : j = 0 ∨ j = 1) with rfl | rfl
    · exact hy
    · show (D.i y.next).le maxLen
      rw [he]; exact hn
  unfold dropP
  split
  · split
    · rename_i ht
      have hi : t.toNat < x.tables.length := by omega
      rw [getD_tab hi]
      split
      · exact ⟨two x h rfl, by show (dRowSS x.tables).sz ≤ _; omega⟩
      · rename_i hp
        rcases rpl_cases x.tables[t.toNat] id with ⟨e, -⟩ | ⟨k, hk, e, -, -⟩
        · omega
        · rw [e, Int.toNat_natCast]
          have hl : (dRowS x.tables[t.toNat]).le maxLen := (Ls_le.1 h).2.2 _ hi 0 (by omega)
          refine ⟨two _ (le_set (le_erase hk hl) h) rfl, ?_⟩
          have h1 := sz_set hi (sz_erase hk)
          show (dRowSS (x.tables.set t.toNat (x.tables[t.toNat].eraseIdx k))).sz ≤ _
          omega
    · exact stZ_le
  · exact stZ_le
end Go.Proofs.Ytgiaabgcbpafgaa
