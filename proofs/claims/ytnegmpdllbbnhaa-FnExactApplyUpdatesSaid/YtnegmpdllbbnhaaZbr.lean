import Derived.Test.YtnegmpdllbbnhaaZat
namespace Go.Proofs.Ytnegmpdllbbnhaa
open Go.RowKit
set_option linter.unusedSimpArgs false
theorem sumN_skip (s : Nat → Nat) (k : Nat) : ∀ n, (n ≤ k → sumN n (fun a => s (if a < k then a else a + 1)) ≤ sumN n s) ∧ sumN n (fun a => s (if a < k then a else a + 1)) ≤ sumN (n + 1) s
  | 0 => ⟨fun _ => Nat.le_refl _, by simp [sumN]⟩
  | n + 1 => by
    obtain ⟨h1, h2⟩ := sumN_skip s k n
    simp only [sumN_succ] at h2 ⊢
    by_cases e : n < k
    · rw [if_pos e]
      have := h1 (by omega)
      exact ⟨fun _ => by omega, by omega⟩
    · rw [if_neg e]
      exact ⟨fun h => by omega, by omega⟩
theorem sz_erase {l : List RowV} {k : Nat} (hk : k < l.length) : (dRowS (l.eraseIdx k)).sz ≤ (dRowS l).sz := by
  have hle := List.length_eraseIdx_of_lt hk
  show (Ls 2 dRow (l.eraseIdx k)).sz ≤ (Ls 2 dRow l).sz
  unfold Ls
  simp only [D.sz]
  rw [hle]
  have h1 : sumN (l.length - 1) (fun i => sumN 2 (fun j => (lsF dRow (l.eraseIdx k) i j).sz)) = sumN (l.length - 1) (fun a => (fun i => sumN 2 (fun j => (lsF dRow l i j).sz)) (if a < k then a else a + 1)) := sumN_congr (fun a ha => by
    have hs : (if a < k then a else a + 1) < l.length := by split <;> omega
    simp only []
    rw [lsF_at (by rw [hle]; exact ha), erase_at hk, lsF_at hs])
  have h2 := (sumN_skip (fun i => sumN 2 (fun j => (lsF dRow l i j).sz)) k (l.length - 1)).2
  rw [show l.length - 1 + 1 = l.length by omega] at h2
  have h3 := Nat.le_trans (Nat.le_of_eq h1) h2
  exact Nat.add_le_add (by omega) h3
end Go.Proofs.Ytnegmpdllbbnhaa
