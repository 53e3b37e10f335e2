import Derived.Test.YtdhlndpobpdfmaaZat
import Derived.Test.YtdhlndpobpdfmaaZba
import Derived.Test.YtdhlndpobpdfmaaZak
import Derived.Test.YtdhlndpobpdfmaaZan
import Derived.Test.YtdhlndpobpdfmaaZas
import Derived.Test.YtdhlndpobpdfmaaZai
import Derived.Maps.OwnSet
import Derived.Maps.OwnOps
import Derived.Maps.Views
import Derived.Deep.RegionHeld3
import Derived.Test.YtdhlndpobpdfmaaZal
namespace Go.Proofs.Ytdhlndpobpdfmaa
open Go.RowKit
set_option linter.unusedSimpArgs false
theorem sumN_skip (s : Nat → Nat) (k : Nat) : ∀ n, (n ≤ k → sumN n (fun a => s (if a < k then a else a + 1)) ≤ sumN n s) ∧ sumN n (fun a => s (if a < k then a else a + 1)) ≤ sumN (n + 1) s
  | 0 => ⟨fun _ => Nat.le_refl _, by simp [sumN]⟩
  | n + 1 => by
    obtain ⟨h1, h2⟩ := sumN_skip s k n
    simp only [sumN_succ] at h2 ⊢
    by_cases e : n < k
    · rw [if_pos e]
      have := h1 (by omega)
      exact ⟨fun _ => by omega, by omega⟩
    · rw [if_neg e]
      exact ⟨fun h => by omega, by omega⟩
theorem sz_erase {l : List RowV} {k : Nat} (hk : k < l.length) : (dRowS (l.eraseIdx k)).sz ≤ (dRowS l).sz := by
  have hle := List.length_eraseIdx_of_lt hk
  show (Ls 2 dRow (l.eraseIdx k)).sz ≤ (Ls 2 dRow l).sz
  unfold Ls
  simp only [D.sz]
  rw [hle]
  have h1 : sumN (l.length - 1) (fun i => sumN 2 (fun j => (lsF dRow (l.eraseIdx k) i j).sz)) = sumN (l.length - 1) (fun a => (fun i => sumN 2 (fun j => (lsF dRow l i j).sz)) (if a < k then a else a + 1)) := sumN_congr (fun a ha => by
    have hs : (if a < k then a else a + 1) < l.length := by split <;> omega
    simp only []
    rw [lsF_at (by rw [hle]; exact ha), erase_at hk, lsF_at hs])
  have h2 := (sumN_skip (fun i => sumN 2 (fun j => (lsF dRow l i j).sz)) k (l.length - 1)).2
  rw [show l.length - 1 + 1 = l.length by omega] at h2
  have h3 := Nat.le_trans (Nat.le_of_eq h1) h2
  exact Nat.add_le_add (by omega) h3
theorem stZ_le : (∀ j, j < 2 → (dStore stZ j).le maxLen) ∧ (dRowSS stZ.tables).sz ≤ 100000000 := ⟨fun j hj => by
    rcases (by omega : j = 0 ∨ j = 1) with rfl | rfl
    · exact Ls_le.2 ⟨by omega, by simp [stZ], fun i h => absurd h (by simp [stZ])⟩
    · exact (by decide : (Lit.int .i64 0).wf = true), by simp [dRowSS, Ls_sz, stZ, szL_zero]⟩
end Go.Proofs.Ytdhlndpobpdfmaa
namespace Go.Proofs.Ytdhlndpobpdfmaa
open Go.RowKit
set_option linter.unusedSimpArgs false
theorem sumN_cons (f : Nat → Nat) : ∀ n, sumN (n + 1) f = f 0 + sumN n (fun i => f (i + 1))
  | 0 => by simp [sumN]
  | n + 1 => by
    rw [sumN_succ, sumN_cons f n, sumN_succ]
    omega
theorem szL_list {α : Type} {n : Nat} {d : α → Nat → D} : ∀ l : List α, szL n d l l.length = (l.map (fun x => szT n (d x))).sum
  | [] => rfl
  | x :: l => by
    have ih := szL_list (n := n) (d := d) l
    unfold szL at ih ⊢
    rw [List.length_cons, sumN_cons]
    simp only [List.map_cons, List.sum_cons]
    rw [← ih]
    rfl
theorem sz_list {α : Type} {n : Nat} {d : α → Nat → D} (l : List α) : (Ls n d l).sz = l.length + (l.map (fun x => szT n (d x))).sum := by
  rw [Ls_sz, szL_list]
theorem put_sum (s : RowV → Nat) (r : RowV) : ∀ l : List RowV, ((putL l r).map s).sum ≤ (l.map s).sum + s r ∧ (putL l r).length ≤ l.length + 1
  | [] => by simp [putL]
  | y :: l => by
    obtain ⟨h1, h2⟩ := put_sum s r l
    unfold putL
    split
    · simp only [List.map_cons, List.sum_cons, List.length_cons]; omega
    · split
      · simp only [List.map_cons, List.sum_cons, List.length_cons]; omega
      · simp only [List.map_cons, List.sum_cons, List.length_cons]; omega
end Go.Proofs.Ytdhlndpobpdfmaa
