import Derived.Test.YtnegmpdllbbnhaaZbr
import Derived.Test.YtnegmpdllbbnhaaZbc
import Derived.Test.YtnegmpdllbbnhaaZak
import Derived.Test.YtnegmpdllbbnhaaZan
import Derived.Test.YtnegmpdllbbnhaaZas
import Derived.Test.YtnegmpdllbbnhaaZai
import Derived.Maps.OwnSet
import Derived.Maps.OwnOps
import Derived.Maps.Views
import Derived.Deep.RegionHeld3
import Derived.Test.YtnegmpdllbbnhaaZal
namespace Go.Proofs.Ytnegmpdllbbnhaa
open Go.RowKit
set_option linter.unusedSimpArgs false
theorem sumN_cons (f : Nat → Nat) : ∀ n, sumN (n + 1) f = f 0 + sumN n (fun i => f (i + 1))
  | 0 => by simp [sumN]
  | n + 1 => by
    rw [sumN_succ, sumN_cons f n, sumN_succ]
    omega
theorem szL_list {α : Type} {n : Nat} {d : α → Nat → D} : ∀ l : List α, szL n d l l.length = (l.map (fun x => szT n (d x))).sum
  | [] => rfl
  | x :: l => by
    have ih := szL_list (n := n) (d := d) l
    unfold szL at ih ⊢
    rw [List.length_cons, sumN_cons]
    simp only [List.map_cons, List.sum_cons]
    rw [← ih]
    rfl
theorem sz_list {α : Type} {n : Nat} {d : α → Nat → D} (l : List α) : (Ls n d l).sz = l.length + (l.map (fun x => szT n (d x))).sum := by
  rw [Ls_sz, szL_list]
theorem put_sum (s : RowV → Nat) (r : RowV) : ∀ l : List RowV, ((putL l r).map s).sum ≤ (l.map s).sum + s r ∧ (putL l r).length ≤ l.length + 1
  | [] => by simp [putL]
  | y :: l => by
    obtain ⟨h1, h2⟩ := put_sum s r l
    unfold putL
    split
    · simp only [List.map_cons, List.sum_cons, List.length_cons]; omega
    · split
      · simp only [List.map_cons, List.sum_cons, List.length_cons]; omega
      · simp only [List.map_cons, List.sum_cons, List.length_cons]; omega
end Go.Proofs.Ytnegmpdllbbnhaa
