import Derived.Test.YtnkgojjgiemgmaaZap
import Derived.Test.YtnkgojjgiemgmaaZal
import Derived.Deep.RegionHeld3
import Derived.Test.YtnkgojjgiemgmaaZan
import Derived.Test.YtnkgojjgiemgmaaZaw
import Derived.Test.YtnkgojjgiemgmaaZax
import Derived.Test.YtnkgojjgiemgmaaZbc
import Derived.Test.YtnkgojjgiemgmaaZaq
namespace Go.Proofs.Ytnkgojjgiemgmaa
open Go.RowKit
set_option linter.unusedSimpArgs false
theorem sumN_cons (f : Nat → Nat) : ∀ n, sumN (n + 1) f = f 0 + sumN n (fun i => f (i + 1))
  | 0 => by simp [sumN]
  | n + 1 => by
    rw [sumN_succ, sumN_cons f n, sumN_succ]
    omega
theorem szL_list {α : Type} {n : Nat} {d : α → Nat → D} : ∀ l : List α, szL n d l l.length = (l.map (fun x => szT n (d x))).sum
  | [] => rfl
  | x :: l => by
    have ih := szL_list (n := n) (d := d) l
    unfold szL at ih ⊢
    rw [List.length_cons, sumN_cons]
    simp only [List.map_cons, List.sum_cons]
    rw [← ih]
    rfl
theorem sz_list {α : Type} {n : Nat} {d : α → Nat → D} (l : List α) : (Ls n d l).sz = l.length + (l.map (fun x => szT n (d x))).sum := by
  rw [Ls_sz, szL_list]
end Go.Proofs.Ytnkgojjgiemgmaa
