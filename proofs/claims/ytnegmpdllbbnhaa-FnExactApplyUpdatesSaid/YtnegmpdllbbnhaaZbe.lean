import Derived.Test.YtnegmpdllbbnhaaZaz
import Derived.Test.YtnegmpdllbbnhaaZbc
import Derived.Test.YtnegmpdllbbnhaaZbd
import Derived.Deep.CutRange
namespace Go.Proofs.Ytnegmpdllbbnhaa
open Go.RowKit
set_option linter.unusedSimpArgs false
theorem rowD_le6 {rows : List RowV} (h : (dRowS rows).le 1048576) (id : Int) : (dAtomSS (rowD rows id).cells).le maxLen := by
  rcases rpl_cases rows id with ⟨hp, -⟩ | ⟨k, hk, hp, -⟩
  · rw [rowD_none hp]; exact Ls_le.2 ⟨by omega, Nat.zero_le _, fun i hi => absurd hi (by simp [rowZ])⟩
  · rw [rowD_at hk hp]; exact D.le.mono (by unfold maxLen; omega) _ ((Ls_le.1 h).2.2 k hk 1 (by omega))
theorem drop_at {α : Type} {l : List α} {k : Nat} (h : k < l.length) : l.drop k = l[k] :: l.drop (k + 1) := List.drop_eq_getElem_cons h
end Go.Proofs.Ytnegmpdllbbnhaa
