import Derived.Test.YtodgijhpokjjhaaDoorZad
import Derived.Deep.QuietTactic
import Derived.BigQuiet
import Derived.Deep.RegionWith
import Derived.Test.YtodgijhpokjjhaaDoorZaw
namespace Go.Proofs.YtodgijhpokjjhaaDoor
open Go.RowKit
set_option linter.unusedSimpArgs false
theorem getD_eq {α : Type} {l l' : List α} {d : α} (hl : l.length = l'.length) (h : ∀ q, q < l.length → l.getD q d = l'.getD q d) : l = l' := by
  apply List.ext_getElem hl
  intro i h1 h2
  have := h i h1
  simpa [List.getD_eq_getElem?_getD, List.getElem?_eq_getElem h1, List.getElem?_eq_getElem h2] using this
theorem strs_cell {w : World} {A : Nat → Prop} {a : Option Addr} {keys : List (List UInt8)} (h : Strs w A a keys) (k : Nat) (hk : k < keys.length) : ∃ b off, a = some ⟨b, off, none⟩ ∧ w.cell? ⟨b, off + k, none⟩ = some (.string ⟨(keys.getD k []).toArray⟩) := by
  rcases h with h | ⟨b, off, ha, _, hc⟩
  · omega
  · exact ⟨b, off, ha, by rw [List.getD_eq_getElem?_getD, List.getElem?_eq_getElem hk]; exact hc k hk⟩
end Go.Proofs.YtodgijhpokjjhaaDoor
