import Derived.Test.YtfoimmnfpheoiaaZbd
import Derived.Laws.Append
import Derived.ArgAppend
import Derived.Deep.RegionLaw
import Derived.Deep.RegionHeld3
import Derived.Test.YtfoimmnfpheoiaaZbo
import Derived.Test.YtfoimmnfpheoiaaZbb
import Derived.Deep.RegionWith
import Derived.BigQuiet
import Derived.Test.YtfoimmnfpheoiaaZad
import Derived.Test.YtfoimmnfpheoiaaZag
import Derived.Test.YtfoimmnfpheoiaaZba
import Derived.Test.YtfoimmnfpheoiaaZah
import Derived.Test.YtfoimmnfpheoiaaZbm
import Derived.Test.YtfoimmnfpheoiaaZaj
namespace Go.Proofs.Ytfoimmnfpheoiaa
open Go.RowKit
set_option linter.unusedSimpArgs false
theorem OwnAts.own {w : World} {B : Nat → Prop} {a : Option Addr} {l : List At} (h : OwnAts w B a l) (c : Nat) : Own w (dAtomS l) B (.slice a l.length c) := by
  refine ⟨a, c, rfl, ?_⟩
  rcases h with h | ⟨b, off, ha, hb, hc⟩
  · exact .inl h
  refine .inr ⟨b, off, fun _ _ _ => False, ha, hb, by omega, fun _ _ _ h => h.elim, fun _ _ _ _ _ h => h.elim, fun i j hi hj => ?_⟩
  obtain ⟨h1, h2⟩ := hc (i * 3 + j) (by omega)
  rw [← Nat.add_assoc] at h1 h2
  refine ⟨_, h1, h2, ?_⟩
  rw [lsF_at hi]
  rcases (by omega : j = 0 ∨ j = 1 ∨ j = 2) with rfl | rfl | rfl
  · rw [Nat.add_zero, atF0 hi]; rfl
  · rw [atF1 hi]; rfl
  · rw [atF2 hi]; rfl
end Go.Proofs.Ytfoimmnfpheoiaa
