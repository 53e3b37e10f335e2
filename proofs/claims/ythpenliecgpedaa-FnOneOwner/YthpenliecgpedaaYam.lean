import Derived.Test.YthpenliecgpedaaYai
import Derived.WalkKit
import Derived.Test.YthpenliecgpedaaYab
import Derived.Test.YthpenliecgpedaaYac
import Derived.Deep.OwnRows
import Derived.Laws.IdiomStrings
import Derived.Deep.MidRow
import Derived.Deep.QuietTactic
import Derived.BigQuiet
import Derived.Deep.RegionWith
import Derived.Deep.CutRange
import Derived.Deep.RegionHeld3
namespace Go.Proofs.Ythpenliecgpedaa
open Go.RowKit
set_option linter.unusedSimpArgs false
theorem nanS (x : ByteArray) (w : World) : Calls Try.prog 80 #[.string x] w fun e w' => e = .returned (.bool false) ∧ w' = w := by
  go_enter Try.func80, Try.ntmps80
  go_wp2_with fail
  go_ret
  exact ⟨by simp, rfl⟩
theorem bl_self : ∀ t : List UInt8, Op.bytesLess t t = false
  | [] => rfl
  | a :: r => by unfold Op.bytesLess; simp [bl_self r]
set_option maxHeartbeats 1600000 in
theorem cmpStr (x y : List UInt8) (w : World) : Calls Try.prog 65 #[.string ⟨x.toArray⟩, .string ⟨y.toArray⟩] w fun e w' => e = .returned (.int .i64 (if x = y then 0 else if Op.bytesLess x y then -1 else 1)) ∧ w' = w := by
  by_cases h1 : x = y
  · rw [if_pos h1]
    subst h1
    have d1 := bl_self x
    go_enter Try.func65, Try.ntmps65
    go_wp2_with (go_at_call 80; refine (nanS _ _).mono ?_; rintro e w' ⟨rfl, rfl⟩)
    go_ret
    exact ⟨rfl, rfl⟩
  · rw [if_neg h1]
    have e1 : (x == y) = false := by simpa using h1
    clear h1
    cases d1 : Op.bytesLess x y
    · go_enter Try.func65, Try.ntmps65
      go_wp2_with (go_at_call 80; refine (nanS _ _).mono ?_; rintro e w' ⟨rfl, rfl⟩)
      go_ret
      exact ⟨rfl, rfl⟩
    · go_enter Try.func65, Try.ntmps65
      go_wp2_with (go_at_call 80; refine (nanS _ _).mono ?_; rintro e w' ⟨rfl, rfl⟩)
      go_ret
      exact ⟨rfl, rfl⟩
end Go.Proofs.Ythpenliecgpedaa
