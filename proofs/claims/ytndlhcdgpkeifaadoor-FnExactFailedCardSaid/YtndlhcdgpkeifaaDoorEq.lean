import Derived.Test.YtndlhcdgpkeifaaDoorTo
import Derived.Deep.QuietTactic
import Derived.BigQuiet
import Derived.Deep.RegionWith
namespace Go.Proofs.YtndlhcdgpkeifaaDoor
open Go.RowKit

set_option maxHeartbeats 800000 in
theorem eqStrs (keys : List (List UInt8)) (a b : Option Addr) (ca cb : Nat) (A B : Nat → Prop) (w : World) (hl : keys.length ≤ maxLen) (ha : Strs w A a keys) (hb : Strs w B b keys) :
    Calls Tryd.prog 29 #[.slice a keys.length ca, .slice b keys.length cb] w fun e w' => e = .returned (.bool true) ∧ Below w.heap.size w w' := by
  unfold maxLen at hl
  have HA : Hid (Strs w A a keys) := ha
  have HB : Hid (Strs w B b keys) := hb
  clear ha hb
  have hne : ((keys.length : Int) != (keys.length : Int)) = false := by simp
  go_enter Tryd.func29, Tryd.ntmps29
  go_wp2_with fail
  go_loopw [5] (fun i wr => ∃ k : Nat, k ≤ keys.length ∧ i = .int .i64 k ∧ Below w.heap.size w wr) (fun i _ => keys.length - (intOf i).toNat)
  case atStart => exact ⟨0, Nat.zero_le _, rfl, Below.refl _ _⟩
  case round =>
    obtain ⟨k, hk, rfl, hw⟩ := hrel
    by_cases hlt : k < keys.length
    · obtain ⟨b1, o1, rfl, c1⟩ : ∃ b off, a = some ⟨b, off, none⟩ ∧ wr.cell? ⟨b, off + k, none⟩ = some (.string ⟨keys[k].toArray⟩) := by
        rcases HA.out.later hw with h | ⟨b, off, ha, _, hc⟩
        · omega
        · exact ⟨b, off, ha, hc k hlt⟩
      obtain ⟨b2, o2, rfl, c2⟩ : ∃ b' off, b = some ⟨b', off, none⟩ ∧ wr.cell? ⟨b', off + k, none⟩ = some (.string ⟨keys[k].toArray⟩) := by
        rcases HB.out.later hw with h | ⟨b, off, ha, _, hc⟩
        · omega
        · exact ⟨b, off, ha, hc k hlt⟩
      generalize keys[k] = x at *
      have hx : (x != x) = false := by simp
      have hki : (k : Int) < (keys.length : Int) := by omega
      go_wp2_with fail
      go_quiet (fail)
      go_wp2_with fail
      go_roundw
      case rel => exact ⟨k + 1, by omega, by go_num, below_drewN hw _⟩
      case measure => simp [intOf]; omega
    · go_wp2_with fail
      go_ret
      exact ⟨rfl, hw⟩

end Go.Proofs.YtndlhcdgpkeifaaDoor
