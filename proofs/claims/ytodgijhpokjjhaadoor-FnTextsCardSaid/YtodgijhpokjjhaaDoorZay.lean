import Derived.Test.YtodgijhpokjjhaaDoorZar
import Derived.Test.YtodgijhpokjjhaaDoorZax
import Derived.Test.YtodgijhpokjjhaaDoorZan
namespace Go.Proofs.YtodgijhpokjjhaaDoor
open Go.RowKit
set_option linter.unusedSimpArgs false
set_option maxRecDepth 100000 in
set_option maxHeartbeats 1600000 in
theorem sameTextsV (keys keys' : List (List UInt8)) (a b : Option Addr) (ca cb : Nat) (A B : Nat → Prop) (w : World) (hl : keys.length ≤ maxLen) (ha : Strs w A a keys) (hb : Strs w B b keys') :
    Calls Tryd.prog 7 #[.slice a keys.length ca, .slice b keys'.length cb] w fun e w' => e = .returned (.bool (decide (keys = keys'))) ∧ Below w.heap.size w w' := by
  unfold maxLen at hl
  have HA : Hid (Strs w A a keys) := ha
  have HB : Hid (Strs w B b keys') := hb
  clear ha hb
  by_cases hlen : keys.length = keys'.length
  case neg =>
    have hne : ((keys.length : Int) != (keys'.length : Int)) = true := by simp; omega
    have HD : Hid (decide (keys = keys') = false) := decide_eq_false (fun e => hlen (by rw [e]))
    clear hlen
    go_enter Tryd.func7, Tryd.ntmps7
    go_wp2_with fail
    go_ret
    exact ⟨ret_b HD.out.symm, Below.refl _ _⟩
  case pos =>
    have hne : ((keys.length : Int) != (keys.length : Int)) = false := by simp
    have HLEN : Hid (keys.length = keys'.length) := hlen
    rw [← hlen]
    clear hlen
    go_enter Tryd.func7, Tryd.ntmps7
    go_wp2_with fail
    go_loopw [5] (fun i wr => ∃ k : Nat, k ≤ keys.length ∧ i = .int .i64 k ∧ Below w.heap.size w wr ∧ Hid (∀ q, q < k → keys.getD q [] = keys'.getD q [])) (fun i _ => keys.length - (intOf i).toNat)
    case atStart => exact ⟨0, Nat.zero_le _, rfl, Below.refl _ _, fun q h => absurd h (by omega)⟩
    case round =>
      obtain ⟨k, hk, rfl, hw, HQ⟩ := hrel
      by_cases hlt : k < keys.length
      · obtain ⟨b1, o1, rfl, c1⟩ := strs_cell (HA.out.later hw) k hlt
        obtain ⟨b2, o2, rfl, c2⟩ := strs_cell (HB.out.later hw) k (by have := HLEN.out; omega)
        have hki : (k : Int) < (keys.length : Int) := by omega
        by_cases he : keys.getD k [] = keys'.getD k []
        · have HQ2 : Hid (∀ q, q < k + 1 → keys.getD q [] = keys'.getD q []) := fun q hq => by
            by_cases e : q = k
            · subst e; exact he
            · exact HQ.out q (by omega)
          rw [← he] at c2
          clear he
          generalize keys.getD k [] = x at *
          have hx : (x != x) = false := by simp
          go_wp2_with fail
          go_quiet (fail)
          go_wp2_with fail
          go_roundw
          case rel => exact ⟨k + 1, by omega, by go_num, below_drewN hw _, HQ2.out⟩
          case measure => simp [intOf]; omega
        · have HD : Hid (decide (keys = keys') = false) := decide_eq_false (fun e => he (by rw [e]))
          generalize keys.getD k [] = x at *
          generalize keys'.getD k [] = y at *
          have hx : (x != y) = true := by simpa using he
          have hx2 : (x == y) = false := by simpa using he
          clear he
          go_wp2_with fail
          go_quiet (fail)
          go_wp2_with fail
          go_ret
          exact ⟨ret_b HD.out.symm, below_drewN hw _⟩
      · have HD : Hid (decide (keys = keys') = true) := decide_eq_true (getD_eq HLEN.out (fun q hq => HQ.out q (by omega)))
        have hki : decide ((k : Int) < (keys.length : Int)) = false := by simp; omega
        go_wp2_with fail
        go_ret
        exact ⟨ret_b HD.out.symm, hw⟩
end Go.Proofs.YtodgijhpokjjhaaDoor
