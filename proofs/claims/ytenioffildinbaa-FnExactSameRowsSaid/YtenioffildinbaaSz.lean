import Derived.Test.YtenioffildinbaaProg
import Derived.Test.YtenioffildinbaaMem
import Derived.WalkKit
import Derived.WalkSpells
import Derived.WalkLawsBesides
namespace Go.Proofs.Ytenioffildinbaa
open Go.RowKit
theorem ret_i {a b : Int} (h : a = b) : Ending.returned (.int .i64 a) = .returned (.int .i64 b) := by rw [h]
theorem ret_b {a b : Bool} (h : a = b) : Ending.returned (.bool a) = .returned (.bool b) := by rw [h]
theorem less_no {L : Int} {n : Nat} (h : L - (n : Int) < 0) : lessI L n = -1 := by unfold lessI; rw [if_neg (by omega)]
theorem less_yes {L : Int} {n : Nat} (h : 0 ≤ L - (n : Int)) : lessI L n = L - n := by unfold lessI; rw [if_pos (by omega)]

set_option maxHeartbeats 400000 in
theorem szStrs (keys : List (List UInt8)) (a : Option Addr) (c : Nat) (L : Int) (B : Nat → Prop) (w : World) (h0 : 0 ≤ L) (h1 : L ≤ 1048576) (hl : keys.length ≤ maxLen) (hx : ∀ x ∈ keys, x.length ≤ maxLen) (hS : Strs w B a keys) :
    Calls Try.prog 19 #[.slice a keys.length c, .int .i64 L] w fun e w' => e = .returned (.int .i64 (lessI L (szK keys))) ∧ w' = w := by
  unfold maxLen at hl
  have HX : Hid (∀ x ∈ keys, x.length ≤ maxLen) := hx
  have HS : Hid (Strs w B a keys) := hS
  clear hx hS
  by_cases hn : L - (keys.length : Int) < 0
  · have HR : Hid (lessI L (szK keys) = -1) := by show lessI L (szK keys) = -1; unfold lessI szK; rw [if_neg (by omega)]
    go_enter Try.func19, Try.ntmps19
    go_wp2_with fail
    go_ret
    exact ⟨ret_i HR.out.symm, rfl⟩
  · go_enter Try.func19, Try.ntmps19
    go_wp2_with fail
    go_loop [1, 5] (fun t i => ∃ k : Nat, k ≤ keys.length ∧ i = .int .i64 k ∧ ∃ m : Int, t = .int .i64 m ∧ 0 ≤ m ∧ m ≤ L ∧ Hid (m = L - (keys.length + sumTo List.length keys k : Nat))) (fun _ i => keys.length - (intOf i).toNat)
    case atStart => exact ⟨0, Nat.zero_le _, rfl, L - keys.length, rfl, by omega, by omega, by show _ = _; rw [sumTo_zero]; omega⟩
    case round =>
      obtain ⟨k, hk, rfl, m, rfl, hm0, hmL, HM⟩ := hrel
      by_cases hlt : k < keys.length
      · obtain ⟨b, off, rfl, hc⟩ : ∃ b off, a = some ⟨b, off, none⟩ ∧ w.cell? ⟨b, off + k, none⟩ = some (.string ⟨keys[k].toArray⟩) := by
          rcases HS.out with h | ⟨b, off, ha, _, hc⟩
          · omega
          · exact ⟨b, off, ha, hc k hlt⟩
        have hlen : keys[k].length ≤ 9223372036854775807 := HX.out _ (List.getElem_mem hlt)
        have HSU : Hid (sumTo List.length keys (k + 1) = sumTo List.length keys k + keys[k].length) := sumTo_succ _ _ _ hlt
        have HLE : Hid (sumTo List.length keys (k + 1) ≤ (keys.map List.length).sum) := sumTo_le _ _ _
        generalize keys[k] = x at *
        by_cases hz : m - (x.length : Int) < 0
        · have HR : Hid (lessI L (szK keys) = -1) := by
            have h1 := HM.out; have h2 := HSU.out; have h3 := HLE.out
            show lessI L (szK keys) = -1
            unfold lessI szK; rw [if_neg (by omega)]
          go_wp2_with fail
          go_ret
          exact ⟨ret_i HR.out.symm, rfl⟩
        · go_wp2_with fail
          go_round
          case rel =>
            have h1 := HM.out; have h2 := HSU.out
            exact ⟨k + 1, by omega, by go_num, _, rfl, by omega, by omega, by show _ = _; omega⟩
          case measure => simp [intOf]; omega
      · have HR : Hid (lessI L (szK keys) = m) := by
          have h1 := HM.out
          have hk' : k = keys.length := by omega
          rw [hk', sumTo_all] at h1
          show lessI L (szK keys) = m
          unfold lessI szK; rw [if_pos (by omega)]; omega
        go_wp2_with fail
        go_ret
        exact ⟨ret_i HR.out.symm, rfl⟩

end Go.Proofs.Ytenioffildinbaa
