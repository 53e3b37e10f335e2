import Derived.Test.YthpenliecgpedaaZbo
namespace Go.Proofs.Ythpenliecgpedaa
open Go.RowKit
set_option linter.unusedSimpArgs false
set_option maxRecDepth 100000 in
set_option maxHeartbeats 3200000 in
theorem atS (l : List UInt8) (a : Option Addr) (c n : Nat) (B : Nat → Prop) (W : World) (hb : Byts W B a l) (hl : l.length ≤ 1048576) (h1 : 1 < n) (h2 : n ≤ 1000000) :
    Calls Try.prog 7 #[.slice a l.length c, .int .i64 0, .int .i64 (n : Int)] W fun e W' => ∃ k : Nat, e = .returned (.int .i64 (k : Int)) ∧ k < n ∧ Below W.heap.size W W' := by
  have d1 : decide ((n : Int) ≤ 1) = false := decide_eq_false (by omega)
  have d2 : decide (n ≤ 1) = false := decide_eq_false (by omega)
  have d5 : ((n : Int) == 0) = false := by rw [beq_eq_false_iff_ne]; omega
  have hn0 : n ≠ 0 := by omega
  have HB : Hid (Below W.heap.size W W ∧ Below W.heap.size W W.drew) := ⟨Below.refl _ _, (Below.refl _ _).drew⟩
  have HN : Hid (0 < n) := by show 0 < n; omega
  rcases hb with h0 | ⟨b, off, rfl, hb, hc⟩
  · have e0 : l = [] := List.length_eq_zero_iff.1 h0
    subst e0
    clear h1 h2 hl h0
    go_enter Try.func7, Try.ntmps7
    go_wp2_with fail
    go_ret
    exact ⟨0, rfl, HN.out, HB.out.1⟩
  by_cases h0 : l.length = 0
  · have e0 : l = [] := List.length_eq_zero_iff.1 h0
    subst e0
    clear h1 h2 hl h0 hc
    go_enter Try.func7, Try.ntmps7
    go_wp2_with fail
    go_ret
    exact ⟨0, rfl, HN.out, HB.out.1⟩
  have g1 : ((l.length : Int) == 0) = false := by rw [beq_eq_false_iff_ne]; omega
  have g2 : (l.length == 0) = false := by rw [beq_eq_false_iff_ne]; omega
  have g3 : l ≠ [] := fun e => h0 (by rw [e]; rfl)
  have hp : 0 < l.length := by omega
  obtain ⟨r, hr⟩ : ∃ r : Nat, r = 1 % l.length := ⟨_, rfl⟩
  have hrl : r < l.length := by rw [hr]; exact Nat.mod_lt _ hp
  have t1 : (1 : Int).tmod (l.length : Int) = (r : Int) := by rw [Int.tmod_eq_emod_of_nonneg (by omega), hr, Int.natCast_emod]; rfl
  have t2 : IntKind.i64.wrap (r : Int) = (r : Int) := by rw [IntKind.wrap_i64]; omega
  have c0 := hc 0 hp
  have c1 := hc r hrl
  rw [Nat.add_zero] at c0
  obtain ⟨v0, e0⟩ : ∃ v : Nat, v = l[0].toNat := ⟨_, rfl⟩
  obtain ⟨v1, e1⟩ : ∃ v : Nat, v = l[r].toNat := ⟨_, rfl⟩
  have b0 : v0 < 256 := by rw [e0]; exact UInt8.toNat_lt _
  have b1 : v1 < 256 := by rw [e1]; exact UInt8.toNat_lt _
  rw [← e0] at c0
  rw [← e1] at c1
  obtain ⟨u1, q1⟩ : ∃ u : Nat, u = v0 * 31 := ⟨_, rfl⟩
  obtain ⟨u2, q2⟩ : ∃ u : Nat, u = u1 + v1 := ⟨_, rfl⟩
  obtain ⟨k, q3⟩ : ∃ u : Nat, u = u2 % n := ⟨_, rfl⟩
  have f0 : IntKind.i64.wrap (v0 : Int) = (v0 : Int) := by rw [IntKind.wrap_i64]; omega
  have f1 : IntKind.i64.wrap (v1 : Int) = (v1 : Int) := by rw [IntKind.wrap_i64]; omega
  have f2 : IntKind.i64.wrap ((v0 : Int) * 31) = (u1 : Int) := by rw [IntKind.wrap_i64]; omega
  have f3 : IntKind.i64.wrap ((u1 : Int) + (v1 : Int)) = (u2 : Int) := by rw [IntKind.wrap_i64]; omega
  have f4 : IntKind.i64.wrap (u2 : Int) = (u2 : Int) := by rw [IntKind.wrap_i64]; omega
  have HK : Hid (k < n) := by show k < n; rw [q3]; exact Nat.mod_lt _ HN.out
  have f5 : (u2 : Int).tmod (n : Int) = (k : Int) := by rw [Int.tmod_eq_emod_of_nonneg (by omega), q3, Int.natCast_emod]
  have f6 : IntKind.i64.wrap (k : Int) = (k : Int) := by have := HK.out; rw [IntKind.wrap_i64]; omega
  clear h1 h2 hl hc hb e0 e1 b0 b1 q1 q2 q3 hr h0
  go_enter Try.func7, Try.ntmps7
  go_wp2_with fail
  go_region
  go_wp2_with fail
  go_ret
  exact ⟨k, rfl, HK.out, HB.out.2⟩
end Go.Proofs.Ythpenliecgpedaa
