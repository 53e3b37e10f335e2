import Derived.Test.YtfoimmnfpheoiaaZbu
import Derived.Test.YtfoimmnfpheoiaaZad
namespace Go.Proofs.Ytfoimmnfpheoiaa
open Go.RowKit
set_option linter.unusedSimpArgs false
set_option maxHeartbeats 800000 in
theorem drawnS (l : List UInt8) (a : Option Addr) (c k S : Nat) (w : World) (hS : S ≤ w.heap.size) (hb : Byts w (· < S) a l) (h1 : 1 ≤ k) (h4 : k ≤ 4) :
    Calls Try.prog 4 #[.slice a l.length c, .int .i64 (k : Int)] w (DatumAns w k) := by
  have NW := Lib.hid (srcNew (c := c) w hS hb)
  have DR : Hid (∀ W s, Src W w.heap.size S a l c 0 s → Below w.heap.size w W → Calls Try.prog 11 #[.pointer (some ⟨w.heap.size, 0, none⟩), .int .i64 (k : Int)] W (DatumAns w k)) := fun W s h hB => srcDatum w W h (Nat.le_refl _) hB h1 h4
  clear hb h1 h4 hS
  go_enter Try.func4, Try.ntmps4
  go_wp2_with fail
  refine NW.out.mono ?_
  rintro e w1 ⟨s, rfl, hs, hB⟩
  have D1 := Lib.hid (DR.out w1 s hs hB)
  clear hs hB
  go_wp2_with fail
  refine D1.out.mono ?_
  rintro e w2 ⟨g, cp, L, rfl, hd⟩
  have HD := Lib.hid hd
  clear hd
  go_wp2_with fail
  go_ret
  exact ⟨g, cp, L, rfl, HD.out⟩
set_option maxHeartbeats 1600000 in
theorem sameDatumS (l : List At) (a a' : Option Addr) (c c' : Nat) (A B : Nat → Prop) (w : World) (hl : l.length ≤ 1048576) (hA : Ats w A a l) (hB : Ats w B a' l) :
    Calls Try.prog 9 #[.slice a l.length c, .slice a' l.length c'] w fun e w' => e = .returned (.bool true) ∧ Below w.heap.size w w' := by
  have HA : Hid (Ats w A a l) := hA
  have HB : Hid (Ats w B a' l) := hB
  have nn : ((l.length : Int) != (l.length : Int)) = false := by simp
  clear hA hB
  go_enter Try.func9, Try.ntmps9
  go_wp2_with fail
  go_loopw [5] (fun i wr => ∃ k : Nat, k ≤ l.length ∧ i = .int .i64 k ∧ Hid (Below w.heap.size w wr)) (fun i _ => l.length - (intOf i).toNat)
  case atStart => exact ⟨0, Nat.zero_le _, rfl, Below.refl _ _⟩
  case round =>
    obtain ⟨k, hk, rfl, HW⟩ := hrel
    by_cases hlt : k < l.length
    · obtain ⟨b, off, rfl, -, c0, c1, c2⟩ := (HA.out.later HW.out).item k hlt
      obtain ⟨b', off', rfl, -, d0, d1, d2⟩ := (HB.out.later HW.out).item k hlt
      generalize l[k] = x at *
      have hki : (k : Int) < (l.length : Int) := by omega
      have n1 : (x.k != x.k) = false := by simp
      have n2 : (x.n != x.n) = false := by simp
      go_wp2_with fail
      go_region
      go_wp2_with fail
      go_roundw
      case rel => exact ⟨k + 1, by omega, by go_num, HW.out.drew⟩
      case measure => simp [intOf]; omega
    · have hki : decide ((k : Int) < (l.length : Int)) = false := by simp; omega
      go_wp2_with fail
      go_ret
      exact ⟨rfl, HW.out⟩
end Go.Proofs.Ytfoimmnfpheoiaa
