import Derived.Test.YtkncpfhblciplaaWad
import Derived.Deep.QuietTactic
import Derived.BigQuiet
import Derived.Deep.RegionWith
namespace Go.Proofs.Ytkncpfhblciplaa
open Go.RowKit
set_option maxHeartbeats 800000 in
theorem eqStrs (keys : List (List UInt8)) (a b : Option Addr) (ca cb : Nat) (A B : Nat → Prop) (w : World) (hl : keys.length ≤ maxLen) (ha : Strs w A a keys) (hb : Strs w B b keys) :
    Calls Try.prog 35 #[.slice a keys.length ca, .slice b keys.length cb] w fun e w' => e = .returned (.bool true) ∧ Below w.heap.size w w' := by
  unfold maxLen at hl
  have HA : Hid (Strs w A a keys) := ha
  have HB : Hid (Strs w B b keys) := hb
  clear ha hb
  have hne : ((keys.length : Int) != (keys.length : Int)) = false := by simp
  go_enter Try.func35, Try.ntmps35
  go_wp2_with fail
  go_loopw [5] (fun i wr => ∃ k : Nat, k ≤ keys.length ∧ i = .int .i64 k ∧ Below w.heap.size w wr) (fun i _ => keys.length - (intOf i).toNat)
  case atStart => exact ⟨0, Nat.zero_le _, rfl, Below.refl _ _⟩
  case round =>
    obtain ⟨k, hk, rfl, hw⟩ := hrel
    by_cases hlt : k < keys.length
    · obtain ⟨b1, o1, rfl, c1⟩ : ∃ b off, a = some ⟨b, off, none⟩ ∧ wr.cell? ⟨b, off + k, none⟩ = some (.string ⟨keys[k].toArray⟩) := by
        rcases HA.out.later hw with h | ⟨b, off, ha, _, hc⟩
        · omega
        · exact ⟨b, off, ha, hc k hlt⟩
      obtain ⟨b2, o2, rfl, c2⟩ : ∃ b' off, b = some ⟨b', off, none⟩ ∧ wr.cell? ⟨b', off + k, none⟩ = some (.string ⟨keys[k].toArray⟩) := by
        rcases HB.out.later hw with h | ⟨b, off, ha, _, hc⟩
        · omega
        · exact ⟨b, off, ha, hc k hlt⟩
      generalize keys[k] = x at *
      have hx : (x != x) = false := by simp
      have hki : (k : Int) < (keys.length : Int) := by omega
      go_wp2_with fail
      go_quiet (fail)
      go_wp2_with fail
      go_roundw
      case rel => exact ⟨k + 1, by omega, by go_num, below_drewN hw _⟩
      case measure => simp [intOf]; omega
    · go_wp2_with fail
      go_ret
      exact ⟨rfl, hw⟩
def EqSaid (j : J) : Prop := ∀ (cs cs' : List Value) (A B : Nat → Prop) (w : World), RJ w A j cs → RJ w B j cs' →
    Calls Try.prog 12 #[.agg cs.toArray, .agg cs'.toArray] w fun e w' => e = .returned (.bool true) ∧ Below w.heap.size w w'
set_option maxHeartbeats 1600000 in
theorem eqJsons (items : List J) (ih : ∀ x ∈ items, EqSaid x) (a b : Option Addr) (ca cb : Nat) (A B : Nat → Prop) (w : World) (hl : items.length ≤ maxLen) (ha : Jsons w A a items) (hb : Jsons w B b items) :
    Calls Try.prog 44 #[.slice a items.length ca, .slice b items.length cb] w fun e w' => e = .returned (.bool true) ∧ Below w.heap.size w w' := by
  unfold maxLen at hl
  have IH : Hid (∀ x ∈ items, EqSaid x) := ih
  have HA : Hid (Jsons w A a items) := ha
  have HB : Hid (Jsons w B b items) := hb
  clear ha hb ih
  have hne : ((items.length : Int) != (items.length : Int)) = false := by simp
  go_enter Try.func44, Try.ntmps44
  go_wp2_with fail
  go_loopw [5] (fun i wr => ∃ k : Nat, k ≤ items.length ∧ i = .int .i64 k ∧ Below w.heap.size w wr) (fun i _ => items.length - (intOf i).toNat)
  case atStart => exact ⟨0, Nat.zero_le _, rfl, Below.refl _ _⟩
  case round =>
    obtain ⟨k, hk, rfl, hw⟩ := hrel
    by_cases hlt : k < items.length
    · obtain ⟨b1, o1, ka, kc, ia, ic, rfl, _, c0, c1, c2, c3, c4, hr⟩ := (HA.out.later hw).item k hlt
      obtain ⟨b2, o2, ka', kc', ia', ic', rfl, _, d0, d1, d2, d3, d4, hr'⟩ := (HB.out.later hw).item k hlt
      have HR : Hid (RJ wr A items[k] _) := hr
      have HR' : Hid (RJ wr B items[k] _) := hr'
      have hx : EqSaid items[k] := IH.out _ (List.getElem_mem hlt)
      clear hr hr'
      generalize items[k] = x at *
      have hki : (k : Int) < (items.length : Int) := by omega
      go_wp2_with fail
      go_region_with (go_at_call 12; refine (hx _ _ A B _ ?_ ?_).mono ?_; exact HR.out.later (by first | exact (Below.refl _ _).drew | exact below_drewN (Below.refl _ _) _); exact HR'.out.later (by first | exact (Below.refl _ _).drew | exact below_drewN (Below.refl _ _) _); rintro e w1 ⟨rfl, hB1⟩)
      all_goals
        have hB2 : Below w.heap.size w w1 := hw.drew.trans (hB1.mono hw.size)
        clear hB1 c0 c1 c2 c3 c4 d0 d1 d2 d3 d4 hx hw
        go_wp2_with fail
        go_roundw
        case rel => exact ⟨k + 1, by omega, by go_num, hB2⟩
        case measure => simp [intOf]; omega
    · go_wp2_with fail
      go_ret
      exact ⟨rfl, hw⟩
set_option maxHeartbeats 1600000 in
theorem eqJson (j : J) : EqSaid j := by
  induction j using J.induct with
  | h j ih =>
    intro cs cs' A B w hr hr'
    rw [RJ_eq] at hr hr'
    obtain ⟨ka, kc, ia, ic, rfl, ht, hkl, hil, hkx, hk, hi⟩ := hr
    obtain ⟨ka', kc', ia', ic', rfl, -, -, -, -, hk', hi'⟩ := hr'
    have HI : Hid (Jsons w A ia j.items) := hi
    have HI' : Hid (Jsons w B ia' j.items) := hi'
    have HK : Hid (Strs w A ka j.keys) := hk
    have HK' : Hid (Strs w B ka' j.keys) := hk'
    have HKL : Hid (j.keys.length ≤ maxLen) := hkl
    have HIL : Hid (j.items.length ≤ maxLen) := hil
    have IH : Hid (∀ x ∈ j.items, EqSaid x) := ih
    clear hi hk hkl hil hkx ih ht hi' hk'
    go_enter Try.func12, Try.ntmps12
    go_wp2_with fail
    have hB0 : Below w.heap.size w ((w.alloc (.cells #[.int .i64 j.k, .int .i64 j.n, .string ⟨j.t.toArray⟩, .slice ka j.keys.length kc, .slice ia j.items.length ic] 28)).alloc (.cells #[.int .i64 j.k, .int .i64 j.n, .string ⟨j.t.toArray⟩, .slice ka' j.keys.length kc', .slice ia' j.items.length ic'] 28)) := ((Below.refl _ _).alloc (Nat.le_refl _) _).alloc (by simp) _
    refine (eqStrs j.keys ka ka' kc kc' A B _ HKL.out (HK.out.later hB0) (HK'.out.later hB0)).mono ?_
    rintro e w1 ⟨rfl, hB1⟩
    have hs1 := hB1.size
    have x4 : w1.cell? ⟨w.heap.size, 4, none⟩ = some (.slice ia j.items.length ic) := by rw [hB1.cell (p := ⟨w.heap.size, 4, none⟩) (by simp; omega)]; simp [go_sem]
    have y4 : w1.cell? ⟨w.heap.size + 1, 4, none⟩ = some (.slice ia' j.items.length ic') := by rw [hB1.cell (p := ⟨w.heap.size + 1, 4, none⟩) (by simp)]; simp [go_sem]
    have hB2 : Below w.heap.size w w1 := hB0.trans (hB1.mono (by simp; omega))
    clear hB1 hB0 hs1
    go_wp2_with fail
    refine (eqJsons j.items IH.out ia ia' ic ic' A B _ HIL.out (HI.out.later hB2) (HI'.out.later hB2)).mono ?_
    rintro e w2 ⟨rfl, hB3⟩
    have hB4 : Below w.heap.size w w2 := hB2.trans (hB3.mono hB2.size)
    clear hB3
    go_wp2_with fail
    go_ret
    exact ⟨rfl, hB4⟩
end Go.Proofs.Ytkncpfhblciplaa
