import Derived.Test.YtkncpfhblciplaaProg
import Derived.Test.YtkncpfhblciplaaYab
import Derived.WalkKit
import Derived.WalkSpells
import Derived.WalkLawsBesides
namespace Go.Proofs.Ytkncpfhblciplaa
open Go.RowKit
theorem ret_i {a b : Int} (h : a = b) : Ending.returned (.int .i64 a) = .returned (.int .i64 b) := by rw [h]
theorem ret_b {a b : Bool} (h : a = b) : Ending.returned (.bool a) = .returned (.bool b) := by rw [h]
theorem less_no {L : Int} {n : Nat} (h : L - (n : Int) < 0) : lessI L n = -1 := by unfold lessI; rw [if_neg (by omega)]
theorem less_yes {L : Int} {n : Nat} (h : 0 ≤ L - (n : Int)) : lessI L n = L - n := by unfold lessI; rw [if_pos (by omega)]
set_option maxHeartbeats 400000 in
theorem szStrs (keys : List (List UInt8)) (a : Option Addr) (c : Nat) (L : Int) (B : Nat → Prop) (w : World) (h0 : 0 ≤ L) (h1 : L ≤ 1048576) (hl : keys.length ≤ maxLen) (hx : ∀ x ∈ keys, x.length ≤ maxLen) (hS : Strs w B a keys) :
    Calls Try.prog 29 #[.slice a keys.length c, .int .i64 L] w fun e w' => e = .returned (.int .i64 (lessI L (szK keys))) ∧ w' = w := by
  unfold maxLen at hl
  have HX : Hid (∀ x ∈ keys, x.length ≤ maxLen) := hx
  have HS : Hid (Strs w B a keys) := hS
  clear hx hS
  by_cases hn : L - (keys.length : Int) < 0
  · have HR : Hid (lessI L (szK keys) = -1) := by show lessI L (szK keys) = -1; unfold lessI szK; rw [if_neg (by omega)]
    go_enter Try.func29, Try.ntmps29
    go_wp2_with fail
    go_ret
    exact ⟨ret_i HR.out.symm, rfl⟩
  · go_enter Try.func29, Try.ntmps29
    go_wp2_with fail
    go_loop [1, 5] (fun t i => ∃ k : Nat, k ≤ keys.length ∧ i = .int .i64 k ∧ ∃ m : Int, t = .int .i64 m ∧ 0 ≤ m ∧ m ≤ L ∧ Hid (m = L - (keys.length + sumTo List.length keys k : Nat))) (fun _ i => keys.length - (intOf i).toNat)
    case atStart => exact ⟨0, Nat.zero_le _, rfl, L - keys.length, rfl, by omega, by omega, by show _ = _; rw [sumTo_zero]; omega⟩
    case round =>
      obtain ⟨k, hk, rfl, m, rfl, hm0, hmL, HM⟩ := hrel
      by_cases hlt : k < keys.length
      · obtain ⟨b, off, rfl, hc⟩ : ∃ b off, a = some ⟨b, off, none⟩ ∧ w.cell? ⟨b, off + k, none⟩ = some (.string ⟨keys[k].toArray⟩) := by
          rcases HS.out with h | ⟨b, off, ha, _, hc⟩
          · omega
          · exact ⟨b, off, ha, hc k hlt⟩
        have hlen : keys[k].length ≤ 9223372036854775807 := HX.out _ (List.getElem_mem hlt)
        have HSU : Hid (sumTo List.length keys (k + 1) = sumTo List.length keys k + keys[k].length) := sumTo_succ _ _ _ hlt
        have HLE : Hid (sumTo List.length keys (k + 1) ≤ (keys.map List.length).sum) := sumTo_le _ _ _
        generalize keys[k] = x at *
        by_cases hz : m - (x.length : Int) < 0
        · have HR : Hid (lessI L (szK keys) = -1) := by
            have h1 := HM.out; have h2 := HSU.out; have h3 := HLE.out
            show lessI L (szK keys) = -1
            unfold lessI szK; rw [if_neg (by omega)]
          go_wp2_with fail
          go_ret
          exact ⟨ret_i HR.out.symm, rfl⟩
        · go_wp2_with fail
          go_round
          case rel =>
            have h1 := HM.out; have h2 := HSU.out
            exact ⟨k + 1, by omega, by go_num, _, rfl, by omega, by omega, by show _ = _; omega⟩
          case measure => simp [intOf]; omega
      · have HR : Hid (lessI L (szK keys) = m) := by
          have h1 := HM.out
          have hk' : k = keys.length := by omega
          rw [hk', sumTo_all] at h1
          show lessI L (szK keys) = m
          unfold lessI szK; rw [if_pos (by omega)]; omega
        go_wp2_with fail
        go_ret
        exact ⟨ret_i HR.out.symm, rfl⟩
def SzSaid (j : J) : Prop := ∀ (cs : List Value) (L : Int) (S : Nat) (w : World), 0 ≤ L → L ≤ 1048576 → S ≤ w.heap.size → RJ w (· < S) j cs →
    Calls Try.prog 15 #[.agg cs.toArray, .int .i64 L] w fun e w' => e = .returned (.int .i64 (lessI L j.sz)) ∧ Below w.heap.size w w'
set_option maxHeartbeats 800000 in
theorem szJsons (items : List J) (ih : ∀ x ∈ items, SzSaid x) (a : Option Addr) (c : Nat) (L : Int) (S : Nat) (w : World) (h0 : 0 ≤ L) (h1 : L ≤ 1048576) (hw : S ≤ w.heap.size) (hl : items.length ≤ maxLen) (hS : Jsons w (· < S) a items) :
    Calls Try.prog 48 #[.slice a items.length c, .int .i64 L] w fun e w' => e = .returned (.int .i64 (lessI L (items.length + (items.map J.sz).sum))) ∧ Below w.heap.size w w' := by
  unfold maxLen at hl
  have IH : Hid (∀ x ∈ items, SzSaid x) := ih
  have HS : Hid (Jsons w (· < S) a items) := hS
  clear ih hS
  by_cases hn : L - (items.length : Int) < 0
  · have HR : Hid (lessI L (items.length + (items.map J.sz).sum) = -1) := by show lessI _ _ = -1; unfold lessI; rw [if_neg (by omega)]
    go_enter Try.func48, Try.ntmps48
    go_wp2_with fail
    go_ret
    exact ⟨ret_i HR.out.symm, Below.refl _ _⟩
  · go_enter Try.func48, Try.ntmps48
    go_wp2_with fail
    go_loopw [1, 5] (fun t i wr => ∃ k : Nat, k ≤ items.length ∧ i = .int .i64 k ∧ ∃ m : Int, t = .int .i64 m ∧ 0 ≤ m ∧ m ≤ L ∧ Hid (m = L - (items.length + sumTo J.sz items k : Nat)) ∧ Below w.heap.size w wr) (fun _ i _ => items.length - (intOf i).toNat)
    case atStart => exact ⟨0, Nat.zero_le _, rfl, L - items.length, rfl, by omega, by omega, by show _ = _; rw [sumTo_zero]; omega, Below.refl _ _⟩
    case round =>
      obtain ⟨k, hk, rfl, m, rfl, hm0, hmL, HM, hB⟩ := hrel
      by_cases hlt : k < items.length
      · obtain ⟨b, off, ka, kc, ia, ic, rfl, _, c0, c1, c2, c3, c4, hr⟩ := (HS.out.below (hB.mono hw)).item k hlt
        have HR : Hid (RJ wr (· < S) items[k] _) := hr
        have HSU : Hid (sumTo J.sz items (k + 1) = sumTo J.sz items k + items[k].sz) := sumTo_succ _ _ _ hlt
        have HLE : Hid (sumTo J.sz items (k + 1) ≤ (items.map J.sz).sum) := sumTo_le _ _ _
        have hx : SzSaid items[k] := IH.out _ (List.getElem_mem hlt)
        clear hr
        generalize items[k] = x at *
        go_wp2_with fail
        refine (hx _ m S _ hm0 (by omega) (Nat.le_trans hw hB.size) HR.out).mono ?_
        rintro e w1 ⟨rfl, hB1⟩
        have hB2 : Below w.heap.size w w1 := hB.trans (hB1.mono hB.size)
        clear hB1 hB c0 c1 c2 c3 c4 hx
        by_cases hz : m - (x.sz : Int) < 0
        · have HR : Hid (lessI L (items.length + (items.map J.sz).sum) = -1) := by
            have h1 := HM.out; have h2 := HSU.out; have h3 := HLE.out
            show lessI _ _ = -1
            unfold lessI; rw [if_neg (by omega)]
          rw [less_no hz]
          go_wp2_with fail
          go_ret
          exact ⟨ret_i HR.out.symm, hB2⟩
        · rw [less_yes (by omega)]
          go_wp2_with fail
          go_roundw
          case rel =>
            have h1 := HM.out; have h2 := HSU.out
            exact ⟨k + 1, by omega, by go_num, _, rfl, by omega, by omega, by show _ = _; omega, hB2⟩
          case measure => simp [intOf]; omega
      · have HR : Hid (lessI L (items.length + (items.map J.sz).sum) = m) := by
          have h1 := HM.out
          have hk' : k = items.length := by omega
          rw [hk', sumTo_all] at h1
          show lessI _ _ = m
          unfold lessI; rw [if_pos (by omega)]; omega
        go_wp2_with fail
        go_ret
        exact ⟨ret_i HR.out.symm, hB⟩
set_option maxHeartbeats 800000 in
theorem szJson (j : J) : SzSaid j := by
  induction j using J.induct with
  | h j ih =>
    intro cs L S w h0 h1 hw hr
    rw [RJ_eq] at hr
    obtain ⟨ka, kc, ia, ic, rfl, ht, hkl, hil, hkx, hk, hi⟩ := hr
    have HI : Hid (Jsons w (· < S) ia j.items) := hi
    have HK : Hid (Strs w (· < S) ka j.keys) := hk
    have HKL : Hid (j.keys.length ≤ maxLen) := hkl
    have HIL : Hid (j.items.length ≤ maxLen) := hil
    have HKX : Hid (∀ x ∈ j.keys, x.length ≤ maxLen) := hkx
    have HSZ : Hid (j.sz = j.t.length + szK j.keys + (j.items.length + (j.items.map J.sz).sum)) := J.sz_eq j
    have IH : Hid (∀ x ∈ j.items, SzSaid x) := ih
    clear hi hk hkl hil hkx ih
    unfold maxLen at ht
    by_cases hz1 : L - (j.t.length : Int) < 0
    · have HR : Hid (lessI L j.sz = -1) := by
        have := HSZ.out
        exact less_no (by omega)
      go_enter Try.func15, Try.ntmps15
      go_wp2_with fail
      go_ret
      exact ⟨ret_i HR.out.symm, (Below.refl _ _).alloc (Nat.le_refl _) _⟩
    · go_enter Try.func15, Try.ntmps15
      go_wp2_with fail
      refine (szStrs j.keys ka kc _ (· < S) _ (by omega) (by omega) HKL.out HKX.out (HK.out.below ((Below.refl _ _).alloc hw _))).mono ?_
      rintro e w1 ⟨rfl, rfl⟩
      by_cases hz2 : L - (j.t.length : Int) - (szK j.keys : Int) < 0
      · have HR : Hid (lessI L j.sz = -1) := by
          have := HSZ.out
          exact less_no (by omega)
        rw [less_no hz2]
        go_wp2_with fail
        go_ret
        exact ⟨ret_i HR.out.symm, (Below.refl _ _).alloc (Nat.le_refl _) _⟩
      · rw [less_yes (by omega)]
        go_wp2_with fail
        refine (szJsons j.items IH.out ia ic _ S _ (by omega) (by omega) (by simp; omega) HIL.out (HI.out.below ((Below.refl _ _).alloc hw _))).mono ?_
        rintro e w1 ⟨rfl, hB1⟩
        have hB2 : Below w.heap.size w w1 := ((Below.refl _ _).alloc (Nat.le_refl _) _).trans (hB1.mono (by simp))
        clear hB1
        by_cases hz3 : L - (j.t.length : Int) - (szK j.keys : Int) - ((j.items.length + (j.items.map J.sz).sum : Nat) : Int) < 0
        · have HR : Hid (lessI L j.sz = -1) := by
            have := HSZ.out
            exact less_no (by omega)
          rw [less_no hz3]
          go_wp2_with fail
          go_ret
          exact ⟨ret_i HR.out.symm, hB2⟩
        · have HR : Hid (lessI L j.sz = L - (j.t.length : Int) - (szK j.keys : Int) - ((j.items.length + (j.items.map J.sz).sum : Nat) : Int)) := by
            have := HSZ.out
            show lessI _ _ = _
            rw [less_yes (by omega)]; omega
          rw [less_yes (by omega)]
          generalize L - (j.t.length : Int) - (szK j.keys : Int) - ((j.items.length + (j.items.map J.sz).sum : Nat) : Int) = q at *
          go_wp2_with fail
          go_ret
          exact ⟨ret_i HR.out.symm, hB2⟩
end Go.Proofs.Ytkncpfhblciplaa
