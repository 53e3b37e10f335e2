import Derived.Test.YtmmcnalhmpkkmaaZbg
namespace Go.Proofs.Ytmmcnalhmpkkmaa
open Go.RowKit
set_option linter.unusedSimpArgs false
theorem less_irrefl : ∀ (a : List UInt8), Op.bytesLess a a = false
  | [] => rfl
  | x :: a => by have := less_irrefl a; simp [Op.bytesLess, this]
theorem less_trans : ∀ (a b c : List UInt8), Op.bytesLess a b = true → Op.bytesLess b c = true → Op.bytesLess a c = true
  | _, [], _, h, _ => by simp [Op.bytesLess] at h
  | _, _ :: _, [], _, h => by simp [Op.bytesLess] at h
  | [], _ :: _, _ :: _, _, _ => by simp [Op.bytesLess]
  | x :: a, y :: b, z :: c, h1, h2 => by
    have ih := less_trans a b c
    simp only [Op.bytesLess, Bool.or_eq_true, Bool.and_eq_true, decide_eq_true_eq, beq_iff_eq, UInt8.lt_iff_toNat_lt] at h1 h2 ⊢
    rcases h1 with h1 | ⟨rfl, h1⟩
    · rcases h2 with h2 | ⟨rfl, _⟩
      · left; omega
      · left; exact h1
    · rcases h2 with h2 | ⟨rfl, h2⟩
      · left; exact h2
      · right; exact ⟨rfl, ih h1 h2⟩
theorem keys_rise {keys : List (List UInt8)} (h : keysB keys = true) : ∀ q p, p < q → q < keys.length → Op.bytesLess (keys.getD p []) (keys.getD q []) = true
  | 0, p, h1, _ => by omega
  | q + 1, p, h1, h2 => by
    have hk : keyB keys (q + 1) = true := by
      unfold keysB keysTo at h
      exact List.all_eq_true.1 h _ (List.mem_range.2 h2)
    unfold keyB at hk
    simp only [Nat.add_sub_cancel, Nat.succ_ne_zero, decide_false, Bool.false_or, Bool.and_eq_true] at hk
    by_cases e : p = q
    · subst e; exact hk.2
    · exact less_trans _ _ _ (keys_rise h q p (by omega) (by omega)) hk.2
set_option maxHeartbeats 400000 in
theorem nanC (s : ByteArray) (w : World) : Calls Try.prog 27 #[.string s] w fun e w' => e = .returned (.bool false) ∧ w' = w := by
  have h : (s.toList != s.toList) = false := by simp
  go_enter Try.func27, Try.ntmps27
  go_wp2_with fail
  go_ret
  exact ⟨rfl, rfl⟩
set_option maxHeartbeats 400000 in
theorem nanS (s : ByteArray) (w : World) : Calls Try.prog 20 #[.string s] w fun e w' => e = .returned (.bool false) ∧ w' = w := by
  have h : (s.toList != s.toList) = false := by simp
  go_enter Try.func20, Try.ntmps20
  go_wp2_with fail
  go_ret
  exact ⟨rfl, rfl⟩
set_option maxHeartbeats 400000 in
theorem lessC (a b : ByteArray) (w : World) : Calls Try.prog 19 #[.string a, .string b] w fun e w' => e = .returned (.bool (Op.bytesLess a.toList b.toList)) ∧ w' = w := by
  go_enter Try.func19, Try.ntmps19
  go_wp2_with (go_at_call 27; refine (nanC _ _).mono ?_; rintro e w' ⟨rfl, rfl⟩)
  go_ret
  exact ⟨rfl, rfl⟩
def BinAns (keys : List (List UInt8)) (name : ByteArray) (w : World) (e : Ending) (w' : World) : Prop :=
  ∃ i : Nat, ∃ f : Bool, e = .returned (.tuple #[.int .i64 i, .bool f]) ∧ (f = true → i < keys.length ∧ keys.getD i [] = name.toList) ∧ (f = false → ∀ q, q < keys.length → keys.getD q [] ≠ name.toList) ∧ w' = w
set_option maxHeartbeats 1600000 in
theorem binSearch (keys : List (List UInt8)) (a : Option Addr) (c : Nat) (name : ByteArray) (B : Nat → Prop) (w : World) (hl : keys.length ≤ 1048576) (hs : keysB keys = true) (hS : Strs w B a keys) :
    Calls Try.prog 11 #[.slice a keys.length c, .string name] w (BinAns keys name w) := by
  have hcell : ∃ b off, (0 < keys.length → a = some ⟨b, off, none⟩) ∧ ∀ i, i < keys.length → w.cell? ⟨b, off + i, none⟩ = some (.string ⟨(keys.getD i []).toArray⟩) := by
    rcases hS with h | ⟨b, off, ha, _, hc⟩
    · exact ⟨0, 0, fun h' => absurd h (by omega), fun i hi => absurd h (by omega)⟩
    · exact ⟨b, off, fun _ => ha, fun i hi => by rw [List.getD_eq_getElem?_getD, List.getElem?_eq_getElem hi]; exact hc i hi⟩
  obtain ⟨b, off, ha, hc⟩ := hcell
  have HA : Hid (0 < keys.length → a = some ⟨b, off, none⟩) := ha
  have HC : Hid (∀ i, i < keys.length → w.cell? ⟨b, off + i, none⟩ = some (.string ⟨(keys.getD i []).toArray⟩)) := hc
  have HR : Hid (∀ q p, p < q → q < keys.length → Op.bytesLess (keys.getD p []) (keys.getD q []) = true) := keys_rise hs
  clear ha hc hS hs
  go_enter Try.func11, Try.ntmps11
  go_wp2_with fail
  go_loop [7, 8] (fun x y => ∃ i j : Nat, i ≤ j ∧ j ≤ keys.length ∧ x = .int .i64 i ∧ y = .int .i64 j ∧ Hid (∀ q, q < i → Op.bytesLess (keys.getD q []) name.toList = true) ∧ Hid (∀ q, j ≤ q → q < keys.length → Op.bytesLess (keys.getD q []) name.toList = false)) (fun x y => ((intOf y) - (intOf x)).toNat)
  case atStart => exact ⟨0, keys.length, Nat.zero_le _, Nat.le_refl _, rfl, rfl, fun q h => absurd h (by omega), fun q h1 h2 => absurd h1 (by omega)⟩
  case round =>
    obtain ⟨i, j, hij, hj, rfl, rfl, HL, HG⟩ := hrel
    by_cases hlt : i < j
    · have hsum : (0 : Int) ≤ (i : Int) + (j : Int) := by omega
      have hlt' : (i : Int) < (j : Int) := by omega
      obtain rfl := HA.out (by omega)
      obtain ⟨h, hh⟩ : ∃ h : Nat, ((i : Int) + (j : Int)) / 2 = (h : Int) := ⟨(i + j) / 2, by omega⟩
      have hh1 : i ≤ h := by omega
      have hh2 : h < j := by omega
      have hhl : (h : Int) < (keys.length : Int) := by omega
      have hc := HC.out h (by omega)
      cases hb : Op.bytesLess (keys.getD h []) name.toList
      · have HG2 : Hid (∀ q, h ≤ q → q < keys.length → Op.bytesLess (keys.getD q []) name.toList = false) := by
          intro q h1 h2
          by_cases e : q = h
          · subst e; exact hb
          · cases e2 : Op.bytesLess (keys.getD q []) name.toList
            · rfl
            · have := less_trans _ _ _ (HR.out q h (by omega) h2) e2
              rw [hb] at this; cases this
        generalize keys.getD h [] = x at hc hb
        go_wp2_with (go_at_call 19; refine (lessC _ _ _).mono ?_; rintro e w' ⟨rfl, rfl⟩)
        go_round
        case rel => exact ⟨i, h, hh1, by omega, rfl, by go_num, HL.out, HG2.out⟩
        case measure => simp [intOf]; omega
      · have HL2 : Hid (∀ q, q < h + 1 → Op.bytesLess (keys.getD q []) name.toList = true) := by
          intro q h1
          by_cases e : q = h
          · subst e; exact hb
          · exact less_trans _ _ _ (HR.out h q (by omega) (by omega)) hb
        generalize keys.getD h [] = x at hc hb
        go_wp2_with (go_at_call 19; refine (lessC _ _ _).mono ?_; rintro e w' ⟨rfl, rfl⟩)
        go_round
        case rel => exact ⟨h + 1, j, by omega, hj, by go_num, rfl, HL2.out, HG.out⟩
        case measure => simp [intOf]; omega
    · have hij' : i = j := by omega
      subst hij'
      by_cases hin : i < keys.length
      · obtain rfl := HA.out (by omega)
        have hc := HC.out i hin
        have hii : (i : Int) < (keys.length : Int) := by omega
        have hdd : decide (i < keys.length) = true := decide_eq_true hin
        cases he : (keys.getD i [] == name.toList)
        · have HNO : Hid (∀ q, q < keys.length → keys.getD q [] ≠ name.toList) := by
            intro q hq e
            by_cases e1 : q < i
            · have := HL.out q e1
              rw [e, less_irrefl] at this; cases this
            · by_cases e2 : q = i
              · subst e2; rw [e] at he; simp at he
              · have h1 := HR.out q i (by omega) hq
                have h2 := HG.out i (Nat.le_refl _) hin
                rw [e, h2] at h1; cases h1
          generalize keys.getD i [] = x at hc he
          go_wp2_with (go_at_call 20; refine (nanS _ _).mono ?_; rintro e w' ⟨rfl, rfl⟩)
          go_ret2
          exact ⟨i, false, rfl, (fun h => by cases h), fun _ => HNO.out, rfl⟩
        · have HYES : Hid (keys.getD i [] = name.toList) := beq_iff_eq.1 he
          generalize keys.getD i [] = x at hc he
          go_wp2_with (go_at_call 20; refine (nanS _ _).mono ?_; rintro e w' ⟨rfl, rfl⟩)
          go_ret2
          exact ⟨i, true, rfl, fun _ => ⟨hin, HYES.out⟩, (fun h => by cases h), rfl⟩
      · have HNO : Hid (∀ q, q < keys.length → keys.getD q [] ≠ name.toList) := by
          intro q hq e
          have := HL.out q (by omega)
          rw [e, less_irrefl] at this; cases this
        have hdd : decide (i < keys.length) = false := decide_eq_false hin
        go_wp2_with fail
        go_ret2
        exact ⟨i, false, rfl, (fun h => by cases h), fun _ => HNO.out, rfl⟩
end Go.Proofs.Ytmmcnalhmpkkmaa
