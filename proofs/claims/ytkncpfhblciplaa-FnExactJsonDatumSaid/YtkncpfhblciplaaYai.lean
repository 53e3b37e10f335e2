import Derived.Test.YtkncpfhblciplaaYah
import Derived.WalkKit
namespace Go.Proofs.Ytkncpfhblciplaa
open Go.RowKit
set_option linter.unusedSimpArgs false
set_option maxHeartbeats 400000 in
theorem inS (n lo hi : Int) (w : World) : Calls Try.prog 71 #[.int .i64 n, .int .i64 lo, .int .i64 hi] w fun e w' => e = .returned (.bool (inB lo n hi)) ∧ w' = w := by
  go_enter Try.func71, Try.ntmps71
  go_wp2
  all_goals
    go_ret
    refine ⟨ret_b ?_, rfl⟩
    rw [Bool.eq_iff_iff]; simp [inB]; try omega
theorem text_end {s : ByteArray} (ha : ∀ j (hj : j < s.size), charB s[j] = true) : textB s.data.toList = decide ((s.size : Int) ≤ 200) := by
  by_cases h : s.size ≤ 200
  · rw [text_all h ha, decide_eq_true (by omega)]
  · rw [text_long (by omega), decide_eq_false (by omega)]
set_option maxHeartbeats 800000 in
theorem textSs (s : ByteArray) (w : World) (hs : s.size ≤ maxLen) : Calls Try.prog 72 #[.string s] w fun e w' => e = .returned (.bool (textB s.data.toList)) ∧ w' = w := by
  unfold maxLen at hs
  go_enter Try.func72, Try.ntmps72
  go_wp2_with fail
  go_loop [3] (fun t => ∃ k : Nat, k ≤ s.size ∧ t = .int .i64 k ∧ Hid (∀ j (hj : j < s.size), j < k → charB s[j] = true)) (fun t => s.size - (intOf t).toNat)
  case atStart => exact ⟨0, Nat.zero_le _, rfl, fun j hj h => absurd h (by omega)⟩
  case round =>
    obtain ⟨k, hk, rfl, hall⟩ := hrel
    by_cases hlt : k < s.size
    · cases hc : charB s[k]
      · have HN : Hid (textB s.data.toList = false) := text_char k hlt hc
        rcases char_false hc with h1 | h1
        · clear hc
          go_wp2_with fail
          go_ret
          exact ⟨ret_b HN.out.symm, rfl⟩
        · have h2 : decide ((s[k].toNat : Int) < 32) = false := by simp; omega
          clear hc
          go_wp2_with fail
          go_ret
          exact ⟨ret_b HN.out.symm, rfl⟩
      · have HC : Hid (charB s[k] = true) := hc
        obtain ⟨h1, h2⟩ := char_true hc
        clear hc
        go_wp2_with fail
        go_round
        case rel => exact ⟨k + 1, by omega, by go_num, fun j hj h => by rcases Nat.lt_succ_iff_lt_or_eq.1 h with h | rfl; exact hall.out j hj h; exact HC.out⟩
        case measure => simp [intOf]; omega
    · have HN : Hid (textB s.data.toList = decide ((s.size : Int) ≤ 200)) := text_end (fun j hj => hall.out j hj (by omega))
      go_wp2_with fail
      all_goals
        go_ret
        exact ⟨ret_b HN.out.symm, rfl⟩
theorem textS (t : List UInt8) (w : World) (hs : t.length ≤ maxLen) : Calls Try.prog 72 #[.string ⟨t.toArray⟩] w fun e w' => e = .returned (.bool (textB t)) ∧ w' = w :=
  textSs ⟨t.toArray⟩ w (by show t.toArray.size ≤ maxLen; simpa using hs)
def okD (d : Nat) (j : J) : Bool := decide (0 ≤ left 400 (cnt d j))
theorem left_both {a b : Option Nat} {n m : Int} (ha : left 400 a = 400 - n) (hn0 : 0 ≤ n) (hn : n ≤ 400) (hb : left 400 b = 400 - m) (hm0 : 0 ≤ m) (hm : m ≤ 400) : left 400 (addO a b) = if n + m ≤ 400 then 400 - (n + m) else -1 := by
  cases a with
  | none => simp [left] at ha; omega
  | some x =>
    cases b with
    | none => simp [left] at hb; omega
    | some y =>
      simp only [left, addO] at ha hb ⊢
      split at ha <;> split at hb <;> split <;> split <;> omega
theorem left_bad {a b : Option Nat} (hb : left 400 b < 0) : left 400 (addO a b) = -1 := by
  cases a with
  | none => rfl
  | some x =>
    cases b with
    | none => rfl
    | some y =>
      simp only [left, addO] at hb ⊢
      split at hb
      · omega
      · rw [if_neg (by omega)]
theorem ok_leaf {d : Nat} {j : J} (hk : 0 ≤ j.k ∧ j.k ≤ 3) : okD (d + 1) j = partB j ∧ (okD (d + 1) j = true → left 400 (cnt (d + 1) j) = 400 - 1) := by
  cases hp : partB j
  · have : okD (d + 1) j = false := by unfold okD; rw [cnt_nopart hp]; rfl
    rw [this]; exact ⟨rfl, fun h => by cases h⟩
  · have hi : j.items = [] := by
      have h4 : j.k = 0 ∨ j.k = 1 ∨ j.k = 2 ∨ j.k = 3 := by omega
      have : noItems j = true := by
        rcases h4 with h | h | h | h
        · rw [part0 h] at hp; simp at hp; exact hp.2.2.2
        · rw [part1 h] at hp; simp at hp; exact hp.2.2.2
        · rw [part2 h] at hp; simp at hp; exact hp.2.2.2
        · rw [part3 h] at hp; simp at hp; exact hp.2.2.2
      unfold noItems at this; simpa using this
    have hc : cnt (d + 1) j = some 1 := by rw [cnt_part hp, hi]; rfl
    have : left 400 (cnt (d + 1) j) = 400 - 1 := by rw [hc]; rfl
    exact ⟨by unfold okD; rw [this]; rfl, fun _ => this⟩
end Go.Proofs.Ytkncpfhblciplaa
namespace Go.Proofs.Ytkncpfhblciplaa
structure At where
  k : Int
  n : Int
  t : List UInt8
theorem At.ext' {a b : At} (h1 : a.k = b.k) (h2 : a.n = b.n) (h3 : a.t = b.t) : a = b := by cases a; cases b; simp_all
end Go.Proofs.Ytkncpfhblciplaa
