import Derived.Test.YtkjfefjkelckiaaGreatZai
import Derived.Test.YtkjfefjkelckiaaGreatZad
import Derived.Test.YtkjfefjkelckiaaGreatZaa
import Derived.Test.YtkjfefjkelckiaaGreatZah
import Derived.Lib.Hide
namespace Go.Proofs.YtkjfefjkelckiaaGreat
open Go.RowKit
set_option linter.unusedSimpArgs false
set_option maxHeartbeats 400000 in
theorem numberOK (n : Int) (w : World) : Calls Tryz.prog 91 #[.int .i64 n] w fun e w' => e = .returned (.bool (inB (-1000000000) n 1000000000)) ∧ w' = w := by
  go_enter Tryz.func91, Tryz.ntmps91
  go_wp2
  all_goals
    go_ret
    refine ⟨ret_b ?_, rfl⟩
    rw [Bool.eq_iff_iff]; simp [inB]; try omega
end Go.Proofs.YtkjfefjkelckiaaGreat
namespace Go.Proofs.YtkjfefjkelckiaaGreat
open Go.RowKit
set_option linter.unusedSimpArgs false
set_option maxHeartbeats 400000 in
theorem inS (n lo hi : Int) (w : World) : Calls Tryz.prog 73 #[.int .i64 n, .int .i64 lo, .int .i64 hi] w fun e w' => e = .returned (.bool (inB lo n hi)) ∧ w' = w := by
  go_enter Tryz.func73, Tryz.ntmps73
  go_wp2
  all_goals
    go_ret
    refine ⟨ret_b ?_, rfl⟩
    rw [Bool.eq_iff_iff]; simp [inB]; try omega
theorem text_end {s : ByteArray} (ha : ∀ j (hj : j < s.size), charB s[j] = true) : textB s.data.toList = decide ((s.size : Int) ≤ 200) := by
  by_cases h : s.size ≤ 200
  · rw [text_all h ha, decide_eq_true (by omega)]
  · rw [text_long (by omega), decide_eq_false (by omega)]
set_option maxHeartbeats 800000 in
theorem textSs (s : ByteArray) (w : World) (hs : s.size ≤ maxLen) : Calls Tryz.prog 87 #[.string s] w fun e w' => e = .returned (.bool (textB s.data.toList)) ∧ w' = w := by
  unfold maxLen at hs
  go_enter Tryz.func87, Tryz.ntmps87
  go_wp2_with fail
  go_loop [3] (fun t => ∃ k : Nat, k ≤ s.size ∧ t = .int .i64 k ∧ Hid (∀ j (hj : j < s.size), j < k → charB s[j] = true)) (fun t => s.size - (intOf t).toNat)
  case atStart => exact ⟨0, Nat.zero_le _, rfl, fun j hj h => absurd h (by omega)⟩
  case round =>
    obtain ⟨k, hk, rfl, hall⟩ := hrel
    by_cases hlt : k < s.size
    · cases hc : charB s[k]
      · have HN : Hid (textB s.data.toList = false) := text_char k hlt hc
        rcases char_false hc with h1 | h1
        · clear hc
          go_wp2_with fail
          go_ret
          exact ⟨ret_b HN.out.symm, rfl⟩
        · have h2 : decide ((s[k].toNat : Int) < 32) = false := by simp; omega
          clear hc
          go_wp2_with fail
          go_ret
          exact ⟨ret_b HN.out.symm, rfl⟩
      · have HC : Hid (charB s[k] = true) := hc
        obtain ⟨h1, h2⟩ := char_true hc
        clear hc
        go_wp2_with fail
        go_round
        case rel => exact ⟨k + 1, by omega, by go_num, fun j hj h => by rcases Nat.lt_succ_iff_lt_or_eq.1 h with h | rfl; exact hall.out j hj h; exact HC.out⟩
        case measure => simp [intOf]; omega
    · have HN : Hid (textB s.data.toList = decide ((s.size : Int) ≤ 200)) := text_end (fun j hj => hall.out j hj (by omega))
      go_wp2_with fail
      all_goals
        go_ret
        exact ⟨ret_b HN.out.symm, rfl⟩
theorem textS (t : List UInt8) (w : World) (hs : t.length ≤ maxLen) : Calls Tryz.prog 87 #[.string ⟨t.toArray⟩] w fun e w' => e = .returned (.bool (textB t)) ∧ w' = w :=
  textSs ⟨t.toArray⟩ w (by show t.toArray.size ≤ maxLen; simpa using hs)
end Go.Proofs.YtkjfefjkelckiaaGreat
namespace Go.Proofs.YtkjfefjkelckiaaGreat
open Go.RowKit
set_option linter.unusedSimpArgs false
def Cl.sz (c : Cl) : Nat := c.nm.length + c.rf.length
def kindB (c : Cl) : Bool :=
  if c.k = 1 then inB (-1000000000) c.lo 1000000000 && (inB (-1000000000) c.hi 1000000000 && (decide (c.lo ≤ c.hi) && (c.rf.isEmpty && !c.st)))
  else if c.k = 4 then (c.mn == 0) && ((c.lo == 0) && ((c.hi == 0) && nameB c.rf))
  else if c.k = 2 ∨ c.k = 3 then (c.lo == 0) && ((c.hi == 0) && (c.rf.isEmpty && !c.st))
  else false
def colB (c : Cl) : Bool := nameB c.nm && (inB 0 c.mn 1 && (inB 1 c.mx 8 && kindB c))
theorem colB_kind {c : Cl} (h : colB c = true) : 1 ≤ c.k ∧ c.k ≤ 4 := by
  unfold colB kindB at h
  by_cases h1 : c.k = 1
  · omega
  by_cases h4 : c.k = 4
  · omega
  by_cases h2 : c.k = 2 ∨ c.k = 3
  · omega
  · rw [if_neg h1, if_neg h4, if_neg h2] at h; simp at h
theorem heap_keptC {w w' : World} {b : Nat} {o : Obj} (h : w.heap[b]? = some o) (hB : Below w.heap.size w w') : w'.heap[b]? = some o := by
  rw [hB.block b (Array.getElem?_eq_some_iff.1 h).1]; exact h
theorem heap_newC (w : World) (o : Obj) : (w.alloc o).heap[w.heap.size]? = some o := by
  show (w.heap.push o)[w.heap.size]? = _
  simp
def BoxC (ty : TypeId) (w W : World) (c : Cl) : Prop := W.heap[w.heap.size]? = some (.cells #[.string ⟨c.nm.toArray⟩, .int .i64 c.k, .int .i64 c.mn, .int .i64 c.mx, .int .i64 c.lo, .int .i64 c.hi, .string ⟨c.rf.toArray⟩, .bool c.st] ty) ∧ Below w.heap.size w W
theorem BoxC.later {ty : TypeId} {w W W' : World} {c : Cl} (h : BoxC ty w W c) (hB : Below W.heap.size W W') : BoxC ty w W' c := ⟨heap_keptC h.1 hB, h.2.trans (hB.mono h.2.size)⟩
theorem boxC (ty : TypeId) (w : World) (c : Cl) : BoxC ty w (w.alloc (.cells #[.string ⟨c.nm.toArray⟩, .int .i64 c.k, .int .i64 c.mn, .int .i64 c.mx, .int .i64 c.lo, .int .i64 c.hi, .string ⟨c.rf.toArray⟩, .bool c.st] ty)) c := ⟨heap_newC _ _, (Below.refl _ _).alloc (Nat.le_refl _) _⟩
theorem BoxC.drew {ty : TypeId} {w W : World} {c : Cl} (h : BoxC ty w W c) : BoxC ty w W.drew c := h.later (Below.refl _ _).drew
theorem BoxC.drewN {ty : TypeId} {w W : World} {c : Cl} (h : BoxC ty w W c) (n : Nat) : BoxC ty w (W.drewN n) c := h.later (below_drewN (Below.refl _ _) n)
end Go.Proofs.YtkjfefjkelckiaaGreat
