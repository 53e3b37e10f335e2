import Derived.Test.YtponpcbedcihaaaTTb
namespace Go.Proofs.Ytponpcbedcihaaa
open Go.RowKit
set_option linter.unusedSimpArgs false
set_option maxHeartbeats 1600000 in
theorem eqColumn (x : Cl) (w : World) :
    Calls Try.prog 42 #[.agg #[.string ⟨x.nm.toArray⟩, .int .i64 x.k, .int .i64 x.mn, .int .i64 x.mx, .int .i64 x.lo, .int .i64 x.hi, .string ⟨x.rf.toArray⟩, .bool x.st], .agg #[.string ⟨x.nm.toArray⟩, .int .i64 x.k, .int .i64 x.mn, .int .i64 x.mx, .int .i64 x.lo, .int .i64 x.hi, .string ⟨x.rf.toArray⟩, .bool x.st]] w fun e w' => e = .returned (.bool true) ∧ Below w.heap.size w w' := by
  go_enter Try.func42, Try.ntmps42
  go_wp2_with fail
  go_ret
  exact ⟨rfl, ((Below.refl _ _).alloc (Nat.le_refl _) _).alloc (by simp) _⟩
set_option maxHeartbeats 3200000 in
theorem eqColumns (l : List Cl) (a a' : Option Addr) (c c' : Nat) (A B : Nat → Prop) (w : World) (hl : l.length ≤ maxLen) (hA : Cols w A a l) (hB : Cols w B a' l) :
    Calls Try.prog 24 #[.slice a l.length c, .slice a' l.length c'] w fun e w' => e = .returned (.bool true) ∧ Below w.heap.size w w' := by
  unfold maxLen at hl
  have HA : Hid (Cols w A a l) := hA
  have HB : Hid (Cols w B a' l) := hB
  clear hA hB
  go_enter Try.func24, Try.ntmps24
  go_wp2_with fail
  go_loopw [5] (fun i wr => ∃ k : Nat, k ≤ l.length ∧ i = .int .i64 k ∧ Hid (Below w.heap.size w wr)) (fun i _ => l.length - (intOf i).toNat)
  case atStart => exact ⟨0, Nat.zero_le _, rfl, Below.refl _ _⟩
  case round =>
    obtain ⟨k, hk, rfl, HW⟩ := hrel
    by_cases hlt : k < l.length
    · obtain ⟨b, off, rfl, -, hc⟩ := (HA.out.later HW.out).at k hlt
      obtain ⟨c0, c1, c2, c3, c4, c5, c6, c7⟩ := hc k hlt
      obtain ⟨b', off', rfl, -, hd⟩ := (HB.out.later HW.out).at k hlt
      obtain ⟨d0, d1, d2, d3, d4, d5, d6, d7⟩ := hd k hlt
      clear hc hd
      generalize l[k] = x at *
      have hki : (k : Int) < (l.length : Int) := by omega
      go_wp2_with fail
      go_region_with (go_at_call 42; refine (eqColumn x _).mono ?_; rintro e w1 ⟨rfl, hB1⟩)
      all_goals
        go_wp2_with fail
        go_roundw
        case rel => exact ⟨k + 1, by omega, by go_num, HW.out.trans ((Below.refl _ _).drew.trans (hB1.mono (by first | exact HW.out.size | (have := HW.out.size; simpa using this))))⟩
        case measure => simp [intOf]; omega
    · have hki : decide ((k : Int) < (l.length : Int)) = false := by simp; omega
      go_wp2_with fail
      go_ret
      exact ⟨rfl, HW.out⟩
set_option maxHeartbeats 1600000 in
theorem eqInts (l : List Int) (a a' : Option Addr) (c c' : Nat) (A B : Nat → Prop) (w : World) (hl : l.length ≤ maxLen) (hA : Ints w A a l) (hB : Ints w B a' l) :
    Calls Try.prog 25 #[.slice a l.length c, .slice a' l.length c'] w fun e w' => e = .returned (.bool true) ∧ Below w.heap.size w w' := by
  unfold maxLen at hl
  have HA : Hid (Ints w A a l) := hA
  have HB : Hid (Ints w B a' l) := hB
  clear hA hB
  go_enter Try.func25, Try.ntmps25
  go_wp2_with fail
  go_loopw [5] (fun i wr => ∃ k : Nat, k ≤ l.length ∧ i = .int .i64 k ∧ Hid (Below w.heap.size w wr)) (fun i _ => l.length - (intOf i).toNat)
  case atStart => exact ⟨0, Nat.zero_le _, rfl, Below.refl _ _⟩
  case round =>
    obtain ⟨k, hk, rfl, HW⟩ := hrel
    by_cases hlt : k < l.length
    · obtain ⟨b, off, rfl, -, hc⟩ := (HA.out.later HW.out).at k hlt
      have c0 := hc k hlt
      obtain ⟨b', off', rfl, -, hd⟩ := (HB.out.later HW.out).at k hlt
      have d0 := hd k hlt
      clear hc hd
      generalize l[k] = x at *
      have hki : (k : Int) < (l.length : Int) := by omega
      go_wp2_with fail
      go_quiet (fail)
      go_wp2_with fail
      go_roundw
      case rel => exact ⟨k + 1, by omega, by go_num, below_drewN HW.out _⟩
      case measure => simp [intOf]; omega
    · have hki : decide ((k : Int) < (l.length : Int)) = false := by simp; omega
      go_wp2_with fail
      go_ret
      exact ⟨rfl, HW.out⟩
set_option maxHeartbeats 1600000 in
theorem eqTable (t : Tb) (ca ca' : Option Addr) (cc cc' : Nat) (ua ua' : Option Addr) (uc uc' : Nat) (A B : Nat → Prop) (w : World) (ho : t.ok) (hA : t.Has w A ca ua) (hB : t.Has w B ca' ua') :
    Calls Try.prog 10 #[.agg #[.string ⟨t.nm.toArray⟩, .slice ca t.cols.length cc, .slice ua t.uq.length uc, .bool t.rt], .agg #[.string ⟨t.nm.toArray⟩, .slice ca' t.cols.length cc', .slice ua' t.uq.length uc', .bool t.rt]] w fun e w' => e = .returned (.bool true) ∧ Below w.heap.size w w' := by
  have al : ∀ (V : World) (o : Obj), Below V.heap.size V (V.alloc o) := fun V o => (Below.refl _ _).alloc (Nat.le_refl _) _
  have sz : ∀ (V : World) (o : Obj), (V.alloc o).heap.size = V.heap.size + 1 := fun V o => by simp
  have HE : Hid (∀ W, Below w.heap.size w W → Calls Try.prog 24 #[.slice ca t.cols.length cc, .slice ca' t.cols.length cc'] W fun e w' => e = .returned (.bool true) ∧ Below W.heap.size W w') := fun W h => eqColumns t.cols ca ca' cc cc' A B W ho.2.1 (hA.later h).1 (hB.later h).1
  have HI : Hid (∀ W, Below w.heap.size w W → Calls Try.prog 25 #[.slice ua t.uq.length uc, .slice ua' t.uq.length uc'] W fun e w' => e = .returned (.bool true) ∧ Below W.heap.size W w') := fun W h => eqInts t.uq ua ua' uc uc' A B W ho.2.2.2 (hA.later h).2 (hB.later h).2
  have M0 : Hid (((w.alloc (.cells #[.string ⟨t.nm.toArray⟩, .slice ca t.cols.length cc, .slice ua t.uq.length uc, .bool t.rt] 35)).alloc (.cells #[.string ⟨t.nm.toArray⟩, .slice ca' t.cols.length cc', .slice ua' t.uq.length uc', .bool t.rt] 35)).heap[w.heap.size]? = some (.cells #[.string ⟨t.nm.toArray⟩, .slice ca t.cols.length cc, .slice ua t.uq.length uc, .bool t.rt] 35) ∧ ((w.alloc (.cells #[.string ⟨t.nm.toArray⟩, .slice ca t.cols.length cc, .slice ua t.uq.length uc, .bool t.rt] 35)).alloc (.cells #[.string ⟨t.nm.toArray⟩, .slice ca' t.cols.length cc', .slice ua' t.uq.length uc', .bool t.rt] 35)).heap[w.heap.size + 1]? = some (.cells #[.string ⟨t.nm.toArray⟩, .slice ca' t.cols.length cc', .slice ua' t.uq.length uc', .bool t.rt] 35) ∧ Below w.heap.size w ((w.alloc (.cells #[.string ⟨t.nm.toArray⟩, .slice ca t.cols.length cc, .slice ua t.uq.length uc, .bool t.rt] 35)).alloc (.cells #[.string ⟨t.nm.toArray⟩, .slice ca' t.cols.length cc', .slice ua' t.uq.length uc', .bool t.rt] 35))) := by
    refine ⟨heap_keptC (heap_newC _ _) (al _ _), ?_, (al _ _).trans ((al _ _).mono (by rw [sz]; omega))⟩
    have h := heap_newC (w.alloc (.cells #[.string ⟨t.nm.toArray⟩, .slice ca t.cols.length cc, .slice ua t.uq.length uc, .bool t.rt] 35)) (.cells #[.string ⟨t.nm.toArray⟩, .slice ca' t.cols.length cc', .slice ua' t.uq.length uc', .bool t.rt] 35)
    rw [sz] at h
    exact h
  clear hA hB ho al sz
  go_enter Try.func10, Try.ntmps10
  go_wp2_with fail
  refine (HE.out _ M0.out.2.2).mono ?_
  rintro e w1 ⟨rfl, hB1⟩
  have M1 : Hid (w1.heap[w.heap.size]? = some (.cells #[.string ⟨t.nm.toArray⟩, .slice ca t.cols.length cc, .slice ua t.uq.length uc, .bool t.rt] 35) ∧ w1.heap[w.heap.size + 1]? = some (.cells #[.string ⟨t.nm.toArray⟩, .slice ca' t.cols.length cc', .slice ua' t.uq.length uc', .bool t.rt] 35) ∧ Below w.heap.size w w1) := ⟨heap_keptC M0.out.1 hB1, heap_keptC M0.out.2.1 hB1, M0.out.2.2.trans (hB1.mono M0.out.2.2.size)⟩
  have x2 := cell_at (o := 2) M1.out.1 rfl
  have y2 := cell_at (o := 2) M1.out.2.1 rfl
  clear hB1 M0
  go_wp2_with fail
  refine (HI.out _ M1.out.2.2).mono ?_
  rintro e w2 ⟨rfl, hB2⟩
  have M2 : Hid (w2.heap[w.heap.size]? = some (.cells #[.string ⟨t.nm.toArray⟩, .slice ca t.cols.length cc, .slice ua t.uq.length uc, .bool t.rt] 35) ∧ w2.heap[w.heap.size + 1]? = some (.cells #[.string ⟨t.nm.toArray⟩, .slice ca' t.cols.length cc', .slice ua' t.uq.length uc', .bool t.rt] 35) ∧ Below w.heap.size w w2) := ⟨heap_keptC M1.out.1 hB2, heap_keptC M1.out.2.1 hB2, M1.out.2.2.trans (hB2.mono M1.out.2.2.size)⟩
  have x3 := cell_at (o := 3) M2.out.1 rfl
  have y3 := cell_at (o := 3) M2.out.2.1 rfl
  clear hB2 M1
  go_wp2_with fail
  go_ret
  exact ⟨rfl, M2.out.2.2⟩
end Go.Proofs.Ytponpcbedcihaaa
