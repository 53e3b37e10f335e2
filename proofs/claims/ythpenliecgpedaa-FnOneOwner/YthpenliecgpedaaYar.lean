import Derived.Test.YthpenliecgpedaaYap
import Derived.Test.YthpenliecgpedaaYaq
namespace Go.Proofs.Ythpenliecgpedaa
open Go.RowKit
set_option linter.unusedSimpArgs false
def askK (lg ok ss nm : Bool) : Int := if lg then 2 else if ok then (if ss && nm then 0 else 4) else 1
noncomputable def askC (l : List LkV) (n : Int) (s : List UInt8) : Int := askK (decide (4096 < l.length) || decide (65536 < s.length)) (lksB l) (sesB n) (nameB s)
def xN : List UInt8 := [120]
theorem name_x : nameB xN = true := by decide +kernel
set_option maxRecDepth 100000 in
set_option maxHeartbeats 3200000 in
theorem askS (l : List LkV) (n : Int) (s : List UInt8) (a : Option Addr) (c : Nat) (B : Nat → Prop) (w : World) (ho : (dLockS l).le maxLen) (hs : s.length ≤ maxLen) (hS : Rd w B (dLockS l) (.slice a l.length c)) :
    Calls Try.prog 27 #[.slice a l.length c, .int .i64 n, .string ⟨s.toArray⟩] w fun e w' => e = .returned (.int .i64 (askC l n s)) ∧ Below w.heap.size w w' := by
  have hl : l.length ≤ maxLen := (Ls_le.1 ho).2.1
  have CL := Lib.hid (locksS l a c B w ho hS)
  have CN : Hid (∀ W, Calls Try.prog 53 #[.string ⟨s.toArray⟩] W fun e w' => e = .returned (.bool (nameB s)) ∧ w' = W) := fun W => nameS s W hs
  have HC : Hid (askC l n s = askK (decide (4096 < l.length) || decide (65536 < s.length)) (lksB l) (sesB n) (nameB s)) := rfl
  unfold maxLen at hl hs
  clear ho hS
  by_cases h1 : 4096 < l.length
  case pos =>
    have d1 : decide (4096 < (l.length : Int)) = true := decide_eq_true (by omega)
    have HR : Hid (askC l n s = 2) := by show _ = _; rw [HC.out, decide_eq_true h1]; rfl
    clear h1
    go_enter Try.func27, Try.ntmps27
    go_wp2_with fail
    go_ret
    exact ⟨ret_i HR.out.symm, Below.refl _ _⟩
  have d1 : decide (4096 < (l.length : Int)) = false := decide_eq_false (by omega)
  by_cases h2 : 65536 < s.length
  case pos =>
    have d2 : decide (65536 < (s.length : Int)) = true := decide_eq_true (by omega)
    have HR : Hid (askC l n s = 2) := by show _ = _; rw [HC.out, decide_eq_true h2, Bool.or_true]; rfl
    clear h1 h2
    go_enter Try.func27, Try.ntmps27
    go_wp2_with fail
    go_ret
    exact ⟨ret_i HR.out.symm, Below.refl _ _⟩
  have d2 : decide (65536 < (s.length : Int)) = false := decide_eq_false (by omega)
  rw [decide_eq_false h1, decide_eq_false h2] at HC
  clear h1 h2
  cases hk : lksB l
  case false =>
    have HR : Hid (askC l n s = 1) := by show _ = _; rw [HC.out, hk]; rfl
    go_enter Try.func27, Try.ntmps27
    go_wp2_with (go_at_call 51; refine CL.out.mono ?_; rintro e w1 ⟨rfl, hB⟩; rw [hk])
    go_ret
    exact ⟨ret_i HR.out.symm, hB⟩
  cases hse : sesB n
  case false =>
    have HR : Hid (askC l n s = 4) := by show _ = _; rw [HC.out, hk, hse]; rfl
    go_enter Try.func27, Try.ntmps27
    go_wp2_with (first | (go_at_call 51; refine CL.out.mono ?_; rintro e w1 ⟨rfl, hB⟩; rw [hk]) | (go_at_call 52; refine (sesS _ _).mono ?_; rintro e w1 ⟨rfl, rfl⟩; rw [hse]))
    go_ret
    exact ⟨ret_i HR.out.symm, hB⟩
  cases hnm : nameB s
  case false =>
    have HR : Hid (askC l n s = 4) := by show _ = _; rw [HC.out, hk, hse, hnm]; rfl
    go_enter Try.func27, Try.ntmps27
    go_wp2_with (first | (go_at_call 51; refine CL.out.mono ?_; rintro e w1 ⟨rfl, hB⟩; rw [hk]) | (go_at_call 52; refine (sesS _ _).mono ?_; rintro e w1 ⟨rfl, rfl⟩; rw [hse]) | (go_at_call 53; refine (CN.out _).mono ?_; rintro e w1 ⟨rfl, rfl⟩; rw [hnm]))
    go_ret
    exact ⟨ret_i HR.out.symm, hB⟩
  have HR : Hid (askC l n s = 0) := by show _ = _; rw [HC.out, hk, hse, hnm]; rfl
  go_enter Try.func27, Try.ntmps27
  go_wp2_with (first | (go_at_call 51; refine CL.out.mono ?_; rintro e w1 ⟨rfl, hB⟩; rw [hk]) | (go_at_call 52; refine (sesS _ _).mono ?_; rintro e w1 ⟨rfl, rfl⟩; rw [hse]) | (go_at_call 53; refine (CN.out _).mono ?_; rintro e w1 ⟨rfl, rfl⟩; rw [hnm]))
  go_ret
  exact ⟨ret_i HR.out.symm, hB⟩
theorem longI (s : List UInt8) (w : World) (hs : s.length ≤ maxLen) : Calls Try.prog 42 #[.string ⟨s.toArray⟩] w fun e w' => e = .returned (.bool (decide (65536 < s.length))) ∧ w' = w := by
  unfold maxLen at hs
  by_cases h2 : 65536 < s.length
  · have d2 : decide (65536 < (s.length : Int)) = true := decide_eq_true (by omega)
    have HR : Hid (decide (65536 < s.length) = true) := decide_eq_true h2
    clear h2
    go_enter Try.func42, Try.ntmps42
    go_wp2_with fail
    go_ret
    exact ⟨ret_b HR.out.symm, rfl⟩
  · have d2 : decide (65536 < (s.length : Int)) = false := decide_eq_false (by omega)
    have HR : Hid (decide (65536 < s.length) = false) := decide_eq_false h2
    clear h2
    go_enter Try.func42, Try.ntmps42
    go_wp2_with fail
    go_ret
    exact ⟨ret_b HR.out.symm, rfl⟩
def OneT (W : World) (a : Option Addr) (m : Nat) (s : List UInt8) : Prop := m = 0 ∨ (m = 1 ∧ ∃ b off, a = some ⟨b, off, none⟩ ∧ W.cell? ⟨b, off, none⟩ = some (.string ⟨s.toArray⟩))
def longM (m : Nat) (s : List UInt8) : Bool := decide (m = 1) && decide (65536 < s.length)
def idxM (b : Bool) : Int := if b then 0 else -1
def nameM (m : Nat) (s : List UInt8) : Bool := decide (m = 0) || nameB s
theorem OneT.later {W W' : World} {a : Option Addr} {m : Nat} {s : List UInt8} (h : OneT W a m s) (hB : Below W.heap.size W W') : OneT W' a m s := by
  rcases h with h | ⟨h, b, off, ha, hc⟩
  · exact .inl h
  · exact .inr ⟨h, b, off, ha, by rw [hB.cell (p := ⟨b, off, none⟩) (World.block_lt_of_cell? _ _ hc)]; exact hc⟩
set_option maxRecDepth 100000 in
set_option maxHeartbeats 3200000 in
theorem idxLong (a : Option Addr) (m c : Nat) (s : List UInt8) (w : World) (hs : s.length ≤ maxLen) (hA : OneT w a m s) :
    Calls Try.prog 67 #[.slice a m c, .func (.func 42) #[] #[]] w fun e w' => e = .returned (.int .i64 (idxM (longM m s))) ∧ w' = w := by
  have CT : Hid (∀ W, Calls Try.prog 42 #[.string ⟨s.toArray⟩] W fun e w' => e = .returned (.bool (decide (65536 < s.length))) ∧ w' = W) := fun W => longI s W hs
  have HL : Hid (longM m s = (decide (m = 1) && decide (65536 < s.length))) := rfl
  rcases hA with rfl | ⟨rfl, b, off, rfl, c0⟩
  · have HR : Hid (idxM (longM 0 s) = -1) := by show _ = _; rw [HL.out]; rfl
    go_enter Try.func67, Try.ntmps67
    go_wp2_with fail
    go_loopw [8] (fun i wr => i = .int .i64 0 ∧ Hid (wr = w)) (fun i _ => 0)
    case atStart => exact ⟨rfl, rfl⟩
    case round =>
      obtain ⟨rfl, HW⟩ := hrel
      obtain rfl := HW.out
      go_wp2_with fail
      go_ret
      exact ⟨ret_i HR.out.symm, rfl⟩
  · cases hd : decide (65536 < s.length)
    case false =>
      have HR : Hid (idxM (longM 1 s) = -1) := by show _ = _; rw [HL.out, hd]; rfl
      go_enter Try.func67, Try.ntmps67
      go_wp2_with fail
      go_loopw [8] (fun i wr => ∃ k : Nat, k ≤ 1 ∧ i = .int .i64 k ∧ Hid (wr = w)) (fun i _ => 1 - (intOf i).toNat)
      case atStart => exact ⟨0, by omega, rfl, rfl⟩
      case round =>
        obtain ⟨k, hk, rfl, HW⟩ := hrel
        obtain rfl := HW.out
        rcases (by omega : k = 0 ∨ k = 1) with rfl | rfl
        · go_wp2_with (go_at_call 42; refine (CT.out _).mono ?_; rintro e w1 ⟨rfl, rfl⟩; rw [hd])
          go_roundw
          case rel => exact ⟨1, by omega, by go_num, by first | rfl | exact trivial⟩
          case measure => simp [intOf]
        · go_wp2_with fail
          go_ret
          exact ⟨ret_i HR.out.symm, rfl⟩
    case true =>
      have HR : Hid (idxM (longM 1 s) = 0) := by show _ = _; rw [HL.out, hd]; rfl
      go_enter Try.func67, Try.ntmps67
      go_wp2_with fail
      go_loopw [8] (fun i wr => i = .int .i64 0 ∧ Hid (wr = w)) (fun i _ => 0)
      case atStart => exact ⟨rfl, rfl⟩
      case round =>
        obtain ⟨rfl, HW⟩ := hrel
        obtain rfl := HW.out
        go_wp2_with (go_at_call 42; refine (CT.out _).mono ?_; rintro e w1 ⟨rfl, rfl⟩; rw [hd])
        go_ret
        exact ⟨ret_i HR.out.symm, rfl⟩
theorem hasLong (a : Option Addr) (m c : Nat) (s : List UInt8) (w : World) (hs : s.length ≤ maxLen) (hA : OneT w a m s) :
    Calls Try.prog 41 #[.slice a m c, .func (.func 42) #[] #[]] w fun e w' => e = .returned (.bool (longM m s)) ∧ w' = w := by
  have CI := Lib.hid (idxLong a m c s w hs hA)
  clear hA
  cases hm : longM m s
  · rw [hm] at CI
    replace CI : Hid (Calls Try.prog 67 #[.slice a m c, .func (.func 42) #[] #[]] w fun e w' => e = .returned (.int .i64 (-1)) ∧ w' = w) := CI
    go_enter Try.func41, Try.ntmps41
    go_wp2_with (go_at_call 67; refine CI.out.mono ?_; rintro e w1 ⟨rfl, rfl⟩)
    go_ret
    exact ⟨rfl, rfl⟩
  · rw [hm] at CI
    replace CI : Hid (Calls Try.prog 67 #[.slice a m c, .func (.func 42) #[] #[]] w fun e w' => e = .returned (.int .i64 0) ∧ w' = w) := CI
    go_enter Try.func41, Try.ntmps41
    go_wp2_with (go_at_call 67; refine CI.out.mono ?_; rintro e w1 ⟨rfl, rfl⟩)
    go_ret
    exact ⟨rfl, rfl⟩
set_option maxRecDepth 100000 in
set_option maxHeartbeats 3200000 in
theorem fewName (a : Option Addr) (m c : Nat) (mi : Int) (hmi : mi = (m : Int)) (s : List UInt8) (w : World) (hs : s.length ≤ maxLen) (hA : OneT w a m s) :
    Calls Try.prog 44 #[.slice a m c, .int .i64 mi, .func (.func 45) #[] #[]] w fun e w' => e = .returned (.bool (nameM m s)) ∧ w' = w := by
  have CT : Hid (∀ W, Calls Try.prog 45 #[.string ⟨s.toArray⟩] W fun e w' => e = .returned (.bool (nameB s)) ∧ w' = W) := fun W => nameI s W hs
  have HL : Hid (nameM m s = (decide (m = 0) || nameB s)) := rfl
  rcases hA with rfl | ⟨rfl, b, off, rfl, c0⟩
  · obtain rfl : mi = 0 := hmi
    have HR : Hid (nameM 0 s = true) := by show _ = _; rw [HL.out]; rfl
    go_enter Try.func44, Try.ntmps44
    go_wp2_with fail
    go_loopw [14] (fun i wr => i = .int .i64 0 ∧ Hid (wr = w)) (fun i _ => 0)
    case atStart => exact ⟨rfl, rfl⟩
    case round =>
      obtain ⟨rfl, HW⟩ := hrel
      obtain rfl := HW.out
      go_wp2_with fail
      go_ret
      exact ⟨ret_b HR.out.symm, rfl⟩
  · obtain rfl : mi = 1 := hmi
    cases hd : nameB s
    case true =>
      have HR : Hid (nameM 1 s = true) := by show _ = _; rw [HL.out, hd]; rfl
      go_enter Try.func44, Try.ntmps44
      go_wp2_with fail
      go_loopw [14] (fun i wr => ∃ k : Nat, k ≤ 1 ∧ i = .int .i64 k ∧ Hid (wr = w)) (fun i _ => 1 - (intOf i).toNat)
      case atStart => exact ⟨0, by omega, rfl, rfl⟩
      case round =>
        obtain ⟨k, hk, rfl, HW⟩ := hrel
        obtain rfl := HW.out
        rcases (by omega : k = 0 ∨ k = 1) with hk0 | hk1
        · have HK := Lib.hid hk0
          have hki : (k : Int) < 1 := by omega
          have hkn : (0 : Int) ≤ (k : Int) := by omega
          have c1 : wr.cell? ⟨b, off + k, none⟩ = some (.string ⟨s.toArray⟩) := by rw [hk0]; exact c0
          clear hk0 hk c0
          go_wp2_with fail
          refine (CT.out _).mono ?_
          rintro e w1 ⟨rfl, rfl⟩
          rw [hd]
          clear hd HL
          go_wp2_with fail
          go_roundw
          case rel => exact ⟨k + 1, by have := HK.out; omega, by go_num, by first | rfl | exact trivial⟩
          case measure => have := HK.out; simp [intOf]; omega
        · have hki : decide ((k : Int) < 1) = false := by simp; omega
          clear hk1 hk
          go_wp2_with fail
          go_ret
          exact ⟨ret_b HR.out.symm, rfl⟩
    case false =>
      have HR : Hid (nameM 1 s = false) := by show _ = _; rw [HL.out, hd]; rfl
      go_enter Try.func44, Try.ntmps44
      go_wp2_with fail
      go_loopw [14] (fun i wr => i = .int .i64 0 ∧ Hid (wr = w)) (fun i _ => 0)
      case atStart => exact ⟨rfl, rfl⟩
      case round =>
        obtain ⟨rfl, HW⟩ := hrel
        obtain rfl := HW.out
        go_wp2_with (go_at_call 45; refine (CT.out _).mono ?_; rintro e w1 ⟨rfl, rfl⟩; rw [hd])
        go_ret
        exact ⟨ret_b HR.out.symm, rfl⟩
set_option maxRecDepth 100000 in
set_option maxHeartbeats 3200000 in
theorem askI (l : List LkV) (n : Int) (s : List UInt8) (a : Option Addr) (c : Nat) (na : Option Addr) (m nc : Nat) (B : Nat → Prop) (w : World) (ho : (dLockS l).le maxLen) (hs : s.length ≤ maxLen) (hS : Rd w B (dLockS l) (.slice a l.length c)) (hN : OneT w na m s) :
    Calls Try.prog 23 #[.slice a l.length c, .int .i64 n, .slice na m nc] w fun e w' => e = .returned (.int .i64 (askK (decide (4096 < l.length) || longM m s) (lksB l) (sesB n) (nameM m s))) ∧ Below w.heap.size w w' := by
  have hl : l.length ≤ maxLen := (Ls_le.1 ho).2.1
  have CL := Lib.hid (locksI l a c B w ho hS)
  have CG := Lib.hid (hasLong na m nc s w hs hN)
  have CN : Hid (∀ W, Below w.heap.size w W → Calls Try.prog 44 #[.slice na m nc, .int .i64 m, .func (.func 45) #[] #[]] W fun e w' => e = .returned (.bool (nameM m s)) ∧ w' = W) := fun W h => fewName na m nc m rfl s W hs (hN.later h)
  have hm1 : m ≤ 1 := by rcases hN with h | ⟨h, -⟩ <;> omega
  obtain ⟨r, hr⟩ : ∃ r, r = askK (decide (4096 < l.length) || longM m s) (lksB l) (sesB n) (nameM m s) := ⟨_, rfl⟩
  rw [← hr]
  have HC := Lib.hid hr
  unfold maxLen at hl hs
  clear ho hS hr hN
  by_cases h1 : 4096 < l.length
  case pos =>
    have d1 : decide (4096 < (l.length : Int)) = true := decide_eq_true (by omega)
    have HR : Hid (r = 2) := by show _ = _; rw [HC.out, decide_eq_true h1]; rfl
    clear h1
    go_enter Try.func23, Try.ntmps23
    go_wp2_with fail
    go_ret
    exact ⟨ret_i HR.out.symm, Below.refl _ _⟩
  have d1 : decide (4096 < (l.length : Int)) = false := decide_eq_false (by omega)
  rw [decide_eq_false h1, Bool.false_or] at HC
  clear h1
  cases h2 : longM m s
  case true =>
    have HR : Hid (r = 2) := by show _ = _; rw [HC.out, h2]; rfl
    go_enter Try.func23, Try.ntmps23
    go_wp2_with (go_at_call 41; refine CG.out.mono ?_; rintro e w1 ⟨rfl, rfl⟩; rw [h2])
    go_ret
    exact ⟨ret_i HR.out.symm, Below.refl _ _⟩
  rw [h2] at HC
  cases hk : lksB l
  case false =>
    have HR : Hid (r = 1) := by show _ = _; rw [HC.out, hk]; rfl
    go_enter Try.func23, Try.ntmps23
    go_wp2_with (first | (go_at_call 41; refine CG.out.mono ?_; rintro e w1 ⟨rfl, rfl⟩; rw [h2]) | (go_at_call 16; refine CL.out.mono ?_; rintro e w1 ⟨rfl, hB⟩; rw [hk]))
    go_ret
    exact ⟨ret_i HR.out.symm, hB⟩
  cases hse : sesB n
  case false =>
    have HR : Hid (r = 4) := by show _ = _; rw [HC.out, hk, hse]; rfl
    go_enter Try.func23, Try.ntmps23
    go_wp2_with (first | (go_at_call 41; refine CG.out.mono ?_; rintro e w1 ⟨rfl, rfl⟩; rw [h2]) | (go_at_call 16; refine CL.out.mono ?_; rintro e w1 ⟨rfl, hB⟩; rw [hk]) | (go_at_call 43; refine (sesI _ _).mono ?_; rintro e w1 ⟨rfl, rfl⟩; rw [hse]))
    go_ret
    exact ⟨ret_i HR.out.symm, hB⟩
  cases hnm : nameM m s
  case false =>
    have HR : Hid (r = 4) := by show _ = _; rw [HC.out, hk, hse, hnm]; rfl
    go_enter Try.func23, Try.ntmps23
    go_wp2_with (first | (go_at_call 41; refine CG.out.mono ?_; rintro e w1 ⟨rfl, rfl⟩; rw [h2]) | (go_at_call 16; refine CL.out.mono ?_; rintro e w1 ⟨rfl, hB⟩; rw [hk]) | (go_at_call 43; refine (sesI _ _).mono ?_; rintro e w1 ⟨rfl, rfl⟩; rw [hse]) | (go_at_call 44; refine (CN.out _ hB).mono ?_; rintro e w1 ⟨rfl, rfl⟩; rw [hnm]))
    go_ret
    exact ⟨ret_i HR.out.symm, hB⟩
  have HR : Hid (r = 0) := by show _ = _; rw [HC.out, hk, hse, hnm]; rfl
  go_enter Try.func23, Try.ntmps23
  go_wp2_with (first | (go_at_call 41; refine CG.out.mono ?_; rintro e w1 ⟨rfl, rfl⟩; rw [h2]) | (go_at_call 16; refine CL.out.mono ?_; rintro e w1 ⟨rfl, hB⟩; rw [hk]) | (go_at_call 43; refine (sesI _ _).mono ?_; rintro e w1 ⟨rfl, rfl⟩; rw [hse]) | (go_at_call 44; refine (CN.out _ hB).mono ?_; rintro e w1 ⟨rfl, rfl⟩; rw [hnm]))
  go_ret
  exact ⟨ret_i HR.out.symm, hB⟩
end Go.Proofs.Ythpenliecgpedaa
