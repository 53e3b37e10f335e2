import Derived.Test.YthpenliecgpedaaYan
import Derived.Deep.QuietTactic
import Derived.BigQuiet
namespace Go.Proofs.Ythpenliecgpedaa
open Go.RowKit
set_option linter.unusedSimpArgs false
set_option maxHeartbeats 1600000 in
theorem sameIntsL (l : List Int) (a a' : Option Addr) (c c' : Nat) (A B : Nat → Prop) (w : World) (hl : l.length ≤ 1048576) (hA : Rd w A (dIntS l) (.slice a l.length c)) (hB : Rd w B (dIntS l) (.slice a' l.length c')) :
    Calls Try.prog 33 #[.slice a l.length c, .slice a' l.length c'] w fun e w' => e = .returned (.bool true) ∧ ∃ m, w' = w.drewN m := by
  have HA := Lib.hid hA
  have HB := Lib.hid hB
  have nn : ((l.length : Int) != (l.length : Int)) = false := by simp
  clear hA hB
  go_enter Try.func33, Try.ntmps33
  go_wp2_with fail
  go_loopw [5] (fun i wr => ∃ k : Nat, k ≤ l.length ∧ i = .int .i64 k ∧ ∃ m, wr = w.drewN m) (fun i _ => l.length - (intOf i).toNat)
  case atStart => exact ⟨0, Nat.zero_le _, rfl, 0, rfl⟩
  case round =>
    obtain ⟨k, hk, rfl, m, rfl⟩ := hrel
    by_cases hlt : k < l.length
    · obtain ⟨b, off, rfl, -, hc⟩ := intAt HA.out hlt
      obtain ⟨b', off', rfl, -, hc'⟩ := intAt HB.out hlt
      have c0 := hc k hlt _ (Below.refl _ _)
      have d0 := hc' k hlt _ (Below.refl _ _)
      clear hc hc'
      generalize l[k] = x at *
      have hki : (k : Int) < (l.length : Int) := by omega
      have n1 : (x != x) = false := by simp
      go_wp2_with fail
      go_quiet (fail)
      go_wp2_with fail
      go_roundw
      case rel => exact ⟨k + 1, by omega, by go_num, _, rfl⟩
      case measure => simp [intOf]; omega
    · have hki : decide ((k : Int) < (l.length : Int)) = false := by simp; omega
      go_wp2_with fail
      go_ret
      exact ⟨rfl, m, rfl⟩
theorem below_drewP (w : World) (m : Nat) : Below w.heap.size w (w.drewN m) := ⟨rfl, rfl, rfl, Nat.le_refl _, fun _ _ => rfl⟩
set_option maxHeartbeats 3200000 in
theorem sameLocksL (l : List LkV) (a a' : Option Addr) (c c' : Nat) (A B : Nat → Prop) (w : World) (hl : l.length ≤ 1048576) (hq : ∀ x ∈ l, x.qu.length ≤ 1048576) (hA : Rd w A (dLockS l) (.slice a l.length c)) (hB : Rd w B (dLockS l) (.slice a' l.length c')) :
    Calls Try.prog 14 #[.slice a l.length c, .slice a' l.length c'] w fun e w' => e = .returned (.bool true) ∧ Below w.heap.size w w' := by
  have HA := Lib.hid hA
  have HB := Lib.hid hB
  have HQ := Lib.hid hq
  have nn : ((l.length : Int) != (l.length : Int)) = false := by simp
  clear hA hB hq
  go_enter Try.func14, Try.ntmps14
  go_wp2_with fail
  go_loopw [5] (fun i wr => ∃ k : Nat, k ≤ l.length ∧ i = .int .i64 k ∧ Hid (Below w.heap.size w wr)) (fun i _ => l.length - (intOf i).toNat)
  case atStart => exact ⟨0, Nat.zero_le _, rfl, Below.refl _ _⟩
  case round =>
    obtain ⟨k, hk, rfl, HW⟩ := hrel
    by_cases hlt : k < l.length
    case neg =>
      have hki : decide ((k : Int) < (l.length : Int)) = false := by simp; omega
      go_wp2_with fail
      go_ret
      exact ⟨rfl, HW.out⟩
    obtain ⟨b, off, qa, qc, rfl, -, hr, hc⟩ := lockAt HA.out hlt
    obtain ⟨b', off', qa', qc', rfl, -, hr', hc'⟩ := lockAt HB.out hlt
    obtain ⟨c0, c1⟩ := hc _ HW.out
    obtain ⟨d0, d1⟩ := hc' _ HW.out
    have hql := HQ.out _ (List.getElem_mem hlt)
    clear hc hc'
    generalize l[k] = x at *
    have EQ : Hid (∀ n, Calls Try.prog 33 #[.slice qa x.qu.length qc, .slice qa' x.qu.length qc'] (wr.drewN n) fun e w' => e = .returned (.bool true) ∧ ∃ k, w' = (wr.drewN n).drewN k) := fun n => sameIntsL x.qu qa qa' qc qc' A B _ hql ((hr.later HW.out).later (below_drewP _ _)) ((hr'.later HW.out).later (below_drewP _ _))
    have hki : (k : Int) < (l.length : Int) := by omega
    have n3 : (x.nm != x.nm) = false := by simp
    clear hr hr' hql
    go_wp2_with fail
    go_quiet ((go_at_call 33; exact Calls.quiet_of (EQ.out _)))
    go_wp2_with fail
    go_roundw
    case rel => exact ⟨k + 1, by omega, by go_num, HW.out.trans ((below_drewP _ _).mono HW.out.size)⟩
    case measure => simp [intOf]; omega
theorem toldAt {l : List ToV} {a : Option Addr} {c : Nat} {B : Nat → Prop} {w : World} (h : Rd w B (dToldS l) (.slice a l.length c)) {k : Nat} (hk : k < l.length) : ∃ b off, a = some ⟨b, off, none⟩ ∧ ∀ W, Below w.heap.size w W →
    W.cell? ⟨b, off + k * 3, none⟩ = some (.int .i64 l[k].se) ∧ W.cell? ⟨b, off + k * 3 + 1, none⟩ = some (.string ⟨l[k].wd.toArray⟩) ∧ W.cell? ⟨b, off + k * 3 + 2, none⟩ = some (.string ⟨l[k].tn.toArray⟩) := by
  obtain ⟨b, off, rfl, -, hc⟩ := Rd.things h k hk
  obtain ⟨u0, c0, r0⟩ := hc 0 (by omega)
  obtain ⟨u1, c1, r1⟩ := hc 1 (by omega)
  obtain ⟨u2, c2, r2⟩ := hc 2 (by omega)
  obtain rfl : u0 = .int .i64 l[k].se := r0
  obtain rfl : u1 = .string ⟨l[k].wd.toArray⟩ := r1
  obtain rfl : u2 = .string ⟨l[k].tn.toArray⟩ := r2
  rw [Nat.add_zero] at c0
  exact ⟨b, off, rfl, fun W hW => ⟨by rw [hW.cell (p := ⟨b, off + k * 3, none⟩) (World.block_lt_of_cell? _ _ c0)]; exact c0, by rw [hW.cell (p := ⟨b, off + k * 3 + 1, none⟩) (World.block_lt_of_cell? _ _ c1)]; exact c1, by rw [hW.cell (p := ⟨b, off + k * 3 + 2, none⟩) (World.block_lt_of_cell? _ _ c2)]; exact c2⟩⟩
set_option maxHeartbeats 3200000 in
theorem sameToldL (l : List ToV) (a a' : Option Addr) (c c' : Nat) (A B : Nat → Prop) (w : World) (hl : l.length ≤ 1048576) (hA : Rd w A (dToldS l) (.slice a l.length c)) (hB : Rd w B (dToldS l) (.slice a' l.length c')) :
    Calls Try.prog 15 #[.slice a l.length c, .slice a' l.length c'] w fun e w' => e = .returned (.bool true) ∧ Below w.heap.size w w' := by
  have HA := Lib.hid hA
  have HB := Lib.hid hB
  have nn : ((l.length : Int) != (l.length : Int)) = false := by simp
  clear hA hB
  go_enter Try.func15, Try.ntmps15
  go_wp2_with fail
  go_loopw [5] (fun i wr => ∃ k : Nat, k ≤ l.length ∧ i = .int .i64 k ∧ Hid (Below w.heap.size w wr)) (fun i _ => l.length - (intOf i).toNat)
  case atStart => exact ⟨0, Nat.zero_le _, rfl, Below.refl _ _⟩
  case round =>
    obtain ⟨k, hk, rfl, HW⟩ := hrel
    by_cases hlt : k < l.length
    · obtain ⟨b, off, rfl, hc⟩ := toldAt HA.out hlt
      obtain ⟨b', off', rfl, hc'⟩ := toldAt HB.out hlt
      obtain ⟨c0, c1, c2⟩ := hc _ HW.out
      obtain ⟨d0, d1, d2⟩ := hc' _ HW.out
      clear hc hc'
      generalize l[k] = x at *
      have hki : (k : Int) < (l.length : Int) := by omega
      have n1 : (x.se != x.se) = false := by simp
      have n2 : (x.wd != x.wd) = false := by simp
      have n3 : (x.tn != x.tn) = false := by simp
      go_wp2_with fail
      go_quiet (fail)
      go_wp2_with fail
      go_roundw
      case rel => exact ⟨k + 1, by omega, by go_num, HW.out.trans ((below_drewP _ _).mono HW.out.size)⟩
      case measure => simp [intOf]; omega
    · have hki : decide ((k : Int) < (l.length : Int)) = false := by simp; omega
      go_wp2_with fail
      go_ret
      exact ⟨rfl, HW.out⟩
end Go.Proofs.Ythpenliecgpedaa
