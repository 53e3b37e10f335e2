import Derived.Test.YtfpjnfhbooehbaaDoorMem
import Derived.Test.YtfpjnfhbooehbaaDoorProg
import Derived.Test.YtfpjnfhbooehbaaDoorPr
import Derived.Laws.IdiomStrings
import Derived.Deep.QuietTactic
import Derived.BigQuiet
import Derived.Deep.RegionWith
import Derived.Deep.RegionLaw
import Derived.Deep.RegionHeld3
namespace Go.Proofs.YtfpjnfhbooehbaaDoor
open Go.RowKit
set_option linter.unusedSimpArgs false
theorem cell_new1 (w : World) {cs : Array Value} {t : TypeId} {o : Nat} {v : Value} (h : cs[o]? = some v) : (w.alloc (.cells cs t)).cell? ⟨w.heap.size, o, none⟩ = some v := by
  have e : (w.alloc (.cells cs t)).heap[w.heap.size]? = some (.cells cs t) := by show (w.heap.push _)[w.heap.size]? = _; simp
  unfold World.cell?; rw [e]; exact h
theorem keep_cell {P W' : World} {a : Addr} {v : Value} (hB : Below P.heap.size P W') (h : P.cell? a = some v) : W'.cell? a = some v := (hB.cell (World.block_lt_of_cell? _ _ h)).trans h
theorem conv1 (W : World) (b : Nat) (c : UInt8) (x : Int) (hx : x = (c.toNat : Int)) (hc : W.cell? ⟨b, 0, none⟩ = some (.int .u8 x)) :
    (convert 41 9 (.slice (some ⟨b, 0, none⟩) 1 1)).run Tryd.prog W = .ok (.string ⟨#[c]⟩) W :=
  run_convert_bytes_back (P := Tryd.prog) W 41 9 5 ⟨b, 0, none⟩ 1 [c] Tryd.underlying41 Tryd.underlying5 Tryd.underlying9 (fun j hj => by
    have : j = 0 := by simpa using hj
    subst this
    rw [Addr.add_mid]
    simp only [List.getElem_cons_zero]
    rw [← hx]
    exact hc)
theorem str_snoc (out : List UInt8) (c : UInt8) : (ByteArray.mk out.toArray ++ ByteArray.mk #[c] : ByteArray) = ⟨(out ++ [c]).toArray⟩ := by
  apply ByteArray.ext; simp
theorem str_app (a b : List UInt8) : (ByteArray.mk a.toArray ++ ByteArray.mk b.toArray : ByteArray) = ⟨(a ++ b).toArray⟩ := by
  apply ByteArray.ext; simp
theorem dig_len (n : Nat) : (dig n).length ≤ n + 1 := by
  induction n using Nat.strongRecOn with
  | _ n ih =>
    by_cases h : n < 10
    · rw [dig_small h]; simp
    · have := ih (n / 10) (by omega)
      rw [dig_big h, List.length_append]; simp; omega
theorem add_str (a b : List UInt8) (h : a.length + b.length ≤ 9223372036854775807) (w : World) : (binOp .add 9 (.string ⟨a.toArray⟩) (.string ⟨b.toArray⟩)).run Tryd.prog w = .ok (.string ⟨(a ++ b).toArray⟩) w := by
  have := run_string_add_sum (P := Tryd.prog) (w := w) ⟨a.toArray⟩ ⟨b.toArray⟩ (by simpa [ByteArray.size] using h)
  rw [str_app] at this
  simp only [binOp]
  exact this
theorem ret_s {a b : ByteArray} (h : a = b) : Ending.returned (.string a) = .returned (.string b) := by rw [h]
set_option maxRecDepth 100000 in
set_option maxHeartbeats 1600000 in
theorem digits (n : Nat) : ∀ (w : World), n ≤ 1000000000 →
    Calls Tryd.prog 20 #[.int .i64 n] w fun e w' => e = .returned (.string ⟨(dig n).toArray⟩) ∧ Below w.heap.size w w' := by
  induction n using Nat.strongRecOn with
  | _ n ih =>
    intro w hn
    have hmin : ((n : Int) == -9223372036854775808) = false := by rw [beq_eq_false_iff_ne]; omega
    have hneg : decide ((n : Int) < 0) = false := by simp
    by_cases h10 : n < 10
    · have HD : Hid (dig n = [UInt8.ofNat (48 + n)]) := dig_small h10
      have hlt : decide ((n : Int) < 10) = true := by simp; omega
      have hcv := conv1 (w.alloc (.cells #[.int .u8 (48 + (n : Int))] 5)) w.heap.size (UInt8.ofNat (48 + n)) (48 + (n : Int)) (by rw [(dig_isDig n h10).2]; omega) (cell_new1 _ rfl)
      clear ih
      go_enter Tryd.func20, Tryd.ntmps20
      go_wp2_with fail
      go_ret
      refine ⟨?_, (Below.refl _ _).alloc (Nat.le_refl _) _⟩
      rw [HD.out]
      simp
    · have HD : Hid (dig n = dig (n / 10) ++ [UInt8.ofNat (48 + n % 10)]) := dig_big h10
      have hlt : decide ((n : Int) < 10) = false := by simp; omega
      obtain ⟨q, hq⟩ : ∃ q : Nat, q = n / 10 := ⟨_, rfl⟩
      obtain ⟨r, hr⟩ : ∃ r : Nat, r = n % 10 := ⟨_, rfl⟩
      have hwq : IntKind.i64.wrap ((n : Int) / 10) = (q : Int) := by rw [IntKind.wrap_i64]; omega
      have hwr : IntKind.i64.wrap ((n : Int) % 10) = (r : Int) := by rw [IntKind.wrap_i64]; omega
      have htm : (n : Int).tmod 10 = (r : Int) := by rw [Int.tmod_eq_emod_of_nonneg (by omega)]; omega
      have hws : IntKind.i64.wrap (48 + (r : Int)) = 48 + (r : Int) := by rw [IntKind.wrap_i64]; omega
      have hwu : IntKind.u8.wrap (48 + (r : Int)) = 48 + (r : Int) := by rw [IntKind.wrap_u8]; omega
      have IH : Hid (∀ w, Calls Tryd.prog 20 #[.int .i64 (q : Int)] w fun e w' => e = .returned (.string ⟨(dig q).toArray⟩) ∧ Below w.heap.size w w') := fun w => ih q (by omega) w (by omega)
      obtain ⟨c, hc⟩ : ∃ c, c = UInt8.ofNat (48 + r) := ⟨_, rfl⟩
      have hcv : ∀ W b, W.cell? ⟨b, 0, none⟩ = some (.int .u8 (48 + (r : Int))) → (convert 41 9 (.slice (some ⟨b, 0, none⟩) 1 1)).run Tryd.prog W = .ok (.string ⟨#[c]⟩) W := fun W b hcell => conv1 W b _ _ (by rw [hc, (dig_isDig r (by omega)).2]; omega) hcell
      have hadd : ∀ W, (binOp .add 9 (.string ⟨(dig q).toArray⟩) (.string ⟨#[c]⟩)).run Tryd.prog W = .ok (.string ⟨(dig n).toArray⟩) W := fun W => by
        have h1 := dig_len q
        have := add_str (dig q) [c] (by simp; omega) W
        rw [HD.out, ← hq, ← hr, ← hc]
        exact this
      have hl1 : (dig q).length ≤ 1000000001 := by have := dig_len q; omega
      have HE : Hid ((ByteArray.mk (dig q).toArray ++ ByteArray.mk #[c] : ByteArray) = ⟨(dig n).toArray⟩) := by
        show (ByteArray.mk (dig q).toArray ++ ByteArray.mk #[c] : ByteArray) = _
        rw [HD.out, ← hq, ← hr, ← hc]
        exact str_snoc _ _
      clear ih hq hr hc HD
      go_enter Tryd.func20, Tryd.ntmps20
      go_wp2_with fail
      go_region_with (go_at_call 20; refine (IH.out _).mono ?_; rintro e w1 ⟨rfl, hB1⟩; (try have hcc := keep_cell (a := ⟨w.heap.size, 0, none⟩) (v := .int .u8 (48 + (r : Int))) hB1 (cell_new1 w rfl)))
      all_goals
        go_wp2_with fail
        go_ret
        refine ⟨ret_s HE.out, ?_⟩
        first
          | exact ((Below.refl _ _).drew.trans hB1).alloc (Nat.le_trans (Nat.le_refl _) hB1.size) _
          | exact (((Below.refl _ _).alloc (Nat.le_refl _) _).drew).trans (hB1.mono (by simp))
set_option maxRecDepth 100000 in
set_option maxHeartbeats 800000 in
theorem digitsI (n : Int) (w : World) (h1 : -1000000000 ≤ n) (h2 : n ≤ 1000000000) :
    Calls Tryd.prog 20 #[.int .i64 n] w fun e w' => e = .returned (.string ⟨(num n).toArray⟩) ∧ Below w.heap.size w w' := by
  by_cases h : n < 0
  · have hmin : (n == -9223372036854775808) = false := by rw [beq_eq_false_iff_ne]; omega
    obtain ⟨m, hm⟩ : ∃ m : Nat, m = n.natAbs := ⟨_, rfl⟩
    have hneg : decide (n < 0) = true := decide_eq_true h
    have hw : IntKind.i64.wrap (-n) = (m : Int) := by rw [IntKind.wrap_i64]; omega
    have HN : Hid (num n = 45 :: dig m) := by show num n = _; unfold num; rw [if_pos h, hm]
    have hl1 : (dig m).length ≤ 1000000001 := by have := dig_len m; omega
    have HD : Hid (∀ w, Calls Tryd.prog 20 #[.int .i64 (m : Int)] w fun e w' => e = .returned (.string ⟨(dig m).toArray⟩) ∧ Below w.heap.size w w') := fun w => digits m w (by omega)
    clear hm
    go_enter Tryd.func20, Tryd.ntmps20
    go_wp2_with (go_at_call 20; refine (HD.out _).mono ?_; rintro e w1 ⟨rfl, hB1⟩)
    all_goals try omega
    go_ret
    refine ⟨?_, hB1⟩
    rw [HN.out]
    exact ret_s (str_app [45] (dig m))
  · have e : n = ((n.natAbs : Nat) : Int) := by omega
    have e2 : num n = dig n.natAbs := by unfold num; rw [if_neg h]
    rw [e2]
    have := digits n.natAbs w (by omega)
    rw [← e] at this
    exact this
end Go.Proofs.YtfpjnfhbooehbaaDoor
