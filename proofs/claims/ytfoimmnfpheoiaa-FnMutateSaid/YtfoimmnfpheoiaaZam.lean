import Derived.Test.YtfoimmnfpheoiaaZaj
import Derived.Test.YtfoimmnfpheoiaaZal
namespace Go.Proofs.Ytfoimmnfpheoiaa
open Go.RowKit
set_option linter.unusedSimpArgs false
set_option maxRecDepth 100000 in
set_option maxHeartbeats 3200000 in
theorem pairI (a b : List At) (pa pb : Option Addr) (ca cb : Nat) (S : Nat) (w : World) (hla : a.length ≤ maxLen) (hlb : b.length ≤ maxLen) (hxa : ∀ x ∈ a, x.t.length ≤ maxLen) (hxb : ∀ x ∈ b, x.t.length ≤ maxLen) (hw : S ≤ w.heap.size) (hA : Ats w (· < S) pa a) (hB : Ats w (· < S) pb b) :
    Calls Try.prog 18 #[.slice pa a.length ca, .slice pb b.length cb] w fun e w' => e = .returned (.int .i64 (twoC a b)) ∧ Below w.heap.size w w' := by
  have HA : Hid (Ats w (· < S) pa a) := hA
  have HB : Hid (Ats w (· < S) pb b) := hB
  have DA : Hid (∀ W, Below w.heap.size w W → Calls Try.prog 14 #[.slice pa a.length ca] W fun e w' => e = .returned (.bool (datumB a)) ∧ Below w.heap.size w w') := fun W h => (datumOKi a pa ca S W hla hxa (Nat.le_trans hw h.size) (hA.below (h.mono hw))).mono (fun e w' ⟨he, hb⟩ => ⟨he, h.trans (hb.mono h.size)⟩)
  have DB : Hid (∀ W, Below w.heap.size w W → Calls Try.prog 14 #[.slice pb b.length cb] W fun e w' => e = .returned (.bool (datumB b)) ∧ Below w.heap.size w w') := fun W h => (datumOKi b pb cb S W hlb hxb (Nat.le_trans hw h.size) (hB.below (h.mono hw))).mono (fun e w' ⟨he, hb⟩ => ⟨he, h.trans (hb.mono h.size)⟩)
  clear hA hB hxa hxb
  unfold maxLen at hla hlb
  by_cases h1 : 4096 < a.length
  · have HR : Hid (twoC a b = 2) := by show twoC a b = 2; unfold twoC; rw [if_pos (.inl h1)]
    have d1 : decide (4096 < (a.length : Int)) = true := by simp; omega
    go_enter Try.func18, Try.ntmps18
    go_wp2_with fail
    go_ret
    exact ⟨ret_i HR.out.symm, Below.refl _ _⟩
  have d1 : decide (4096 < (a.length : Int)) = false := by simp; omega
  by_cases h2 : 4096 < b.length
  · have HR : Hid (twoC a b = 2) := by show twoC a b = 2; unfold twoC; rw [if_pos (.inr h2)]
    have d2 : decide (4096 < (b.length : Int)) = true := by simp; omega
    go_enter Try.func18, Try.ntmps18
    go_wp2_with fail
    go_ret
    exact ⟨ret_i HR.out.symm, Below.refl _ _⟩
  have d2 : decide (4096 < (b.length : Int)) = false := by simp; omega
  have hx := Below.refl w.heap.size w
  cases ha : datumB a
  · have HR : Hid (twoC a b = 1) := by show twoC a b = 1; unfold twoC; rw [if_neg (by omega), if_pos (.inl ha)]
    rw [ha] at DA
    clear ha
    go_enter Try.func18, Try.ntmps18
    go_wp2_with (go_at_call 14; (with_reducible refine (DA.out _ ?_).mono ?_); exact hx; rintro e w1 ⟨rfl, hx⟩)
    go_ret
    exact ⟨ret_i HR.out.symm, hx⟩
  rw [ha] at DA
  cases hb : datumB b
  · have HR : Hid (twoC a b = 1) := by show twoC a b = 1; unfold twoC; rw [if_neg (by omega), if_pos (.inr hb)]
    rw [hb] at DB
    clear ha hb
    go_enter Try.func18, Try.ntmps18
    go_wp2_with (first | (go_at_call 14; (with_reducible refine (DA.out _ ?_).mono ?_); exact hx; rintro e w1 ⟨rfl, hx⟩) | (go_at_call 14; (with_reducible refine (DB.out _ ?_).mono ?_); exact hx; rintro e w2 ⟨rfl, hx⟩))
    go_ret
    exact ⟨ret_i HR.out.symm, hx⟩
  rw [hb] at DB
  have HC : Hid (twoC a b = if 0 < a.length ∧ 0 < b.length ∧ (a.getD 0 atZ).k ≠ (b.getD 0 atZ).k then 9 else 0) := by
    show twoC a b = _
    unfold twoC
    rw [if_neg (by omega), if_neg (by rw [ha, hb]; simp)]
  clear ha hb h1 h2
  by_cases ea : a.length = 0
  · have HR : Hid (twoC a b = 0) := by show twoC a b = 0; rw [HC.out, if_neg (by omega)]
    have e1 : decide (0 < (a.length : Int)) = false := decide_eq_false (by omega)
    have e1' : decide (0 < a.length) = false := decide_eq_false (by omega)
    clear ea
    go_enter Try.func18, Try.ntmps18
    go_wp2_with (first | (go_at_call 14; (with_reducible refine (DA.out _ ?_).mono ?_); exact hx; rintro e w1 ⟨rfl, hx⟩) | (go_at_call 14; (with_reducible refine (DB.out _ ?_).mono ?_); exact hx; rintro e w2 ⟨rfl, hx⟩))
    go_quiet (fail)
    go_wp2_with fail
    go_ret
    exact ⟨ret_i HR.out.symm, below_drewN hx _⟩
  have e1 : decide (0 < (a.length : Int)) = true := decide_eq_true (by omega)
  have e1' : decide (0 < a.length) = true := decide_eq_true (by omega)
  by_cases eb : b.length = 0
  · have HR : Hid (twoC a b = 0) := by show twoC a b = 0; rw [HC.out, if_neg (by omega)]
    have e2 : decide (0 < (b.length : Int)) = false := decide_eq_false (by omega)
    have e2' : decide (0 < b.length) = false := decide_eq_false (by omega)
    clear eb ea
    go_enter Try.func18, Try.ntmps18
    go_wp2_with (first | (go_at_call 14; (with_reducible refine (DA.out _ ?_).mono ?_); exact hx; rintro e w1 ⟨rfl, hx⟩) | (go_at_call 14; (with_reducible refine (DB.out _ ?_).mono ?_); exact hx; rintro e w2 ⟨rfl, hx⟩))
    go_quiet (fail)
    go_wp2_with fail
    go_ret
    exact ⟨ret_i HR.out.symm, below_drewN hx _⟩
  have e2 : decide (0 < (b.length : Int)) = true := decide_eq_true (by omega)
  have e2' : decide (0 < b.length) = true := decide_eq_true (by omega)
  have la : 0 < a.length := by omega
  have lb : 0 < b.length := by omega
  have ia : (0 : Int) < (a.length : Int) := by omega
  have ib : (0 : Int) < (b.length : Int) := by omega
  obtain ⟨b1, o1, rfl, -, -⟩ := HA.out.item 0 la
  obtain ⟨b2, o2, rfl, -, -⟩ := HB.out.item 0 lb
  have CE : Hid (∀ W, Below w.heap.size w W → W.cell? ⟨b1, o1, none⟩ = some (.int .i64 (a.getD 0 atZ).k) ∧ W.cell? ⟨b2, o2, none⟩ = some (.int .i64 (b.getD 0 atZ).k)) := fun W h => by
    have f := (HA.out.below (h.mono hw)).three 0 la
    have g := (HB.out.below (h.mono hw)).three 0 lb
    rw [Nat.zero_mul, Nat.add_zero] at f g
    rw [at_getD la, at_getD lb]
    exact ⟨f.1, g.1⟩
  generalize (a.getD 0 atZ).k = ka at *
  generalize (b.getD 0 atZ).k = kb at *
  by_cases ek : ka = kb
  · have HR : Hid (twoC a b = 0) := by show twoC a b = 0; rw [HC.out, if_neg (by simp [ek])]
    have hkn : (ka != kb) = false := by simpa using ek
    clear ek
    go_enter Try.func18, Try.ntmps18
    go_wp2_with (first | (go_at_call 14; (with_reducible refine (DA.out _ ?_).mono ?_); exact hx; rintro e w1 ⟨rfl, hx⟩) | (go_at_call 14; (with_reducible refine (DB.out _ ?_).mono ?_); exact hx; rintro e w2 ⟨rfl, hx⟩; have c1 := (CE.out _ hx).1; have c2 := (CE.out _ hx).2))
    go_quiet (fail)
    go_wp2_with fail
    go_ret
    exact ⟨ret_i HR.out.symm, below_drewN hx _⟩
  · have HR : Hid (twoC a b = 9) := by show twoC a b = 9; rw [HC.out, if_pos ⟨la, lb, ek⟩]
    have hkn : (ka != kb) = true := by simpa using ek
    clear ek
    go_enter Try.func18, Try.ntmps18
    go_wp2_with (first | (go_at_call 14; (with_reducible refine (DA.out _ ?_).mono ?_); exact hx; rintro e w1 ⟨rfl, hx⟩) | (go_at_call 14; (with_reducible refine (DB.out _ ?_).mono ?_); exact hx; rintro e w2 ⟨rfl, hx⟩; have c1 := (CE.out _ hx).1; have c2 := (CE.out _ hx).2))
    go_quiet (fail)
    go_wp2_with fail
    go_ret
    exact ⟨ret_i HR.out.symm, below_drewN hx _⟩
end Go.Proofs.Ytfoimmnfpheoiaa
