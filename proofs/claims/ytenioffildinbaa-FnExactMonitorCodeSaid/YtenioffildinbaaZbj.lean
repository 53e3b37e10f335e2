import Derived.Test.YtenioffildinbaaZbc
import Derived.Test.YtenioffildinbaaZbb
import Derived.Test.YtenioffildinbaaZae
import Derived.Test.YtenioffildinbaaZbi
import Derived.Test.YtenioffildinbaaZbd
namespace Go.Proofs.Ytenioffildinbaa
open Go.RowKit
set_option linter.unusedSimpArgs false
def tplC : List Tb → List UInt8 → Int
  | [], _ => -1
  | t :: l, s => if t.nm = s then 0 else if tplC l s < 0 then -1 else tplC l s + 1
theorem tpl_at {s : List UInt8} : ∀ {l : List Tb} {k : Nat} (h : k < l.length), l[k].nm = s → (∀ m (h : m < l.length), m < k → l[m].nm ≠ s) → tplC l s = k
  | r :: l, 0, _, e, _ => by
    have e' : r.nm = s := e
    simp [tplC, e']
  | r :: l, k + 1, h, e, hn => by
    have h0 : r.nm ≠ s := hn 0 (by simp) (by omega)
    have ih := tpl_at (l := l) (k := k) (by simpa using h) (by simpa using e) (fun m hm hk => by have := hn (m + 1) (by simpa using hm) (by omega); simpa using this)
    simp only [tplC, if_neg h0, ih]
    rw [if_neg (by omega)]; omega
theorem tpl_none {s : List UInt8} : ∀ {l : List Tb}, (∀ m (h : m < l.length), l[m].nm ≠ s) → tplC l s = -1
  | [], _ => rfl
  | r :: l, hn => by
    have h0 : r.nm ≠ s := hn 0 (by simp)
    have ih := tpl_none (l := l) (fun m hm => by have := hn (m + 1) (by simpa using hm); simpa using this)
    simp [tplC, if_neg h0, ih]
theorem tpl_rng (s : List UInt8) : ∀ l : List Tb, tplC l s = -1 ∨ ∃ k : Nat, ∃ h : k < l.length, tplC l s = k ∧ l[k].nm = s
  | [] => .inl rfl
  | r :: l => by
    by_cases h0 : r.nm = s
    · exact .inr ⟨0, by simp, by simp [tplC, h0], h0⟩
    · rcases tpl_rng s l with h | ⟨k, hk, h, e⟩
      · exact .inl (by simp [tplC, if_neg h0, h])
      · refine .inr ⟨k + 1, by simpa using hk, ?_, by simpa using e⟩
        simp only [tplC, if_neg h0, h]
        rw [if_neg (by omega)]; omega
set_option maxRecDepth 100000 in
set_option maxHeartbeats 3200000 in
theorem findTS (l : List Tb) (s : List UInt8) (sa : Option Addr) (sc : Nat) (A : Nat → Prop) (w : World) (hlo : (dTableS l).le maxLen) (hT : Rd w A (dTableS l) (.slice sa l.length sc)) :
    Calls Try.prog 42 #[.agg #[.slice sa l.length sc], .string ⟨s.toArray⟩] w fun e w' => e = .returned (.int .i64 (tplC l s)) ∧ Below w.heap.size w w' := by
  have hll : l.length ≤ maxLen := (Ls_le.1 hlo).2.1
  unfold maxLen at hll
  have HT : Hid (∀ W, Below w.heap.size w W → Rd W A (Ls 4 dTable l) (.slice sa l.length sc)) := fun W h => Rd.later hT h
  have HX := Lib.hid (boxD 35 w #[.slice sa l.length sc])
  clear hlo hT
  go_enter Try.func42, Try.ntmps42
  have x0 := cell_at (o := 0) HX.out.1 rfl
  go_wp2_with fail
  clear x0
  go_loopw [5] (fun i wr => ∃ k : Nat, k ≤ l.length ∧ i = .int .i64 k ∧ Hid ((∀ m (h : m < l.length), m < k → l[m].nm ≠ s) ∧ BoxD 35 w wr #[.slice sa l.length sc])) (fun i _ => l.length - (intOf i).toNat)
  case atStart => exact ⟨0, Nat.zero_le _, rfl, fun m _ h => absurd h (by omega), HX.out⟩
  case round =>
    obtain ⟨k, hk, rfl, HW⟩ := hrel
    have x0 := cell_at (o := 0) HW.out.2.1 rfl
    by_cases hlt : k < l.length
    · have hki : (k : Int) < (l.length : Int) := by omega
      obtain ⟨b, off, rfl, -, hc⟩ := (HT.out _ HW.out.2.2).things k hlt
      obtain ⟨u0, c0, r0⟩ := hc 0 (by omega)
      obtain rfl : u0 = .string ⟨l[k].nm.toArray⟩ := r0
      rw [Nat.add_zero] at c0
      clear hc
      by_cases he : l[k].nm = s
      · have HP : Hid (tplC l s = k) := tpl_at hlt he (fun j h hj => HW.out.1 j h hj)
        rw [he] at c0
        clear he
        go_wp2_with fail
        go_ret
        exact ⟨ret_i HP.out.symm, HW.out.2.2⟩
      · have HN : Hid (∀ m (h : m < l.length), m < k + 1 → l[m].nm ≠ s) := fun m h hm => by
          by_cases e : m = k
          · subst e; exact he
          · exact HW.out.1 m h (by omega)
        have hne : (l[k].nm == s) = false := by simpa using he
        clear he
        generalize l[k] = x at *
        go_wp2_with fail
        go_roundw
        case rel => exact ⟨k + 1, by omega, by go_num, HN.out, HW.out.2⟩
        case measure => simp [intOf]; omega
    · have HP : Hid (tplC l s = -1) := tpl_none (fun m h => HW.out.1 m h (by omega))
      have hki : decide ((k : Int) < (l.length : Int)) = false := by simp; omega
      go_wp2_with fail
      go_ret
      exact ⟨ret_i HP.out.symm, HW.out.2.2⟩
end Go.Proofs.Ytenioffildinbaa
