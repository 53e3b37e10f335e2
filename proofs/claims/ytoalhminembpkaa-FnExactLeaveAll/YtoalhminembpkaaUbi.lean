import Derived.Test.YtoalhminembpkaaUbh
namespace Go.Proofs.Ytoalhminembpkaa
open Go.RowKit Go.MuLone
set_option linter.unusedSimpArgs false
def fq (q : List Int) (n : Int) : Nat := q.findIdx (fun x => x == n)
def fqI (q : List Int) (n : Int) : Int := if fq q n < q.length then (fq q n : Int) else -1
theorem fq_le (q : List Int) (n : Int) : fq q n ≤ q.length := List.findIdx_le_length
theorem fq_at {q : List Int} {n : Int} (h : fq q n < q.length) : q[fq q n] = n := by
  have h' : List.findIdx (fun x : Int => x == n) q < q.length := h
  exact eq_of_beq (List.findIdx_getElem (p := fun x : Int => x == n) (w := h'))
theorem fq_lt {q : List Int} {n : Int} {m : Nat} (h : m < fq q n) : (q[m]'(Nat.lt_of_lt_of_le h (fq_le q n))) ≠ n := by
  have := List.not_of_lt_findIdx h
  simpa using this
theorem fq_eq {q : List Int} {n : Int} {k : Nat} (hk : k < q.length) (h : q[k] = n) (hn : ∀ m (hm : m < q.length), m < k → q[m] ≠ n) : fq q n = k := by
  rcases Nat.lt_trichotomy (fq q n) k with h1 | h1 | h1
  · exact absurd (fq_at (by omega)) (hn _ (by omega) h1)
  · exact h1
  · exact absurd h (fq_lt h1)
theorem fq_none {q : List Int} {n : Int} (hn : ∀ m (hm : m < q.length), q[m] ≠ n) : fq q n = q.length := by
  have h1 := fq_le q n
  by_cases h : fq q n < q.length
  · exact absurd (fq_at h) (hn _ h)
  · omega
theorem fq_in (q : List Int) (n : Int) : inK q q.length n = decide (fq q n < q.length) := by
  by_cases h : fq q n < q.length
  · rw [decide_eq_true h]; exact inK_yes h h (fq_at h)
  · rw [decide_eq_false h]
    refine inK_no (Nat.le_refl _) (fun m hm _ => ?_)
    exact fq_lt (by have := fq_le q n; omega)
set_option maxRecDepth 100000 in
set_option maxHeartbeats 3200000 in
theorem indexQ (q : List Int) (n : Int) (a : Option Addr) (c : Nat) (B : Nat → Prop) (w : World) (hl : q.length ≤ maxLen) (hS : Rd w B (dIntS q) (.slice a q.length c)) :
    Calls Try.prog 81 #[.slice a q.length c, .int .i64 n] w fun e w' => e = .returned (.int .i64 (fqI q n)) ∧ w' = w := by
  unfold maxLen at hl
  have HS : Hid (Rd w B (dIntS q) (.slice a q.length c)) := hS
  clear hS
  go_enter Try.func81, Try.ntmps81
  go_wp2_with fail
  go_loopw [8] (fun i wr => ∃ k : Nat, k ≤ q.length ∧ i = .int .i64 k ∧ Hid ((∀ m (h : m < q.length), m < k → q[m] ≠ n) ∧ wr = w)) (fun i _ => q.length - (intOf i).toNat)
  case atStart => exact ⟨0, Nat.zero_le _, rfl, fun m _ h => absurd h (by omega), rfl⟩
  case round =>
    obtain ⟨k, hk, rfl, HW⟩ := hrel
    obtain rfl := HW.out.2
    by_cases hlt : k < q.length
    case neg =>
      have hki : decide ((k : Int) < (q.length : Int)) = false := by simp; omega
      have HR : Hid (fqI q n = -1) := by
        show _ = _
        unfold fqI
        rw [fq_none (fun m h => HW.out.1 m h (by omega)), if_neg (by omega)]
      go_wp2_with fail
      go_ret
      exact ⟨ret_i HR.out.symm, rfl⟩
    have hki : (k : Int) < (q.length : Int) := by omega
    obtain ⟨b, off, rfl, -, hc⟩ := intAt HS.out hlt
    have c0 := hc k hlt _ (Below.refl _ _)
    clear hc
    cases he : (n == q[k])
    case true =>
      have HR : Hid (fqI q n = (k : Int)) := by
        have h1 := fq_eq hlt (by simpa using (eq_of_beq he).symm) (fun m h hm => HW.out.1 m h hm)
        show _ = _
        unfold fqI
        rw [h1, if_pos hlt]
      clear HW
      generalize q[k] = x at *
      go_wp2_with fail
      go_ret
      exact ⟨ret_i HR.out.symm, rfl⟩
    case false =>
      have HN : Hid (∀ m (h : m < q.length), m < k + 1 → q[m] ≠ n) := fun m h hm => by
        by_cases e : m = k
        · subst e; intro e2; rw [e2] at he; simp at he
        · exact HW.out.1 m h (by omega)
      clear HW
      generalize q[k] = x at *
      go_wp2_with fail
      go_roundw
      case rel => exact ⟨k + 1, by omega, by go_num, HN.out, by first | rfl | exact trivial⟩
      case measure => simp [intOf]; omega
end Go.Proofs.Ytoalhminembpkaa
