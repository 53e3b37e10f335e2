import Derived.Test.YtkncpfhblciplaaYam
import Derived.Deep.CutRange
import Derived.Deep.RegionHeld3
import Derived.Test.YtkncpfhblciplaaYac
import Derived.BigQuiet
import Derived.Deep.RegionWith
namespace Go.Proofs.Ytkncpfhblciplaa
open Go.RowKit
set_option linter.unusedSimpArgs false
def sameAt (x y : At) : Bool := (x.k == y.k) && ((x.n == y.n) && (x.t == y.t))
theorem sameAt_iff {x y : At} : sameAt x y = true ↔ x = y := by
  unfold sameAt
  constructor
  · intro h
    simp at h
    exact At.ext' h.1 h.2.1 h.2.2
  · rintro rfl; simp
theorem differ {x y : At} (h : x ≠ y) : ¬ x.k = y.k ∨ (x.k = y.k ∧ ¬ x.n = y.n) ∨ (x.k = y.k ∧ x.n = y.n ∧ ¬ x.t = y.t) := by
  by_cases h1 : x.k = y.k
  · by_cases h2 : x.n = y.n
    · by_cases h3 : x.t = y.t
      · exact absurd (At.ext' h1 h2 h3) h
      · exact .inr (.inr ⟨h1, h2, h3⟩)
    · exact .inr (.inl ⟨h1, h2⟩)
  · exact .inl h1
def hasB (l : List At) (a : At) : Bool := l.any (fun x => sameAt x a)
theorem hasB_true {l : List At} {a : At} {k : Nat} (hk : k < l.length) (h : l[k] = a) : hasB l a = true := by
  unfold hasB
  rw [List.any_eq_true]
  exact ⟨l[k], List.getElem_mem hk, sameAt_iff.2 h⟩
theorem hasB_false {l : List At} {a : At} (h : ∀ k (hk : k < l.length), l[k] ≠ a) : hasB l a = false := by
  unfold hasB
  rw [List.any_eq_false]
  intro x hx
  obtain ⟨k, hk, rfl⟩ := List.getElem_of_mem hx
  intro e
  exact h k hk (sameAt_iff.1 e)
def BoxA (w W : World) (x : At) : Prop := W.heap[w.heap.size]? = some (.cells #[.int .i64 x.k, .int .i64 x.n, .string ⟨x.t.toArray⟩] 31) ∧ Below w.heap.size w W
theorem BoxA.later {w W W' : World} {x : At} (h : BoxA w W x) (hB : Below W.heap.size W W') : BoxA w W' x := ⟨heap_keptA h.1 hB, h.2.trans (hB.mono h.2.size)⟩
theorem BoxA.drewN {w W : World} {x : At} (h : BoxA w W x) (n : Nat) : BoxA w (W.drewN n) x := h.later (below_drewN (Below.refl _ _) _)
set_option maxHeartbeats 3200000 in
theorem hasS (l : List At) (x : At) (a : Option Addr) (c : Nat) (B : Nat → Prop) (w : World) (hl : l.length ≤ maxLen) (hA : Ats w B a l) :
    Calls Try.prog 126 #[.slice a l.length c, .agg #[.int .i64 x.k, .int .i64 x.n, .string ⟨x.t.toArray⟩]] w fun e w' => e = .returned (.bool (hasB l x)) ∧ Below w.heap.size w w' := by
  unfold maxLen at hl
  have HA : Hid (Ats w B a l) := hA
  clear hA
  go_enter Try.func126, Try.ntmps126
  go_wp2_with fail
  go_loopw [5] (fun i wr => ∃ k : Nat, k ≤ l.length ∧ i = .int .i64 k ∧ Hid ((∀ m (h : m < l.length), m < k → l[m] ≠ x) ∧ BoxA w wr x)) (fun i _ => l.length - (intOf i).toNat)
  case atStart => exact ⟨0, Nat.zero_le _, rfl, fun m _ h => absurd h (by omega), heap_newA _ _, (Below.refl _ _).alloc (Nat.le_refl _) _⟩
  case round =>
    obtain ⟨k, hk, rfl, HW⟩ := hrel
    have x0 := cell_at (o := 0) HW.out.2.1 rfl
    have x1 := cell_at (o := 1) HW.out.2.1 rfl
    have x2 := cell_at (o := 2) HW.out.2.1 rfl
    by_cases hlt : k < l.length
    · obtain ⟨b, off, rfl, -, c0, c1, c2⟩ := (HA.out.later HW.out.2.2).item k hlt
      have hki : (k : Int) < (l.length : Int) := by omega
      by_cases he : l[k] = x
      · have HR : Hid (hasB l x = true) := hasB_true hlt he
        rw [he] at c0 c1 c2
        clear he
        go_wp2_with fail
        go_quiet (fail)
        go_wp2_with fail
        go_ret
        exact ⟨ret_b HR.out.symm, (HW.out.2.drewN _).2⟩
      · have HN : Hid (∀ m (h : m < l.length), m < k + 1 → l[m] ≠ x) := fun m h hm => by
          by_cases e : m = k
          · subst e; exact he
          · exact HW.out.1 m h (by omega)
        rcases differ he with hd | ⟨hd, hd2⟩ | ⟨hd, hd2, hd3⟩
        · clear he
          go_wp2_with fail
          go_quiet (fail)
          go_wp2_with fail
          go_roundw
          case rel => exact ⟨k + 1, by omega, by go_num, HN.out, HW.out.2.drewN _⟩
          case measure => simp [intOf]; omega
        · rw [hd] at c0
          clear he hd
          go_wp2_with fail
          go_quiet (fail)
          go_wp2_with fail
          go_roundw
          case rel => exact ⟨k + 1, by omega, by go_num, HN.out, HW.out.2.drewN _⟩
          case measure => simp [intOf]; omega
        · rw [hd] at c0
          rw [hd2] at c1
          clear he hd hd2
          go_wp2_with fail
          go_quiet (fail)
          go_wp2_with fail
          go_roundw
          case rel => exact ⟨k + 1, by omega, by go_num, HN.out, HW.out.2.drewN _⟩
          case measure => simp [intOf]; omega
    · have HR : Hid (hasB l x = false) := hasB_false (fun m h => HW.out.1 m h (by omega))
      have hki : decide ((k : Int) < (l.length : Int)) = false := by simp; omega
      go_wp2_with fail
      go_ret
      exact ⟨ret_b HR.out.symm, HW.out.2.2⟩
end Go.Proofs.Ytkncpfhblciplaa
namespace Go.Proofs.Ytkncpfhblciplaa
open Go.RowKit
set_option linter.unusedSimpArgs false
theorem Ats.three {w : World} {B : Nat → Prop} {b off : Nat} {l : List At} (h : Ats w B (some ⟨b, off, none⟩) l) (k : Nat) (hk : k < l.length) :
    w.cell? ⟨b, off + k * 3, none⟩ = some (.int .i64 l[k].k) ∧ w.cell? ⟨b, off + k * 3 + 1, none⟩ = some (.int .i64 l[k].n) ∧ w.cell? ⟨b, off + k * 3 + 2, none⟩ = some (.string ⟨l[k].t.toArray⟩) := by
  obtain ⟨b', off', e, -, h0, h1, h2⟩ := h.item k hk
  injection e with e
  injection e with e1 e2
  subst e1 e2
  exact ⟨h0, h1, h2⟩
end Go.Proofs.Ytkncpfhblciplaa
namespace Go.Proofs.Ytkncpfhblciplaa
open Go.RowKit
theorem neq_selfK (c : Int) : (c != c) = false := by simp
def errAt (l : List At) (i : Nat) : Int := if atOK (l.getD i atZ) = false then 1 else if (l.getD i atZ).k ≠ (l.getD 0 atZ).k then 9 else 0
def errFrom (l : List At) : Nat → Nat → Int
  | 0, _ => 0
  | n + 1, i => if errAt l i = 0 then errFrom l n (i + 1) else errAt l i
def errOf (l : List At) : Int := errFrom l l.length 0
theorem errFrom_succ (l : List At) (k : Nat) (h : k < l.length) : errFrom l (l.length - k) k = if errAt l k = 0 then errFrom l (l.length - (k + 1)) (k + 1) else errAt l k := by
  rw [show l.length - k = (l.length - (k + 1)) + 1 by omega, errFrom]
end Go.Proofs.Ytkncpfhblciplaa
namespace Go.Proofs.Ytkncpfhblciplaa
open Go.RowKit
set_option linter.unusedSimpArgs false
theorem nanI (x : Int) (w : World) : Calls Try.prog 117 #[.int .i64 x] w fun e w' => e = .returned (.bool false) ∧ w' = w := by
  go_enter Try.func117, Try.ntmps117
  go_wp2_with fail
  go_ret
  exact ⟨by simp, rfl⟩
set_option maxHeartbeats 1600000 in
theorem cmpInt (x y : Int) (w : World) : Calls Try.prog 105 #[.int .i64 x, .int .i64 y] w fun e w' => e = .returned (.int .i64 (if x < y then -1 else if y < x then 1 else 0)) ∧ w' = w := by
  by_cases h1 : x < y
  · rw [if_pos h1]
    have d1 : decide (x < y) = true := decide_eq_true h1
    clear h1
    go_enter Try.func105, Try.ntmps105
    go_wp2_with (go_at_call 117; refine (nanI _ _).mono ?_; rintro e w' ⟨rfl, rfl⟩)
    go_ret
    exact ⟨rfl, rfl⟩
  · rw [if_neg h1]
    have d1 : decide (x < y) = false := decide_eq_false h1
    clear h1
    by_cases h2 : y < x
    · rw [if_pos h2]
      have d2 : decide (y < x) = true := decide_eq_true h2
      clear h2
      go_enter Try.func105, Try.ntmps105
      go_wp2_with (go_at_call 117; refine (nanI _ _).mono ?_; rintro e w' ⟨rfl, rfl⟩)
      go_ret
      exact ⟨rfl, rfl⟩
    · rw [if_neg h2]
      have d2 : decide (y < x) = false := decide_eq_false h2
      clear h2
      go_enter Try.func105, Try.ntmps105
      go_wp2_with (go_at_call 117; refine (nanI _ _).mono ?_; rintro e w' ⟨rfl, rfl⟩)
      go_ret
      exact ⟨rfl, rfl⟩
end Go.Proofs.Ytkncpfhblciplaa
