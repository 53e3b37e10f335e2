import Derived.Test.YtmebbinolkohjaaGreatZaf
import Derived.Test.YtmebbinolkohjaaGreatZai
import Derived.Test.YtmebbinolkohjaaGreatZax
import Derived.Deep.RegionHeld3
import Derived.Deep.QuietTactic
namespace Go.Proofs.YtmebbinolkohjaaGreat
open Go.RowKit
def riseIds (l : List RowV) : Prop := ∀ i (h : i + 1 < l.length), l[i].id < l[i + 1].id
def rowZ : RowV := ⟨0, []⟩
def rplI : List RowV → Int → Int
  | [], _ => -1
  | r :: l, id => if r.id = id then 0 else if rplI l id < 0 then -1 else rplI l id + 1
theorem rpl_at {id : Int} : ∀ {l : List RowV} {k : Nat} (h : k < l.length), l[k].id = id → (∀ m (h : m < l.length), m < k → l[m].id ≠ id) → rplI l id = k
  | r :: l, 0, _, e, _ => by
    have e' : r.id = id := e
    simp [rplI, e']
  | r :: l, k + 1, h, e, hn => by
    have h0 : r.id ≠ id := hn 0 (by simp) (by omega)
    have ih := rpl_at (l := l) (k := k) (by simpa using h) (by simpa using e) (fun m hm hk => by have := hn (m + 1) (by simpa using hm) (by omega); simpa using this)
    simp only [rplI, if_neg h0, ih]
    rw [if_neg (by omega)]; omega
theorem rpl_none {id : Int} : ∀ {l : List RowV}, (∀ m (h : m < l.length), l[m].id ≠ id) → rplI l id = -1
  | [], _ => rfl
  | r :: l, hn => by
    have h0 : r.id ≠ id := hn 0 (by simp)
    have ih := rpl_none (l := l) (fun m hm => by have := hn (m + 1) (by simpa using hm); simpa using this)
    simp [rplI, if_neg h0, ih]
theorem rpl_cases (l : List RowV) (id : Int) : (rplI l id = -1 ∧ ∀ m (h : m < l.length), l[m].id ≠ id) ∨ ∃ k : Nat, ∃ h : k < l.length, rplI l id = k ∧ l[k].id = id ∧ ∀ m (h : m < l.length), m < k → l[m].id ≠ id := by
  by_cases h : ∃ k, ∃ h : k < l.length, l[k].id = id
  · obtain ⟨k, hk⟩ := h
    have hm : ∃ k, (∃ h : k < l.length, l[k].id = id) ∧ ∀ m, m < k → ¬ ∃ h : m < l.length, l[m].id = id := by
      have key : ∀ n k, k ≤ n → (∃ h : k < l.length, l[k].id = id) → ∃ k, (∃ h : k < l.length, l[k].id = id) ∧ ∀ m, m < k → ¬ ∃ h : m < l.length, l[m].id = id := by
        intro n
        induction n with
        | zero => intro k hk h; exact ⟨k, h, fun m hm => by omega⟩
        | succ n ih =>
          intro k hk h
          by_cases he : ∃ m, m < k ∧ ∃ h : m < l.length, l[m].id = id
          · obtain ⟨m, hm, h'⟩ := he
            exact ih m (by omega) h'
          · exact ⟨k, h, fun m hm h' => he ⟨m, hm, h'⟩⟩
      exact key k k (Nat.le_refl _) hk
    obtain ⟨k, ⟨hk, e⟩, hn⟩ := hm
    exact .inr ⟨k, hk, rpl_at hk e (fun m h hm e => hn m hm ⟨h, e⟩), e, fun m h hm e => hn m hm ⟨h, e⟩⟩
  · have hn : ∀ m (h : m < l.length), l[m].id ≠ id := fun m hm e => h ⟨m, hm, e⟩
    exact .inl ⟨rpl_none hn, hn⟩
theorem getD_tab {α : Type} {l : List α} {i : Nat} {z : α} (h : i < l.length) : l.getD i z = l[i] := by rw [List.getD_eq_getElem?_getD, List.getElem?_eq_getElem h]; rfl
end Go.Proofs.YtmebbinolkohjaaGreat
namespace Go.Proofs.YtmebbinolkohjaaGreat
open Go.RowKit
set_option linter.unusedSimpArgs false
set_option maxHeartbeats 3200000 in
theorem rplS (l : List RowV) (a : Option Addr) (c : Nat) (id : Int) (B : Nat → Prop) (w : World) (hl : l.length ≤ maxLen) (hS : Rd w B (dRowS l) (.slice a l.length c)) :
    Calls Tryz.prog 44 #[.slice a l.length c, .int .i64 id] w fun e w' => e = .returned (.int .i64 (rplI l id)) ∧ Below w.heap.size w w' := by
  unfold maxLen at hl
  have HS : Hid (Rd w B (Ls 2 dRow l) (.slice a l.length c)) := hS
  clear hS
  go_enter Tryz.func44, Tryz.ntmps44
  go_wp2_with fail
  go_loopw [5] (fun i wr => ∃ k : Nat, k ≤ l.length ∧ i = .int .i64 k ∧ Hid ((∀ m (h : m < l.length), m < k → l[m].id ≠ id) ∧ Below w.heap.size w wr)) (fun i _ => l.length - (intOf i).toNat)
  case atStart => exact ⟨0, Nat.zero_le _, rfl, fun m _ h => absurd h (by omega), Below.refl _ _⟩
  case round =>
    obtain ⟨k, hk, rfl, HW⟩ := hrel
    by_cases hlt : k < l.length
    case neg =>
      have hki : decide ((k : Int) < (l.length : Int)) = false := by simp; omega
      have HR : Hid (rplI l id = -1) := rpl_none (fun m h => HW.out.1 m h (by omega))
      go_wp2_with fail
      go_ret
      exact ⟨ret_i HR.out.symm, HW.out.2⟩
    have hki : (k : Int) < (l.length : Int) := by omega
    obtain ⟨b, off, rfl, -, hc⟩ := (HS.out.later HW.out.2).things k hlt
    obtain ⟨u0, c0, r0⟩ := hc 0 (by omega)
    obtain rfl : u0 = .int .i64 l[k].id := r0
    replace c0 : wr.cell? ⟨b, off + k * 2, none⟩ = _ := c0
    clear hc
    by_cases he : l[k].id = id
    · have HR : Hid (rplI l id = k) := rpl_at hlt he HW.out.1
      have hee : (l[k].id == id) = true := by simpa using he
      clear he
      generalize l[k].id = y at *
      go_wp2_with fail
      go_ret
      exact ⟨ret_i HR.out.symm, HW.out.2⟩
    · have HG : Hid (∀ m (h : m < l.length), m < k + 1 → l[m].id ≠ id) := fun m h hm => by
        by_cases e : m = k
        · subst e; exact he
        · exact HW.out.1 m h (by omega)
      have hee : (l[k].id == id) = false := by simpa using he
      clear he
      generalize l[k].id = y at *
      go_wp2_with fail
      go_roundw
      case rel => exact ⟨k + 1, by omega, by go_num, HG.out, HW.out.2⟩
      case measure => simp [intOf]; omega
end Go.Proofs.YtmebbinolkohjaaGreat
