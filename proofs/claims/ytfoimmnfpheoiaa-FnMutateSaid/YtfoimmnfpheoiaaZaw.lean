import Derived.Test.YtfoimmnfpheoiaaZav
namespace Go.Proofs.Ytfoimmnfpheoiaa
open Go.RowKit
set_option linter.unusedSimpArgs false
theorem place_ex (l : List At) (x : At) : ∃ m, m ≤ l.length ∧ (∀ q (h : q < l.length), q < m → cmpA l[q] x < 0) ∧ ∀ h : m < l.length, ¬ cmpA l[m] x < 0 := by
  refine ⟨l.findIdx (fun y => !decide (cmpA y x < 0)), List.findIdx_le_length, fun q h hq => ?_, fun h => ?_⟩
  · have := List.not_of_lt_findIdx hq
    simpa using this
  · have := List.findIdx_getElem (w := h)
    simpa using this
theorem rise_put {l : List At} (hR : Rise l) (x : At) : Rise (putL l x) := by
  obtain ⟨m, hm, h1, h2⟩ := place_ex l x
  by_cases h : ∃ h : m < l.length, l[m] = x
  · obtain ⟨h, he⟩ := h
    rw [put_has h he]; exact hR
  · obtain ⟨e, hr⟩ := put_ins hR hm h1 (fun h' => ⟨h2 h', fun e => h ⟨h', e⟩⟩)
    rw [e]; exact hr
theorem put_more (l : List At) (x : At) : l.length ≤ (putL l x).length := by
  unfold putL
  split
  · omega
  · have := posTo_le l x l.length
    unfold posA
    simp; omega
theorem join_app (a b c : List At) : joinL a (b ++ c) = joinL (joinL a b) c := by unfold joinL; rw [List.foldl_append]
theorem rise_join {a : List At} (hR : Rise a) : ∀ b : List At, Rise (joinL a b) := by
  intro b
  induction b generalizing a with
  | nil => exact hR
  | cons x b ih => exact ih (rise_put hR x)
theorem join_more (a : List At) : ∀ b : List At, a.length ≤ (joinL a b).length := by
  intro b
  induction b generalizing a with
  | nil => exact Nat.le_refl _
  | cons x b ih => exact Nat.le_trans (put_more a x) (ih (putL a x))
theorem join_rise {a : List At} (hR : Rise a) : ∀ m, m ≤ a.length → joinL [] (a.take m) = a.take m
  | 0, _ => by simp [joinL]
  | m + 1, h => by
    rw [join_snoc [] a m (by omega), join_rise hR m (by omega)]
    have hl : (a.take m).length = m := by rw [List.length_take]; omega
    have hT : Rise (a.take m) := List.Pairwise.sublist (List.take_sublist m a) hR
    have e := (put_ins (x := a[m]) hT (Nat.le_of_eq rfl : (a.take m).length ≤ (a.take m).length) (fun q hq _ => by
      rw [List.getElem_take]
      exact hR.get (by omega) (by omega) (by omega)) (fun h => absurd h (by omega))).1
    rw [e]
    unfold insA
    simp only [List.take_length, List.drop_length, List.append_nil]
    exact (List.take_succ_eq_append_getElem (by omega)).symm
theorem join_self {a : List At} (hR : Rise a) : joinL [] a = a := by
  have := join_rise hR a.length (Nat.le_refl _)
  rwa [List.take_length] at this
structure Sl where
  l : List At
  a : Option Addr
  c : Nat
def flat (s : List Sl) : List At := s.flatMap (·.l)
theorem flat_snoc (s : List Sl) (m : Nat) (h : m < s.length) : flat (s.take (m + 1)) = flat (s.take m) ++ s[m].l := by
  unfold flat
  rw [List.take_succ_eq_append_getElem h, List.flatMap_append]
  simp
noncomputable def setR (l : List At) : List At := if 8 < (joinL [] l).length then [] else joinL [] l
noncomputable def setC (l : List At) : Int := if 8 < (joinL [] l).length then 6 else 0
structure Lists (w : World) (S p : Nat) (s : List Sl) : Prop where
  cell : ∀ m (h : m < s.length), w.cell? ⟨p, m, none⟩ = some (.slice s[m].a s[m].l.length s[m].c)
  ats : ∀ m (h : m < s.length), Ats w (· < S) s[m].a s[m].l
  len : ∀ m (h : m < s.length), s[m].l.length ≤ 1048576
theorem Lists.cells {w W : World} {S p : Nat} {s : List Sl} (h : Lists w S p s) (hp : p < w.heap.size) (hB : Below w.heap.size w W) (m : Nat) (hm : m < s.length) : W.cell? ⟨p, m, none⟩ = some (.slice s[m].a s[m].l.length s[m].c) := by
  rw [World.cell?_of_block (w := w) (a := ⟨p, m, none⟩) (hB.block p hp)]
  exact h.cell m hm
def SetI (w : World) (W : World) (v : Value) (l : List At) : Prop := AN w w.heap.size W v (joinL [] l) ∧ (joinL [] l).length ≤ 8
theorem set_over {l l' : List At} (h : 8 < (joinL [] l).length) : 8 < (joinL [] (l ++ l')).length := by
  rw [join_app]
  exact Nat.lt_of_lt_of_le h (join_more _ _)
theorem rise_nil : Rise [] := List.Pairwise.nil
end Go.Proofs.Ytfoimmnfpheoiaa
