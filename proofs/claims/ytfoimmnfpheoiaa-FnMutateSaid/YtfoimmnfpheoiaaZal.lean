import Derived.Test.YtfoimmnfpheoiaaZak
import Derived.Test.YtfoimmnfpheoiaaZaf
import Derived.Test.YtfoimmnfpheoiaaZag
namespace Go.Proofs.Ytfoimmnfpheoiaa
open Go.RowKit
set_option linter.unusedSimpArgs false
def minusA (a b : List At) : List At := a.filter (fun x => !hasB b x)
theorem minus_snoc (a b : List At) (m : Nat) (h : m < a.length) : minusA (a.take (m + 1)) b = minusA (a.take m) b ++ (if hasB b a[m] then [] else [a[m]]) := by
  unfold minusA
  rw [List.take_succ_eq_append_getElem h, List.filter_append]
  congr 1
  cases e : hasB b a[m] <;> simp [e]
theorem minus_len (a b : List At) (m : Nat) : (minusA (a.take m) b).length ≤ m := Nat.le_trans (List.length_filter_le _ _) (List.length_take_le _ _)
structure AI (w : World) (B : Nat) (W : World) (v : Value) (l : List At) : Prop where
  buf : ABuf W B v l
  bel : Below w.heap.size w W
  le : B ≤ W.heap.size
  old : w.heap.size ≤ B
  no : v ≠ .slice none 0 0
theorem AI.on {w W W' : World} {B : Nat} {v : Value} {l : List At} (h : AI w B W v l) (hb : Below W.heap.size W W') : AI w B W' v l := ⟨h.buf.on hb, h.bel.trans (hb.mono h.bel.size), Nat.le_trans h.le hb.size, h.old, h.no⟩
theorem AI.push {w W W' : World} {B : Nat} {v v' : Value} {l l' : List At} (h : AI w B W v l) (hb : ABuf W' B v' l') (ha : AppA W v W' v') (hn : v' ≠ .slice none 0 0) : AI w B W' v' l' :=
  ⟨hb, h.bel.trans ((ha.below h.buf h.le).mono h.old), Nat.le_trans h.le ha.size, h.old, hn⟩
theorem AI.cast {w W : World} {B : Nat} {v : Value} {l l' : List At} (h : AI w B W v l) (e : l = l') : AI w B W v l' := by rw [← e]; exact h
theorem AI.first (w : World) : AI w w.heap.size (w.alloc (.cells #[] 34)) (.slice (some ⟨w.heap.size, 0, none⟩) 0 0) [] :=
  ⟨ABuf.empty w, (Below.refl _ _).alloc (Nat.le_refl _) _, by simp, Nat.le_refl _, by simp⟩
def AAns (w : World) (l : List At) (e : Ending) (w' : World) : Prop := ∃ a c, e = .returned (.slice a l.length c) ∧ OwnAts w' (fun b => w.heap.size ≤ b ∧ b < w'.heap.size) a l ∧ Below w.heap.size w w'
theorem AI.ans {w W : World} {B : Nat} {v : Value} {l : List At} (h : AI w B W v l) : AAns w l (.returned v) W := by
  obtain ⟨a, c, rfl, ho⟩ := h.buf.own
  exact ⟨a, c, rfl, ho.same (fun _ _ => rfl) (fun b hb => ⟨Nat.le_trans h.old hb.1, hb.2⟩), h.bel⟩
end Go.Proofs.Ytfoimmnfpheoiaa
namespace Go.Proofs.Ytfoimmnfpheoiaa
open Go.RowKit
set_option linter.unusedSimpArgs false
def twoC (a b : List At) : Int :=
  if 4096 < a.length ∨ 4096 < b.length then 2
  else if datumB a = false ∨ datumB b = false then 1
  else if 0 < a.length ∧ 0 < b.length ∧ (a.getD 0 atZ).k ≠ (b.getD 0 atZ).k then 9
  else 0
end Go.Proofs.Ytfoimmnfpheoiaa
namespace Go.Proofs.Ytfoimmnfpheoiaa
open Go.RowKit
set_option linter.unusedSimpArgs false
def AAns2 (w : World) (l : List At) (c : Int) (e : Ending) (w' : World) : Prop := ∃ a cp, e = .returned (.tuple #[.slice a l.length cp, .int .i64 c]) ∧ OwnAts w' (fun b => w.heap.size ≤ b ∧ b < w'.heap.size) a l ∧ Below w.heap.size w w'
noncomputable def lessL (a b : List At) : List At := if twoC a b = 0 then minusA a b else []
theorem AAns2.none {w w' : World} {l : List At} {c : Int} {a : Option Addr} {cp : Nat} (hl : l = []) (hB : Below w.heap.size w w') : AAns2 w l c (.returned (.tuple #[.slice a 0 cp, .int .i64 c])) w' := by
  subst hl
  exact ⟨a, cp, rfl, .inl rfl, hB⟩
end Go.Proofs.Ytfoimmnfpheoiaa
