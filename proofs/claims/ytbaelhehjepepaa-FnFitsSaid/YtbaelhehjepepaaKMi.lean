import Derived.Test.YtbaelhehjepepaaKApp
import Derived.Test.YtbaelhehjepepaaKDt
namespace Go.Proofs.Ytbaelhehjepepaa
open Go.RowKit
set_option linter.unusedSimpArgs false
/-- the atoms of a that b has not -/
def minusA (a b : List At) : List At := a.filter (fun x => !hasB b x)
theorem minus_snoc (a b : List At) (m : Nat) (h : m < a.length) : minusA (a.take (m + 1)) b = minusA (a.take m) b ++ (if hasB b a[m] then [] else [a[m]]) := by
  unfold minusA
  rw [List.take_succ_eq_append_getElem h, List.filter_append]
  congr 1
  cases e : hasB b a[m] <;> simp [e]
theorem minus_len (a b : List At) (m : Nat) : (minusA (a.take m) b).length ≤ m := Nat.le_trans (List.length_filter_le _ _) (List.length_take_le _ _)
/-- what a call holds that builds a list of atoms in a row of its own -/
structure AI (w : World) (B : Nat) (W : World) (v : Value) (l : List At) : Prop where
  buf : ABuf W B v l
  bel : Below w.heap.size w W
  le : B ≤ W.heap.size
  old : w.heap.size ≤ B
  no : v ≠ .slice none 0 0
theorem AI.on {w W W' : World} {B : Nat} {v : Value} {l : List At} (h : AI w B W v l) (hb : Below W.heap.size W W') : AI w B W' v l := ⟨h.buf.on hb, h.bel.trans (hb.mono h.bel.size), Nat.le_trans h.le hb.size, h.old, h.no⟩
theorem AI.push {w W W' : World} {B : Nat} {v v' : Value} {l l' : List At} (h : AI w B W v l) (hb : ABuf W' B v' l') (ha : AppA W v W' v') (hn : v' ≠ .slice none 0 0) : AI w B W' v' l' :=
  ⟨hb, h.bel.trans ((ha.below h.buf h.le).mono h.old), Nat.le_trans h.le ha.size, h.old, hn⟩
theorem AI.cast {w W : World} {B : Nat} {v : Value} {l l' : List At} (h : AI w B W v l) (e : l = l') : AI w B W v l' := by rw [← e]; exact h
theorem AI.first (w : World) : AI w w.heap.size (w.alloc (.cells #[] 40)) (.slice (some ⟨w.heap.size, 0, none⟩) 0 0) [] :=
  ⟨ABuf.empty w, (Below.refl _ _).alloc (Nat.le_refl _) _, by simp, Nat.le_refl _, by simp⟩
/-- the answer of a function that builds a list of atoms -/
def AAns (w : World) (l : List At) (e : Ending) (w' : World) : Prop := ∃ a c, e = .returned (.slice a l.length c) ∧ OwnAts w' (fun b => w.heap.size ≤ b ∧ b < w'.heap.size) a l ∧ Below w.heap.size w w'
theorem AI.ans {w W : World} {B : Nat} {v : Value} {l : List At} (h : AI w B W v l) : AAns w l (.returned v) W := by
  obtain ⟨a, c, rfl, ho⟩ := h.buf.own
  exact ⟨a, c, rfl, ho.same (fun _ _ => rfl) (fun b hb => ⟨Nat.le_trans h.old hb.1, hb.2⟩), h.bel⟩
end Go.Proofs.Ytbaelhehjepepaa
