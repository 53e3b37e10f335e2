import Derived.Test.YtkncpfhblciplaaYaq
import Derived.Test.YtkncpfhblciplaaYan
namespace Go.Proofs.Ytkncpfhblciplaa
open Go.RowKit
set_option linter.unusedSimpArgs false
structure AI (w : World) (B : Nat) (W : World) (v : Value) (l : List At) : Prop where
  buf : ABuf W B v l
  bel : Below w.heap.size w W
  le : B ≤ W.heap.size
  old : w.heap.size ≤ B
  no : v ≠ .slice none 0 0
theorem AI.on {w W W' : World} {B : Nat} {v : Value} {l : List At} (h : AI w B W v l) (hb : Below W.heap.size W W') : AI w B W' v l := ⟨h.buf.on hb, h.bel.trans (hb.mono h.bel.size), Nat.le_trans h.le hb.size, h.old, h.no⟩
theorem AI.push {w W W' : World} {B : Nat} {v v' : Value} {l l' : List At} (h : AI w B W v l) (hb : ABuf W' B v' l') (ha : AppA W v W' v') (hn : v' ≠ .slice none 0 0) : AI w B W' v' l' :=
  ⟨hb, h.bel.trans ((ha.below h.buf h.le).mono h.old), Nat.le_trans h.le ha.size, h.old, hn⟩
theorem AI.cast {w W : World} {B : Nat} {v : Value} {l l' : List At} (h : AI w B W v l) (e : l = l') : AI w B W v l' := by rw [← e]; exact h
theorem AI.first (w : World) : AI w w.heap.size (w.alloc (.cells #[] 31)) (.slice (some ⟨w.heap.size, 0, none⟩) 0 0) [] :=
  ⟨ABuf.empty w, (Below.refl _ _).alloc (Nat.le_refl _) _, by simp, Nat.le_refl _, by simp⟩
end Go.Proofs.Ytkncpfhblciplaa
namespace Go.Proofs.Ytkncpfhblciplaa
open Go.RowKit
set_option linter.unusedSimpArgs false
def AAns2 (w : World) (l : List At) (c : Int) (e : Ending) (w' : World) : Prop := ∃ a cp, e = .returned (.tuple #[.slice a l.length cp, .int .i64 c]) ∧ OwnAts w' (fun b => w.heap.size ≤ b ∧ b < w'.heap.size) a l ∧ Below w.heap.size w w'
theorem AAns2.none {w w' : World} {l : List At} {c : Int} {a : Option Addr} {cp : Nat} (hl : l = []) (hB : Below w.heap.size w w') : AAns2 w l c (.returned (.tuple #[.slice a 0 cp, .int .i64 c])) w' := by
  subst hl
  exact ⟨a, cp, rfl, .inl rfl, hB⟩
end Go.Proofs.Ytkncpfhblciplaa
