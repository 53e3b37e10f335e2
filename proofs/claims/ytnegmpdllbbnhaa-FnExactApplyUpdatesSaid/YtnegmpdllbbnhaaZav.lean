import Derived.Test.YtnegmpdllbbnhaaZah
namespace Go.Proofs.Ytnegmpdllbbnhaa
open Go.RowKit
set_option linter.unusedSimpArgs false
theorem szIRow (id : Int) (cells : List (List At)) (a : Option Addr) (c : Nat) (L : Int) (B : Nat → Prop) (w : World) (g0 : 0 ≤ L) (g1 : L ≤ 1048576) (h0 : iOK id) (h1 : (dAtomSS cells).le maxLen) (r : Rd w B (dAtomSS cells) (.slice a cells.length c)) :
    Calls Try.prog 15 #[.agg #[.int .i64 id, .slice a cells.length c], .int .i64 L] w fun e w' => e = .returned (.int .i64 (lessI L ((dAtomSS cells).sz))) ∧ Below w.heap.size w w' := by
  have h := szDRow ⟨id, cells⟩ a c L B w g0 g1 (fun j hj => by rcases (by omega : j = 0 ∨ j = 1) with rfl | rfl <;> first | exact h0 | exact h1) r
  rw [szT_Row] at h
  exact h
theorem toIRow (id : Int) (cells : List (List At)) (a : Option Addr) (c : Nat) (B : Nat → Prop) (w : World) (h0 : iOK id) (h1 : (dAtomSS cells).le 1048576) (r : Rd w B (dAtomSS cells) (.slice a cells.length c)) :
    Calls Try.prog 25 #[.agg #[.int .i64 id, .slice a cells.length c]] w fun e w' => ∃ p : Nat, e = .returned (.agg #[.int .i64 id, .slice (some ⟨p, 0, none⟩) cells.length cells.length]) ∧ Own w' (dAtomSS cells) (fun c => w.heap.size ≤ c ∧ c < w'.heap.size) (.slice (some ⟨p, 0, none⟩) cells.length cells.length) ∧ Below w.heap.size w w' :=
  (toDRow ⟨id, cells⟩ a c B w (fun j hj => by rcases (by omega : j = 0 ∨ j = 1) with rfl | rfl <;> first | exact h0 | exact h1) r).mono (fun e w' ⟨p, he, ho, hB⟩ => ⟨p, he, Owns.one ho (j := 1) (by omega), hB⟩)
theorem eqIRow (id : Int) (cells : List (List At)) (a : Option Addr) (c : Nat) (a' : Option Addr) (c' : Nat) (A B : Nat → Prop) (w : World) (h0 : iOK id) (h1 : (dAtomSS cells).le maxLen) (r : Rd w A (dAtomSS cells) (.slice a cells.length c)) (r' : Rd w B (dAtomSS cells) (.slice a' cells.length c')) :
    Calls Try.prog 31 #[.agg #[.int .i64 id, .slice a cells.length c], .agg #[.int .i64 id, .slice a' cells.length c']] w fun e w' => e = .returned (.bool true) ∧ Below w.heap.size w w' :=
  eqDRow ⟨id, cells⟩ a c a' c' A B w (fun j hj => by rcases (by omega : j = 0 ∨ j = 1) with rfl | rfl <;> first | exact h0 | exact h1) r r'
structure ChV where
  tab : Int
  cid : Int
  oid : Int
  ocs : List (List At)
  nid : Int
  ncs : List (List At)
end Go.Proofs.Ytnegmpdllbbnhaa
