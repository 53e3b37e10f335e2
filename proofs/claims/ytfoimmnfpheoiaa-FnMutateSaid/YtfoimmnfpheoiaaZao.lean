import Derived.Test.YtfoimmnfpheoiaaZan
namespace Go.Proofs.Ytfoimmnfpheoiaa
open Go.RowKit
set_option linter.unusedSimpArgs false
set_option maxHeartbeats 1600000 in
theorem putS1 (l : List At) (x : At) (a : Option Addr) (c : Nat) (S : Nat) (w : World) (hl : l.length ≤ 1048576) (hw : S ≤ w.heap.size) (hA : Ats w (· < S) a l) (hh : hasB l x = true) :
    Calls Try.prog 22 #[.slice a l.length c, .agg #[.int .i64 x.k, .int .i64 x.n, .string ⟨x.t.toArray⟩]] w fun e w' => e = .returned (.slice a l.length c) ∧ Below w.heap.size w w' := by
  have HS : Hid (∀ W, Below w.heap.size w W → Calls Try.prog 36 #[.slice a l.length c, .agg #[.int .i64 x.k, .int .i64 x.n, .string ⟨x.t.toArray⟩]] W fun e w' => e = .returned (.bool true) ∧ Below w.heap.size w w') := fun W h => by
    have h1 := hasS l x a c _ W (by unfold maxLen; omega) (hA.below (h.mono hw))
    rw [hh] at h1
    exact h1.mono (fun e w' ⟨he, hb⟩ => ⟨he, h.trans (hb.mono h.size)⟩)
  have hB0 : Hid (Below w.heap.size w (w.alloc (.cells #[.int .i64 x.k, .int .i64 x.n, .string ⟨x.t.toArray⟩] 34))) := (Below.refl _ _).alloc (Nat.le_refl _) _
  clear hA hh
  go_enter Try.func22, Try.ntmps22
  go_wp2_with (go_at_call 36; refine (HS.out _ hB0.out).mono ?_; rintro e w1 ⟨rfl, hB1⟩)
  go_ret
  exact ⟨rfl, hB1⟩
theorem putL_len (l : List At) (x : At) : (putL l x).length ≤ l.length + 1 := by
  unfold putL
  split
  · omega
  · have := posTo_le l x l.length
    unfold posA
    simp; omega
noncomputable def joinL (a b : List At) : List At := b.foldl putL a
theorem join_snoc (a b : List At) (m : Nat) (h : m < b.length) : joinL a (b.take (m + 1)) = putL (joinL a (b.take m)) b[m] := by
  unfold joinL
  rw [List.take_succ_eq_append_getElem h, List.foldl_append]
  rfl
theorem join_len (a : List At) : ∀ b : List At, (joinL a b).length ≤ a.length + b.length := by
  intro b
  induction b generalizing a with
  | nil => simp [joinL]
  | cons x b ih =>
    have h1 := ih (putL a x)
    have h2 := putL_len a x
    unfold joinL at h1 ⊢
    simp only [List.foldl_cons, List.length_cons]
    omega
theorem AI.open {w W : World} {B : Nat} {v : Value} {l : List At} (h : AI w B W v l) : ∃ g c, v = .slice (some ⟨g, 0, none⟩) l.length c ∧ l.length ≤ c ∧ Ats W (· < W.heap.size) (some ⟨g, 0, none⟩) l := by
  obtain ⟨a, c, e, ho⟩ := h.buf.own
  rcases h.buf.2 with ⟨e', -⟩ | ⟨g, cap, cur, rfl, hg, hb, hn, -⟩
  · exact absurd e' h.no
  · injection e with e1 e2 e3
    subst e1
    exact ⟨g, cap, rfl, hn, ho.ats.same (fun _ _ => rfl) (fun b hb => hb.2)⟩
theorem AI.base {w w0 W : World} {B : Nat} {v : Value} {l : List At} (h : AI w0 B W v l) (hb : Below w.heap.size w w0) : AI w B W v l := ⟨h.buf, hb.trans (h.bel.mono hb.size), h.le, Nat.le_trans hb.size h.old, h.no⟩
end Go.Proofs.Ytfoimmnfpheoiaa
namespace Go.Proofs.Ytfoimmnfpheoiaa
open Go.RowKit
set_option linter.unusedSimpArgs false
noncomputable def joinC (a b : List At) : Int := if twoC a b = 0 then (if 8 < (joinL a b).length then 6 else 0) else twoC a b
noncomputable def joinR (a b : List At) : List At := if twoC a b = 0 ∧ ¬ 8 < (joinL a b).length then joinL a b else []
theorem AI.ans2 {w W : World} {B : Nat} {v : Value} {l : List At} {c : Int} (h : AI w B W v l) : AAns2 w l c (.returned (.tuple #[v, .int .i64 c])) W := by
  obtain ⟨a, cp, rfl, ho⟩ := h.buf.own
  exact ⟨a, cp, rfl, ho.same (fun _ _ => rfl) (fun b hb => ⟨Nat.le_trans h.old hb.1, hb.2⟩), h.bel⟩
end Go.Proofs.Ytfoimmnfpheoiaa
