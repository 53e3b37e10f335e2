import Derived.Test.YtkncpfhblciplaaYat
import Derived.Test.YtkncpfhblciplaaYap
import Derived.Test.YtkncpfhblciplaaYar
namespace Go.Proofs.Ytkncpfhblciplaa
open Go.RowKit
set_option linter.unusedSimpArgs false
theorem AI.ans2 {w W : World} {B : Nat} {v : Value} {l : List At} {c : Int} (h : AI w B W v l) : AAns2 w l c (.returned (.tuple #[v, .int .i64 c])) W := by
  obtain ⟨a, cp, rfl, ho⟩ := h.buf.own
  exact ⟨a, cp, rfl, ho.same (fun _ _ => rfl) (fun b hb => ⟨Nat.le_trans h.old hb.1, hb.2⟩), h.bel⟩
end Go.Proofs.Ytkncpfhblciplaa
namespace Go.Proofs.Ytkncpfhblciplaa
open Go.RowKit
set_option linter.unusedSimpArgs false
theorem ABuf.nil (w : World) (B : Nat) : ABuf w B (.slice none 0 0) [] := ⟨rfl, .inl ⟨rfl, rfl⟩⟩
theorem run_apushN {w : World} {B : Nat} {v : Value} {l : List At} (hb : ABuf w B v l) (hB : B ≤ w.heap.size) (l' : List At) (hl : l.length + l'.length ≤ 1000000000) (hl0 : 0 < l'.length) (ad : Addr) (cp : Nat) (ty : TypeId)
    (hnews : ∀ j u, (atCs l')[j]? = some u → w.cell? (ad.add j) = some u) :
    ∃ v' w', (Builtin.append_ #[48, 48] ty #[v, .slice (some ad) l'.length cp]).run Try.prog w = .ok v' w' ∧ ABuf w' B v' (l ++ l') ∧ AppA w v w' v' := by
  by_cases hv : v = .slice none 0 0
  · subst hv
    have hl1 : l = [] := by
      rcases hb.2 with ⟨-, h0⟩ | ⟨g, cap, cur, e1, -⟩
      · exact List.length_eq_zero_iff.1 h0
      · cases e1
    subst hl1
    obtain ⟨i, hi, hz, hs, hby⟩ := infoAt'
    have h1 : ∀ u ∈ atCs l', u.oneCell' = true := fun u hu => by
      obtain ⟨m, -, rfl⟩ := List.mem_map.1 hu
      unfold atF
      split
      · rfl
      · split <;> rfl
    have hll : (atCs l').length = l'.length * 3 := atCs_len l'
    have hb' : ABuf w w.heap.size (.slice none 0 0) [] := ABuf.nil _ _
    obtain ⟨v', w', hr, h2, h3, h4⟩ := run_append_own (P := Try.prog) w w.heap.size 48 ty 31 i (.agg zeroAt) 3 32 Try.underlying48 hi hz hs hby rfl (by omega) (.slice none 0 0) 0 (atCs []) hb' ad l'.length cp (atCs l') hll hnews h1 (by unfold maxLen; simp at hl; omega) (by simp at hl; omega) (Nat.le_refl _)
    have hb2 : ABuf w' w.heap.size v' ([] ++ l') := by
      unfold ABuf
      rw [atCs_app, List.length_append]
      exact h2
    refine ⟨v', w', hr, hb2.mono hB, ⟨h3.os, h3.tape, h3.output, h3.size, fun k hk hn => h3.block k hk (fun e => hn e.symm), fun g hg => .inr (hb2.lt hg).1⟩⟩
  · obtain ⟨v', w', hr, h2, h3, -⟩ := run_apush hb hB l' hl ad cp ty hv hnews
    exact ⟨v', w', hr, h2, h3⟩
theorem wpList_apushN {ops : Array Oper} {rest : List Oper} {o : Oper} {a : Act} {w : World} {Q : Exit → Act → World → Prop} (hgd : o.guard = none) (s x : Operand)
    (ho : o.op = .call { callee := .builtin .append, args := #[s, x], argTypes := #[48, 48] })
    (B : Nat) (v : Value) (l l' : List At) (ad : Addr) (m cp : Nat) (hs : a.eval s = v) (hx : a.eval x = .slice (some ad) m cp) (hm : l'.length = m)
    (hb : ABuf w B v l) (hB : B ≤ w.heap.size) (hl : l.length + l'.length ≤ 1000000000) (hl0 : 0 < l'.length) (hc : ∀ j u, (atCs l')[j]? = some u → w.cell? (ad.add j) = some u)
    (h : ∀ v' w', ABuf w' B v' (l ++ l') → AppA w v w' v' → wpList Try.prog ops Q rest (a.put o.dst v') w') : wpList Try.prog ops Q (o :: rest) a w := by
  subst hm
  refine wpList_plain hgd fun K hK => ?_
  obtain ⟨v', w', hr, h2, h3⟩ := run_apushN hb hB l' hl hl0 ad cp o.type hc
  unfold Oper.wp execOp
  simp only [ho, resolve, invoke, builtin, Sem.run_bind, Sem.run_pure, Result.andThen_ok, List.map_toArray, List.map_cons, List.map_nil, hs, hx, hr]
  exact hK _ _ (h v' w' h2 h3)
structure AN (w : World) (B : Nat) (W : World) (v : Value) (l : List At) : Prop where
  buf : ABuf W B v l
  bel : Below w.heap.size w W
  le : B ≤ W.heap.size
  old : w.heap.size ≤ B
theorem AN.on {w W W' : World} {B : Nat} {v : Value} {l : List At} (h : AN w B W v l) (hb : Below W.heap.size W W') : AN w B W' v l := ⟨h.buf.on hb, h.bel.trans (hb.mono h.bel.size), Nat.le_trans h.le hb.size, h.old⟩
theorem AN.push {w W W' : World} {B : Nat} {v v' : Value} {l l' : List At} (h : AN w B W v l) (hb : ABuf W' B v' l') (ha : AppA W v W' v') : AN w B W' v' l' :=
  ⟨hb, h.bel.trans ((ha.below h.buf h.le).mono h.old), Nat.le_trans h.le ha.size, h.old⟩
theorem AN.cast {w W : World} {B : Nat} {v : Value} {l l' : List At} (h : AN w B W v l) (e : l = l') : AN w B W v l' := by rw [← e]; exact h
theorem AN.first {w W : World} (h : Below w.heap.size w W) : AN w w.heap.size W (.slice none 0 0) [] := ⟨ABuf.nil _ _, h, h.size, Nat.le_refl _⟩
theorem AN.ans2 {w W : World} {B : Nat} {v : Value} {l : List At} {c : Int} (h : AN w B W v l) : AAns2 w l c (.returned (.tuple #[v, .int .i64 c])) W := by
  obtain ⟨a, cp, rfl, ho⟩ := h.buf.own
  exact ⟨a, cp, rfl, ho.same (fun _ _ => rfl) (fun b hb => ⟨Nat.le_trans h.old hb.1, hb.2⟩), h.bel⟩
end Go.Proofs.Ytkncpfhblciplaa
