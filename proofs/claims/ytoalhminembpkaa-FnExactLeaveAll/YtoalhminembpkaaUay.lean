import Derived.Test.YtoalhminembpkaaUaw
import Derived.Test.YtoalhminembpkaaUax
namespace Go.Proofs.Ytoalhminembpkaa
open Go.RowKit
set_option linter.unusedSimpArgs false
theorem wpList_appIs {P : Program} {ops : Array Oper} {rest : List Oper} {o : Oper} {a : Act} {w : World} {Q : Exit → Act → World → Prop} (hgd : o.guard = none) (s x : Operand) (t : TypeId)
    (ho : o.op = .call { callee := .builtin .append, args := #[s, x], argTypes := #[t, t] }) (v y : Value) (hs : a.eval s = v) (hx : a.eval x = y) (v' : Value) (w' : World) (hr : (Builtin.append_ #[t, t] o.type #[v, y]).run P w = .ok v' w')
    (hk : wpList P ops Q rest (a.put o.dst v') w') : wpList P ops Q (o :: rest) a w := by
  refine wpList_plain hgd fun _ hK => ?_
  unfold Oper.wp execOp
  simp only [ho, resolve, invoke, builtin, Sem.run_bind, Sem.run_pure, Result.andThen_ok, List.map_toArray, List.map_cons, List.map_nil, hs, hx, hr]
  exact hK _ _ hk
theorem head_at {q : List Int} (h : 0 < q.length) : q.headD (-1) = q[0] := by
  cases q with
  | nil => simp at h
  | cons x l => rfl
end Go.Proofs.Ytoalhminembpkaa
