import Derived.Test.YtbaelhehjepepaaKIp
namespace Go.Proofs.Ytbaelhehjepepaa
open Go.RowKit
set_option linter.unusedSimpArgs false
theorem wpList_appZ {ops : Array Oper} {rest : List Oper} {o : Oper} {a : Act} {w : World} {Q : Exit → Act → World → Prop} (hgd : o.guard = none) (d x : Operand)
    (ho : o.op = .call { callee := .builtin .append, args := #[d, x], argTypes := #[26, 3] }) (v u : Value) (hd : a.eval d = v) (hx : a.eval x = u) {v' : Value} {w' : World}
    (hr : (Builtin.append_ #[26, 3] o.type #[v, u]).run Try.prog w = .ok v' w') (h : wpList Try.prog ops Q rest (a.put o.dst v') w') : wpList Try.prog ops Q (o :: rest) a w := by
  refine wpList_plain hgd fun K hK => ?_
  unfold Oper.wp execOp
  simp only [ho, resolve, invoke, builtin, Sem.run_bind, Sem.run_pure, Result.andThen_ok, List.map_toArray, List.map_cons, List.map_nil, hd, hx, hr]
  exact hK _ _ h
theorem own_at {a : Addr} {n c q : Nat} (h : Value.ownBlock (.slice (some a) n c) = some q) : a.block ≤ q := by
  have e : a.block = q := by simpa [Value.ownBlock] using h
  omega
theorem zeros_len (n : Nat) : (Builtin.zeroCells (Value.agg zeroAt).cells n).size = n * 3 := by
  simp [Builtin.zeroCells, Value.cells, zeroAt]
end Go.Proofs.Ytbaelhehjepepaa
