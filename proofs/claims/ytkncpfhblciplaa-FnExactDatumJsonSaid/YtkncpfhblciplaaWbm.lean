import Derived.Test.YtkncpfhblciplaaWbk
import Derived.Test.YtkncpfhblciplaaWan
import Derived.ArgAppend
import Derived.OwnWalk
import Derived.Test.YtkncpfhblciplaaWao
import Derived.Deep.CutRange
import Derived.Test.YtkncpfhblciplaaWbc
import Derived.Deep.RegionLaw
import Derived.Deep.RegionHeld3
import Derived.Lib.Hide
import Derived.Test.YtkncpfhblciplaaWbd
import Derived.Test.YtkncpfhblciplaaWbl
import Derived.Test.YtkncpfhblciplaaWbj
import Derived.Test.YtkncpfhblciplaaWbg
import Derived.Test.YtkncpfhblciplaaWau
namespace Go.Proofs.Ytkncpfhblciplaa
open Go.RowKit
set_option linter.unusedSimpArgs false
theorem wpList_append_isW {P : Program} {ops : Array Oper} {rest : List Oper} {o : Oper} {a : Act} {w : World} {Q : Exit → Act → World → Prop} (hgd : o.guard = none) (s x : Operand) (t : TypeId)
    (ho : o.op = .call { callee := .builtin .append, args := #[s, x], argTypes := #[t, t] }) (v y : Value) (hs : a.eval s = v) (hx : a.eval x = y) (v' : Value) (w' : World) (hr : (Builtin.append_ #[t, t] o.type #[v, y]).run P w = .ok v' w')
    (hk : wpList P ops Q rest (a.put o.dst v') w') : wpList P ops Q (o :: rest) a w := by
  refine wpList_plain hgd fun _ hK => ?_
  unfold Oper.wp execOp
  simp only [ho, resolve, invoke, builtin, Sem.run_bind, Sem.run_pure, Result.andThen_ok, List.map_toArray, List.map_cons, List.map_nil, hs, hx, hr]
  exact hK _ _ hk
variable {w W W' : World} {base : Nat} {av nv : Value} {A : List At} {nn : Nat}
end Go.Proofs.Ytkncpfhblciplaa
