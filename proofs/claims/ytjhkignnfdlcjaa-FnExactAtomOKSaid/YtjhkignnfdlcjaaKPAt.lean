/- impl.AtomOK answers of every atom what the specification answers, writes into nothing that came in. No condition besides: at every argument, in every world that the row's reading allows. -/
import Derived.Test.YtjhkignnfdlcjaaKFrA
import Derived.Test.YtjhkignnfdlcjaaKId
namespace Go.Proofs.Ytjhkignnfdlcjaa
theorem fnExactAtomOK_proved : Rows.FnExactAtomOKSaid := fnExactAtomOK_given atSaidI
#print axioms fnExactAtomOK_proved
end Go.Proofs.Ytjhkignnfdlcjaa
