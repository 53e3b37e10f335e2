/- impl.OrderAtoms answers of every two atoms what the specification answers, number and code, and writes into nothing that came in. No condition besides: at every argument, in every world that the row's reading allows. -/
import Derived.Test.YtjhkignnfdlcjaaKFrA
import Derived.Test.YtjhkignnfdlcjaaKId
namespace Go.Proofs.Ytjhkignnfdlcjaa
theorem fnExactOrderAtoms_proved : Rows.FnExactOrderAtomsSaid := fnExactOrderAtoms_given ordI
#print axioms fnExactOrderAtoms_proved
end Go.Proofs.Ytjhkignnfdlcjaa
