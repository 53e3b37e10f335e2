/- impl.DatumOK answers of every list of atoms what the specification answers, and writes into nothing that came in. No condition besides: at every argument, in every world that the row's reading allows. -/
import Derived.Test.YtjhkignnfdlcjaaKFrA
import Derived.Test.YtjhkignnfdlcjaaKId
namespace Go.Proofs.Ytjhkignnfdlcjaa
theorem fnExactDatumOK_proved : Rows.FnExactDatumOKSaid := fnExactDatumOK_given doSaidI
#print axioms fnExactDatumOK_proved
end Go.Proofs.Ytjhkignnfdlcjaa
