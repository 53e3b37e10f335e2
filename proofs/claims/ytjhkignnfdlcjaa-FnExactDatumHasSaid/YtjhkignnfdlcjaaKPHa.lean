/- impl.DatumHas answers of every list of atoms and every atom what the specification answers, bool and code, and writes into nothing that came in. No condition besides: at every argument, in every world that the row's reading allows. -/
import Derived.Test.YtjhkignnfdlcjaaKFrA
import Derived.Test.YtjhkignnfdlcjaaKId
namespace Go.Proofs.Ytjhkignnfdlcjaa
theorem fnExactDatumHas_proved : Rows.FnExactDatumHasSaid := fnExactDatumHas_given datumHasI
#print axioms fnExactDatumHas_proved
end Go.Proofs.Ytjhkignnfdlcjaa
