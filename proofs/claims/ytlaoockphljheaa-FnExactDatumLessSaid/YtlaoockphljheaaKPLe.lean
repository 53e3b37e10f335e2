/- impl.DatumLess answers of every two lists of atoms what the specification answers, list and code, in new memory, and writes into nothing that came in. No condition besides: at every argument, in every world that the row's reading allows. -/
import Derived.Test.YtlaoockphljheaaKFrB
import Derived.Test.YtlaoockphljheaaKIg
namespace Go.Proofs.Ytlaoockphljheaa
theorem fnExactDatumLess_proved : Rows.FnExactDatumLessSaid := fnExactDatumLess_given lessSaidI
#print axioms fnExactDatumLess_proved
end Go.Proofs.Ytlaoockphljheaa
