/- impl.DatumOf answers of every argument what the specification answers, list and code, in new memory, and writes into nothing that came in. No condition besides: at every argument, in every world that the row's reading allows. -/
import Derived.Test.YtlaoockphljheaaKFrB
import Derived.Test.YtlaoockphljheaaKIv
namespace Go.Proofs.Ytlaoockphljheaa
theorem fnExactDatumOf_proved : Rows.FnExactDatumOfSaid := fnExactDatumOf_given datumOfI
#print axioms fnExactDatumOf_proved
end Go.Proofs.Ytlaoockphljheaa
