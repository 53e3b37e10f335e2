import Derived.Test.YtbaelhehjepepaaKDo
namespace Go.Proofs.Ytbaelhehjepepaa
open Go.RowKit
set_option linter.unusedSimpArgs false
/-- whether two sets go together -/
def twoC (a b : List At) : Int :=
  if 4096 < a.length ∨ 4096 < b.length then 2
  else if datumB a = false ∨ datumB b = false then 1
  else if 0 < a.length ∧ 0 < b.length ∧ (a.getD 0 atZ).k ≠ (b.getD 0 atZ).k then 9
  else 0
end Go.Proofs.Ytbaelhehjepepaa
