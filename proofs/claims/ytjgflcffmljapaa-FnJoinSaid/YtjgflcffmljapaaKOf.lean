import Derived.Test.YtjgflcffmljapaaKJo
import Derived.Test.YtjgflcffmljapaaKEr
namespace Go.Proofs.Ytjgflcffmljapaa
open Go.RowKit
set_option linter.unusedSimpArgs false
noncomputable def ofC (l : List At) : Int := if 4096 < l.length then 2 else if errOf l = 0 then (if 8 < (joinL [] l).length then 6 else 0) else errOf l
noncomputable def ofR (l : List At) : List At := if ¬ 4096 < l.length ∧ errOf l = 0 ∧ ¬ 8 < (joinL [] l).length then joinL [] l else []
end Go.Proofs.Ytjgflcffmljapaa
