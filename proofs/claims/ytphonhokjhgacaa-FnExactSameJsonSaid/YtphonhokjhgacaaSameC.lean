import Derived.Test.YtphonhokjhgacaaSameD
import Derived.Test.YtphonhokjhgacaaSameE
namespace Go.Proofs.Ytphonhokjhgacaa
theorem sameS (a b : J) : SameSaid 5 a b := by
  cases ea : okB a
  · exact sameS1 a b ea
  · cases eb : okB b
    · exact sameS2 a b ea eb
    · exact sameS3 a b ea eb
end Go.Proofs.Ytphonhokjhgacaa
