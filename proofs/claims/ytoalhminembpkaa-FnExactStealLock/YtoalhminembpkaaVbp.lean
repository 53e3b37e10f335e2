import Derived.Test.YtoalhminembpkaaVbo
namespace Go.Proofs.Ytoalhminembpkaa
open Go.RowKit Go.MuLone
set_option linter.unusedSimpArgs false
def LvI (base pb : Nat) (w : World) (L : List LkV) (T : List ToV) (C : Int) (e : Ending) (w' : World) : Prop := ∃ es a c ta tc, e = .returned (.tuple #[.slice ta T.length tc, .int .i64 C]) ∧ lks es = L ∧ TW base pb w w' 0 es (.slice a L.length c) ∧ TOw base pb w' es (.slice a L.length c) T (.slice ta T.length tc)
end Go.Proofs.Ytoalhminembpkaa
