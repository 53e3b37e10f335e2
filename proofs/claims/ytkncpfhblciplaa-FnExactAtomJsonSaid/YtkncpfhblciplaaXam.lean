import Derived.Test.YtkncpfhblciplaaXai
import Derived.Test.YtkncpfhblciplaaXaj
import Derived.Test.YtkncpfhblciplaaXal
namespace Go.Proofs.Ytkncpfhblciplaa
open Go.RowKit
set_option linter.unusedSimpArgs false
set_option maxHeartbeats 800000 in
theorem szAtom (x : At) (L : Int) (w : World) (h0 : 0 ≤ L) (h1 : L ≤ 1048576) (ht : x.t.length ≤ maxLen) :
    Calls Try.prog 8 #[.agg #[.int .i64 x.k, .int .i64 x.n, .string ⟨x.t.toArray⟩], .int .i64 L] w fun e w' => e = .returned (.int .i64 (lessI L x.t.length)) ∧ Below w.heap.size w w' := by
  unfold maxLen at ht
  by_cases hn : L - (x.t.length : Int) < 0
  · have HR : Hid (lessI L x.t.length = -1) := less_no hn
    go_enter Try.func8, Try.ntmps8
    go_wp2_with fail
    go_ret
    exact ⟨ret_i HR.out.symm, (Below.refl _ _).alloc (Nat.le_refl _) _⟩
  · have HR : Hid (lessI L x.t.length = L - x.t.length) := less_yes (by omega)
    go_enter Try.func8, Try.ntmps8
    go_wp2_with fail
    go_ret
    exact ⟨ret_i HR.out.symm, (Below.refl _ _).alloc (Nat.le_refl _) _⟩
end Go.Proofs.Ytkncpfhblciplaa
