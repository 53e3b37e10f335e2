import Derived.Test.YtodgijhpokjjhaaDoorZah
namespace Go.Proofs.YtodgijhpokjjhaaDoor
open Go.RowKit
set_option linter.unusedSimpArgs false
theorem spot_lt {i j n L : Nat} (hi : i < L) (hj : j < n) : i * n + j < L * n := by
  obtain ⟨k, rfl⟩ : ∃ k, L = i + 1 + k := ⟨L - i - 1, by omega⟩
  have : (i + 1 + k) * n = i * n + n + k * n := by rw [Nat.add_mul, Nat.add_mul, Nat.one_mul]
  omega
section
variable {w wr w1 : World} {n m : Nat} {f : Nat → Nat → D} {k : Nat} {B : Nat → Prop} {b off : Nat} {X : Nat → Nat → Nat → Prop} {i j : Nat}
end
end Go.Proofs.YtodgijhpokjjhaaDoor
