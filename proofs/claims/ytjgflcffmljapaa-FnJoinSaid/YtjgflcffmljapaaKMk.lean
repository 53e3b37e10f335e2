import Derived.Test.YtjgflcffmljapaaKTo
import Derived.Test.YtjgflcffmljapaaMark2
namespace Go.Proofs.Ytjgflcffmljapaa
open Go.RowKit
set_option linter.unusedSimpArgs false
def markAt (k i : Nat) : At := ⟨((k + 3 * i : Nat) : Int), ((k + 3 * i + 1 : Nat) : Int), mt (k + 3 * i + 2)⟩
def marksA (n k : Nat) : List At := (List.range n).map (markAt k)
theorem marksA_len (n k : Nat) : (marksA n k).length = n := by simp [marksA]
theorem marksA_at {n k i : Nat} (h : i < n) : (marksA n k)[i]'(by rw [marksA_len]; exact h) = markAt k i := by simp [marksA]
theorem OwnAts.row {w : World} {B : Nat → Prop} {a : Option Addr} {l : List At} (h : OwnAts w B a l) : ∃ b off, (0 < l.length → a = some ⟨b, off, none⟩ ∧ B b) ∧ Row w b off (l.length * 3) (atF l) := by
  rcases h with h | ⟨b, off, ha, hb, hc⟩
  · exact ⟨0, 0, fun h' => absurd h (by omega), fun m hm => absurd hm (by omega)⟩
  · exact ⟨b, off, fun _ => ⟨ha, hb⟩, hc⟩
theorem OwnAts.of_row {w : World} {B : Nat → Prop} {a : Option Addr} {l : List At} {b off : Nat} (ha : 0 < l.length → a = some ⟨b, off, none⟩ ∧ B b) (h : Row w b off (l.length * 3) (atF l)) : OwnAts w B a l := by
  by_cases h0 : l.length = 0
  · exact .inl h0
  · exact .inr ⟨b, off, (ha (by omega)).1, (ha (by omega)).2, h⟩
end Go.Proofs.Ytjgflcffmljapaa
