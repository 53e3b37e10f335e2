import Derived.Test.YtodgijhpokjjhaaDoorZat
import Derived.Test.YtodgijhpokjjhaaDoorZan
namespace Go.Proofs.YtodgijhpokjjhaaDoor
open Go.RowKit
set_option linter.unusedSimpArgs false
theorem own_shape' {w : World} {base : Nat} {e : TypeId} {size : Nat} {v : Value} {n : Nat} {xs : List Value} (h : w.ownsRow base e size v n xs) : ∃ va vc, v = .slice va n vc := by
  rcases h.2 with ⟨rfl, rfl⟩ | ⟨g, cap, cur, rfl, _⟩
  · exact ⟨none, 0, rfl⟩
  · exact ⟨_, _, rfl⟩
theorem esc_len (l : List UInt8) : (l.flatMap esc).length ≤ 2 * l.length := by
  induction l with
  | nil => simp
  | cons c l ih =>
    have h1 : (esc c).length ≤ 2 := by unfold esc; split <;> simp
    simp only [List.flatMap_cons, List.length_append, List.length_cons]; omega
theorem take_flat {s : ByteArray} (m : Nat) (h : m < s.size) : (s.data.toList.take (m + 1)).flatMap esc = (s.data.toList.take m).flatMap esc ++ esc s[m] := by
  rw [List.take_succ_eq_append_getElem (by simpa using h), List.flatMap_append]
  simp
  rfl
end Go.Proofs.YtodgijhpokjjhaaDoor
