import Derived.Test.YtgegjniilocmnaaDStP
import Derived.Maps.OwnSet
import Derived.Maps.OwnOps
import Derived.Maps.Views
import Derived.Deep.RegionHeld3
namespace Go.Proofs.Ytgegjniilocmnaa
open Go.RowKit Go.Maps
set_option linter.unusedSimpArgs false
/-- a pointer in a map is told as it is -/
def ptrR : Value → Option (DataW Value × List MemPlace) := fun v => some (.held v, [])
theorem intK : Keyed Try.prog 3 := int_keyed Try.underlying3
/-- where the last of the first k rows with that Id lies -/
def ptrOf (l : List RowV) (rb roff : Nat) : Nat → Int → Value
  | 0, _ => .pointer none
  | k + 1, id => if (l.getD k rowZ).id = id then .pointer (some ⟨rb, roff + k * 2, none⟩) else ptrOf l rb roff k id
theorem ptr_none {l : List RowV} {rb roff : Nat} {id : Int} : ∀ {k : Nat}, k ≤ l.length → (∀ m (h : m < l.length), l[m].id ≠ id) → ptrOf l rb roff k id = .pointer none
  | 0, _, _ => rfl
  | k + 1, hk, hn => by
    rw [ptrOf, getD_tab (by omega), if_neg (hn k (by omega))]
    exact ptr_none (by omega) hn
theorem ptr_at {l : List RowV} {rb roff : Nat} {id : Int} (hu : ∀ i j (hi : i < l.length) (hj : j < l.length), l[i].id = l[j].id → i = j) {j : Nat} (hj : j < l.length) (he : l[j].id = id) : ∀ {k : Nat}, k ≤ l.length → j < k → ptrOf l rb roff k id = .pointer (some ⟨rb, roff + j * 2, none⟩)
  | k + 1, hk, hjk => by
    rw [ptrOf, getD_tab (by omega)]
    by_cases e : l[k].id = id
    · have := hu k j (by omega) hj (by rw [e, he])
      subst this
      rw [if_pos e]
    · rw [if_neg e]
      refine ptr_at hu hj he (by omega) ?_
      rcases Nat.lt_or_ge j k with h | h
      · exact h
      · have : j = k := by omega
        subst this
        exact absurd he e
theorem rise_uniq {l : List RowV} (h : riseIds l) : ∀ i j (hi : i < l.length) (hj : j < l.length), l[i].id = l[j].id → i = j := by
  have lt : ∀ j i (hj : j < l.length) (hij : i < j), (l[i]'(by omega)).id < l[j].id := by
    intro j
    induction j with
    | zero => intro i _ h; omega
    | succ j ih =>
      intro i hj hij
      have h1 := h j hj
      by_cases e : i = j
      · subst e; exact h1
      · have := ih i (by omega) (by omega); omega
  intro i j hi hj e
  rcases Nat.lt_trichotomy i j with hlt | heq | hgt
  · have := lt j i hj hlt; omega
  · exact heq
  · have := lt i j hi hgt; omega
/-- a map from Ids to where their rows lie -/
def ShM (D : DataW Value) (l : List RowV) (rb roff k : Nat) : Prop := ∀ id : Int, D.atKey (.int .i64 id) (.held (.pointer none)) = .held (ptrOf l rb roff k id)
theorem ShM.put {D : DataW Value} {l : List RowV} {rb roff k : Nat} (h : ShM D l rb roff k) (hD : IsMap D) (hk : k < l.length) : ShM (D.put (.int .i64 l[k].id) (.held (.pointer (some ⟨rb, roff + k * 2, none⟩)))) l rb roff (k + 1) := fun id => by
  rw [ptrOf, getD_tab hk]
  by_cases e : l[k].id = id
  · subst e
    rw [if_pos rfl, atKey_put_same hD (by simp [WideAt.IsKeyLit])]
  · rw [if_neg e, atKey_put_other (by simpa using fun h => e h.symm), h id]
def ShAns (l : List RowV) (rb roff : Nat) (w : World) (e : Ending) (w' : World) : Prop := ∃ m D, e = .returned (.map (some m)) ∧ w'.ownsMap Try.prog 3 ptrR m l.length D ∧ ShM D l rb roff l.length ∧ w.heap.size ≤ m ∧ Below w.heap.size w w'
end Go.Proofs.Ytgegjniilocmnaa
