import Derived.Test.YtooiejlbnddfmaaMark3
namespace Go.Proofs.Ytooiejlbnddfmaa
open Go.RowKit
set_option linter.unusedSimpArgs false
theorem Row.at {w : World} {b off n : Nat} {f : Nat → Value} (h : Row w b off n f) (m : Nat) (hm : m < n) {o : Nat} (ho : o = off + m) : w.cell? ⟨b, o, none⟩ = some (f m) ∧ w.frozen? ⟨b, o, none⟩ = false := by
  subst ho; exact h m hm
theorem Row.set_at {w : World} {b off n : Nat} {f : Nat → Value} (h : Row w b off n f) (i : Nat) (hi : i < n) (v : Value) {o : Nat} (ho : o = off + i) : Row (w.setCell ⟨b, o, none⟩ v) b off n (fun m => if m = i then v else f m) := by
  subst ho; exact h.set i hi v
/-- the cells of item i with its first three turned -/
def turn3 (f : Nat → Value) (i : Nat) (v0 v1 v2 : Value) : Nat → Value := fun m => if m = i * 5 + 2 then v2 else if m = i * 5 + 1 then v1 else if m = i * 5 then v0 else f m
theorem five_turn (f : Nat → Value) (i : Nat) (v0 v1 v2 : Value) : five (turn3 f i v0 v1 v2) i = [v0, v1, v2, f (i * 5 + 3), f (i * 5 + 4)] := by
  have h1 : ∀ o o' : Nat, (i * 5 + o = i * 5 + o') ↔ o = o' := fun o o' => by omega
  have h0 : ∀ o : Nat, (i * 5 = i * 5 + o) ↔ 0 = o := fun o => by omega
  simp [five, turn3, h1, h0]
theorem five_other (f : Nat → Value) (i m : Nat) (h : m ≠ i) (v0 v1 v2 : Value) : five (turn3 f i v0 v1 v2) m = five f m := by
  have h5 : ∀ o o' : Nat, o < 5 → o' < 5 → ¬ (m * 5 + o = i * 5 + o') := fun o o' h1 h2 => by omega
  have g0 : ∀ o' : Nat, o' < 5 → ¬ (m * 5 = i * 5 + o') := fun o' h2 => by omega
  have g1 : ∀ o : Nat, o < 5 → ¬ (m * 5 + o = i * 5) := fun o h2 => by omega
  have g2 : ¬ (m * 5 = i * 5) := by omega
  simp only [five, turn3, g2, g0 1 (by omega), g0 2 (by omega), g1 1 (by omega), g1 2 (by omega), g1 3 (by omega), g1 4 (by omega), h5 1 1 (by omega) (by omega), h5 1 2 (by omega) (by omega), h5 2 1 (by omega) (by omega), h5 2 2 (by omega) (by omega), h5 3 1 (by omega) (by omega), h5 3 2 (by omega) (by omega), h5 4 1 (by omega) (by omega), h5 4 2 (by omega) (by omega), if_false]
theorem OwnRow.turn {wr w5 : World} {b off n : Nat} {f : Nat → Value} {X : Nat → Nat → Prop} {L : Nat → J} (h : OwnRow wr b off n f X L) (i : Nat) (x' : J) (v0 v1 v2 : Value)
    (hrow : Row w5 b off (n * 5) (turn3 f i v0 v1 v2)) (hx : OwnJ w5 x' (X i) [v0, v1, v2, f (i * 5 + 3), f (i * 5 + 4)])
    (hs : ∀ c, c < wr.heap.size → c ≠ b → ¬ X i c → w5.heap[c]? = wr.heap[c]?) : OwnRow w5 b off n (turn3 f i v0 v1 v2) X (fun m => if m = i then x' else L m) := by
  refine ⟨hrow, h.away, h.apart, fun m hm => ?_⟩
  show OwnJ w5 (if m = i then x' else L m) (X m) _
  by_cases e : m = i
  · subst e; rw [if_pos rfl, five_turn]; exact hx
  · rw [if_neg e, five_other f i m e]
    exact OwnJ.same _ _ (X m) _ (fun c hc => hs c hc.2 (h.away m c hc.1) (fun hi => e (h.apart m i c hc.1 hi))) (fun _ h => h.1) (OwnJ.inside _ _ _ (h.own m hm))

/-- the list with its first m items marked -/
def mixL (items : List J) (k m : Nat) : Nat → J := fun i => if i < m then mkJ (items.getD i dflt) (k + sumTo mn items i) else items.getD i dflt
theorem mix_zero (items : List J) (k : Nat) : mixL items k 0 = fun i => items.getD i dflt := by funext i; simp [mixL]
theorem mix_succ (items : List J) (k m : Nat) : (fun i => if i = m then mkJ (items.getD m dflt) (k + sumTo mn items m) else mixL items k m i) = mixL items k (m + 1) := by
  funext i
  by_cases e : i = m
  · subst e; simp [mixL]
  · simp only [mixL, if_neg e]
    by_cases e2 : i < m
    · rw [if_pos e2, if_pos (by omega)]
    · rw [if_neg e2, if_neg (by omega)]
theorem mix_all (items : List J) (k i : Nat) (h : i < items.length) : mixL items k items.length i = (mkL items k).getD i dflt := by
  have h' : i < (mkL items k).length := by rw [mkL_len]; exact h
  rw [List.getD_eq_getElem?_getD, List.getElem?_eq_getElem h', mkL_at items k i h]
  simp [mixL, h]

end Go.Proofs.Ytooiejlbnddfmaa
