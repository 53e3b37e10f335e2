import Derived.Test.YtbaelhehjepepaaKIn
namespace Go.Proofs.Ytbaelhehjepepaa
open Go.RowKit
set_option linter.unusedSimpArgs false
def InsAns (w : World) (B : Nat) (v : Value) (l : List At) (e : Ending) (w' : World) : Prop := ∃ v', e = .returned v' ∧ ABuf w' B v' l ∧ AppA w v w' v'
theorem insA_end (l : List At) (x : At) : insA l l.length x = l ++ [x] := by unfold insA; simp
theorem sizeAt (w : World) : (Go.sizeOf 40).run Try.prog w = .ok 3 w := by
  obtain ⟨i, hi, hz, hs, hby⟩ := infoAt'
  simp [sizeOf, typeInfo, hi, hs]
theorem cell_row {w : World} {g : Nat} {cur : Array Value} {t : TypeId} (h : w.heap[g]? = some (.cells cur t (0, 0))) (j : Nat) : w.cell? ⟨g, j, none⟩ = cur[j]? := by simp [World.cell?, h]
/-- atoms of a row, from i on -/
theorem news_row {w : World} {g : Nat} {cur : Array Value} {l : List At} (h : w.heap[g]? = some (.cells cur 40 (0, 0))) (hx : cur.toList.take (l.length * 3) = atCs l) (i : Nat) (hi : i ≤ l.length) :
    ∀ j u, (atCs (l.drop i))[j]? = some u → w.cell? ((⟨g, i * 3, none⟩ : Addr).add j) = some u := fun j u hj => by
  rw [Addr.add_mid, cell_row h]
  rw [← atCs_drop l i hi, ← hx, List.getElem?_drop] at hj
  have hlt := (List.getElem?_eq_some_iff.1 hj).1
  rw [List.length_take] at hlt
  rw [List.getElem?_take_of_lt (by omega), Array.getElem?_toList] at hj
  exact hj
theorem news_head {w : World} {g : Nat} {cur : Array Value} {l : List At} (h : w.heap[g]? = some (.cells cur 40 (0, 0))) (hx : cur.toList.take (l.length * 3) = atCs l) (i : Nat) (hi : i ≤ l.length) :
    ∀ j u, (atCs (l.take i))[j]? = some u → w.cell? ((⟨g, 0, none⟩ : Addr).add j) = some u := fun j u hj => by
  rw [Addr.add_mid, cell_row h, Nat.zero_add]
  rw [← atCs_take l i hi, ← hx, List.take_take] at hj
  have hlt := (List.getElem?_eq_some_iff.1 hj).1
  rw [List.length_take] at hlt
  rw [List.getElem?_take_of_lt (by omega), Array.getElem?_toList] at hj
  exact hj
end Go.Proofs.Ytbaelhehjepepaa
