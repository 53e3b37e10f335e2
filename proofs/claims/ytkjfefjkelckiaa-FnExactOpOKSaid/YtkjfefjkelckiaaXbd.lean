import Derived.Test.YtkjfefjkelckiaaXax
import Derived.Test.YtkjfefjkelckiaaXaz
import Derived.Test.YtkjfefjkelckiaaXba
import Derived.Test.YtkjfefjkelckiaaXbc
namespace Go.Proofs.Ytkjfefjkelckiaa
open Go.RowKit
set_option linter.unusedSimpArgs false
def rowsB (l : List SetV) : Bool := l.all setB
def colsB (l : List (List UInt8)) : Bool := l.all (fun t => decide (t.length ≤ 40))
def headB (o : OpV) : Bool := inB 1 o.kd 10 && (decide (o.tb.length ≤ 40) && (decide (o.nm.length ≤ 40) && (condsB o.wh && (mutsB o.mu && (decide (o.row.length ≤ 6) && decide (o.cs.length ≤ 6))))))
def useB (o : OpV) : Bool := (inB 1 o.kd 6 || decide (o.tb = [])) && ((inB 2 o.kd 6 || decide (o.wh.length = 0)) && (((o.kd == 1 || decide (9 ≤ o.kd)) || decide (o.nm = [])) && (((o.kd == 1 || (o.kd == 3 || o.kd == 6)) || decide (o.row.length = 0)) && ((o.kd == 4 || decide (o.mu.length = 0)) && ((o.kd == 2 || decide (o.cs.length = 0)) && (o.kd == 6 || !o.un))))))
def opB (o : OpV) : Bool := headB o && (rowsB o.row && (colsB o.cs && useB o))
theorem op_head {o : OpV} (h : headB o = false) : opB o = false := by unfold opB; rw [h]; rfl
theorem op_row {o : OpV} {k : Nat} (hk : k < o.row.length) (h : setB o.row[k] = false) : opB o = false := by
  unfold opB
  rw [show rowsB o.row = false from List.all_eq_false.2 ⟨_, List.getElem_mem hk, by simp [h]⟩]; simp
theorem op_col {o : OpV} {k : Nat} (hk : k < o.cs.length) (h : ¬ o.cs[k].length ≤ 40) : opB o = false := by
  unfold opB
  rw [show colsB o.cs = false from List.all_eq_false.2 ⟨_, List.getElem_mem hk, by simp; omega⟩]; simp
theorem op_all {o : OpV} (h0 : headB o = true) (h1 : ∀ k (h : k < o.row.length), setB o.row[k] = true) (h2 : ∀ k (h : k < o.cs.length), o.cs[k].length ≤ 40) : opB o = useB o := by
  unfold opB
  rw [h0, show rowsB o.row = true from List.all_eq_true.2 (fun x hx => by obtain ⟨k, hk, rfl⟩ := List.mem_iff_getElem.1 hx; exact h1 k hk), show colsB o.cs = true from List.all_eq_true.2 (fun x hx => by obtain ⟨k, hk, rfl⟩ := List.mem_iff_getElem.1 hx; exact decide_eq_true (h2 k hk))]; rfl
end Go.Proofs.Ytkjfefjkelckiaa
