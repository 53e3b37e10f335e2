import Derived.Test.YtkncpfhblciplaaYbi
import Derived.Test.YtkncpfhblciplaaYam
import Derived.Test.YtkncpfhblciplaaYbn
import Derived.Deep.RegionHeld3
import Derived.Deep.CutRange
namespace Go.Proofs.Ytkncpfhblciplaa
open Go.RowKit
set_option linter.unusedSimpArgs false
def Rt (j : J) : Prop := ∃ d n, cnt d j = some n
theorem ok_rt {j : J} (h : okB j = true) : Rt j := by
  unfold okB at h
  have := of_decide_eq_true h
  cases e : cnt 12 j with
  | none => rw [e] at this; simp [left] at this
  | some n => exact ⟨12, n, e⟩
theorem Rt.part {j : J} (h : Rt j) : partB j = true := by
  obtain ⟨d, n, hn⟩ := h
  cases d with
  | zero => cases hn
  | succ d =>
    cases e : partB j
    · rw [cnt_nopart e] at hn; cases hn
    · rfl
theorem addO_some {a b : Option Nat} {n : Nat} (h : addO a b = some n) : (∃ x, a = some x) ∧ ∃ y, b = some y := by
  cases a with
  | none => cases h
  | some x =>
    cases b with
    | none => cases h
    | some y => exact ⟨⟨x, rfl⟩, y, rfl⟩
theorem sumO_mem {α : Type} {f : α → Option Nat} : ∀ {l : List α} {n : Nat}, sumO (l.map f) = some n → ∀ x ∈ l, ∃ m, f x = some m
  | [], _, _, _, h => absurd h List.not_mem_nil
  | y :: l, n, h, x, hx => by
    obtain ⟨⟨a, ha⟩, b, hb⟩ := addO_some (show addO (f y) (sumO (l.map f)) = some n from h)
    rcases List.mem_cons.1 hx with rfl | hx
    · exact ⟨a, ha⟩
    · exact sumO_mem hb x hx
theorem Rt.item {j x : J} (h : Rt j) (hx : x ∈ j.items) : Rt x := by
  have hp := h.part
  obtain ⟨d, n, hn⟩ := h
  cases d with
  | zero => cases hn
  | succ d =>
    have e : cnt (d + 1) j = addO (some 1) (sumO (j.items.map (cnt d))) := by simp only [cnt, hp, if_true]
    rw [e] at hn
    obtain ⟨-, y, hy⟩ := addO_some hn
    obtain ⟨m, hm⟩ := sumO_mem hy x hx
    exact ⟨d, m, hm⟩
theorem Rt.bool {j : J} (h : Rt j) (hk : j.k = 1) : inB 0 j.n 1 = true := by have := h.part; rw [part1 hk] at this; simp at this; exact this.1
theorem Rt.num {j : J} (h : Rt j) (hk : j.k = 2) : inB (-1000000000) j.n 1000000000 = true := by have := h.part; rw [part2 hk] at this; simp at this; exact this.1
theorem Rt.text {j : J} (h : Rt j) (hk : j.k = 3) : textB j.t = true := by have := h.part; rw [part3 hk] at this; simp at this; exact this.2.1
def uuidW : List UInt8 := [117, 117, 105, 100]
def namedW : List UInt8 := [110, 97, 109, 101, 100, 45, 117, 117, 105, 100]
def setW : List UInt8 := [115, 101, 116]
def it0 (j : J) : J := j.items.getD 0 dflt
def it1 (j : J) : J := j.items.getD 1 dflt
def pairB (j : J) : Bool := decide (j.k = 4 ∧ j.items.length = 2 ∧ (it0 j).k = 3)
theorem pairB_yes {j : J} (h : pairB j = true) : j.k = 4 ∧ j.items.length = 2 ∧ (it0 j).k = 3 := of_decide_eq_true h
theorem it_at0 {j : J} (h : 0 < j.items.length) : j.items[0] = it0 j := by simp [it0, List.getD_eq_getElem?_getD, List.getElem?_eq_getElem h]
theorem it_at1 {j : J} (h : 1 < j.items.length) : j.items[1] = it1 j := by simp [it1, List.getD_eq_getElem?_getD, List.getElem?_eq_getElem h]
theorem it1_mem {j : J} (h : 1 < j.items.length) : it1 j ∈ j.items := by rw [← it_at1 h]; exact List.getElem_mem h
def wdA (w : List UInt8) (x : J) : Option At := if w = uuidW ∧ x.k = 2 ∧ inB 1 x.n 1000000 = true then some ⟨4, x.n, []⟩ else none
def wdN (w : List UInt8) (x : J) : Option (List UInt8) := if w = namedW ∧ x.k = 3 then some x.t else none
def wdL (w : List UInt8) (x : J) : Option (List J) := if w = setW ∧ x.k = 4 then some x.items else none
def paA (j : J) : Option At :=
  if j.k = 2 then some ⟨1, j.n, []⟩ else if j.k = 3 then some ⟨2, 0, j.t⟩ else if j.k = 1 then some ⟨3, j.n, []⟩
  else if pairB j = true then wdA (it0 j).t (it1 j) else none
def paN (j : J) : Option (List UInt8) := if pairB j = true then wdN (it0 j).t (it1 j) else none
def paL (j : J) : Option (List J) := if pairB j = true then wdL (it0 j).t (it1 j) else none
theorem paA2 {j : J} (h : j.k = 2) : paA j = some ⟨1, j.n, []⟩ := by unfold paA; rw [if_pos h]
theorem paA3 {j : J} (h : j.k = 3) : paA j = some ⟨2, 0, j.t⟩ := by unfold paA; rw [if_neg (by omega), if_pos h]
theorem paA1 {j : J} (h : j.k = 1) : paA j = some ⟨3, j.n, []⟩ := by unfold paA; rw [if_neg (by omega), if_neg (by omega), if_pos h]
theorem paA4 {j : J} (h1 : j.k ≠ 2) (h2 : j.k ≠ 3) (h3 : j.k ≠ 1) : paA j = if pairB j = true then wdA (it0 j).t (it1 j) else none := by unfold paA; rw [if_neg h1, if_neg h2, if_neg h3]
theorem pa_ok {j : J} (h : Rt j) {x : At} (hx : paA j = some x) : atOK x = true := by
  by_cases h2 : j.k = 2
  · rw [paA2 h2] at hx; cases hx
    rw [atOK1 rfl]; simp [h.num h2]
  by_cases h3 : j.k = 3
  · rw [paA3 h3] at hx; cases hx
    rw [atOK2 rfl]; simp [h.text h3]
  by_cases h1 : j.k = 1
  · rw [paA1 h1] at hx; cases hx
    rw [atOK3 rfl]; simp [h.bool h1]
  rw [paA4 h2 h3 h1] at hx
  split at hx
  · unfold wdA at hx
    split at hx
    · rename_i hc
      cases hx
      rw [atOK4 rfl]; simp [hc.2.2]
    · cases hx
  · cases hx
end Go.Proofs.Ytkncpfhblciplaa
namespace Go.Proofs.Ytkncpfhblciplaa
open Go.RowKit
set_option linter.unusedSimpArgs false
theorem heap_new' (w : World) (o : Obj) {g : Nat} (h : g = w.heap.size) : (w.alloc o).heap[g]? = some o := by
  subst h
  show (w.heap.push o)[w.heap.size]? = some o
  simp
theorem RJ.cells {w : World} {j : J} {B : Nat → Prop} {cs : List Value} (h : RJ w B j cs) : ∃ ka kc ia ic, cs = [.int .i64 j.k, .int .i64 j.n, .string ⟨j.t.toArray⟩, .slice ka j.keys.length kc, .slice ia j.items.length ic] := by
  rw [RJ_eq] at h
  obtain ⟨ka, kc, ia, ic, e, -⟩ := h
  exact ⟨ka, kc, ia, ic, e⟩
variable {w W : World} {j : J} {S p g2 gk c' cap : Nat} {box : Array Value} {a' : Option Addr} {vi : Value} {arr : Array Value}
end Go.Proofs.Ytkncpfhblciplaa
namespace Go.Proofs.Ytkncpfhblciplaa
open Go.RowKit
set_option linter.unusedSimpArgs false
theorem rj_zero (w : World) (B : Nat → Prop) : RJ w B dflt [.int .i64 0, .int .i64 0, .string ⟨#[]⟩, .slice none 0 0, .slice none 0 0] := by
  rw [RJ_eq]
  exact ⟨none, 0, none, 0, rfl, by simp [dflt], by simp [dflt], by simp [dflt], by simp [dflt], .inl rfl, .inl rfl⟩
end Go.Proofs.Ytkncpfhblciplaa
