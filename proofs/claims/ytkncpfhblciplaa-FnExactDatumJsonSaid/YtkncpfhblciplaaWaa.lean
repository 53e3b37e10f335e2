import Derived.WalkKit
namespace Go.Proofs.Ytkncpfhblciplaa
structure J where
  k : Int
  n : Int
  t : List UInt8
  keys : List (List UInt8)
  items : List J
theorem J.induct {P : J → Prop} (h : ∀ j, (∀ x ∈ j.items, P x) → P j) (j : J) : P j :=
  J.rec (motive_1 := P) (motive_2 := fun l => ∀ x ∈ l, P x) (fun _ _ _ _ _ ih => h _ ih) (fun _ hx => absurd hx (List.not_mem_nil))
    (fun _ _ h1 h2 x hx => by rcases List.mem_cons.1 hx with rfl | hx; exact h1; exact h2 x hx) j
def sumTo {α : Type} (f : α → Nat) (l : List α) (i : Nat) : Nat := ((l.take i).map f).sum
theorem sumTo_zero {α : Type} (f : α → Nat) (l : List α) : sumTo f l 0 = 0 := by simp [sumTo]
theorem sumTo_succ {α : Type} (f : α → Nat) (l : List α) (i : Nat) (h : i < l.length) : sumTo f l (i + 1) = sumTo f l i + f l[i] := by
  unfold sumTo
  rw [List.take_succ_eq_append_getElem h, List.map_append, List.sum_append]; simp
theorem sumTo_all {α : Type} (f : α → Nat) (l : List α) : sumTo f l l.length = (l.map f).sum := by simp [sumTo]
theorem sumTo_le {α : Type} (f : α → Nat) (l : List α) (i : Nat) : sumTo f l i ≤ (l.map f).sum := by
  unfold sumTo
  conv => rhs; rw [← List.take_append_drop i l]
  rw [List.map_append, List.sum_append]; omega
def szK (keys : List (List UInt8)) : Nat := keys.length + (keys.map List.length).sum
def J.sz : J → Nat
  | ⟨_, _, t, keys, items⟩ => t.length + szK keys + (items.length + (items.map fun x => x.sz).sum)
theorem J.sz_eq (j : J) : j.sz = j.t.length + szK j.keys + (j.items.length + (j.items.map J.sz).sum) := by
  cases j; rw [J.sz]
def lessI (left : Int) (n : Nat) : Int := if (n : Int) ≤ left then left - n else -1
theorem mem_le_sum {α : Type} (f : α → Nat) : ∀ (l : List α) (x : α), x ∈ l → f x ≤ (l.map f).sum
  | [], _, h => absurd h (List.not_mem_nil)
  | y :: l, x, h => by
    rcases List.mem_cons.1 h with rfl | h
    · simp
    · have := mem_le_sum f l x h; simp; omega
theorem J.sz_item (j x : J) (h : x ∈ j.items) : x.sz ≤ j.sz := by
  have := mem_le_sum J.sz j.items x h
  rw [J.sz_eq j]; omega
def charB (c : UInt8) : Bool := decide (32 ≤ (c.toNat : Int) ∧ (c.toNat : Int) ≤ 126)
def textB (t : List UInt8) : Bool := decide (t.length ≤ 200) && t.all charB
def keyB (keys : List (List UInt8)) (m : Nat) : Bool := textB (keys.getD m []) && (decide (m = 0) || Op.bytesLess (keys.getD (m - 1) []) (keys.getD m []))
def keysTo (keys : List (List UInt8)) (i : Nat) : Bool := (List.range i).all (keyB keys)
def keysB (keys : List (List UInt8)) : Bool := keysTo keys keys.length
theorem keysTo_succ (keys : List (List UInt8)) (i : Nat) : keysTo keys (i + 1) = (keysTo keys i && keyB keys i) := by
  unfold keysTo; rw [List.range_succ, List.all_append]; simp
theorem keysTo_false {keys : List (List UInt8)} {i : Nat} (hi : i < keys.length) (h : keyB keys i = false) : keysB keys = false := by
  unfold keysB keysTo; rw [List.all_eq_false]; exact ⟨i, List.mem_range.2 hi, by simp [h]⟩
def inB (lo n hi : Int) : Bool := decide (lo ≤ n ∧ n ≤ hi)
def noKeys (j : J) : Bool := ((j.keys.length : Int) == 0)
def noItems (j : J) : Bool := ((j.items.length : Int) == 0)
def partB (j : J) : Bool :=
  if j.k = 0 then (j.n == 0) && (j.t.isEmpty && (noKeys j && noItems j))
  else if j.k = 1 then inB 0 j.n 1 && (j.t.isEmpty && (noKeys j && noItems j))
  else if j.k = 2 then inB (-1000000000) j.n 1000000000 && (j.t.isEmpty && (noKeys j && noItems j))
  else if j.k = 3 then (j.n == 0) && (textB j.t && (noKeys j && noItems j))
  else if j.k = 4 then (j.n == 0) && (j.t.isEmpty && noKeys j)
  else if j.k = 5 then (j.n == 0) && (j.t.isEmpty && (((j.keys.length : Int) == (j.items.length : Int)) && keysB j.keys))
  else false
theorem part0 {j : J} (h : j.k = 0) : partB j = ((j.n == 0) && (j.t.isEmpty && (noKeys j && noItems j))) := by unfold partB; rw [if_pos h]
theorem part1 {j : J} (h : j.k = 1) : partB j = (inB 0 j.n 1 && (j.t.isEmpty && (noKeys j && noItems j))) := by unfold partB; rw [if_neg (by omega), if_pos h]
theorem part2 {j : J} (h : j.k = 2) : partB j = (inB (-1000000000) j.n 1000000000 && (j.t.isEmpty && (noKeys j && noItems j))) := by unfold partB; rw [if_neg (by omega), if_neg (by omega), if_pos h]
theorem part3 {j : J} (h : j.k = 3) : partB j = ((j.n == 0) && (textB j.t && (noKeys j && noItems j))) := by unfold partB; rw [if_neg (by omega), if_neg (by omega), if_neg (by omega), if_pos h]
theorem part4 {j : J} (h : j.k = 4) : partB j = ((j.n == 0) && (j.t.isEmpty && noKeys j)) := by unfold partB; rw [if_neg (by omega), if_neg (by omega), if_neg (by omega), if_neg (by omega), if_pos h]
theorem part5 {j : J} (h : j.k = 5) : partB j = ((j.n == 0) && (j.t.isEmpty && (((j.keys.length : Int) == (j.items.length : Int)) && keysB j.keys))) := by unfold partB; rw [if_neg (by omega), if_neg (by omega), if_neg (by omega), if_neg (by omega), if_neg (by omega), if_pos h]
theorem partN {j : J} (h : j.k < 0 ∨ 5 < j.k) : partB j = false := by unfold partB; rw [if_neg (by omega), if_neg (by omega), if_neg (by omega), if_neg (by omega), if_neg (by omega), if_neg (by omega)]
def addO : Option Nat → Option Nat → Option Nat
  | some a, some b => some (a + b)
  | _, _ => none
def sumO : List (Option Nat) → Option Nat
  | [] => some 0
  | x :: l => addO x (sumO l)
theorem addO_zero (x : Option Nat) : addO x (some 0) = x := by cases x <;> rfl
theorem zero_addO (x : Option Nat) : addO (some 0) x = x := by cases x <;> simp [addO]
theorem addO_assoc (x y z : Option Nat) : addO (addO x y) z = addO x (addO y z) := by
  cases x <;> cases y <;> cases z <;> simp [addO]; omega
theorem sumO_append : ∀ (a b : List (Option Nat)), sumO (a ++ b) = addO (sumO a) (sumO b)
  | [], b => by simp [sumO, zero_addO]
  | x :: a, b => by simp [sumO, sumO_append a b, addO_assoc]
def cnt : Nat → J → Option Nat
  | 0, _ => none
  | d + 1, j => if partB j then addO (some 1) (sumO (j.items.map (cnt d))) else none
def cntTo (d : Nat) (l : List J) (i : Nat) : Option Nat := addO (some 1) (sumO ((l.take i).map (cnt d)))
theorem cntTo_zero (d : Nat) (l : List J) : cntTo d l 0 = some 1 := by simp [cntTo, sumO, addO]
theorem cntTo_succ (d : Nat) (l : List J) (i : Nat) (h : i < l.length) : cntTo d l (i + 1) = addO (cntTo d l i) (cnt d l[i]) := by
  unfold cntTo
  rw [List.take_succ_eq_append_getElem h, List.map_append, sumO_append, addO_assoc]
  congr 2
  simp [sumO, addO_zero]
theorem cnt_part {d : Nat} {j : J} (h : partB j = true) : cnt (d + 1) j = cntTo d j.items j.items.length := by
  simp [cnt, cntTo, h]
theorem cnt_nopart {d : Nat} {j : J} (h : partB j = false) : cnt (d + 1) j = none := by simp [cnt, h]
theorem cntTo_split (d : Nat) (l : List J) (i : Nat) : cntTo d l l.length = addO (cntTo d l i) (sumO ((l.drop i).map (cnt d))) := by
  unfold cntTo
  rw [addO_assoc, ← sumO_append, ← List.map_append, List.take_append_drop, List.take_length]
theorem cnt_pos : ∀ (d : Nat) (j : J) (n : Nat), cnt d j = some n → 1 ≤ n
  | 0, _, _, h => by simp [cnt] at h
  | d + 1, j, n, h => by
    unfold cnt at h
    split at h
    · cases e : sumO (j.items.map (cnt d)) with
      | none => rw [e] at h; simp [addO] at h
      | some m => rw [e] at h; simp [addO] at h; omega
    · cases h
theorem sumO_len (d : Nat) : ∀ (l : List J) (n : Nat), sumO (l.map (cnt d)) = some n → l.length ≤ n
  | [], n, _ => by simp
  | x :: l, n, h => by
    simp only [List.map_cons, sumO] at h
    cases e1 : cnt d x with
    | none => rw [e1] at h; simp [addO] at h
    | some a =>
      cases e2 : sumO (l.map (cnt d)) with
      | none => rw [e1, e2] at h; simp [addO] at h
      | some m =>
        rw [e1, e2] at h; simp [addO] at h
        have := sumO_len d l m e2
        have := cnt_pos d x a e1
        simp; omega
theorem cnt_len {d : Nat} {j : J} {n : Nat} (h : cnt (d + 1) j = some n) : j.items.length < n := by
  unfold cnt at h
  split at h
  · cases e : sumO (j.items.map (cnt d)) with
    | none => rw [e] at h; simp [addO] at h
    | some m => rw [e] at h; simp [addO] at h; have := sumO_len d _ m e; omega
  · cases h
def left (room : Int) : Option Nat → Int
  | some n => if (n : Int) ≤ room then room - n else -1
  | none => -1
theorem left_add (room : Int) (a b : Option Nat) (h0 : 0 ≤ left room a) : left (left room a) b = left room (addO a b) := by
  cases a with
  | none => simp [left] at h0
  | some x =>
    have hx : (x : Int) ≤ room := by
      unfold left at h0; simp only at h0; split at h0
      · assumption
      · omega
    cases b with
    | none => simp [addO, left]
    | some y => simp only [addO, left, if_pos hx]; by_cases hy : (y : Int) ≤ room - x
                · rw [if_pos hy, if_pos (by omega)]; omega
                · rw [if_neg hy, if_neg (by omega)]
theorem left_add_neg (room : Int) (a b : Option Nat) (h : left room a < 0) (_h0 : 0 ≤ room) : left room (addO a b) = -1 := by
  cases a with
  | none => rfl
  | some x =>
    have hx : ¬ (x : Int) ≤ room := by
      intro hx; unfold left at h; simp only [if_pos hx] at h; omega
    cases b with
    | none => rfl
    | some y => simp only [addO, left]; rw [if_neg (by omega)]
end Go.Proofs.Ytkncpfhblciplaa
