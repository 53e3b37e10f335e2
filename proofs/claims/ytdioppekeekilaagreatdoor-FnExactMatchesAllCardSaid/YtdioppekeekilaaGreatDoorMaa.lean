import Derived.WalkKit
import Derived.Deep.MidRow
import Derived.Test.YtdioppekeekilaaGreatDoorProg
import Derived.WalkSpells
import Derived.WalkLawsBesides
import Derived.Deep.OwnRows
import Derived.Laws.IdiomStrings
import Derived.Deep.QuietTactic
import Derived.BigQuiet
import Derived.Deep.RegionWith
namespace Go.Proofs.YtdioppekeekilaaGreatDoor
/-- A value as the document has it: its kind, number, text, keys and items. -/
structure J where
  k : Int
  n : Int
  t : List UInt8
  keys : List (List UInt8)
  items : List J

theorem J.induct {P : J → Prop} (h : ∀ j, (∀ x ∈ j.items, P x) → P j) (j : J) : P j :=
  J.rec (motive_1 := P) (motive_2 := fun l => ∀ x ∈ l, P x) (fun _ _ _ _ _ ih => h _ ih) (fun _ hx => absurd hx (List.not_mem_nil))
    (fun _ _ h1 h2 x hx => by rcases List.mem_cons.1 hx with rfl | hx; exact h1; exact h2 x hx) j

/-! sums -/
def sumTo {α : Type} (f : α → Nat) (l : List α) (i : Nat) : Nat := ((l.take i).map f).sum
theorem sumTo_zero {α : Type} (f : α → Nat) (l : List α) : sumTo f l 0 = 0 := by simp [sumTo]
theorem sumTo_succ {α : Type} (f : α → Nat) (l : List α) (i : Nat) (h : i < l.length) : sumTo f l (i + 1) = sumTo f l i + f l[i] := by
  unfold sumTo
  rw [List.take_succ_eq_append_getElem h, List.map_append, List.sum_append]; simp
theorem sumTo_all {α : Type} (f : α → Nat) (l : List α) : sumTo f l l.length = (l.map f).sum := by simp [sumTo]
theorem sumTo_le {α : Type} (f : α → Nat) (l : List α) (i : Nat) : sumTo f l i ≤ (l.map f).sum := by
  unfold sumTo
  conv => rhs; rw [← List.take_append_drop i l]
  rw [List.map_append, List.sum_append]; omega

/-! how great a value is -/
def szK (keys : List (List UInt8)) : Nat := keys.length + (keys.map List.length).sum
def J.sz : J → Nat
  | ⟨_, _, t, keys, items⟩ => t.length + szK keys + (items.length + (items.map fun x => x.sz).sum)
theorem J.sz_eq (j : J) : j.sz = j.t.length + szK j.keys + (j.items.length + (j.items.map J.sz).sum) := by
  cases j; rw [J.sz]
def lessI (left : Int) (n : Nat) : Int := if (n : Int) ≤ left then left - n else -1
theorem mem_le_sum {α : Type} (f : α → Nat) : ∀ (l : List α) (x : α), x ∈ l → f x ≤ (l.map f).sum
  | [], _, h => absurd h (List.not_mem_nil)
  | y :: l, x, h => by
    rcases List.mem_cons.1 h with rfl | h
    · simp
    · have := mem_le_sum f l x h; simp; omega
theorem J.sz_item (j x : J) (h : x ∈ j.items) : x.sz ≤ j.sz := by
  have := mem_le_sum J.sz j.items x h
  rw [J.sz_eq j]; omega

/-! when a value is right -/
def charB (c : UInt8) : Bool := decide (32 ≤ (c.toNat : Int) ∧ (c.toNat : Int) ≤ 126)
def textB (t : List UInt8) : Bool := decide (t.length ≤ 200) && t.all charB
def keyB (keys : List (List UInt8)) (m : Nat) : Bool := textB (keys.getD m []) && (decide (m = 0) || Op.bytesLess (keys.getD (m - 1) []) (keys.getD m []))
def keysTo (keys : List (List UInt8)) (i : Nat) : Bool := (List.range i).all (keyB keys)
def keysB (keys : List (List UInt8)) : Bool := keysTo keys keys.length
theorem keysTo_succ (keys : List (List UInt8)) (i : Nat) : keysTo keys (i + 1) = (keysTo keys i && keyB keys i) := by
  unfold keysTo; rw [List.range_succ, List.all_append]; simp
theorem keysTo_false {keys : List (List UInt8)} {i : Nat} (hi : i < keys.length) (h : keyB keys i = false) : keysB keys = false := by
  unfold keysB keysTo; rw [List.all_eq_false]; exact ⟨i, List.mem_range.2 hi, by simp [h]⟩
def inB (lo n hi : Int) : Bool := decide (lo ≤ n ∧ n ≤ hi)
def noKeys (j : J) : Bool := ((j.keys.length : Int) == 0)
def noItems (j : J) : Bool := ((j.items.length : Int) == 0)
/-- whether a value is right but for its items -/
def partB (j : J) : Bool :=
  if j.k = 0 then (j.n == 0) && (j.t.isEmpty && (noKeys j && noItems j))
  else if j.k = 1 then inB 0 j.n 1 && (j.t.isEmpty && (noKeys j && noItems j))
  else if j.k = 2 then inB (-1000000000) j.n 1000000000 && (j.t.isEmpty && (noKeys j && noItems j))
  else if j.k = 3 then (j.n == 0) && (textB j.t && (noKeys j && noItems j))
  else if j.k = 4 then (j.n == 0) && (j.t.isEmpty && noKeys j)
  else if j.k = 5 then (j.n == 0) && (j.t.isEmpty && (((j.keys.length : Int) == (j.items.length : Int)) && keysB j.keys))
  else false
theorem part0 {j : J} (h : j.k = 0) : partB j = ((j.n == 0) && (j.t.isEmpty && (noKeys j && noItems j))) := by unfold partB; rw [if_pos h]
theorem part1 {j : J} (h : j.k = 1) : partB j = (inB 0 j.n 1 && (j.t.isEmpty && (noKeys j && noItems j))) := by unfold partB; rw [if_neg (by omega), if_pos h]
theorem part2 {j : J} (h : j.k = 2) : partB j = (inB (-1000000000) j.n 1000000000 && (j.t.isEmpty && (noKeys j && noItems j))) := by unfold partB; rw [if_neg (by omega), if_neg (by omega), if_pos h]
theorem part3 {j : J} (h : j.k = 3) : partB j = ((j.n == 0) && (textB j.t && (noKeys j && noItems j))) := by unfold partB; rw [if_neg (by omega), if_neg (by omega), if_neg (by omega), if_pos h]
theorem part4 {j : J} (h : j.k = 4) : partB j = ((j.n == 0) && (j.t.isEmpty && noKeys j)) := by unfold partB; rw [if_neg (by omega), if_neg (by omega), if_neg (by omega), if_neg (by omega), if_pos h]
theorem part5 {j : J} (h : j.k = 5) : partB j = ((j.n == 0) && (j.t.isEmpty && (((j.keys.length : Int) == (j.items.length : Int)) && keysB j.keys))) := by unfold partB; rw [if_neg (by omega), if_neg (by omega), if_neg (by omega), if_neg (by omega), if_neg (by omega), if_pos h]
theorem partN {j : J} (h : j.k < 0 ∨ 5 < j.k) : partB j = false := by unfold partB; rw [if_neg (by omega), if_neg (by omega), if_neg (by omega), if_neg (by omega), if_neg (by omega), if_neg (by omega)]

def addO : Option Nat → Option Nat → Option Nat
  | some a, some b => some (a + b)
  | _, _ => none
def sumO : List (Option Nat) → Option Nat
  | [] => some 0
  | x :: l => addO x (sumO l)
theorem addO_zero (x : Option Nat) : addO x (some 0) = x := by cases x <;> rfl
theorem zero_addO (x : Option Nat) : addO (some 0) x = x := by cases x <;> simp [addO]
theorem addO_assoc (x y z : Option Nat) : addO (addO x y) z = addO x (addO y z) := by
  cases x <;> cases y <;> cases z <;> simp [addO]; omega
theorem sumO_append : ∀ (a b : List (Option Nat)), sumO (a ++ b) = addO (sumO a) (sumO b)
  | [], b => by simp [sumO, zero_addO]
  | x :: a, b => by simp [sumO, sumO_append a b, addO_assoc]
/-- how many values, if all are right and none is deeper than d -/
def cnt : Nat → J → Option Nat
  | 0, _ => none
  | d + 1, j => if partB j then addO (some 1) (sumO (j.items.map (cnt d))) else none
def cntTo (d : Nat) (l : List J) (i : Nat) : Option Nat := addO (some 1) (sumO ((l.take i).map (cnt d)))
theorem cntTo_zero (d : Nat) (l : List J) : cntTo d l 0 = some 1 := by simp [cntTo, sumO, addO]
theorem cntTo_succ (d : Nat) (l : List J) (i : Nat) (h : i < l.length) : cntTo d l (i + 1) = addO (cntTo d l i) (cnt d l[i]) := by
  unfold cntTo
  rw [List.take_succ_eq_append_getElem h, List.map_append, sumO_append, addO_assoc]
  congr 2
  simp [sumO, addO_zero]
theorem cnt_part {d : Nat} {j : J} (h : partB j = true) : cnt (d + 1) j = cntTo d j.items j.items.length := by
  simp [cnt, cntTo, h]
theorem cnt_nopart {d : Nat} {j : J} (h : partB j = false) : cnt (d + 1) j = none := by simp [cnt, h]
theorem cntTo_split (d : Nat) (l : List J) (i : Nat) : cntTo d l l.length = addO (cntTo d l i) (sumO ((l.drop i).map (cnt d))) := by
  unfold cntTo
  rw [addO_assoc, ← sumO_append, ← List.map_append, List.take_append_drop, List.take_length]
theorem addO_none (x : Option Nat) : addO x none = none := by cases x <;> rfl
theorem none_addO (x : Option Nat) : addO none x = none := rfl
theorem cnt_pos : ∀ (d : Nat) (j : J) (n : Nat), cnt d j = some n → 1 ≤ n
  | 0, _, _, h => by simp [cnt] at h
  | d + 1, j, n, h => by
    unfold cnt at h
    split at h
    · cases e : sumO (j.items.map (cnt d)) with
      | none => rw [e] at h; simp [addO] at h
      | some m => rw [e] at h; simp [addO] at h; omega
    · cases h
theorem sumO_len (d : Nat) : ∀ (l : List J) (n : Nat), sumO (l.map (cnt d)) = some n → l.length ≤ n
  | [], n, _ => by simp
  | x :: l, n, h => by
    simp only [List.map_cons, sumO] at h
    cases e1 : cnt d x with
    | none => rw [e1] at h; simp [addO] at h
    | some a =>
      cases e2 : sumO (l.map (cnt d)) with
      | none => rw [e1, e2] at h; simp [addO] at h
      | some m =>
        rw [e1, e2] at h; simp [addO] at h
        have := sumO_len d l m e2
        have := cnt_pos d x a e1
        simp; omega
theorem cnt_len {d : Nat} {j : J} {n : Nat} (h : cnt (d + 1) j = some n) : j.items.length < n := by
  unfold cnt at h
  split at h
  · cases e : sumO (j.items.map (cnt d)) with
    | none => rw [e] at h; simp [addO] at h
    | some m => rw [e] at h; simp [addO] at h; have := sumO_len d _ m e; omega
  · cases h
end Go.Proofs.YtdioppekeekilaaGreatDoor
namespace Go.Proofs.YtdioppekeekilaaGreatDoor
open Go.RowKit
/-- a list of texts as it lies in memory, in blocks of which B holds -/
def Strs (w : World) (B : Nat → Prop) (a : Option Addr) (keys : List (List UInt8)) : Prop :=
  keys.length = 0 ∨ ∃ b off, a = some ⟨b, off, none⟩ ∧ B b ∧ ∀ i (h : i < keys.length), w.cell? ⟨b, off + i, none⟩ = some (.string ⟨keys[i].toArray⟩)
/-- a value as it lies in memory: its five cells, and what they lead to -/
def RJ (w : World) (B : Nat → Prop) : J → List Value → Prop
  | ⟨k, n, t, keys, items⟩ => fun cs => ∃ ka kc ia ic, cs = [.int .i64 k, .int .i64 n, .string ⟨t.toArray⟩, .slice ka keys.length kc, .slice ia items.length ic] ∧
      t.length ≤ maxLen ∧ keys.length ≤ maxLen ∧ items.length ≤ maxLen ∧ (∀ x ∈ keys, x.length ≤ maxLen) ∧ Strs w B ka keys ∧
      (items.length = 0 ∨ ∃ b off, ia = some ⟨b, off, none⟩ ∧ B b ∧ ∀ i p, (items.map fun x => RJ w B x)[i]? = some p → ∃ cs', w.rangeAt b (off + i * 5) cs' ∧ p cs')
/-- a list of values as it lies in memory -/
def Jsons (w : World) (B : Nat → Prop) (ia : Option Addr) (items : List J) : Prop :=
  items.length = 0 ∨ ∃ b off, ia = some ⟨b, off, none⟩ ∧ B b ∧ ∀ i (h : i < items.length), ∃ cs', w.rangeAt b (off + i * 5) cs' ∧ RJ w B items[i] cs'
theorem RJ_eq (w : World) (B : Nat → Prop) (j : J) (cs : List Value) : RJ w B j cs = ∃ ka kc ia ic, cs = [.int .i64 j.k, .int .i64 j.n, .string ⟨j.t.toArray⟩, .slice ka j.keys.length kc, .slice ia j.items.length ic] ∧
      j.t.length ≤ maxLen ∧ j.keys.length ≤ maxLen ∧ j.items.length ≤ maxLen ∧ (∀ x ∈ j.keys, x.length ≤ maxLen) ∧ Strs w B ka j.keys ∧ Jsons w B ia j.items := by
  cases j with
  | mk k n t keys items =>
    rw [RJ]
    have e : ∀ (b off : Nat), (∀ i p, (items.map fun x => RJ w B x)[i]? = some p → ∃ cs', w.rangeAt b (off + i * 5) cs' ∧ p cs') = (∀ i (h : i < items.length), ∃ cs', w.rangeAt b (off + i * 5) cs' ∧ RJ w B items[i] cs') := fun b off => by
      apply propext
      constructor
      · intro h i hi
        exact h i _ (by rw [List.getElem?_map, List.getElem?_eq_getElem hi]; rfl)
      · intro h i p hp
        rw [List.getElem?_map, Option.map_eq_some_iff] at hp
        obtain ⟨x, hx, rfl⟩ := hp
        obtain ⟨hi, rfl⟩ := List.getElem?_eq_some_iff.1 hx
        exact h i hi
    simp only [e, Jsons]

theorem rangeAt_same {w w' : World} {b o : Nat} {cs : List Value} (h : w'.heap[b]? = w.heap[b]?) (hr : w.rangeAt b o cs) : w'.rangeAt b o cs :=
  fun j v hv => by rw [World.cell?_of_block (w := w) (a := ⟨b, o + j, none⟩) h]; exact hr j v hv
theorem Strs.same {w w' : World} {B B' : Nat → Prop} {a : Option Addr} {keys : List (List UInt8)} (h : Strs w B a keys) (hs : ∀ b, B b → w'.heap[b]? = w.heap[b]?) (hB : ∀ b, B b → B' b) : Strs w' B' a keys := by
  rcases h with h | ⟨b, off, ha, hb, hc⟩
  · exact .inl h
  · exact .inr ⟨b, off, ha, hB b hb, fun i hi => by rw [World.cell?_of_block (w := w) (a := ⟨b, off + i, none⟩) (hs b hb)]; exact hc i hi⟩
theorem RJ.same {w w' : World} {B B' : Nat → Prop} (hs : ∀ b, B b → w'.heap[b]? = w.heap[b]?) (hB : ∀ b, B b → B' b) (j : J) : ∀ cs, RJ w B j cs → RJ w' B' j cs := by
  induction j using J.induct with
  | h j ih =>
    intro cs h
    rw [RJ_eq] at h ⊢
    obtain ⟨ka, kc, ia, ic, e, h1, h2, h3, h4, hk, hi⟩ := h
    refine ⟨ka, kc, ia, ic, e, h1, h2, h3, h4, hk.same hs hB, ?_⟩
    rcases hi with hi | ⟨b, off, ha, hb, hc⟩
    · exact .inl hi
    · refine .inr ⟨b, off, ha, hB b hb, fun i hi => ?_⟩
      obtain ⟨cs', hr, hx⟩ := hc i hi
      exact ⟨cs', rangeAt_same (hs b hb) hr, ih _ (List.getElem_mem hi) cs' hx⟩
theorem Jsons.same {w w' : World} {B B' : Nat → Prop} {a : Option Addr} {items : List J} (h : Jsons w B a items) (hs : ∀ b, B b → w'.heap[b]? = w.heap[b]?) (hB : ∀ b, B b → B' b) : Jsons w' B' a items := by
  rcases h with hi | ⟨b, off, ha, hb, hc⟩
  · exact .inl hi
  · refine .inr ⟨b, off, ha, hB b hb, fun i hi => ?_⟩
    obtain ⟨cs', hr, hx⟩ := hc i hi
    exact ⟨cs', rangeAt_same (hs b hb) hr, RJ.same hs hB _ cs' hx⟩
/-- what lies below a world's end stays where only new memory is written -/
theorem RJ.below {w w' : World} {S : Nat} {j : J} {cs : List Value} (h : RJ w (· < S) j cs) (hb : Below S w w') : RJ w' (· < S) j cs :=
  RJ.same (fun b hb' => hb.block b hb') (fun _ h => h) j cs h
theorem Jsons.below {w w' : World} {S : Nat} {ia : Option Addr} {items : List J} (h : Jsons w (· < S) ia items) (hb : Below S w w') : Jsons w' (· < S) ia items :=
  h.same (fun b hb' => hb.block b hb') (fun _ h => h)
theorem Strs.below {w w' : World} {S : Nat} {a : Option Addr} {keys : List (List UInt8)} (h : Strs w (· < S) a keys) (hb : Below S w w') : Strs w' (· < S) a keys :=
  h.same (fun b hb' => hb.block b hb') (fun _ h => h)
/-- all of it lies within the world -/
theorem Strs.inside {w : World} {B : Nat → Prop} {a : Option Addr} {keys : List (List UInt8)} (h : Strs w B a keys) : Strs w (fun b => B b ∧ b < w.heap.size) a keys := by
  by_cases h0 : keys.length = 0
  · exact .inl h0
  · rcases h with h | ⟨b, off, ha, hb, hc⟩
    · exact .inl h
    · exact .inr ⟨b, off, ha, ⟨hb, World.block_lt_of_cell? _ _ (hc 0 (by omega))⟩, hc⟩
theorem RJ.inside {w : World} {B : Nat → Prop} (j : J) : ∀ cs, RJ w B j cs → RJ w (fun b => B b ∧ b < w.heap.size) j cs := by
  induction j using J.induct with
  | h j ih =>
    intro cs h
    rw [RJ_eq] at h ⊢
    obtain ⟨ka, kc, ia, ic, e, h1, h2, h3, h4, hk, hi⟩ := h
    refine ⟨ka, kc, ia, ic, e, h1, h2, h3, h4, hk.inside, ?_⟩
    by_cases h0 : j.items.length = 0
    · exact .inl h0
    · rcases hi with hi | ⟨b, off, ha, hb, hc⟩
      · exact .inl hi
      · refine .inr ⟨b, off, ha, ⟨hb, ?_⟩, fun i hi => ?_⟩
        · obtain ⟨cs', hr, hx⟩ := hc 0 (by omega)
          rw [RJ_eq] at hx
          obtain ⟨_, _, _, _, rfl, _⟩ := hx
          exact World.block_lt_of_cell? _ _ (hr 0 _ rfl)
        · obtain ⟨cs', hr, hx⟩ := hc i hi
          exact ⟨cs', hr, ih _ (List.getElem_mem hi) cs' hx⟩
/-- what lies in a world stays where only new memory is written -/
theorem RJ.later {w w' : World} {B : Nat → Prop} {j : J} {cs : List Value} (h : RJ w B j cs) (hb : Below w.heap.size w w') : RJ w' B j cs :=
  RJ.same (fun b hb' => hb.block b hb'.2) (fun _ h => h.1) j cs (RJ.inside j cs h)
theorem Strs.later {w w' : World} {B : Nat → Prop} {a : Option Addr} {keys : List (List UInt8)} (h : Strs w B a keys) (hb : Below w.heap.size w w') : Strs w' B a keys :=
  h.inside.same (fun b hb' => hb.block b hb'.2) (fun _ h => h.1)

theorem Jsons.later {w w' : World} {B : Nat → Prop} {a : Option Addr} {items : List J} (h : Jsons w B a items) (hb : Below w.heap.size w w') : Jsons w' B a items := by
  by_cases h0 : items.length = 0
  · exact .inl h0
  · rcases h with hi | ⟨b, off, ha, hb', hc⟩
    · exact .inl hi
    · refine .inr ⟨b, off, ha, hb', fun i hi => ?_⟩
      obtain ⟨cs', hr, hx⟩ := hc i hi
      have hlt : b < w.heap.size := by
        have hx' := hx
        rw [RJ_eq] at hx'
        obtain ⟨_, _, _, _, rfl, _⟩ := hx'
        exact World.block_lt_of_cell? _ _ (hr 0 _ rfl)
      exact ⟨cs', rangeAt_same (hb.block b hlt) hr, hx.later hb⟩
/-- an item's five cells, as a walk reads them -/
theorem Jsons.item {w : World} {B : Nat → Prop} {a : Option Addr} {items : List J} (h : Jsons w B a items) (k : Nat) (hk : k < items.length) :
    ∃ b off ka kc ia ic, a = some ⟨b, off, none⟩ ∧ B b ∧ w.cell? ⟨b, off + k * 5, none⟩ = some (.int .i64 items[k].k) ∧ w.cell? ⟨b, off + k * 5 + 1, none⟩ = some (.int .i64 items[k].n) ∧
      w.cell? ⟨b, off + k * 5 + 2, none⟩ = some (.string ⟨items[k].t.toArray⟩) ∧ w.cell? ⟨b, off + k * 5 + 3, none⟩ = some (.slice ka items[k].keys.length kc) ∧
      w.cell? ⟨b, off + k * 5 + 4, none⟩ = some (.slice ia items[k].items.length ic) ∧
      RJ w B items[k] [.int .i64 items[k].k, .int .i64 items[k].n, .string ⟨items[k].t.toArray⟩, .slice ka items[k].keys.length kc, .slice ia items[k].items.length ic] := by
  rcases h with h | ⟨b, off, ha, hb, hc⟩
  · omega
  · obtain ⟨cs, hr, hx⟩ := hc k hk
    have hx' := hx
    rw [RJ_eq] at hx
    obtain ⟨ka, kc, ia, ic, rfl, _⟩ := hx
    exact ⟨b, off, ka, kc, ia, ic, ha, hb, hr 0 _ rfl, hr 1 _ rfl, hr 2 _ rfl, hr 3 _ rfl, hr 4 _ rfl, hx'⟩
end Go.Proofs.YtdioppekeekilaaGreatDoor
namespace Go.Proofs.YtdioppekeekilaaGreatDoor
open Go.RowKit
theorem ret_i {a b : Int} (h : a = b) : Ending.returned (.int .i64 a) = .returned (.int .i64 b) := by rw [h]
theorem ret_b {a b : Bool} (h : a = b) : Ending.returned (.bool a) = .returned (.bool b) := by rw [h]
theorem less_no {L : Int} {n : Nat} (h : L - (n : Int) < 0) : lessI L n = -1 := by unfold lessI; rw [if_neg (by omega)]
theorem less_yes {L : Int} {n : Nat} (h : 0 ≤ L - (n : Int)) : lessI L n = L - n := by unfold lessI; rw [if_pos (by omega)]

end Go.Proofs.YtdioppekeekilaaGreatDoor
namespace Go.Proofs.YtdioppekeekilaaGreatDoor
open Go.RowKit
/-- texts that lie in one block of their own, and may be written -/
def OwnStrs (w : World) (B : Nat → Prop) (a : Option Addr) (keys : List (List UInt8)) : Prop :=
  keys.length = 0 ∨ ∃ b off, a = some ⟨b, off, none⟩ ∧ B b ∧ ∀ i (h : i < keys.length), w.cell? ⟨b, off + i, none⟩ = some (.string ⟨keys[i].toArray⟩) ∧ w.frozen? ⟨b, off + i, none⟩ = false
/-- a value all of whose lists lie in blocks of their own -/
def OwnJ (w : World) : J → (Nat → Prop) → List Value → Prop
  | ⟨k, n, t, keys, items⟩ => fun B cs => ∃ ka kc ia ic, ∃ K I : Nat → Prop, cs = [.int .i64 k, .int .i64 n, .string ⟨t.toArray⟩, .slice ka keys.length kc, .slice ia items.length ic] ∧
      t.length ≤ maxLen ∧ keys.length ≤ maxLen ∧ items.length ≤ maxLen ∧ (∀ x ∈ keys, x.length ≤ maxLen) ∧ OwnStrs w K ka keys ∧ (∀ b, K b → B b ∧ ¬ I b) ∧ (∀ b, I b → B b) ∧
      (items.length = 0 ∨ ∃ b off, ∃ X : Nat → Nat → Prop, ia = some ⟨b, off, none⟩ ∧ I b ∧ (∀ i c, X i c → I c ∧ c ≠ b) ∧ (∀ i i' c, X i c → X i' c → i = i') ∧
        ∀ i p, (items.map fun x => OwnJ w x)[i]? = some p → ∃ cs', w.rangeAt b (off + i * 5) cs' ∧ (∀ o, o < 5 → w.frozen? ⟨b, off + i * 5 + o, none⟩ = false) ∧ p (X i) cs')
def OwnJsons (w : World) (I : Nat → Prop) (ia : Option Addr) (items : List J) : Prop :=
  items.length = 0 ∨ ∃ b off, ∃ X : Nat → Nat → Prop, ia = some ⟨b, off, none⟩ ∧ I b ∧ (∀ i c, X i c → I c ∧ c ≠ b) ∧ (∀ i i' c, X i c → X i' c → i = i') ∧
    ∀ i (h : i < items.length), ∃ cs', w.rangeAt b (off + i * 5) cs' ∧ (∀ o, o < 5 → w.frozen? ⟨b, off + i * 5 + o, none⟩ = false) ∧ OwnJ w items[i] (X i) cs'
theorem OwnJ_eq (w : World) (j : J) (B : Nat → Prop) (cs : List Value) : OwnJ w j B cs = ∃ ka kc ia ic, ∃ K I : Nat → Prop, cs = [.int .i64 j.k, .int .i64 j.n, .string ⟨j.t.toArray⟩, .slice ka j.keys.length kc, .slice ia j.items.length ic] ∧
      j.t.length ≤ maxLen ∧ j.keys.length ≤ maxLen ∧ j.items.length ≤ maxLen ∧ (∀ x ∈ j.keys, x.length ≤ maxLen) ∧ OwnStrs w K ka j.keys ∧ (∀ b, K b → B b ∧ ¬ I b) ∧ (∀ b, I b → B b) ∧ OwnJsons w I ia j.items := by
  cases j with
  | mk k n t keys items =>
    rw [OwnJ]
    have e : ∀ (b off : Nat) (X : Nat → Nat → Prop), (∀ i p, (items.map fun x => OwnJ w x)[i]? = some p → ∃ cs', w.rangeAt b (off + i * 5) cs' ∧ (∀ o, o < 5 → w.frozen? ⟨b, off + i * 5 + o, none⟩ = false) ∧ p (X i) cs')
        = (∀ i (h : i < items.length), ∃ cs', w.rangeAt b (off + i * 5) cs' ∧ (∀ o, o < 5 → w.frozen? ⟨b, off + i * 5 + o, none⟩ = false) ∧ OwnJ w items[i] (X i) cs') := fun b off X => by
      apply propext
      constructor
      · intro h i hi
        exact h i _ (by rw [List.getElem?_map, List.getElem?_eq_getElem hi]; rfl)
      · intro h i p hp
        rw [List.getElem?_map, Option.map_eq_some_iff] at hp
        obtain ⟨x, hx, rfl⟩ := hp
        obtain ⟨hi, rfl⟩ := List.getElem?_eq_some_iff.1 hx
        exact h i hi
    simp only [e, OwnJsons]

theorem OwnStrs.strs {w : World} {B : Nat → Prop} {a : Option Addr} {keys : List (List UInt8)} (h : OwnStrs w B a keys) : Strs w B a keys := by
  rcases h with h | ⟨b, off, ha, hb, hc⟩
  · exact .inl h
  · exact .inr ⟨b, off, ha, hb, fun i hi => (hc i hi).1⟩
theorem Strs.mono {w : World} {B B' : Nat → Prop} {a : Option Addr} {keys : List (List UInt8)} (h : Strs w B a keys) (hB : ∀ b, B b → B' b) : Strs w B' a keys := h.same (fun _ _ => rfl) hB
theorem OwnJ.rj {w : World} (j : J) : ∀ B cs, OwnJ w j B cs → RJ w B j cs := by
  induction j using J.induct with
  | h j ih =>
    intro B cs h
    rw [OwnJ_eq] at h
    rw [RJ_eq]
    obtain ⟨ka, kc, ia, ic, K, I, e, h1, h2, h3, h4, hk, hK, hI, hi⟩ := h
    refine ⟨ka, kc, ia, ic, e, h1, h2, h3, h4, hk.strs.mono (fun b hb => (hK b hb).1), ?_⟩
    rcases hi with hi | ⟨b, off, X, ha, hb, hX, -, hc⟩
    · exact .inl hi
    · refine .inr ⟨b, off, ha, hI b hb, fun i hi => ?_⟩
      obtain ⟨cs', hr, -, hx⟩ := hc i hi
      exact ⟨cs', hr, RJ.same (fun _ _ => rfl) (fun c h => hI c (hX i c h).1) _ _ (ih _ (List.getElem_mem hi) _ cs' hx)⟩
theorem OwnJsons.jsons {w : World} {I : Nat → Prop} {ia : Option Addr} {items : List J} (h : OwnJsons w I ia items) : Jsons w I ia items := by
  rcases h with hi | ⟨b, off, X, ha, hb, hX, -, hc⟩
  · exact .inl hi
  · refine .inr ⟨b, off, ha, hb, fun i hi => ?_⟩
    obtain ⟨cs', hr, -, hx⟩ := hc i hi
    exact ⟨cs', hr, RJ.same (fun _ _ => rfl) (fun c h => (hX i c h).1) _ _ (OwnJ.rj _ _ cs' hx)⟩
theorem frozen_same {w w' : World} {b o : Nat} (h : w'.heap[b]? = w.heap[b]?) : w'.frozen? ⟨b, o, none⟩ = w.frozen? ⟨b, o, none⟩ := World.frozen?_of_block (w := w) (a := ⟨b, o, none⟩) h
theorem OwnStrs.same {w w' : World} {B B' : Nat → Prop} {a : Option Addr} {keys : List (List UInt8)} (h : OwnStrs w B a keys) (hs : ∀ b, B b → w'.heap[b]? = w.heap[b]?) (hB : ∀ b, B b → B' b) : OwnStrs w' B' a keys := by
  rcases h with h | ⟨b, off, ha, hb, hc⟩
  · exact .inl h
  · exact .inr ⟨b, off, ha, hB b hb, fun i hi => ⟨by rw [World.cell?_of_block (w := w) (a := ⟨b, off + i, none⟩) (hs b hb)]; exact (hc i hi).1, by rw [frozen_same (hs b hb)]; exact (hc i hi).2⟩⟩
theorem OwnJ.same {w w' : World} (j : J) : ∀ B B' cs, (∀ b, B b → w'.heap[b]? = w.heap[b]?) → (∀ b, B b → B' b) → OwnJ w j B cs → OwnJ w' j B' cs := by
  induction j using J.induct with
  | h j ih =>
    intro B B' cs hs hB h
    rw [OwnJ_eq] at h ⊢
    obtain ⟨ka, kc, ia, ic, K, I, e, h1, h2, h3, h4, hk, hK, hI, hi⟩ := h
    refine ⟨ka, kc, ia, ic, K, I, e, h1, h2, h3, h4, hk.same (fun b hb => hs b (hK b hb).1) (fun _ h => h), fun b hb => ⟨hB b (hK b hb).1, (hK b hb).2⟩, fun b hb => hB b (hI b hb), ?_⟩
    rcases hi with hi | ⟨b, off, X, ha, hb, hX, hD, hc⟩
    · exact .inl hi
    · refine .inr ⟨b, off, X, ha, hb, hX, hD, fun i hi => ?_⟩
      obtain ⟨cs', hr, hf, hx⟩ := hc i hi
      refine ⟨cs', rangeAt_same (hs b (hI b hb)) hr, fun o ho => by rw [frozen_same (hs b (hI b hb))]; exact hf o ho, ih _ (List.getElem_mem hi) (X i) (X i) cs' (fun c h => hs c (hI c (hX i c h).1)) (fun _ h => h) hx⟩
theorem OwnJsons.same {w w' : World} {I I' : Nat → Prop} {ia : Option Addr} {items : List J} (h : OwnJsons w I ia items) (hs : ∀ b, I b → w'.heap[b]? = w.heap[b]?) (hI : ∀ b, I b → I' b) : OwnJsons w' I' ia items := by
  rcases h with hi | ⟨b, off, X, ha, hb, hX, hD, hc⟩
  · exact .inl hi
  · refine .inr ⟨b, off, X, ha, hI b hb, fun i c h => ⟨hI c (hX i c h).1, (hX i c h).2⟩, hD, fun i hi => ?_⟩
    obtain ⟨cs', hr, hf, hx⟩ := hc i hi
    exact ⟨cs', rangeAt_same (hs b hb) hr, fun o ho => by rw [frozen_same (hs b hb)]; exact hf o ho, OwnJ.same _ _ _ cs' (fun c h => hs c (hX i c h).1) (fun _ h => h) hx⟩

/-- what is written lies in blocks of which B holds; the rest of memory stands -/
structure Frm (B : Nat → Prop) (w w' : World) : Prop where
  os : w'.os = w.os
  tape : w'.tape = w.tape
  output : w'.output = w.output
  size : w.heap.size ≤ w'.heap.size
  block : ∀ b, b < w.heap.size → ¬ B b → w'.heap[b]? = w.heap[b]?
theorem Frm.refl (B : Nat → Prop) (w : World) : Frm B w w := ⟨rfl, rfl, rfl, Nat.le_refl _, fun _ _ _ => rfl⟩
theorem Frm.trans {B : Nat → Prop} {a b c : World} (h : Frm B a b) (k : Frm B b c) : Frm B a c :=
  ⟨k.os.trans h.os, k.tape.trans h.tape, k.output.trans h.output, Nat.le_trans h.size k.size, fun i hi hn => (k.block i (Nat.lt_of_lt_of_le hi h.size) hn).trans (h.block i hi hn)⟩
theorem Frm.mono {B B' : Nat → Prop} {w w' : World} (h : Frm B w w') (hB : ∀ b, B b → B' b) : Frm B' w w' := ⟨h.os, h.tape, h.output, h.size, fun b hb hn => h.block b hb (fun h => hn (hB b h))⟩
theorem Frm.of_below {B : Nat → Prop} {w w' : World} (h : Below w.heap.size w w') : Frm B w w' := ⟨h.os, h.tape, h.output, h.size, fun b hb _ => h.block b hb⟩
theorem Frm.below {B : Nat → Prop} {w w' : World} {S : Nat} (h : Frm B w w') (hS : S ≤ w.heap.size) (hB : ∀ b, b < S → ¬ B b) : Below S w w' := ⟨h.os, h.tape, h.output, h.size, fun b hb => h.block b (by omega) (hB b hb)⟩
theorem Frm.set {B : Nat → Prop} {a w : World} (h : Frm B a w) {b o : Nat} (hb : B b) (v : Value) : Frm B a (w.setCell ⟨b, o, none⟩ v) :=
  h.trans ⟨rfl, rfl, rfl, by simp [World.setCell], fun c _ hn => Below.heap_setCell _ _ _ _ (by intro e; exact hn (e ▸ hb))⟩
end Go.Proofs.YtdioppekeekilaaGreatDoor
namespace Go.Proofs.YtdioppekeekilaaGreatDoor
open Go.RowKit
set_option linter.unusedSimpArgs false
theorem cell_new (w : World) {cs : Array Value} {t : TypeId} {o : Nat} {v : Value} (h : cs[o]? = some v) : (w.alloc (.cells cs t)).cell? ⟨w.heap.size, o, none⟩ = some v := by
  have e : (w.alloc (.cells cs t)).heap[w.heap.size]? = some (.cells cs t) := by show (w.heap.push _)[w.heap.size]? = _; simp
  unfold World.cell?; rw [e]; exact h
theorem str_cons (c : UInt8) (out : List UInt8) : (ByteArray.mk #[c] ++ ByteArray.mk out.toArray : ByteArray) = ⟨(c :: out).toArray⟩ := by
  apply ByteArray.ext; simp
/-- a number's digits, ahead of what is there -/
def dg : Nat → Nat → List UInt8 → List UInt8
  | 0, _, acc => acc
  | f + 1, k, acc => if k = 0 then acc else dg f (k / 10) (UInt8.ofNat (48 + k % 10) :: acc)
theorem dg_zero (f : Nat) (acc : List UInt8) : dg f 0 acc = acc := by cases f <;> simp [dg]
theorem dg_step (f k : Nat) (acc : List UInt8) (h : 0 < k) : dg (f + 1) k acc = dg f (k / 10) (UInt8.ofNat (48 + k % 10) :: acc) := by
  rw [dg, if_neg (by omega)]
/-- the text of a mark -/
def mt (k : Nat) : List UInt8 := 109 :: dg 20 k []

theorem dg_len : ∀ (f k : Nat) (acc : List UInt8), (dg f k acc).length ≤ acc.length + f
  | 0, _, acc => by simp [dg]
  | f + 1, k, acc => by
    unfold dg
    split
    · omega
    · have := dg_len f (k / 10) (UInt8.ofNat (48 + k % 10) :: acc)
      rw [List.length_cons] at this; omega
theorem mt_len (k : Nat) : (mt k).length ≤ maxLen := by
  have := dg_len 20 k []
  unfold mt maxLen; simp at this ⊢; omega

end Go.Proofs.YtdioppekeekilaaGreatDoor
namespace Go.Proofs.YtdioppekeekilaaGreatDoor
open Go.RowKit
set_option linter.unusedSimpArgs false
/-- places in a row that may be written, and what they hold -/
def Row (w : World) (b off n : Nat) (f : Nat → Value) : Prop := ∀ m, m < n → w.cell? ⟨b, off + m, none⟩ = some (f m) ∧ w.frozen? ⟨b, off + m, none⟩ = false
theorem Row.later {w w' : World} {b off n : Nat} {f : Nat → Value} (h : Row w b off n f) (hB : Below w.heap.size w w') : Row w' b off n f := fun m hm => by
  have hlt := World.block_lt_of_cell? _ _ (h m hm).1
  exact ⟨by rw [hB.cell (p := ⟨b, off + m, none⟩) hlt]; exact (h m hm).1, by rw [hB.frozen (p := ⟨b, off + m, none⟩) hlt]; exact (h m hm).2⟩
theorem Row.same {w w' : World} {b off n : Nat} {f : Nat → Value} (h : Row w b off n f) (hs : w'.heap[b]? = w.heap[b]?) : Row w' b off n f := fun m hm =>
  ⟨by rw [World.cell?_of_block (w := w) (a := ⟨b, off + m, none⟩) hs]; exact (h m hm).1, by rw [World.frozen?_of_block (w := w) (a := ⟨b, off + m, none⟩) hs]; exact (h m hm).2⟩
theorem Row.set {w : World} {b off n : Nat} {f : Nat → Value} (h : Row w b off n f) (i : Nat) (hi : i < n) (v : Value) : Row (w.setCell ⟨b, off + i, none⟩ v) b off n (fun m => if m = i then v else f m) := fun m hm => by
  have h1 := (h m hm).1
  have h2 := (h m hm).2
  refine ⟨?_, by simpa using h2⟩
  show (w.setCell ⟨b, off + i, none⟩ v).cell? ⟨b, off + m, none⟩ = some (if m = i then v else f m)
  by_cases e : m = i
  · subst e
    simp [World.cell?_setCell_same, h1]
  · rw [if_neg e]
    rw [World.cell?_setCell_other]
    · exact h1
    · simp; try omega
theorem Row.congr {w : World} {b off n : Nat} {f g : Nat → Value} (h : Row w b off n f) (e : ∀ m, m < n → f m = g m) : Row w b off n g := fun m hm => ⟨by rw [← e m hm]; exact (h m hm).1, (h m hm).2⟩
theorem OwnStrs.row {w : World} {B : Nat → Prop} {a : Option Addr} {keys : List (List UInt8)} (h : OwnStrs w B a keys) :
    ∃ b off, (0 < keys.length → a = some ⟨b, off, none⟩ ∧ B b) ∧ Row w b off keys.length (fun m => .string ⟨(keys.getD m []).toArray⟩) := by
  rcases h with h | ⟨b, off, ha, hb, hc⟩
  · exact ⟨0, 0, fun h' => absurd h (by omega), fun m hm => absurd h (by omega)⟩
  · exact ⟨b, off, fun _ => ⟨ha, hb⟩, fun m hm => by show w.cell? _ = some (.string ⟨(keys.getD m []).toArray⟩) ∧ _; rw [List.getD_eq_getElem?_getD, List.getElem?_eq_getElem hm]; exact hc m hm⟩
theorem OwnStrs.of_row {w : World} {B : Nat → Prop} {a : Option Addr} {keys : List (List UInt8)} {b off : Nat} (ha : 0 < keys.length → a = some ⟨b, off, none⟩ ∧ B b) (h : Row w b off keys.length (fun m => .string ⟨(keys.getD m []).toArray⟩)) : OwnStrs w B a keys := by
  by_cases h0 : keys.length = 0
  · exact .inl h0
  · obtain ⟨h1, h2⟩ := ha (by omega)
    exact .inr ⟨b, off, h1, h2, fun i hi => by have : w.cell? _ = some (.string ⟨(keys.getD i []).toArray⟩) ∧ _ := h i hi; rw [List.getD_eq_getElem?_getD, List.getElem?_eq_getElem hi] at this; exact this⟩
/-- n marks from k on -/
def marks (n k : Nat) : List (List UInt8) := (List.range n).map fun i => mt (k + i)
theorem marks_len (n k : Nat) : (marks n k).length = n := by simp [marks]
theorem marks_at {n k m : Nat} (h : m < n) : (marks n k).getD m [] = mt (k + m) := by
  rw [List.getD_eq_getElem?_getD]; simp [marks, h]

end Go.Proofs.YtdioppekeekilaaGreatDoor
