import Derived.Test.YtpdidfbeelgpmaaQaa
import Derived.Deep.CutRange
import Derived.Deep.RegionHeld3
import Derived.BigQuiet
import Derived.Deep.RegionWith
namespace Go.Proofs.Ytpdidfbeelgpmaa
open Go.RowKit
set_option linter.unusedSimpArgs false
/-- an atom -/
structure At where
  k : Int
  n : Int
  t : List UInt8
theorem At.ext' {a b : At} (h1 : a.k = b.k) (h2 : a.n = b.n) (h3 : a.t = b.t) : a = b := by cases a; cases b; simp_all
def atC (x : At) : List Value := [.int .i64 x.k, .int .i64 x.n, .string ⟨x.t.toArray⟩]
def atZ : At := ⟨0, 0, []⟩
/-- the cells of a list of atoms -/
def atF (l : List At) (m : Nat) : Value := if m % 3 = 0 then .int .i64 (l.getD (m / 3) atZ).k else if m % 3 = 1 then .int .i64 (l.getD (m / 3) atZ).n else .string ⟨(l.getD (m / 3) atZ).t.toArray⟩
theorem at_getD {l : List At} {i : Nat} (h : i < l.length) : l.getD i atZ = l[i] := by rw [List.getD_eq_getElem?_getD, List.getElem?_eq_getElem h]; rfl
theorem atF0 {l : List At} {i : Nat} (h : i < l.length) : atF l (i * 3) = .int .i64 l[i].k := by
  unfold atF
  rw [if_pos (by omega), show i * 3 / 3 = i by omega, at_getD h]
theorem atF1 {l : List At} {i : Nat} (h : i < l.length) : atF l (i * 3 + 1) = .int .i64 l[i].n := by
  unfold atF
  rw [if_neg (by omega), if_pos (by omega), show (i * 3 + 1) / 3 = i by omega, at_getD h]
theorem atF2 {l : List At} {i : Nat} (h : i < l.length) : atF l (i * 3 + 2) = .string ⟨l[i].t.toArray⟩ := by
  unfold atF
  rw [if_neg (by omega), if_neg (by omega), show (i * 3 + 2) / 3 = i by omega, at_getD h]
/-- atoms that can be read, in a block of which B holds -/
def Ats (w : World) (B : Nat → Prop) (a : Option Addr) (l : List At) : Prop :=
  l.length = 0 ∨ ∃ b off, a = some ⟨b, off, none⟩ ∧ B b ∧ ∀ m, m < l.length * 3 → w.cell? ⟨b, off + m, none⟩ = some (atF l m)
/-- and written -/
def OwnAts (w : World) (B : Nat → Prop) (a : Option Addr) (l : List At) : Prop :=
  l.length = 0 ∨ ∃ b off, a = some ⟨b, off, none⟩ ∧ B b ∧ ∀ m, m < l.length * 3 → w.cell? ⟨b, off + m, none⟩ = some (atF l m) ∧ w.frozen? ⟨b, off + m, none⟩ = false
theorem OwnAts.ats {w : World} {B : Nat → Prop} {a : Option Addr} {l : List At} (h : OwnAts w B a l) : Ats w B a l := by
  rcases h with h | ⟨b, off, ha, hb, hc⟩
  · exact .inl h
  · exact .inr ⟨b, off, ha, hb, fun m hm => (hc m hm).1⟩
theorem Ats.same {w w' : World} {B B' : Nat → Prop} {a : Option Addr} {l : List At} (h : Ats w B a l) (hs : ∀ b, B b → w'.heap[b]? = w.heap[b]?) (hB : ∀ b, B b → B' b) : Ats w' B' a l := by
  rcases h with h | ⟨b, off, ha, hb, hc⟩
  · exact .inl h
  · exact .inr ⟨b, off, ha, hB b hb, fun m hm => by rw [World.cell?_of_block (w := w) (a := ⟨b, off + m, none⟩) (hs b hb)]; exact hc m hm⟩
theorem OwnAts.same {w w' : World} {B B' : Nat → Prop} {a : Option Addr} {l : List At} (h : OwnAts w B a l) (hs : ∀ b, B b → w'.heap[b]? = w.heap[b]?) (hB : ∀ b, B b → B' b) : OwnAts w' B' a l := by
  rcases h with h | ⟨b, off, ha, hb, hc⟩
  · exact .inl h
  · exact .inr ⟨b, off, ha, hB b hb, fun m hm => by
      rw [World.cell?_of_block (w := w) (a := ⟨b, off + m, none⟩) (hs b hb), World.frozen?_of_block (w := w) (a := ⟨b, off + m, none⟩) (hs b hb)]; exact hc m hm⟩
theorem Ats.any {w : World} {B : Nat → Prop} {a : Option Addr} {l : List At} (h : Ats w B a l) : Ats w (fun _ => True) a l := h.same (fun _ _ => rfl) (fun _ _ => trivial)
theorem Ats.below {w w' : World} {S : Nat} {a : Option Addr} {l : List At} (h : Ats w (· < S) a l) (hb : Below S w w') : Ats w' (· < S) a l := h.same (fun b hb' => hb.block b hb') (fun _ h => h)
theorem Ats.inside {w : World} {B : Nat → Prop} {a : Option Addr} {l : List At} (h : Ats w B a l) : Ats w (fun b => B b ∧ b < w.heap.size) a l := by
  rcases h with h | ⟨b, off, ha, hb, hc⟩
  · exact .inl h
  · by_cases h0 : l.length = 0
    · exact .inl h0
    · exact .inr ⟨b, off, ha, ⟨hb, World.block_lt_of_cell? _ _ (hc 0 (by omega))⟩, hc⟩
theorem OwnAts.inside {w : World} {B : Nat → Prop} {a : Option Addr} {l : List At} (h : OwnAts w B a l) : OwnAts w (fun b => B b ∧ b < w.heap.size) a l := by
  rcases h with h | ⟨b, off, ha, hb, hc⟩
  · exact .inl h
  · by_cases h0 : l.length = 0
    · exact .inl h0
    · exact .inr ⟨b, off, ha, ⟨hb, World.block_lt_of_cell? _ _ (hc 0 (by omega)).1⟩, hc⟩
theorem Ats.later {w w' : World} {B : Nat → Prop} {a : Option Addr} {l : List At} (h : Ats w B a l) (hb : Below w.heap.size w w') : Ats w' B a l := h.inside.same (fun b hb' => hb.block b hb'.2) (fun _ h => h.1)
theorem OwnAts.later {w w' : World} {B : Nat → Prop} {a : Option Addr} {l : List At} (h : OwnAts w B a l) (hb : Below w.heap.size w w') : OwnAts w' B a l := h.inside.same (fun b hb' => hb.block b hb'.2) (fun _ h => h.1)
/-- an atom's three cells, as a walk reads them -/
theorem Ats.item {w : World} {B : Nat → Prop} {a : Option Addr} {l : List At} (h : Ats w B a l) (k : Nat) (hk : k < l.length) :
    ∃ b off, a = some ⟨b, off, none⟩ ∧ B b ∧ w.cell? ⟨b, off + k * 3, none⟩ = some (.int .i64 l[k].k) ∧ w.cell? ⟨b, off + k * 3 + 1, none⟩ = some (.int .i64 l[k].n) ∧ w.cell? ⟨b, off + k * 3 + 2, none⟩ = some (.string ⟨l[k].t.toArray⟩) := by
  rcases h with h | ⟨b, off, ha, hb, hc⟩
  · omega
  · exact ⟨b, off, ha, hb, by rw [hc _ (by omega), atF0 hk], by rw [Nat.add_assoc, hc _ (by omega), atF1 hk], by rw [Nat.add_assoc, hc _ (by omega), atF2 hk]⟩
theorem heap_newA (w : World) (o : Obj) : (w.alloc o).heap[w.heap.size]? = some o := by
  show (w.heap.push o)[w.heap.size]? = _
  simp
theorem heap_keptA {w w' : World} {b : Nat} {o : Obj} (h : w.heap[b]? = some o) (hB : Below w.heap.size w w') : w'.heap[b]? = some o := by
  rw [hB.block b (Array.getElem?_eq_some_iff.1 h).1]; exact h
def szA (l : List At) : Nat := l.length + (l.map (fun x => x.t.length)).sum
end Go.Proofs.Ytpdidfbeelgpmaa
namespace Go.Proofs.Ytpdidfbeelgpmaa
open Go.RowKit
set_option linter.unusedSimpArgs false
theorem infoAt : (Try.prog.info? 27).map (fun i => (i.zero, i.size, i.bytes)) = some (some (.agg #[.int .i64 0, .int .i64 0, .string ⟨#[]⟩]), 3, 32) := by kernel_rfl
def zeroAt : Array Value := #[.int .i64 0, .int .i64 0, .string ⟨#[]⟩]
theorem infoAt' : ∃ i, Try.prog.info? 27 = some i ∧ i.zero = some (.agg zeroAt) ∧ i.size = 3 ∧ i.bytes = 32 := by
  obtain ⟨i, hi, hzz⟩ := Option.map_eq_some_iff.1 infoAt
  simp only [Prod.mk.injEq] at hzz
  exact ⟨i, hi, hzz⟩
theorem run_makeAt (n : Nat) (hn : n ≤ 1048576) (w : World) :
    (Instr.makeSlice 23 (.int .i64 (n : Int)) (.int .i64 (n : Int))).run Try.prog w = .ok (.slice (some ⟨w.heap.size, 0, none⟩) n n) (w.alloc (.cells (madeCells zeroAt (n * 3)) 27)) := by
  obtain ⟨i, hi, hz, hs, hb⟩ := infoAt'
  have hr := run_make (P := Try.prog) w 23 27 i _ Try.underlying23 hi hz .i64 .i64 n n (by omega) (Int.le_refl _) (by rw [hb]; omega) (by omega)
  rw [hr, hs]
  simp only [Int.toNat_natCast]
  rfl
theorem rowIs_madeAt (w : World) (n : Nat) (t : TypeId) : ∃ f, (w.alloc (.cells (madeCells zeroAt (n * 3)) t)).rowIs w.heap.size t (n * 3) f :=
  ⟨fun i => (madeCells zeroAt (n * 3)).getD i default, by
    have := World.rowIs_alloc w (madeCells zeroAt (n * 3)) t (fun i => (madeCells zeroAt (n * 3)).getD i default) (fun i h => by rw [Array.getElem?_eq_getElem h]; simp [Array.getD, h])
    rwa [size_madeCells] at this⟩
/-- the first k of l are done -/
def DoneA (wr : World) (b k : Nat) (l : List At) : Prop := ∃ f, wr.rowIs b 27 (l.length * 3) f ∧ ∀ m, m < k * 3 → f m = atF l m
theorem DoneA.step {w1 : World} {b k : Nat} {l : List At} {f : Nat → Value} (hf : w1.rowIs b 27 (l.length * 3) f) (hd : ∀ m, m < k * 3 → f m = atF l m) (hk : k < l.length) :
    DoneA (((w1.setCell ⟨b, k * 3, none⟩ (.int .i64 l[k].k)).setCell ⟨b, k * 3 + 1, none⟩ (.int .i64 l[k].n)).setCell ⟨b, k * 3 + 2, none⟩ (.string ⟨l[k].t.toArray⟩)) b (k + 1) l := by
  refine ⟨_, ((hf.set (k * 3) _).set (k * 3 + 1) _).set (k * 3 + 2) _, fun m hm => ?_⟩
  rcases (by omega : m < k * 3 ∨ m = k * 3 ∨ m = k * 3 + 1 ∨ m = k * 3 + 2) with h | rfl | rfl | rfl
  · simp only [show ¬ m = k * 3 + 2 by omega, show ¬ m = k * 3 + 1 by omega, show ¬ m = k * 3 by omega, if_false]
    exact hd m h
  · simp [atF0 hk]
  · simp [atF1 hk]
  · simp [atF2 hk]
end Go.Proofs.Ytpdidfbeelgpmaa
namespace Go.Proofs.Ytpdidfbeelgpmaa
open Go.RowKit
set_option linter.unusedSimpArgs false
/-- when an atom is right -/
def atOK (x : At) : Bool :=
  if x.k = 1 then inB (-1000000000) x.n 1000000000 && x.t.isEmpty
  else if x.k = 2 then (x.n == 0) && textB x.t
  else if x.k = 3 then inB 0 x.n 1 && x.t.isEmpty
  else if x.k = 4 then inB 1 x.n 1000000 && x.t.isEmpty
  else false
theorem atOK1 {x : At} (h : x.k = 1) : atOK x = (inB (-1000000000) x.n 1000000000 && x.t.isEmpty) := by unfold atOK; rw [if_pos h]
theorem atOK2 {x : At} (h : x.k = 2) : atOK x = ((x.n == 0) && textB x.t) := by unfold atOK; rw [if_neg (by omega), if_pos h]
theorem atOK3 {x : At} (h : x.k = 3) : atOK x = (inB 0 x.n 1 && x.t.isEmpty) := by unfold atOK; rw [if_neg (by omega), if_neg (by omega), if_pos h]
theorem atOK4 {x : At} (h : x.k = 4) : atOK x = (inB 1 x.n 1000000 && x.t.isEmpty) := by unfold atOK; rw [if_neg (by omega), if_neg (by omega), if_neg (by omega), if_pos h]
theorem atOKN {x : At} (h : x.k < 1 ∨ 4 < x.k) : atOK x = false := by unfold atOK; rw [if_neg (by omega), if_neg (by omega), if_neg (by omega), if_neg (by omega)]
theorem end_b {a x y : Bool} (HP : Hid (a = x)) (h : y = x) : y = a := by rw [HP.out]; exact h
/-- text that is empty: as a walk asks it -/
theorem atOK_text {x : At} (h : atOK x = true) : x.t.length ≤ 200 := by
  unfold atOK at h
  split at h
  · simp at h; simp [h.2]
  split at h
  · simp [textB] at h; exact h.2.1
  split at h
  · simp at h; simp [h.2]
  split at h
  · simp at h; simp [h.2]
  · cases h
/-- the order of atoms: by kind, by number, by text -/
def cmpA (a b : At) : Int :=
  if a.k ≠ b.k then (if a.k < b.k then -1 else 1)
  else if a.n ≠ b.n then (if a.n < b.n then -1 else 1)
  else if a.t ≠ b.t then (if Op.bytesLess a.t b.t then -1 else 1)
  else 0
theorem cmp_k {a b : At} (h : a.k ≠ b.k) : cmpA a b = 1 - 2 * (if decide (a.k < b.k) then 1 else 0) := by
  unfold cmpA
  rw [if_pos h]
  by_cases hl : a.k < b.k <;> simp [hl]
theorem cmp_n {a b : At} (h : a.k = b.k) (h2 : a.n ≠ b.n) : cmpA a b = 1 - 2 * (if decide (a.n < b.n) then 1 else 0) := by
  unfold cmpA
  rw [if_neg (by simp [h]), if_pos h2]
  by_cases hl : a.n < b.n <;> simp [hl]
theorem cmp_t {a b : At} (h : a.k = b.k) (h2 : a.n = b.n) (h3 : a.t ≠ b.t) : cmpA a b = 1 - 2 * (if Op.bytesLess a.t b.t then 1 else 0) := by
  unfold cmpA
  rw [if_neg (by simp [h]), if_neg (by simp [h2]), if_pos h3]
  by_cases hl : Op.bytesLess a.t b.t = true <;> simp [hl]
theorem cmp_0 {a b : At} (h : a.k = b.k) (h2 : a.n = b.n) (h3 : a.t = b.t) : cmpA a b = 0 := by
  unfold cmpA
  rw [if_neg (by simp [h]), if_neg (by simp [h2]), if_neg (by simp [h3])]
theorem below2 (w : World) (o o' : Obj) : Below w.heap.size w ((w.alloc o).alloc o') := ((Below.refl _ _).alloc (Nat.le_refl _) _).alloc (by simp) _
end Go.Proofs.Ytpdidfbeelgpmaa
namespace Go.Proofs.Ytpdidfbeelgpmaa
open Go.RowKit
set_option linter.unusedSimpArgs false
def sameAt (x y : At) : Bool := (x.k == y.k) && ((x.n == y.n) && (x.t == y.t))
theorem sameAt_iff {x y : At} : sameAt x y = true ↔ x = y := by
  unfold sameAt
  constructor
  · intro h
    simp at h
    exact At.ext' h.1 h.2.1 h.2.2
  · rintro rfl; simp
/-- three ways in which two atoms differ -/
theorem differ {x y : At} (h : x ≠ y) : ¬ x.k = y.k ∨ (x.k = y.k ∧ ¬ x.n = y.n) ∨ (x.k = y.k ∧ x.n = y.n ∧ ¬ x.t = y.t) := by
  by_cases h1 : x.k = y.k
  · by_cases h2 : x.n = y.n
    · by_cases h3 : x.t = y.t
      · exact absurd (At.ext' h1 h2 h3) h
      · exact .inr (.inr ⟨h1, h2, h3⟩)
    · exact .inr (.inl ⟨h1, h2⟩)
  · exact .inl h1
def hasB (l : List At) (a : At) : Bool := l.any (fun x => sameAt x a)
theorem hasB_true {l : List At} {a : At} {k : Nat} (hk : k < l.length) (h : l[k] = a) : hasB l a = true := by
  unfold hasB
  rw [List.any_eq_true]
  exact ⟨l[k], List.getElem_mem hk, sameAt_iff.2 h⟩
theorem hasB_false {l : List At} {a : At} (h : ∀ k (hk : k < l.length), l[k] ≠ a) : hasB l a = false := by
  unfold hasB
  rw [List.any_eq_false]
  intro x hx
  obtain ⟨k, hk, rfl⟩ := List.getElem_of_mem hx
  intro e
  exact h k hk (sameAt_iff.1 e)
/-- one box of the call's own -/
def BoxA (w W : World) (x : At) : Prop := W.heap[w.heap.size]? = some (.cells #[.int .i64 x.k, .int .i64 x.n, .string ⟨x.t.toArray⟩] 27) ∧ Below w.heap.size w W
theorem BoxA.later {w W W' : World} {x : At} (h : BoxA w W x) (hB : Below W.heap.size W W') : BoxA w W' x := ⟨heap_keptA h.1 hB, h.2.trans (hB.mono h.2.size)⟩
theorem BoxA.drewN {w W : World} {x : At} (h : BoxA w W x) (n : Nat) : BoxA w (W.drewN n) x := h.later (below_drewN (Below.refl _ _) _)
end Go.Proofs.Ytpdidfbeelgpmaa
namespace Go.Proofs.Ytpdidfbeelgpmaa
open Go.RowKit
set_option linter.unusedSimpArgs false
def stepB (l : List At) (i : Nat) : Bool := atOK (l.getD i atZ) && (((l.getD i atZ).k == (l.getD 0 atZ).k) && (decide (i = 0) || decide (cmpA (l.getD (i - 1) atZ) (l.getD i atZ) < 0)))
/-- when a set is right -/
def datumB (l : List At) : Bool := decide (l.length ≤ 8) && (List.range l.length).all (stepB l)
theorem datumB_no {l : List At} {i : Nat} (hi : i < l.length) (h : stepB l i = false) : datumB l = false := by
  unfold datumB
  rw [Bool.and_eq_false_iff]
  right
  rw [List.all_eq_false]
  exact ⟨i, List.mem_range.2 hi, by simp [h]⟩
theorem datumB_yes {l : List At} (h : ∀ i, i < l.length → stepB l i = true) : datumB l = decide (l.length ≤ 8) := by
  unfold datumB
  rw [List.all_eq_true.2 (fun i hi => h i (List.mem_range.1 hi)), Bool.and_true]
theorem datumB_long {l : List At} (h : 8 < l.length) : datumB l = false := by
  unfold datumB
  simp; omega
theorem Ats.three {w : World} {B : Nat → Prop} {b off : Nat} {l : List At} (h : Ats w B (some ⟨b, off, none⟩) l) (k : Nat) (hk : k < l.length) :
    w.cell? ⟨b, off + k * 3, none⟩ = some (.int .i64 l[k].k) ∧ w.cell? ⟨b, off + k * 3 + 1, none⟩ = some (.int .i64 l[k].n) ∧ w.cell? ⟨b, off + k * 3 + 2, none⟩ = some (.string ⟨l[k].t.toArray⟩) := by
  obtain ⟨b', off', e, -, h0, h1, h2⟩ := h.item k hk
  injection e with e
  injection e with e1 e2
  subst e1 e2
  exact ⟨h0, h1, h2⟩
theorem step_ok {l : List At} {i : Nat} (hi : i < l.length) (h : atOK l[i] = false) : stepB l i = false := by unfold stepB; rw [at_getD hi, h]; rfl
theorem step_kind {l : List At} {i : Nat} (hi : i < l.length) (h : ¬ l[i].k = (l[0]'(by omega)).k) : stepB l i = false := by
  unfold stepB; rw [at_getD hi, at_getD (show 0 < l.length by omega)]; simp [h]
theorem step_zero {l : List At} (hi : 0 < l.length) (h : atOK l[0] = true) : stepB l 0 = true := by unfold stepB; rw [at_getD hi, h]; simp
theorem step_up {l : List At} {m : Nat} (hi : m + 1 < l.length) (h : atOK l[m + 1] = true) (hk : l[m + 1].k = (l[0]'(by omega)).k) : stepB l (m + 1) = decide (cmpA (l[m]'(by omega)) l[m + 1] < 0) := by
  unfold stepB; rw [at_getD hi, h, at_getD (show 0 < l.length by omega), Nat.add_sub_cancel, at_getD (show m < l.length by omega), hk]; simp
end Go.Proofs.Ytpdidfbeelgpmaa
namespace Go.Proofs.Ytpdidfbeelgpmaa
open Go.RowKit
theorem neq_selfK (c : Int) : (c != c) = false := by simp
/-- what is wrong with the atom at i of a list that is to be a set: 0: nothing -/
def errAt (l : List At) (i : Nat) : Int := if atOK (l.getD i atZ) = false then 1 else if (l.getD i atZ).k ≠ (l.getD 0 atZ).k then 9 else 0
def errFrom (l : List At) : Nat → Nat → Int
  | 0, _ => 0
  | n + 1, i => if errAt l i = 0 then errFrom l n (i + 1) else errAt l i
def errOf (l : List At) : Int := errFrom l l.length 0
theorem errFrom_succ (l : List At) (k : Nat) (h : k < l.length) : errFrom l (l.length - k) k = if errAt l k = 0 then errFrom l (l.length - (k + 1)) (k + 1) else errAt l k := by
  rw [show l.length - k = (l.length - (k + 1)) + 1 by omega, errFrom]
end Go.Proofs.Ytpdidfbeelgpmaa
namespace Go.Proofs.Ytpdidfbeelgpmaa
open Go.RowKit
set_option linter.unusedSimpArgs false
/-! impl's atoms -/
set_option maxHeartbeats 400000 in
theorem idOKi (n : Int) (w : World) : Calls Try.prog 27 #[.int .i64 n] w fun e w' => e = .returned (.bool (inB 1 n 1000000)) ∧ w' = w := by
  go_enter Try.func27, Try.ntmps27
  go_wp2
  all_goals
    go_ret
    refine ⟨ret_b ?_, rfl⟩
    rw [Bool.eq_iff_iff]; simp [inB]; try omega
theorem in01 (n : Int) : inB 0 n 1 = (n == 0 || n == 1) := by
  unfold inB
  rw [Bool.eq_iff_iff]; simp; omega
set_option maxHeartbeats 1600000 in
theorem atomOKi (x : At) (w : World) (ht : x.t.length ≤ maxLen) :
    Calls Try.prog 18 #[.agg #[.int .i64 x.k, .int .i64 x.n, .string ⟨x.t.toArray⟩]] w fun e w' => e = .returned (.bool (atOK x)) ∧ Below w.heap.size w w' := by
  have HTL : Hid (x.t.length ≤ maxLen) := ht
  clear ht
  rcases (by omega : x.k = 1 ∨ x.k = 2 ∨ x.k = 3 ∨ x.k = 4 ∨ (x.k < 1 ∨ 4 < x.k)) with k | k | k | k | k
  · have HP : Hid (atOK x = _) := atOK1 k
    rw [k]
    go_enter Try.func18, Try.ntmps18
    go_wp2_with (go_at_call 25; refine (numberOK _ _).mono ?_; rintro e w' ⟨rfl, rfl⟩)
    all_goals
      go_ret
      exact ⟨ret_b (end_b HP (by simp [*])), (Below.refl _ _).alloc (Nat.le_refl _) _⟩
  · have HP : Hid (atOK x = _) := atOK2 k
    rw [k]
    go_enter Try.func18, Try.ntmps18
    go_wp2_with (go_at_call 26; refine (textOK _ _ HTL.out).mono ?_; rintro e w' ⟨rfl, rfl⟩)
    all_goals
      go_ret
      exact ⟨ret_b (end_b HP (by simp [*])), (Below.refl _ _).alloc (Nat.le_refl _) _⟩
  · have HP : Hid (atOK x = _) := atOK3 k
    rw [in01] at HP
    rw [k]
    go_enter Try.func18, Try.ntmps18
    go_wp2_with fail
    all_goals
      go_ret
      exact ⟨ret_b (end_b HP (by simp [*])), (Below.refl _ _).alloc (Nat.le_refl _) _⟩
  · have HP : Hid (atOK x = _) := atOK4 k
    rw [k]
    go_enter Try.func18, Try.ntmps18
    go_wp2_with (go_at_call 27; refine (idOKi _ _).mono ?_; rintro e w' ⟨rfl, rfl⟩)
    all_goals
      go_ret
      exact ⟨ret_b (end_b HP (by simp [*])), (Below.refl _ _).alloc (Nat.le_refl _) _⟩
  · have HP : Hid (atOK x = false) := atOKN k
    have k1 : (x.k == 1) = false := by simp; omega
    have k2 : (x.k == 2) = false := by simp; omega
    have k3 : (x.k == 3) = false := by simp; omega
    have k4 : (x.k == 4) = false := by simp; omega
    go_enter Try.func18, Try.ntmps18
    go_wp2_with fail
    go_ret
    exact ⟨ret_b (end_b HP rfl), (Below.refl _ _).alloc (Nat.le_refl _) _⟩
theorem nanI (x : Int) (w : World) : Calls Try.prog 30 #[.int .i64 x] w fun e w' => e = .returned (.bool false) ∧ w' = w := by
  go_enter Try.func30, Try.ntmps30
  go_wp2_with fail
  go_ret
  exact ⟨by simp, rfl⟩
theorem nanS (x : ByteArray) (w : World) : Calls Try.prog 31 #[.string x] w fun e w' => e = .returned (.bool false) ∧ w' = w := by
  go_enter Try.func31, Try.ntmps31
  go_wp2_with fail
  go_ret
  exact ⟨by simp, rfl⟩
set_option maxHeartbeats 1600000 in
theorem cmpInt (x y : Int) (w : World) : Calls Try.prog 23 #[.int .i64 x, .int .i64 y] w fun e w' => e = .returned (.int .i64 (if x < y then -1 else if y < x then 1 else 0)) ∧ w' = w := by
  by_cases h1 : x < y
  · rw [if_pos h1]
    have d1 : decide (x < y) = true := decide_eq_true h1
    clear h1
    go_enter Try.func23, Try.ntmps23
    go_wp2_with (go_at_call 30; refine (nanI _ _).mono ?_; rintro e w' ⟨rfl, rfl⟩)
    go_ret
    exact ⟨rfl, rfl⟩
  · rw [if_neg h1]
    have d1 : decide (x < y) = false := decide_eq_false h1
    clear h1
    by_cases h2 : y < x
    · rw [if_pos h2]
      have d2 : decide (y < x) = true := decide_eq_true h2
      clear h2
      go_enter Try.func23, Try.ntmps23
      go_wp2_with (go_at_call 30; refine (nanI _ _).mono ?_; rintro e w' ⟨rfl, rfl⟩)
      go_ret
      exact ⟨rfl, rfl⟩
    · rw [if_neg h2]
      have d2 : decide (y < x) = false := decide_eq_false h2
      clear h2
      go_enter Try.func23, Try.ntmps23
      go_wp2_with (go_at_call 30; refine (nanI _ _).mono ?_; rintro e w' ⟨rfl, rfl⟩)
      go_ret
      exact ⟨rfl, rfl⟩
theorem bl_self : ∀ t : List UInt8, Op.bytesLess t t = false
  | [] => rfl
  | a :: r => by unfold Op.bytesLess; simp [bl_self r]
set_option maxHeartbeats 1600000 in
theorem cmpStr (x y : List UInt8) (w : World) : Calls Try.prog 24 #[.string ⟨x.toArray⟩, .string ⟨y.toArray⟩] w fun e w' => e = .returned (.int .i64 (if x = y then 0 else if Op.bytesLess x y then -1 else 1)) ∧ w' = w := by
  by_cases h1 : x = y
  · rw [if_pos h1]
    subst h1
    have d1 := bl_self x
    go_enter Try.func24, Try.ntmps24
    go_wp2_with (go_at_call 31; refine (nanS _ _).mono ?_; rintro e w' ⟨rfl, rfl⟩)
    go_ret
    exact ⟨rfl, rfl⟩
  · rw [if_neg h1]
    have e1 : (x == y) = false := by simpa using h1
    clear h1
    cases d1 : Op.bytesLess x y
    · go_enter Try.func24, Try.ntmps24
      go_wp2_with (go_at_call 31; refine (nanS _ _).mono ?_; rintro e w' ⟨rfl, rfl⟩)
      go_ret
      exact ⟨rfl, rfl⟩
    · go_enter Try.func24, Try.ntmps24
      go_wp2_with (go_at_call 31; refine (nanS _ _).mono ?_; rintro e w' ⟨rfl, rfl⟩)
      go_ret
      exact ⟨rfl, rfl⟩
set_option maxHeartbeats 1600000 in
theorem compareI (a b : At) (w : World) :
    Calls Try.prog 17 #[.agg #[.int .i64 a.k, .int .i64 a.n, .string ⟨a.t.toArray⟩], .agg #[.int .i64 b.k, .int .i64 b.n, .string ⟨b.t.toArray⟩]] w fun e w' => e = .returned (.int .i64 (cmpA a b)) ∧ Below w.heap.size w w' := by
  by_cases h : a.k = b.k
  case neg =>
    have HC : Hid (cmpA a b = (if a.k < b.k then -1 else if b.k < a.k then 1 else 0)) := by
      show cmpA a b = _
      unfold cmpA
      rw [if_pos h]
      by_cases hl : a.k < b.k
      · rw [if_pos hl, if_pos hl]
      · rw [if_neg hl, if_neg hl, if_pos (by omega)]
    have hk : (a.k != b.k) = true := by simpa using h
    clear h
    go_enter Try.func17, Try.ntmps17
    go_wp2_with (go_at_call 23; refine (cmpInt _ _ _).mono ?_; rintro e w' ⟨rfl, rfl⟩; rw [← HC.out])
    go_ret
    exact ⟨rfl, below2 _ _ _⟩
  by_cases h2 : a.n = b.n
  case neg =>
    have HC : Hid (cmpA a b = (if a.n < b.n then -1 else if b.n < a.n then 1 else 0)) := by
      show cmpA a b = _
      unfold cmpA
      rw [if_neg (by simp [h]), if_pos h2]
      by_cases hl : a.n < b.n
      · rw [if_pos hl, if_pos hl]
      · rw [if_neg hl, if_neg hl, if_pos (by omega)]
    have hk : (a.n != b.n) = true := by simpa using h2
    rw [h]
    clear h h2
    go_enter Try.func17, Try.ntmps17
    go_wp2_with (go_at_call 23; refine (cmpInt _ _ _).mono ?_; rintro e w' ⟨rfl, rfl⟩; rw [← HC.out])
    go_ret
    exact ⟨rfl, below2 _ _ _⟩
  have HC : Hid (cmpA a b = (if a.t = b.t then 0 else if Op.bytesLess a.t b.t then -1 else 1)) := by
    show cmpA a b = _
    unfold cmpA
    rw [if_neg (by simp [h]), if_neg (by simp [h2])]
    by_cases hl : a.t = b.t
    · rw [if_neg (by simp [hl]), if_pos hl]
    · rw [if_pos hl, if_neg hl]
  rw [h, h2]
  clear h h2
  go_enter Try.func17, Try.ntmps17
  go_wp2_with (go_at_call 24; refine (cmpStr _ _ _).mono ?_; rintro e w' ⟨rfl, rfl⟩; rw [← HC.out])
  go_ret
  exact ⟨rfl, below2 _ _ _⟩
end Go.Proofs.Ytpdidfbeelgpmaa
namespace Go.Proofs.Ytpdidfbeelgpmaa
open Go.RowKit
set_option linter.unusedSimpArgs false
set_option maxRecDepth 100000 in
set_option maxHeartbeats 3200000 in
theorem atomsCodeI (l : List At) (a : Option Addr) (c : Nat) (S : Nat) (w : World) (hl : l.length ≤ maxLen) (hx : ∀ x ∈ l, x.t.length ≤ maxLen) (hw : S ≤ w.heap.size) (hA : Ats w (· < S) a l) :
    Calls Try.prog 14 #[.slice a l.length c] w fun e w' => e = .returned (.int .i64 (errOf l)) ∧ Below w.heap.size w w' := by
  unfold maxLen at hl
  have HA : Hid (Ats w (· < S) a l) := hA
  have HX : Hid (∀ x ∈ l, x.t.length ≤ maxLen) := hx
  clear hA hx
  go_enter Try.func14, Try.ntmps14
  go_wp2_with fail
  go_loopw [6] (fun i wr => ∃ k : Nat, k ≤ l.length ∧ i = .int .i64 k ∧ Hid (errFrom l (l.length - k) k = errOf l ∧ Below w.heap.size w wr)) (fun i _ => l.length - (intOf i).toNat)
  case atStart => exact ⟨0, Nat.zero_le _, rfl, rfl, Below.refl _ _⟩
  case round =>
    obtain ⟨k, hk, rfl, HW⟩ := hrel
    by_cases hlt : k < l.length
    · have hki : (k : Int) < (l.length : Int) := by omega
      have hln : 0 < l.length := by omega
      have hki0 : (0 : Int) < (l.length : Int) := by omega
      obtain ⟨b, off, rfl, -⟩ := (HA.out.item k hlt)
      have HTX : Hid (l[k].t.length ≤ maxLen) := HX.out _ (List.getElem_mem hlt)
      have CE : Hid (∀ W, Below w.heap.size w W → W.cell? ⟨b, off + k * 3, none⟩ = some (.int .i64 l[k].k) ∧ W.cell? ⟨b, off + k * 3 + 1, none⟩ = some (.int .i64 l[k].n) ∧ W.cell? ⟨b, off + k * 3 + 2, none⟩ = some (.string ⟨l[k].t.toArray⟩) ∧ W.cell? ⟨b, off, none⟩ = some (.int .i64 l[0].k)) := fun W hb => by
        have f := (HA.out.below (hb.mono hw)).three 0 hln
        rw [Nat.zero_mul, Nat.add_zero] at f
        obtain ⟨h0, h1, h2⟩ := (HA.out.below (hb.mono hw)).three k hlt
        exact ⟨h0, h1, h2, f.1⟩
      have AO : Hid (∀ W, Below w.heap.size w W → Calls Try.prog 18 #[.agg #[.int .i64 l[k].k, .int .i64 l[k].n, .string ⟨l[k].t.toArray⟩]] W fun e w' => e = .returned (.bool (atOK l[k])) ∧ Below w.heap.size w w') := fun W h => (atomOKi l[k] W HTX.out).mono (fun e w' ⟨he, hB⟩ => ⟨he, h.trans (hB.mono h.size)⟩)
      have HSU := errFrom_succ l k hlt
      rw [HW.out.1] at HSU
      have HEA : errAt l k = if atOK l[k] = false then 1 else if l[k].k ≠ l[0].k then 9 else 0 := by unfold errAt; rw [at_getD hlt, at_getD hln]
      have hx := HW.out.2
      have c0 := (CE.out _ hx).1
      have c1 := (CE.out _ hx).2.1
      have c2 := (CE.out _ hx).2.2.1
      cases hok : atOK l[k]
      · rw [hok, if_pos rfl] at HEA
        rw [HEA, if_neg (by omega)] at HSU
        have HC : Hid (errOf l = 1) := HSU
        rw [hok] at AO
        clear hok HEA HSU HW CE
        generalize l[k] = x at *
        go_wp2_with (go_at_call 18; refine (AO.out _ hx).mono ?_; rintro e w1 ⟨rfl, hx⟩)
        go_ret
        exact ⟨ret_i HC.out.symm, hx⟩
      · rw [hok, if_neg (by simp)] at HEA
        rw [hok] at AO
        by_cases hkd : l[k].k = l[0].k
        · rw [if_neg (by simp [hkd])] at HEA
          rw [HEA, if_pos rfl] at HSU
          have HN : Hid (errFrom l (l.length - (k + 1)) (k + 1) = errOf l) := HSU.symm
          have hkn : (l[k].k != l[0].k) = false := by simpa using hkd
          clear hok HEA HSU HW hkd
          generalize l[k] = x at *
          generalize l[0] = z at *
          go_wp2_with (go_at_call 18; refine (AO.out _ hx).mono ?_; rintro e w1 ⟨rfl, hx⟩; have f0 := (CE.out _ hx).1; have f1 := (CE.out _ hx).2.2.2)
          go_quiet (fail)
          go_wp2_with fail
          go_roundw
          case rel => exact ⟨k + 1, by omega, by go_num, HN.out, below_drewN hx _⟩
          case measure => simp [intOf]; omega
        · rw [if_pos hkd] at HEA
          rw [HEA, if_neg (by omega)] at HSU
          have HC : Hid (errOf l = 9) := HSU
          have hkn : (l[k].k != l[0].k) = true := by simpa using hkd
          clear hok HEA HSU HW hkd
          generalize l[k] = x at *
          generalize l[0] = z at *
          go_wp2_with (go_at_call 18; refine (AO.out _ hx).mono ?_; rintro e w1 ⟨rfl, hx⟩; have f0 := (CE.out _ hx).1; have f1 := (CE.out _ hx).2.2.2)
          go_quiet (fail)
          go_wp2_with fail
          go_ret
          exact ⟨ret_i HC.out.symm, below_drewN hx _⟩
    · have he : Hid (errOf l = 0) := by show errOf l = 0; rw [← HW.out.1, show l.length - k = 0 by omega]; rfl
      have hmi : decide ((k : Int) < (l.length : Int)) = false := by simp; omega
      have hx := HW.out.2
      go_wp2_with fail
      go_ret
      exact ⟨ret_i he.out.symm, hx⟩
/-- the list rises -/
def riseB (l : List At) : Bool := (List.range l.length).all (fun i => decide (i = 0) || decide (cmpA (l.getD (i - 1) atZ) (l.getD i atZ) < 0))
theorem rise_no {l : List At} {i : Nat} (hi : i + 1 < l.length) (h : ¬ cmpA l[i] l[i + 1] < 0) : riseB l = false := by
  unfold riseB
  rw [List.all_eq_false]
  exact ⟨i + 1, List.mem_range.2 hi, by rw [Nat.add_sub_cancel, at_getD hi, at_getD (show i < l.length by omega)]; simp; omega⟩
theorem rise_yes {l : List At} (h : ∀ i (hi : i + 1 < l.length), cmpA l[i] l[i + 1] < 0) : riseB l = true := by
  unfold riseB
  rw [List.all_eq_true]
  intro i hi
  have hi := List.mem_range.1 hi
  cases i with
  | zero => rfl
  | succ i => rw [Nat.add_sub_cancel, at_getD hi, at_getD (show i < l.length by omega)]; simp [h i hi]
set_option maxRecDepth 100000 in
set_option maxHeartbeats 3200000 in
theorem risesI (l : List At) (a : Option Addr) (c : Nat) (S : Nat) (w : World) (hl : l.length ≤ maxLen) (hw : S ≤ w.heap.size) (hA : Ats w (· < S) a l) :
    Calls Try.prog 16 #[.slice a l.length c, .func (.func 17) #[] #[]] w fun e w' => e = .returned (.bool (riseB l)) ∧ Below w.heap.size w w' := by
  unfold maxLen at hl
  have HA : Hid (Ats w (· < S) a l) := hA
  clear hA
  go_enter Try.func16, Try.ntmps16
  go_wp2_with fail
  go_loopw [5] (fun i wr => ∃ k : Nat, 1 ≤ k ∧ k ≤ maxLen + 1 ∧ i = .int .i64 k ∧ Hid ((∀ m (h : m + 1 < l.length), m + 1 < k → cmpA l[m] l[m + 1] < 0) ∧ Below w.heap.size w wr)) (fun i _ => l.length - (intOf i).toNat)
  case atStart => exact ⟨1, by omega, by unfold maxLen; omega, rfl, fun m _ h => absurd h (by omega), Below.refl _ _⟩
  case round =>
    obtain ⟨k, hk1, hk, rfl, HW⟩ := hrel
    by_cases hlt : k < l.length
    · obtain ⟨m, rfl⟩ : ∃ m, k = m + 1 := ⟨k - 1, by omega⟩
      obtain ⟨b, off, rfl, -⟩ := (HA.out.item m (by omega))
      have hx := HW.out.2
      have CE : Hid (∀ W, Below w.heap.size w W → (W.cell? ⟨b, off + m * 3, none⟩ = some (.int .i64 l[m].k) ∧ W.cell? ⟨b, off + m * 3 + 1, none⟩ = some (.int .i64 l[m].n) ∧ W.cell? ⟨b, off + m * 3 + 2, none⟩ = some (.string ⟨l[m].t.toArray⟩)) ∧ W.cell? ⟨b, off + (m + 1) * 3, none⟩ = some (.int .i64 l[m + 1].k) ∧ W.cell? ⟨b, off + (m + 1) * 3 + 1, none⟩ = some (.int .i64 l[m + 1].n) ∧ W.cell? ⟨b, off + (m + 1) * 3 + 2, none⟩ = some (.string ⟨l[m + 1].t.toArray⟩)) := fun W hb =>
        ⟨(HA.out.below (hb.mono hw)).three m (by omega), (HA.out.below (hb.mono hw)).three (m + 1) hlt⟩
      have CP : Hid (∀ W, Below w.heap.size w W → Calls Try.prog 17 #[.agg #[.int .i64 l[m].k, .int .i64 l[m].n, .string ⟨l[m].t.toArray⟩], .agg #[.int .i64 l[m + 1].k, .int .i64 l[m + 1].n, .string ⟨l[m + 1].t.toArray⟩]] W fun e w' => e = .returned (.int .i64 (cmpA l[m] l[m + 1])) ∧ Below w.heap.size w w') := fun W h => (compareI l[m] l[m + 1] W).mono (fun e w' ⟨he, hB⟩ => ⟨he, h.trans (hB.mono h.size)⟩)
      have hm1 : (m : Int) < (l.length : Int) := by omega
      have hm2 : (m : Int) + 1 < (l.length : Int) := by omega
      have hm0 : (0 : Int) ≤ (m : Int) := by omega
      have hm3 : (0 : Int) ≤ (m : Int) + 1 := by omega
      have hsb : ((m + 1 : Nat) : Int) - 1 = (m : Int) := by omega
      have hwm : IntKind.i64.wrap (m : Int) = (m : Int) := by rw [IntKind.wrap_i64]; omega
      have g0 := (CE.out _ hx).1.1; have g1 := (CE.out _ hx).1.2.1; have g2 := (CE.out _ hx).1.2.2
      have f0 := (CE.out _ hx).2.1; have f1 := (CE.out _ hx).2.2.1; have f2 := (CE.out _ hx).2.2.2
      by_cases hr : cmpA l[m] l[m + 1] < 0
      · have HN : Hid (∀ q (h : q + 1 < l.length), q + 1 < m + 1 + 1 → cmpA l[q] l[q + 1] < 0) := fun q h hq => by
          by_cases e : q = m
          · subst e; exact hr
          · exact HW.out.1 q h (by omega)
        have hd : decide (cmpA l[m] l[m + 1] ≥ 0) = false := by simp; omega
        have hd2 : decide (0 ≤ cmpA l[m] l[m + 1]) = false := by simp; omega
        clear hr HW
        generalize cmpA l[m] l[m + 1] = q at *
        generalize l[m] = x at *
        generalize l[m + 1] = y at *
        go_wp2_with fail
        go_region_with (go_at_call 17; refine (CP.out _ ?_).mono ?_; first | exact hx | exact hx.drew; rintro e w1 ⟨rfl, hx1⟩)
        all_goals
          go_wp2_with fail
          go_roundw
          case rel => exact ⟨m + 1 + 1, by omega, by unfold maxLen; omega, by go_num, HN.out, hx1⟩
          case measure => simp [intOf]; omega
      · have HR : Hid (riseB l = false) := rise_no hlt hr
        have hd : decide (cmpA l[m] l[m + 1] ≥ 0) = true := by simp; omega
        have hd2 : decide (0 ≤ cmpA l[m] l[m + 1]) = true := by simp; omega
        clear hr HW
        generalize cmpA l[m] l[m + 1] = q at *
        generalize l[m] = x at *
        generalize l[m + 1] = y at *
        go_wp2_with fail
        go_region_with (go_at_call 17; refine (CP.out _ ?_).mono ?_; first | exact hx | exact hx.drew; rintro e w1 ⟨rfl, hx1⟩)
        all_goals
          go_wp2_with fail
          go_ret
          exact ⟨ret_b HR.out.symm, hx1⟩
    · have HR : Hid (riseB l = true) := rise_yes (fun m h => HW.out.1 m h (by omega))
      have hmi : decide ((k : Int) < (l.length : Int)) = false := by simp; omega
      have hx := HW.out.2
      go_wp2_with fail
      go_ret
      exact ⟨ret_b HR.out.symm, hx⟩
end Go.Proofs.Ytpdidfbeelgpmaa
namespace Go.Proofs.Ytpdidfbeelgpmaa
open Go.RowKit
set_option linter.unusedSimpArgs false
theorem errFrom_zero (l : List At) : ∀ n i, errFrom l n i = 0 ↔ ∀ j, i ≤ j → j < i + n → errAt l j = 0
  | 0, i => ⟨fun _ j h h' => by omega, fun _ => rfl⟩
  | n + 1, i => by
    rw [errFrom]
    constructor
    · intro h j h1 h2
      split at h
      · rename_i e
        by_cases hj : j = i
        · rw [hj]; exact e
        · exact (errFrom_zero l n (i + 1)).1 h j (by omega) (by omega)
      · rename_i e
        exact absurd h e
    · intro h
      rw [if_pos (h i (by omega) (by omega))]
      exact (errFrom_zero l n (i + 1)).2 (fun j h1 h2 => h j (by omega) (by omega))
theorem errOf_zero (l : List At) : errOf l = 0 ↔ ∀ j, j < l.length → errAt l j = 0 := by
  unfold errOf
  rw [errFrom_zero]
  exact ⟨fun h j hj => h j (by omega) (by omega), fun h j _ hj => h j (by omega)⟩
theorem errAt_zero {l : List At} {i : Nat} : errAt l i = 0 ↔ atOK (l.getD i atZ) = true ∧ (l.getD i atZ).k = (l.getD 0 atZ).k := by
  unfold errAt
  split
  · rename_i h
    exact ⟨fun h => by omega, fun h' => by rw [h] at h'; exact absurd h'.1 (by simp)⟩
  · rename_i h
    split
    · rename_i h2
      exact ⟨fun h => by omega, fun h' => absurd h'.2 h2⟩
    · rename_i h2
      exact ⟨fun _ => ⟨by simpa using h, by simpa using h2⟩, fun _ => rfl⟩
theorem datumB_eq (l : List At) : datumB l = (decide (l.length ≤ 8) && (decide (errOf l = 0) && riseB l)) := by
  unfold datumB
  congr 1
  rw [Bool.eq_iff_iff, List.all_eq_true, Bool.and_eq_true, decide_eq_true_iff, errOf_zero]
  unfold riseB
  rw [List.all_eq_true]
  unfold stepB
  constructor
  · intro h
    refine ⟨fun j hj => ?_, fun j hj => ?_⟩
    · have := h j (List.mem_range.2 hj)
      rw [Bool.and_eq_true, Bool.and_eq_true, beq_iff_eq] at this
      exact errAt_zero.2 ⟨this.1, this.2.1⟩
    · have := h j hj
      rw [Bool.and_eq_true, Bool.and_eq_true] at this
      exact this.2.2
  · intro h j hj
    have h1 := errAt_zero.1 (h.1 j (List.mem_range.1 hj))
    rw [Bool.and_eq_true, Bool.and_eq_true, beq_iff_eq]
    exact ⟨h1.1, h1.2, h.2 j hj⟩
set_option maxRecDepth 100000 in
set_option maxHeartbeats 3200000 in
theorem datumOKi (l : List At) (a : Option Addr) (c : Nat) (S : Nat) (w : World) (hl : l.length ≤ maxLen) (hx : ∀ x ∈ l, x.t.length ≤ maxLen) (hw : S ≤ w.heap.size) (hA : Ats w (· < S) a l) :
    Calls Try.prog 8 #[.slice a l.length c] w fun e w' => e = .returned (.bool (datumB l)) ∧ Below w.heap.size w w' := by
  have AC : Hid (∀ W, Below w.heap.size w W → Calls Try.prog 14 #[.slice a l.length c] W fun e w' => e = .returned (.int .i64 (errOf l)) ∧ Below w.heap.size w w') := fun W h => (atomsCodeI l a c S W hl hx (Nat.le_trans hw h.size) (hA.below (h.mono hw))).mono (fun e w' ⟨he, hB⟩ => ⟨he, h.trans (hB.mono h.size)⟩)
  have RI : Hid (∀ W, Below w.heap.size w W → Calls Try.prog 16 #[.slice a l.length c, .func (.func 17) #[] #[]] W fun e w' => e = .returned (.bool (riseB l)) ∧ Below w.heap.size w w') := fun W h => (risesI l a c S W hl (Nat.le_trans hw h.size) (hA.below (h.mono hw))).mono (fun e w' ⟨he, hB⟩ => ⟨he, h.trans (hB.mono h.size)⟩)
  have HD : Hid (datumB l = _) := datumB_eq l
  have hr := Below.refl w.heap.size w
  unfold maxLen at hl
  clear hA hx hw
  by_cases h8 : l.length ≤ 8
  case neg =>
    have d8 : decide ((l.length : Int) ≤ 8) = false := by simp; omega
    have HR : Hid (datumB l = false) := datumB_long (by omega)
    clear h8 HD
    go_enter Try.func8, Try.ntmps8
    go_wp2_with fail
    go_ret
    exact ⟨ret_b HR.out.symm, hr⟩
  have d8 : decide ((l.length : Int) ≤ 8) = true := by simp; omega
  by_cases he : errOf l = 0
  case neg =>
    have HR : Hid (datumB l = false) := by show datumB l = false; rw [HD.out, decide_eq_false he]; simp
    have d9 : (errOf l == 0) = false := by simpa using he
    clear h8 HD he
    generalize errOf l = q at *
    go_enter Try.func8, Try.ntmps8
    go_wp2_with (go_at_call 14; refine (AC.out _ hr).mono ?_; rintro e w1 ⟨rfl, hr⟩)
    go_ret
    exact ⟨ret_b HR.out.symm, hr⟩
  have HR : Hid (datumB l = riseB l) := by show datumB l = riseB l; rw [HD.out, decide_eq_true he, decide_eq_true h8]; simp
  rw [he] at AC
  clear h8 HD he
  generalize riseB l = q at *
  go_enter Try.func8, Try.ntmps8
  go_wp2_with (first | (go_at_call 14; refine (AC.out _ hr).mono ?_; rintro e w1 ⟨rfl, hr⟩) | (go_at_call 16; refine (RI.out _ hr).mono ?_; rintro e w2 ⟨rfl, hr⟩))
  go_ret
  exact ⟨ret_b HR.out.symm, hr⟩
/-- the place of an atom, or -1 -/
def idxA (l : List At) (x : At) (k : Nat) : Prop := ∃ h : k < l.length, l[k] = x ∧ ∀ m (h : m < l.length), m < k → l[m] ≠ x
def IdxAns (l : List At) (x : At) (w : World) (e : Ending) (w' : World) : Prop := ∃ q : Int, e = .returned (.int .i64 q) ∧ decide (q ≥ 0) = hasB l x ∧ Below w.heap.size w w'
set_option maxHeartbeats 3200000 in
theorem indexI (l : List At) (x : At) (a : Option Addr) (c : Nat) (B : Nat → Prop) (w : World) (hl : l.length ≤ maxLen) (hA : Ats w B a l) :
    Calls Try.prog 28 #[.slice a l.length c, .agg #[.int .i64 x.k, .int .i64 x.n, .string ⟨x.t.toArray⟩]] w (IdxAns l x w) := by
  unfold maxLen at hl
  have HA : Hid (Ats w B a l) := hA
  clear hA
  go_enter Try.func28, Try.ntmps28
  go_wp2_with fail
  go_loopw [8] (fun i wr => ∃ k : Nat, k ≤ l.length ∧ i = .int .i64 k ∧ Hid ((∀ m (h : m < l.length), m < k → l[m] ≠ x) ∧ BoxA w wr x)) (fun i _ => l.length - (intOf i).toNat)
  case atStart => exact ⟨0, Nat.zero_le _, rfl, fun m _ h => absurd h (by omega), heap_newA _ _, (Below.refl _ _).alloc (Nat.le_refl _) _⟩
  case round =>
    obtain ⟨k, hk, rfl, HW⟩ := hrel
    have x0 := cell_at (o := 0) HW.out.2.1 rfl
    have x1 := cell_at (o := 1) HW.out.2.1 rfl
    have x2 := cell_at (o := 2) HW.out.2.1 rfl
    by_cases hlt : k < l.length
    · obtain ⟨b, off, rfl, -, c0, c1, c2⟩ := (HA.out.later HW.out.2.2).item k hlt
      have hki : (k : Int) < (l.length : Int) := by omega
      by_cases he : l[k] = x
      · have HR : Hid (hasB l x = true) := hasB_true hlt he
        rw [he] at c0 c1 c2
        clear he
        go_wp2_with fail
        go_quiet (fail)
        go_wp2_with fail
        go_ret
        exact ⟨k, rfl, by rw [HR.out]; exact decide_eq_true (by omega), (HW.out.2.drewN _).2⟩
      · have HN : Hid (∀ m (h : m < l.length), m < k + 1 → l[m] ≠ x) := fun m h hm => by
          by_cases e : m = k
          · subst e; exact he
          · exact HW.out.1 m h (by omega)
        rcases differ (fun e => he e.symm) with hd | ⟨hd, hd2⟩ | ⟨hd, hd2, hd3⟩
        · clear he
          go_wp2_with fail
          go_quiet (fail)
          go_wp2_with fail
          go_roundw
          case rel => exact ⟨k + 1, by omega, by go_num, HN.out, HW.out.2.drewN _⟩
          case measure => simp [intOf]; omega
        · rw [← hd] at c0
          clear he hd
          go_wp2_with fail
          go_quiet (fail)
          go_wp2_with fail
          go_roundw
          case rel => exact ⟨k + 1, by omega, by go_num, HN.out, HW.out.2.drewN _⟩
          case measure => simp [intOf]; omega
        · rw [← hd] at c0
          rw [← hd2] at c1
          clear he hd hd2
          go_wp2_with fail
          go_quiet (fail)
          go_wp2_with fail
          go_roundw
          case rel => exact ⟨k + 1, by omega, by go_num, HN.out, HW.out.2.drewN _⟩
          case measure => simp [intOf]; omega
    · have HR : Hid (hasB l x = false) := hasB_false (fun m h => HW.out.1 m h (by omega))
      have hki : decide ((k : Int) < (l.length : Int)) = false := by simp; omega
      go_wp2_with fail
      go_ret
      exact ⟨-1, rfl, by rw [HR.out]; rfl, HW.out.2.2⟩
set_option maxHeartbeats 1600000 in
theorem containsI (l : List At) (x : At) (a : Option Addr) (c : Nat) (B : Nat → Prop) (w : World) (hl : l.length ≤ maxLen) (hA : Ats w B a l) :
    Calls Try.prog 19 #[.slice a l.length c, .agg #[.int .i64 x.k, .int .i64 x.n, .string ⟨x.t.toArray⟩]] w fun e w' => e = .returned (.bool (hasB l x)) ∧ Below w.heap.size w w' := by
  have hx : BoxA w (w.alloc (.cells #[.int .i64 x.k, .int .i64 x.n, .string ⟨x.t.toArray⟩] 27)) x := ⟨heap_newA _ _, (Below.refl _ _).alloc (Nat.le_refl _) _⟩
  have IX : Hid (∀ W, BoxA w W x → Calls Try.prog 28 #[.slice a l.length c, .agg #[.int .i64 x.k, .int .i64 x.n, .string ⟨x.t.toArray⟩]] W fun e w' => ∃ q : Int, e = .returned (.int .i64 q) ∧ decide (q ≥ 0) = hasB l x ∧ BoxA w w' x) := fun W h => (indexI l x a c B W hl (hA.later h.2)).mono (fun e w' ⟨q, he, hq, hB⟩ => ⟨q, he, hq, h.later hB⟩)
  clear hA hl
  go_enter Try.func19, Try.ntmps19
  go_wp2_with (go_at_call 28; refine (IX.out _ hx).mono ?_; rintro e w1 ⟨q, rfl, hq, hx⟩)
  go_ret
  exact ⟨rfl, hx.2⟩
end Go.Proofs.Ytpdidfbeelgpmaa
