import Derived.Test.YtenioffildinbaaZap
namespace Go.Proofs.Ytenioffildinbaa
open Go.RowKit
set_option linter.unusedSimpArgs false
def Rw (w : World) (B : Nat → Prop) (a : Option Addr) (n : Nat) (f : Nat → Value) : Prop :=
  n = 0 ∨ ∃ b off, a = some ⟨b, off, none⟩ ∧ B b ∧ ∀ m, m < n → w.cell? ⟨b, off + m, none⟩ = some (f m)
theorem Rw.same {w w' : World} {B B' : Nat → Prop} {a : Option Addr} {n : Nat} {f : Nat → Value} (h : Rw w B a n f) (hs : ∀ b, B b → w'.heap[b]? = w.heap[b]?) (hB : ∀ b, B b → B' b) : Rw w' B' a n f := by
  rcases h with h | ⟨b, off, ha, hb, hc⟩
  · exact .inl h
  · exact .inr ⟨b, off, ha, hB b hb, fun m hm => by rw [World.cell?_of_block (w := w) (a := ⟨b, off + m, none⟩) (hs b hb)]; exact hc m hm⟩
theorem Rw.inside {w : World} {B : Nat → Prop} {a : Option Addr} {n : Nat} {f : Nat → Value} (h : Rw w B a n f) : Rw w (fun b => B b ∧ b < w.heap.size) a n f := by
  rcases h with h | ⟨b, off, ha, hb, hc⟩
  · exact .inl h
  · by_cases h0 : n = 0
    · exact .inl h0
    · exact .inr ⟨b, off, ha, ⟨hb, World.block_lt_of_cell? _ _ (hc 0 (by omega))⟩, hc⟩
theorem Rw.at {w : World} {B : Nat → Prop} {a : Option Addr} {n : Nat} {f : Nat → Value} (h : Rw w B a n f) (k : Nat) (hk : k < n) : ∃ b off, a = some ⟨b, off, none⟩ ∧ B b ∧ ∀ m, m < n → w.cell? ⟨b, off + m, none⟩ = some (f m) := by
  rcases h with h | h
  · omega
  · exact h
def clZ : Cl := ⟨[], 0, 0, 0, 0, 0, [], false⟩
def clF (l : List Cl) (m : Nat) : Value :=
  if m % 8 = 0 then .string ⟨(l.getD (m / 8) clZ).nm.toArray⟩ else if m % 8 = 1 then .int .i64 (l.getD (m / 8) clZ).k else if m % 8 = 2 then .int .i64 (l.getD (m / 8) clZ).mn else if m % 8 = 3 then .int .i64 (l.getD (m / 8) clZ).mx
  else if m % 8 = 4 then .int .i64 (l.getD (m / 8) clZ).lo else if m % 8 = 5 then .int .i64 (l.getD (m / 8) clZ).hi else if m % 8 = 6 then .string ⟨(l.getD (m / 8) clZ).rf.toArray⟩ else .bool (l.getD (m / 8) clZ).st
theorem cl_getD {l : List Cl} {i : Nat} (h : i < l.length) : l.getD i clZ = l[i] := by rw [List.getD_eq_getElem?_getD, List.getElem?_eq_getElem h]; rfl
theorem clF_at {l : List Cl} {i j : Nat} (h : i < l.length) (hj : j < 8) : clF l (i * 8 + j) = [Value.string ⟨l[i].nm.toArray⟩, .int .i64 l[i].k, .int .i64 l[i].mn, .int .i64 l[i].mx, .int .i64 l[i].lo, .int .i64 l[i].hi, .string ⟨l[i].rf.toArray⟩, .bool l[i].st].getD j undef := by
  unfold clF
  rw [show (i * 8 + j) % 8 = j by omega, show (i * 8 + j) / 8 = i by omega, cl_getD h]
  match j, hj with
  | 0, _ => rfl
  | 1, _ => rfl
  | 2, _ => rfl
  | 3, _ => rfl
  | 4, _ => rfl
  | 5, _ => rfl
  | 6, _ => rfl
  | 7, _ => rfl
def Cols (w : World) (B : Nat → Prop) (a : Option Addr) (l : List Cl) : Prop := Rw w B a (l.length * 8) (clF l)
def ColAt (w : World) (b o : Nat) (x : Cl) : Prop := w.cell? ⟨b, o, none⟩ = some (.string ⟨x.nm.toArray⟩) ∧ w.cell? ⟨b, o + 1, none⟩ = some (.int .i64 x.k) ∧ w.cell? ⟨b, o + 2, none⟩ = some (.int .i64 x.mn) ∧ w.cell? ⟨b, o + 3, none⟩ = some (.int .i64 x.mx) ∧ w.cell? ⟨b, o + 4, none⟩ = some (.int .i64 x.lo) ∧ w.cell? ⟨b, o + 5, none⟩ = some (.int .i64 x.hi) ∧ w.cell? ⟨b, o + 6, none⟩ = some (.string ⟨x.rf.toArray⟩) ∧ w.cell? ⟨b, o + 7, none⟩ = some (.bool x.st)
theorem Cols.at {w : World} {B : Nat → Prop} {a : Option Addr} {l : List Cl} (h : Cols w B a l) (k : Nat) (hk : k < l.length) : ∃ b off, a = some ⟨b, off, none⟩ ∧ B b ∧ ∀ i (h : i < l.length), ColAt w b (off + i * 8) l[i] := by
  obtain ⟨b, off, e, hb, hc⟩ := Rw.at h (k * 8) (by omega)
  refine ⟨b, off, e, hb, fun i hi => ?_⟩
  have g : ∀ j, j < 8 → w.cell? ⟨b, off + i * 8 + j, none⟩ = _ := fun j hj => by rw [Nat.add_assoc, hc _ (by omega), clF_at hi hj]
  exact ⟨g 0 (by omega), g 1 (by omega), g 2 (by omega), g 3 (by omega), g 4 (by omega), g 5 (by omega), g 6 (by omega), g 7 (by omega)⟩
def Ints (w : World) (B : Nat → Prop) (a : Option Addr) (l : List Int) : Prop := Rw w B a l.length (fun m => .int .i64 (l.getD m 0))
theorem Ints.at {w : World} {B : Nat → Prop} {a : Option Addr} {l : List Int} (h : Ints w B a l) (k : Nat) (hk : k < l.length) : ∃ b off, a = some ⟨b, off, none⟩ ∧ B b ∧ ∀ i (h : i < l.length), w.cell? ⟨b, off + i, none⟩ = some (.int .i64 l[i]) := by
  obtain ⟨b, off, e, hb, hc⟩ := Rw.at h k hk
  refine ⟨b, off, e, hb, fun i hi => ?_⟩
  rw [hc i hi, List.getD_eq_getElem?_getD, List.getElem?_eq_getElem hi]; rfl
def Tb.Has (w : World) (B : Nat → Prop) (t : Tb) (ca ua : Option Addr) : Prop := Cols w B ca t.cols ∧ Ints w B ua t.uq
theorem Tb.Has.same {w w' : World} {B B' : Nat → Prop} {t : Tb} {ca ua : Option Addr} (h : t.Has w B ca ua) (hs : ∀ b, B b → w'.heap[b]? = w.heap[b]?) (hB : ∀ b, B b → B' b) : t.Has w' B' ca ua := ⟨Rw.same h.1 hs hB, Rw.same h.2 hs hB⟩
theorem Tb.Has.below {w w' : World} {S : Nat} {t : Tb} {ca ua : Option Addr} (h : t.Has w (· < S) ca ua) (hb : Below S w w') : t.Has w' (· < S) ca ua := h.same (fun b hb' => hb.block b hb') (fun _ h => h)
theorem Tb.Has.inside {w : World} {B : Nat → Prop} {t : Tb} {ca ua : Option Addr} (h : t.Has w B ca ua) : t.Has w (fun b => B b ∧ b < w.heap.size) ca ua := ⟨Rw.inside h.1, Rw.inside h.2⟩
theorem Tb.Has.later {w w' : World} {B : Nat → Prop} {t : Tb} {ca ua : Option Addr} (h : t.Has w B ca ua) (hb : Below w.heap.size w w') : t.Has w' B ca ua := h.inside.same (fun b hb' => hb.block b hb'.2) (fun _ h => h.1)
theorem Cols.later {w w' : World} {B : Nat → Prop} {a : Option Addr} {l : List Cl} (h : Cols w B a l) (hb : Below w.heap.size w w') : Cols w' B a l := (Rw.inside h).same (fun b hb' => hb.block b hb'.2) (fun _ h => h.1)
theorem Ints.later {w w' : World} {B : Nat → Prop} {a : Option Addr} {l : List Int} (h : Ints w B a l) (hb : Below w.heap.size w w') : Ints w' B a l := (Rw.inside h).same (fun b hb' => hb.block b hb'.2) (fun _ h => h.1)
def szCs (l : List Cl) : Nat := l.length + (l.map Cl.sz).sum
def Tb.sz (t : Tb) : Nat := t.nm.length + szCs t.cols + t.uq.length
def Cl.ok (x : Cl) : Prop := x.nm.length ≤ maxLen ∧ x.rf.length ≤ maxLen
def Tb.ok (t : Tb) : Prop := t.nm.length ≤ maxLen ∧ t.cols.length ≤ maxLen ∧ (∀ x ∈ t.cols, x.ok) ∧ t.uq.length ≤ maxLen
end Go.Proofs.Ytenioffildinbaa
