import Derived.Test.YtenioffildinbaaZar
namespace Go.Proofs.Ytenioffildinbaa
open Go.RowKit
set_option linter.unusedSimpArgs false
structure Ad where
  ca : Option Addr
  cc : Nat
  ua : Option Addr
  uc : Nat
def tbZ : Tb := ⟨[], [], [], false⟩
def tbF (l : List Tb) (A : Nat → Ad) (m : Nat) : Value :=
  if m % 4 = 0 then .string ⟨(l.getD (m / 4) tbZ).nm.toArray⟩ else if m % 4 = 1 then .slice (A (m / 4)).ca (l.getD (m / 4) tbZ).cols.length (A (m / 4)).cc
  else if m % 4 = 2 then .slice (A (m / 4)).ua (l.getD (m / 4) tbZ).uq.length (A (m / 4)).uc else .bool (l.getD (m / 4) tbZ).rt
theorem tb_getD {l : List Tb} {i : Nat} (h : i < l.length) : l.getD i tbZ = l[i] := by rw [List.getD_eq_getElem?_getD, List.getElem?_eq_getElem h]; rfl
def tbC (t : Tb) (a : Ad) : List Value := [.string ⟨t.nm.toArray⟩, .slice a.ca t.cols.length a.cc, .slice a.ua t.uq.length a.uc, .bool t.rt]
theorem tbF_at {l : List Tb} {A : Nat → Ad} {i j : Nat} (h : i < l.length) (hj : j < 4) : tbF l A (i * 4 + j) = (tbC l[i] (A i)).getD j undef := by
  unfold tbF
  rw [show (i * 4 + j) % 4 = j by omega, show (i * 4 + j) / 4 = i by omega, tb_getD h]
  match j, hj with
  | 0, _ => rfl
  | 1, _ => rfl
  | 2, _ => rfl
  | 3, _ => rfl
structure Tabs (w : World) (B : Nat → Prop) (a : Option Addr) (l : List Tb) (A : Nat → Ad) : Prop where
  row : Rw w B a (l.length * 4) (tbF l A)
  has : ∀ i (h : i < l.length), l[i].Has w B (A i).ca (A i).ua
def TabAt (w : World) (b o : Nat) (t : Tb) (a : Ad) : Prop := w.cell? ⟨b, o, none⟩ = some (.string ⟨t.nm.toArray⟩) ∧ w.cell? ⟨b, o + 1, none⟩ = some (.slice a.ca t.cols.length a.cc) ∧ w.cell? ⟨b, o + 2, none⟩ = some (.slice a.ua t.uq.length a.uc) ∧ w.cell? ⟨b, o + 3, none⟩ = some (.bool t.rt)
theorem Tabs.at {w : World} {B : Nat → Prop} {a : Option Addr} {l : List Tb} {A : Nat → Ad} (h : Tabs w B a l A) (k : Nat) (hk : k < l.length) : ∃ b off, a = some ⟨b, off, none⟩ ∧ B b ∧ ∀ i (h : i < l.length), TabAt w b (off + i * 4) l[i] (A i) := by
  obtain ⟨b, off, e, hb, hc⟩ := Rw.at h.row (k * 4) (by omega)
  refine ⟨b, off, e, hb, fun i hi => ?_⟩
  have g : ∀ j, j < 4 → w.cell? ⟨b, off + i * 4 + j, none⟩ = _ := fun j hj => by rw [Nat.add_assoc, hc _ (by omega), tbF_at hi hj]
  exact ⟨g 0 (by omega), g 1 (by omega), g 2 (by omega), g 3 (by omega)⟩
theorem Tabs.same {w w' : World} {B B' : Nat → Prop} {a : Option Addr} {l : List Tb} {A : Nat → Ad} (h : Tabs w B a l A) (hs : ∀ b, B b → w'.heap[b]? = w.heap[b]?) (hB : ∀ b, B b → B' b) : Tabs w' B' a l A := ⟨h.row.same hs hB, fun i hi => (h.has i hi).same hs hB⟩
theorem Tabs.later {w w' : World} {B : Nat → Prop} {a : Option Addr} {l : List Tb} {A : Nat → Ad} (h : Tabs w B a l A) (hb : Below w.heap.size w w') : Tabs w' B a l A := ⟨h.row.inside.same (fun b hb' => hb.block b hb'.2) (fun _ h => h.1), fun i hi => (h.has i hi).later hb⟩
theorem Tabs.spot {w : World} {B : Nat → Prop} {b off : Nat} {l : List Tb} {A : Nat → Ad} (h : Tabs w B (some ⟨b, off, none⟩) l A) (i : Nat) (hi : i < l.length) : TabAt w b (off + i * 4) l[i] (A i) := by
  obtain ⟨b', off', e, -, hc⟩ := h.at i hi
  simp only [Option.some.injEq, Addr.mk.injEq, and_true] at e
  obtain ⟨rfl, rfl⟩ := e
  exact hc i hi
def TbsOk (l : List Tb) : Prop := l.length ≤ maxLen ∧ ∀ t ∈ l, t.ok
end Go.Proofs.Ytenioffildinbaa
