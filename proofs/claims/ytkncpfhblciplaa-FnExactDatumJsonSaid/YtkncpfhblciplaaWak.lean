import Derived.Test.YtkncpfhblciplaaWab
namespace Go.Proofs.Ytkncpfhblciplaa
open Go.RowKit
def OwnStrs (w : World) (B : Nat → Prop) (a : Option Addr) (keys : List (List UInt8)) : Prop :=
  keys.length = 0 ∨ ∃ b off, a = some ⟨b, off, none⟩ ∧ B b ∧ ∀ i (h : i < keys.length), w.cell? ⟨b, off + i, none⟩ = some (.string ⟨keys[i].toArray⟩) ∧ w.frozen? ⟨b, off + i, none⟩ = false
def OwnJ (w : World) : J → (Nat → Prop) → List Value → Prop
  | ⟨k, n, t, keys, items⟩ => fun B cs => ∃ ka kc ia ic, ∃ K I : Nat → Prop, cs = [.int .i64 k, .int .i64 n, .string ⟨t.toArray⟩, .slice ka keys.length kc, .slice ia items.length ic] ∧
      t.length ≤ maxLen ∧ keys.length ≤ maxLen ∧ items.length ≤ maxLen ∧ (∀ x ∈ keys, x.length ≤ maxLen) ∧ OwnStrs w K ka keys ∧ (∀ b, K b → B b ∧ ¬ I b) ∧ (∀ b, I b → B b) ∧
      (items.length = 0 ∨ ∃ b off, ∃ X : Nat → Nat → Prop, ia = some ⟨b, off, none⟩ ∧ I b ∧ (∀ i c, X i c → I c ∧ c ≠ b) ∧ (∀ i i' c, X i c → X i' c → i = i') ∧
        ∀ i p, (items.map fun x => OwnJ w x)[i]? = some p → ∃ cs', w.rangeAt b (off + i * 5) cs' ∧ (∀ o, o < 5 → w.frozen? ⟨b, off + i * 5 + o, none⟩ = false) ∧ p (X i) cs')
def OwnJsons (w : World) (I : Nat → Prop) (ia : Option Addr) (items : List J) : Prop :=
  items.length = 0 ∨ ∃ b off, ∃ X : Nat → Nat → Prop, ia = some ⟨b, off, none⟩ ∧ I b ∧ (∀ i c, X i c → I c ∧ c ≠ b) ∧ (∀ i i' c, X i c → X i' c → i = i') ∧
    ∀ i (h : i < items.length), ∃ cs', w.rangeAt b (off + i * 5) cs' ∧ (∀ o, o < 5 → w.frozen? ⟨b, off + i * 5 + o, none⟩ = false) ∧ OwnJ w items[i] (X i) cs'
theorem OwnJ_eq (w : World) (j : J) (B : Nat → Prop) (cs : List Value) : OwnJ w j B cs = ∃ ka kc ia ic, ∃ K I : Nat → Prop, cs = [.int .i64 j.k, .int .i64 j.n, .string ⟨j.t.toArray⟩, .slice ka j.keys.length kc, .slice ia j.items.length ic] ∧
      j.t.length ≤ maxLen ∧ j.keys.length ≤ maxLen ∧ j.items.length ≤ maxLen ∧ (∀ x ∈ j.keys, x.length ≤ maxLen) ∧ OwnStrs w K ka j.keys ∧ (∀ b, K b → B b ∧ ¬ I b) ∧ (∀ b, I b → B b) ∧ OwnJsons w I ia j.items := by
  cases j with
  | mk k n t keys items =>
    rw [OwnJ]
    have e : ∀ (b off : Nat) (X : Nat → Nat → Prop), (∀ i p, (items.map fun x => OwnJ w x)[i]? = some p → ∃ cs', w.rangeAt b (off + i * 5) cs' ∧ (∀ o, o < 5 → w.frozen? ⟨b, off + i * 5 + o, none⟩ = false) ∧ p (X i) cs')
        = (∀ i (h : i < items.length), ∃ cs', w.rangeAt b (off + i * 5) cs' ∧ (∀ o, o < 5 → w.frozen? ⟨b, off + i * 5 + o, none⟩ = false) ∧ OwnJ w items[i] (X i) cs') := fun b off X => by
      apply propext
      constructor
      · intro h i hi
        exact h i _ (by rw [List.getElem?_map, List.getElem?_eq_getElem hi]; rfl)
      · intro h i p hp
        rw [List.getElem?_map, Option.map_eq_some_iff] at hp
        obtain ⟨x, hx, rfl⟩ := hp
        obtain ⟨hi, rfl⟩ := List.getElem?_eq_some_iff.1 hx
        exact h i hi
    simp only [e, OwnJsons]
theorem OwnStrs.strs {w : World} {B : Nat → Prop} {a : Option Addr} {keys : List (List UInt8)} (h : OwnStrs w B a keys) : Strs w B a keys := by
  rcases h with h | ⟨b, off, ha, hb, hc⟩
  · exact .inl h
  · exact .inr ⟨b, off, ha, hb, fun i hi => (hc i hi).1⟩
theorem Strs.mono {w : World} {B B' : Nat → Prop} {a : Option Addr} {keys : List (List UInt8)} (h : Strs w B a keys) (hB : ∀ b, B b → B' b) : Strs w B' a keys := h.same (fun _ _ => rfl) hB
theorem OwnJ.rj {w : World} (j : J) : ∀ B cs, OwnJ w j B cs → RJ w B j cs := by
  induction j using J.induct with
  | h j ih =>
    intro B cs h
    rw [OwnJ_eq] at h
    rw [RJ_eq]
    obtain ⟨ka, kc, ia, ic, K, I, e, h1, h2, h3, h4, hk, hK, hI, hi⟩ := h
    refine ⟨ka, kc, ia, ic, e, h1, h2, h3, h4, hk.strs.mono (fun b hb => (hK b hb).1), ?_⟩
    rcases hi with hi | ⟨b, off, X, ha, hb, hX, -, hc⟩
    · exact .inl hi
    · refine .inr ⟨b, off, ha, hI b hb, fun i hi => ?_⟩
      obtain ⟨cs', hr, -, hx⟩ := hc i hi
      exact ⟨cs', hr, RJ.same (fun _ _ => rfl) (fun c h => hI c (hX i c h).1) _ _ (ih _ (List.getElem_mem hi) _ cs' hx)⟩
theorem frozen_same {w w' : World} {b o : Nat} (h : w'.heap[b]? = w.heap[b]?) : w'.frozen? ⟨b, o, none⟩ = w.frozen? ⟨b, o, none⟩ := World.frozen?_of_block (w := w) (a := ⟨b, o, none⟩) h
theorem OwnStrs.same {w w' : World} {B B' : Nat → Prop} {a : Option Addr} {keys : List (List UInt8)} (h : OwnStrs w B a keys) (hs : ∀ b, B b → w'.heap[b]? = w.heap[b]?) (hB : ∀ b, B b → B' b) : OwnStrs w' B' a keys := by
  rcases h with h | ⟨b, off, ha, hb, hc⟩
  · exact .inl h
  · exact .inr ⟨b, off, ha, hB b hb, fun i hi => ⟨by rw [World.cell?_of_block (w := w) (a := ⟨b, off + i, none⟩) (hs b hb)]; exact (hc i hi).1, by rw [frozen_same (hs b hb)]; exact (hc i hi).2⟩⟩
theorem OwnJ.same {w w' : World} (j : J) : ∀ B B' cs, (∀ b, B b → w'.heap[b]? = w.heap[b]?) → (∀ b, B b → B' b) → OwnJ w j B cs → OwnJ w' j B' cs := by
  induction j using J.induct with
  | h j ih =>
    intro B B' cs hs hB h
    rw [OwnJ_eq] at h ⊢
    obtain ⟨ka, kc, ia, ic, K, I, e, h1, h2, h3, h4, hk, hK, hI, hi⟩ := h
    refine ⟨ka, kc, ia, ic, K, I, e, h1, h2, h3, h4, hk.same (fun b hb => hs b (hK b hb).1) (fun _ h => h), fun b hb => ⟨hB b (hK b hb).1, (hK b hb).2⟩, fun b hb => hB b (hI b hb), ?_⟩
    rcases hi with hi | ⟨b, off, X, ha, hb, hX, hD, hc⟩
    · exact .inl hi
    · refine .inr ⟨b, off, X, ha, hb, hX, hD, fun i hi => ?_⟩
      obtain ⟨cs', hr, hf, hx⟩ := hc i hi
      refine ⟨cs', rangeAt_same (hs b (hI b hb)) hr, fun o ho => by rw [frozen_same (hs b (hI b hb))]; exact hf o ho, ih _ (List.getElem_mem hi) (X i) (X i) cs' (fun c h => hs c (hI c (hX i c h).1)) (fun _ h => h) hx⟩
theorem OwnJsons.same {w w' : World} {I I' : Nat → Prop} {ia : Option Addr} {items : List J} (h : OwnJsons w I ia items) (hs : ∀ b, I b → w'.heap[b]? = w.heap[b]?) (hI : ∀ b, I b → I' b) : OwnJsons w' I' ia items := by
  rcases h with hi | ⟨b, off, X, ha, hb, hX, hD, hc⟩
  · exact .inl hi
  · refine .inr ⟨b, off, X, ha, hI b hb, fun i c h => ⟨hI c (hX i c h).1, (hX i c h).2⟩, hD, fun i hi => ?_⟩
    obtain ⟨cs', hr, hf, hx⟩ := hc i hi
    exact ⟨cs', rangeAt_same (hs b hb) hr, fun o ho => by rw [frozen_same (hs b hb)]; exact hf o ho, OwnJ.same _ _ _ cs' (fun c h => hs c (hX i c h).1) (fun _ h => h) hx⟩
structure Frm (B : Nat → Prop) (w w' : World) : Prop where
  os : w'.os = w.os
  tape : w'.tape = w.tape
  output : w'.output = w.output
  size : w.heap.size ≤ w'.heap.size
  block : ∀ b, b < w.heap.size → ¬ B b → w'.heap[b]? = w.heap[b]?
theorem Frm.refl (B : Nat → Prop) (w : World) : Frm B w w := ⟨rfl, rfl, rfl, Nat.le_refl _, fun _ _ _ => rfl⟩
theorem Frm.trans {B : Nat → Prop} {a b c : World} (h : Frm B a b) (k : Frm B b c) : Frm B a c :=
  ⟨k.os.trans h.os, k.tape.trans h.tape, k.output.trans h.output, Nat.le_trans h.size k.size, fun i hi hn => (k.block i (Nat.lt_of_lt_of_le hi h.size) hn).trans (h.block i hi hn)⟩
theorem Frm.mono {B B' : Nat → Prop} {w w' : World} (h : Frm B w w') (hB : ∀ b, B b → B' b) : Frm B' w w' := ⟨h.os, h.tape, h.output, h.size, fun b hb hn => h.block b hb (fun h => hn (hB b h))⟩
theorem Frm.of_below {B : Nat → Prop} {w w' : World} (h : Below w.heap.size w w') : Frm B w w' := ⟨h.os, h.tape, h.output, h.size, fun b hb _ => h.block b hb⟩
theorem Frm.below {B : Nat → Prop} {w w' : World} {S : Nat} (h : Frm B w w') (hS : S ≤ w.heap.size) (hB : ∀ b, b < S → ¬ B b) : Below S w w' := ⟨h.os, h.tape, h.output, h.size, fun b hb => h.block b (by omega) (hB b hb)⟩
theorem Frm.set {B : Nat → Prop} {a w : World} (h : Frm B a w) {b o : Nat} (hb : B b) (v : Value) : Frm B a (w.setCell ⟨b, o, none⟩ v) :=
  h.trans ⟨rfl, rfl, rfl, by simp [World.setCell], fun c _ hn => Below.heap_setCell _ _ _ _ (by intro e; exact hn (e ▸ hb))⟩
end Go.Proofs.Ytkncpfhblciplaa
