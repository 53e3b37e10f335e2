import Derived.Test.YtkncpfhblciplaaWaa
import Derived.WalkKit
import Derived.Deep.MidRow
namespace Go.Proofs.Ytkncpfhblciplaa
open Go.RowKit
def Strs (w : World) (B : Nat → Prop) (a : Option Addr) (keys : List (List UInt8)) : Prop :=
  keys.length = 0 ∨ ∃ b off, a = some ⟨b, off, none⟩ ∧ B b ∧ ∀ i (h : i < keys.length), w.cell? ⟨b, off + i, none⟩ = some (.string ⟨keys[i].toArray⟩)
def RJ (w : World) (B : Nat → Prop) : J → List Value → Prop
  | ⟨k, n, t, keys, items⟩ => fun cs => ∃ ka kc ia ic, cs = [.int .i64 k, .int .i64 n, .string ⟨t.toArray⟩, .slice ka keys.length kc, .slice ia items.length ic] ∧
      t.length ≤ maxLen ∧ keys.length ≤ maxLen ∧ items.length ≤ maxLen ∧ (∀ x ∈ keys, x.length ≤ maxLen) ∧ Strs w B ka keys ∧
      (items.length = 0 ∨ ∃ b off, ia = some ⟨b, off, none⟩ ∧ B b ∧ ∀ i p, (items.map fun x => RJ w B x)[i]? = some p → ∃ cs', w.rangeAt b (off + i * 5) cs' ∧ p cs')
def Jsons (w : World) (B : Nat → Prop) (ia : Option Addr) (items : List J) : Prop :=
  items.length = 0 ∨ ∃ b off, ia = some ⟨b, off, none⟩ ∧ B b ∧ ∀ i (h : i < items.length), ∃ cs', w.rangeAt b (off + i * 5) cs' ∧ RJ w B items[i] cs'
theorem RJ_eq (w : World) (B : Nat → Prop) (j : J) (cs : List Value) : RJ w B j cs = ∃ ka kc ia ic, cs = [.int .i64 j.k, .int .i64 j.n, .string ⟨j.t.toArray⟩, .slice ka j.keys.length kc, .slice ia j.items.length ic] ∧
      j.t.length ≤ maxLen ∧ j.keys.length ≤ maxLen ∧ j.items.length ≤ maxLen ∧ (∀ x ∈ j.keys, x.length ≤ maxLen) ∧ Strs w B ka j.keys ∧ Jsons w B ia j.items := by
  cases j with
  | mk k n t keys items =>
    rw [RJ]
    have e : ∀ (b off : Nat), (∀ i p, (items.map fun x => RJ w B x)[i]? = some p → ∃ cs', w.rangeAt b (off + i * 5) cs' ∧ p cs') = (∀ i (h : i < items.length), ∃ cs', w.rangeAt b (off + i * 5) cs' ∧ RJ w B items[i] cs') := fun b off => by
      apply propext
      constructor
      · intro h i hi
        exact h i _ (by rw [List.getElem?_map, List.getElem?_eq_getElem hi]; rfl)
      · intro h i p hp
        rw [List.getElem?_map, Option.map_eq_some_iff] at hp
        obtain ⟨x, hx, rfl⟩ := hp
        obtain ⟨hi, rfl⟩ := List.getElem?_eq_some_iff.1 hx
        exact h i hi
    simp only [e, Jsons]
theorem rangeAt_same {w w' : World} {b o : Nat} {cs : List Value} (h : w'.heap[b]? = w.heap[b]?) (hr : w.rangeAt b o cs) : w'.rangeAt b o cs :=
  fun j v hv => by rw [World.cell?_of_block (w := w) (a := ⟨b, o + j, none⟩) h]; exact hr j v hv
theorem Strs.same {w w' : World} {B B' : Nat → Prop} {a : Option Addr} {keys : List (List UInt8)} (h : Strs w B a keys) (hs : ∀ b, B b → w'.heap[b]? = w.heap[b]?) (hB : ∀ b, B b → B' b) : Strs w' B' a keys := by
  rcases h with h | ⟨b, off, ha, hb, hc⟩
  · exact .inl h
  · exact .inr ⟨b, off, ha, hB b hb, fun i hi => by rw [World.cell?_of_block (w := w) (a := ⟨b, off + i, none⟩) (hs b hb)]; exact hc i hi⟩
theorem RJ.same {w w' : World} {B B' : Nat → Prop} (hs : ∀ b, B b → w'.heap[b]? = w.heap[b]?) (hB : ∀ b, B b → B' b) (j : J) : ∀ cs, RJ w B j cs → RJ w' B' j cs := by
  induction j using J.induct with
  | h j ih =>
    intro cs h
    rw [RJ_eq] at h ⊢
    obtain ⟨ka, kc, ia, ic, e, h1, h2, h3, h4, hk, hi⟩ := h
    refine ⟨ka, kc, ia, ic, e, h1, h2, h3, h4, hk.same hs hB, ?_⟩
    rcases hi with hi | ⟨b, off, ha, hb, hc⟩
    · exact .inl hi
    · refine .inr ⟨b, off, ha, hB b hb, fun i hi => ?_⟩
      obtain ⟨cs', hr, hx⟩ := hc i hi
      exact ⟨cs', rangeAt_same (hs b hb) hr, ih _ (List.getElem_mem hi) cs' hx⟩
theorem Jsons.same {w w' : World} {B B' : Nat → Prop} {a : Option Addr} {items : List J} (h : Jsons w B a items) (hs : ∀ b, B b → w'.heap[b]? = w.heap[b]?) (hB : ∀ b, B b → B' b) : Jsons w' B' a items := by
  rcases h with hi | ⟨b, off, ha, hb, hc⟩
  · exact .inl hi
  · refine .inr ⟨b, off, ha, hB b hb, fun i hi => ?_⟩
    obtain ⟨cs', hr, hx⟩ := hc i hi
    exact ⟨cs', rangeAt_same (hs b hb) hr, RJ.same hs hB _ cs' hx⟩
theorem RJ.below {w w' : World} {S : Nat} {j : J} {cs : List Value} (h : RJ w (· < S) j cs) (hb : Below S w w') : RJ w' (· < S) j cs :=
  RJ.same (fun b hb' => hb.block b hb') (fun _ h => h) j cs h
theorem Jsons.below {w w' : World} {S : Nat} {ia : Option Addr} {items : List J} (h : Jsons w (· < S) ia items) (hb : Below S w w') : Jsons w' (· < S) ia items :=
  h.same (fun b hb' => hb.block b hb') (fun _ h => h)
theorem Strs.below {w w' : World} {S : Nat} {a : Option Addr} {keys : List (List UInt8)} (h : Strs w (· < S) a keys) (hb : Below S w w') : Strs w' (· < S) a keys :=
  h.same (fun b hb' => hb.block b hb') (fun _ h => h)
theorem Strs.inside {w : World} {B : Nat → Prop} {a : Option Addr} {keys : List (List UInt8)} (h : Strs w B a keys) : Strs w (fun b => B b ∧ b < w.heap.size) a keys := by
  by_cases h0 : keys.length = 0
  · exact .inl h0
  · rcases h with h | ⟨b, off, ha, hb, hc⟩
    · exact .inl h
    · exact .inr ⟨b, off, ha, ⟨hb, World.block_lt_of_cell? _ _ (hc 0 (by omega))⟩, hc⟩
theorem RJ.inside {w : World} {B : Nat → Prop} (j : J) : ∀ cs, RJ w B j cs → RJ w (fun b => B b ∧ b < w.heap.size) j cs := by
  induction j using J.induct with
  | h j ih =>
    intro cs h
    rw [RJ_eq] at h ⊢
    obtain ⟨ka, kc, ia, ic, e, h1, h2, h3, h4, hk, hi⟩ := h
    refine ⟨ka, kc, ia, ic, e, h1, h2, h3, h4, hk.inside, ?_⟩
    by_cases h0 : j.items.length = 0
    · exact .inl h0
    · rcases hi with hi | ⟨b, off, ha, hb, hc⟩
      · exact .inl hi
      · refine .inr ⟨b, off, ha, ⟨hb, ?_⟩, fun i hi => ?_⟩
        · obtain ⟨cs', hr, hx⟩ := hc 0 (by omega)
          rw [RJ_eq] at hx
          obtain ⟨_, _, _, _, rfl, _⟩ := hx
          exact World.block_lt_of_cell? _ _ (hr 0 _ rfl)
        · obtain ⟨cs', hr, hx⟩ := hc i hi
          exact ⟨cs', hr, ih _ (List.getElem_mem hi) cs' hx⟩
theorem RJ.later {w w' : World} {B : Nat → Prop} {j : J} {cs : List Value} (h : RJ w B j cs) (hb : Below w.heap.size w w') : RJ w' B j cs :=
  RJ.same (fun b hb' => hb.block b hb'.2) (fun _ h => h.1) j cs (RJ.inside j cs h)
theorem Strs.later {w w' : World} {B : Nat → Prop} {a : Option Addr} {keys : List (List UInt8)} (h : Strs w B a keys) (hb : Below w.heap.size w w') : Strs w' B a keys :=
  h.inside.same (fun b hb' => hb.block b hb'.2) (fun _ h => h.1)
theorem Jsons.later {w w' : World} {B : Nat → Prop} {a : Option Addr} {items : List J} (h : Jsons w B a items) (hb : Below w.heap.size w w') : Jsons w' B a items := by
  by_cases h0 : items.length = 0
  · exact .inl h0
  · rcases h with hi | ⟨b, off, ha, hb', hc⟩
    · exact .inl hi
    · refine .inr ⟨b, off, ha, hb', fun i hi => ?_⟩
      obtain ⟨cs', hr, hx⟩ := hc i hi
      have hlt : b < w.heap.size := by
        have hx' := hx
        rw [RJ_eq] at hx'
        obtain ⟨_, _, _, _, rfl, _⟩ := hx'
        exact World.block_lt_of_cell? _ _ (hr 0 _ rfl)
      exact ⟨cs', rangeAt_same (hb.block b hlt) hr, hx.later hb⟩
theorem Jsons.item {w : World} {B : Nat → Prop} {a : Option Addr} {items : List J} (h : Jsons w B a items) (k : Nat) (hk : k < items.length) :
    ∃ b off ka kc ia ic, a = some ⟨b, off, none⟩ ∧ B b ∧ w.cell? ⟨b, off + k * 5, none⟩ = some (.int .i64 items[k].k) ∧ w.cell? ⟨b, off + k * 5 + 1, none⟩ = some (.int .i64 items[k].n) ∧
      w.cell? ⟨b, off + k * 5 + 2, none⟩ = some (.string ⟨items[k].t.toArray⟩) ∧ w.cell? ⟨b, off + k * 5 + 3, none⟩ = some (.slice ka items[k].keys.length kc) ∧
      w.cell? ⟨b, off + k * 5 + 4, none⟩ = some (.slice ia items[k].items.length ic) ∧
      RJ w B items[k] [.int .i64 items[k].k, .int .i64 items[k].n, .string ⟨items[k].t.toArray⟩, .slice ka items[k].keys.length kc, .slice ia items[k].items.length ic] := by
  rcases h with h | ⟨b, off, ha, hb, hc⟩
  · omega
  · obtain ⟨cs, hr, hx⟩ := hc k hk
    have hx' := hx
    rw [RJ_eq] at hx
    obtain ⟨ka, kc, ia, ic, rfl, _⟩ := hx
    exact ⟨b, off, ka, kc, ia, ic, ha, hb, hr 0 _ rfl, hr 1 _ rfl, hr 2 _ rfl, hr 3 _ rfl, hr 4 _ rfl, hx'⟩
end Go.Proofs.Ytkncpfhblciplaa
