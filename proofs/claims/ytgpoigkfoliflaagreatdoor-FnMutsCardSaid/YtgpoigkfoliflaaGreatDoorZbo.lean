import Derived.Test.YtgpoigkfoliflaaGreatDoorZag
import Derived.Test.YtgpoigkfoliflaaGreatDoorZaa
namespace Go.Proofs.YtgpoigkfoliflaaGreatDoor
open Go.RowKit
set_option linter.unusedSimpArgs false
structure Ad where
  ca : Option Addr
  cc : Nat
  ua : Option Addr
  uc : Nat
def tbZ : Tb := ⟨[], [], [], false⟩
def tbC (t : Tb) (a : Ad) : List Value := [.string ⟨t.nm.toArray⟩, .slice a.ca t.cols.length a.cc, .slice a.ua t.uq.length a.uc, .bool t.rt]
def TabAt (w : World) (b o : Nat) (t : Tb) (a : Ad) : Prop := w.cell? ⟨b, o, none⟩ = some (.string ⟨t.nm.toArray⟩) ∧ w.cell? ⟨b, o + 1, none⟩ = some (.slice a.ca t.cols.length a.cc) ∧ w.cell? ⟨b, o + 2, none⟩ = some (.slice a.ua t.uq.length a.uc) ∧ w.cell? ⟨b, o + 3, none⟩ = some (.bool t.rt)
end Go.Proofs.YtgpoigkfoliflaaGreatDoor
namespace Go.Proofs.YtgpoigkfoliflaaGreatDoor
open Go.RowKit
set_option linter.unusedSimpArgs false
theorem OwnRw.frm {w w' : World} {c : Nat} {a : Option Addr} {n : Nat} {f : Nat → Value} {B : Nat → Prop} (h : OwnRw w (· = c) a n f) (hF : Frm B w w') (hn : ¬ B c) : OwnRw w' (· = c) a n f := by
  rcases h with h | ⟨b, off, ha, hb, hc⟩
  · exact .inl h
  · by_cases h0 : n = 0
    · exact .inl h0
    · have hlt : b < w.heap.size := World.block_lt_of_cell? w ⟨b, off + 0, none⟩ (hc 0 (by omega)).1
      have hb' : b = c := hb
      exact OwnRw.same (B := (· = c)) (.inr ⟨b, off, ha, hb, hc⟩) (fun b' h' => by
        have e : b' = c := h'
        rw [e, ← hb']
        exact hF.block b hlt (by rw [hb']; exact hn)) (fun _ h => h)
def tF (T : Nat → Tb) (A : Nat → Ad) (m : Nat) : Value := (tbC (T (m / 4)) (A (m / 4))).getD (m % 4) undef
theorem tF_at (T : Nat → Tb) (A : Nat → Ad) (i j : Nat) (hj : j < 4) : tF T A (i * 4 + j) = (tbC (T i) (A i)).getD j undef := by
  unfold tF
  rw [show (i * 4 + j) % 4 = j by omega, show (i * 4 + j) / 4 = i by omega]
structure OwnT (w : World) (n : Nat) (T : Nat → Tb) (A : Nat → Ad) (a : Option Addr) (rb : Nat) (cb ub : Nat → Nat) : Prop where
  row : OwnRw w (· = rb) a (n * 4) (tF T A)
  cols : ∀ i, i < n → OwnCols w (· = cb i) (A i).ca (T i).cols
  ints : ∀ i, i < n → OwnInts w (· = ub i) (A i).ua (T i).uq
structure Apart (n rb : Nat) (cb ub : Nat → Nat) : Prop where
  rc : ∀ i, i < n → rb ≠ cb i
  ru : ∀ i, i < n → rb ≠ ub i
  cu : ∀ i j, i < n → j < n → cb i ≠ ub j
  cc : ∀ i j, i < n → j < n → i ≠ j → cb i ≠ cb j
  uu : ∀ i j, i < n → j < n → i ≠ j → ub i ≠ ub j
def InT (n rb : Nat) (cb ub : Nat → Nat) (b : Nat) : Prop := b = rb ∨ ∃ i, i < n ∧ (b = cb i ∨ b = ub i)
end Go.Proofs.YtgpoigkfoliflaaGreatDoor
namespace Go.Proofs.YtgpoigkfoliflaaGreatDoor
open Go.RowKit
set_option linter.unusedSimpArgs false
structure RdT (w : World) (n : Nat) (T : Nat → Tb) (A : Nat → Ad) (a : Option Addr) : Prop where
  row : Rw w (fun _ => True) a (n * 4) (tF T A)
  cols : ∀ i, i < n → Cols w (fun _ => True) (A i).ca (T i).cols
  ints : ∀ i, i < n → Ints w (fun _ => True) (A i).ua (T i).uq
theorem OwnT.rd {w : World} {n : Nat} {T : Nat → Tb} {A : Nat → Ad} {a : Option Addr} {rb : Nat} {cb ub : Nat → Nat} (h : OwnT w n T A a rb cb ub) : RdT w n T A a :=
  ⟨Rw.same (OwnRw.rw h.row) (fun _ _ => rfl) (fun _ _ => trivial), fun i hi => Rw.same (OwnRw.rw (h.cols i hi)) (fun _ _ => rfl) (fun _ _ => trivial), fun i hi => Rw.same (OwnRw.rw (h.ints i hi)) (fun _ _ => rfl) (fun _ _ => trivial)⟩
theorem Rw.later {w w' : World} {B : Nat → Prop} {a : Option Addr} {n : Nat} {f : Nat → Value} (h : Rw w B a n f) (hb : Below w.heap.size w w') : Rw w' B a n f := h.inside.same (fun b hb' => hb.block b hb'.2) (fun _ h => h.1)
theorem RdT.later {w w' : World} {n : Nat} {T : Nat → Tb} {A : Nat → Ad} {a : Option Addr} (h : RdT w n T A a) (hb : Below w.heap.size w w') : RdT w' n T A a := ⟨h.row.later hb, fun i hi => (h.cols i hi).later hb, fun i hi => (h.ints i hi).later hb⟩
end Go.Proofs.YtgpoigkfoliflaaGreatDoor
namespace Go.Proofs.YtgpoigkfoliflaaGreatDoor
open Go.RowKit
set_option linter.unusedSimpArgs false
def plT : Nat → Tb
  | 0 => ⟨[110, 111, 116, 101], [⟨[110, 97, 109, 101], 2, 1, 1, 0, 0, [], false⟩, ⟨[97, 98, 111, 117, 116], 4, 0, 4, 0, 0, [112, 111, 114, 116], false⟩], [], true⟩
  | 1 => ⟨[112, 111, 114, 116], [⟨[110, 97, 109, 101], 2, 1, 1, 0, 0, [], false⟩, ⟨[116, 97, 103], 1, 0, 1, 0, 99, [], false⟩, ⟨[117, 112], 3, 1, 1, 0, 0, [], false⟩], [0], false⟩
  | 2 => ⟨[115, 119, 105, 116, 99, 104], [⟨[110, 97, 109, 101], 2, 1, 1, 0, 0, [], false⟩, ⟨[99, 111, 117, 110, 116], 1, 1, 1, (-1000), 1000, [], false⟩, ⟨[112, 111, 114, 116, 115], 4, 0, 8, 0, 0, [112, 111, 114, 116], true⟩], [0], true⟩
  | _ => tbZ
def plA (q : Nat) : Nat → Ad
  | 0 => ⟨some ⟨q, 0, none⟩, 2, none, 0⟩
  | 1 => ⟨some ⟨q + 1, 0, none⟩, 3, some ⟨q + 1 + 1, 0, none⟩, 1⟩
  | _ => ⟨some ⟨q + 1 + 1 + 1, 0, none⟩, 3, some ⟨q + 1 + 1 + 1 + 1, 0, none⟩, 1⟩
def plC (q : Nat) : Nat → Nat
  | 0 => q
  | 1 => q + 1
  | _ => q + 1 + 1 + 1
def plU (h q : Nat) : Nat → Nat
  | 0 => h
  | 1 => q + 1 + 1
  | _ => q + 1 + 1 + 1 + 1
theorem own_of {W : World} {b : Nat} {cs : Array Value} {ty : TypeId} {n : Nat} {f : Nat → Value} (h : W.heap[b]? = some (.cells cs ty)) (hf : ∀ m, m < n → cs[m]? = some (f m)) : OwnRw W (· = b) (some ⟨b, 0, none⟩) n f :=
  .inr ⟨b, 0, rfl, rfl, fun m hm => ⟨by rw [Nat.zero_add]; exact cell_at h (hf m hm), by rw [Nat.zero_add]; exact frozen_at m h⟩⟩
def PlAns (w : World) (e : Ending) (w' : World) : Prop := ∃ A rb cb ub, e = .returned (.agg #[.slice (some ⟨rb, 0, none⟩) 3 3]) ∧ OwnT w' 3 plT A (some ⟨rb, 0, none⟩) rb cb ub ∧ Apart 3 rb cb ub ∧ (∀ b, InT 3 rb cb ub b → w.heap.size ≤ b ∧ b < w'.heap.size) ∧ Below w.heap.size w w'
set_option maxHeartbeats 3200000 in
theorem plain_own {w V : World} {q : Nat} (hq : q = V.heap.size) (hlt : w.heap.size < q) (hB : Below w.heap.size w V) : PlAns w (.returned (.agg #[.slice (some ⟨q + 1 + 1 + 1 + 1 + 1, 0, none⟩) 3 3])) ((((((V.alloc (.cells #[.string ⟨#[110, 97, 109, 101]⟩, .int .i64 2, .int .i64 1, .int .i64 1, .int .i64 0, .int .i64 0, .string ⟨#[]⟩, .bool false, .string ⟨#[97, 98, 111, 117, 116]⟩, .int .i64 4, .int .i64 0, .int .i64 4, .int .i64 0, .int .i64 0, .string ⟨#[112, 111, 114, 116]⟩, .bool false] 39)).alloc (.cells #[.string ⟨#[110, 97, 109, 101]⟩, .int .i64 2, .int .i64 1, .int .i64 1, .int .i64 0, .int .i64 0, .string ⟨#[]⟩, .bool false, .string ⟨#[116, 97, 103]⟩, .int .i64 1, .int .i64 0, .int .i64 1, .int .i64 0, .int .i64 99, .string ⟨#[]⟩, .bool false, .string ⟨#[117, 112]⟩, .int .i64 3, .int .i64 1, .int .i64 1, .int .i64 0, .int .i64 0, .string ⟨#[]⟩, .bool false] 39)).alloc (.cells #[.int .i64 0] 3)).alloc (.cells #[.string ⟨#[110, 97, 109, 101]⟩, .int .i64 2, .int .i64 1, .int .i64 1, .int .i64 0, .int .i64 0, .string ⟨#[]⟩, .bool false, .string ⟨#[99, 111, 117, 110, 116]⟩, .int .i64 1, .int .i64 1, .int .i64 1, .int .i64 (-1000), .int .i64 1000, .string ⟨#[]⟩, .bool false, .string ⟨#[112, 111, 114, 116, 115]⟩, .int .i64 4, .int .i64 0, .int .i64 8, .int .i64 0, .int .i64 0, .string ⟨#[112, 111, 114, 116]⟩, .bool true] 39)).alloc (.cells #[.int .i64 0] 3)).alloc (.cells #[.string ⟨#[110, 111, 116, 101]⟩, .slice (some ⟨q, 0, none⟩) 2 2, .slice none 0 0, .bool true, .string ⟨#[112, 111, 114, 116]⟩, .slice (some ⟨q + 1, 0, none⟩) 3 3, .slice (some ⟨q + 1 + 1, 0, none⟩) 1 1, .bool false, .string ⟨#[115, 119, 105, 116, 99, 104]⟩, .slice (some ⟨q + 1 + 1 + 1, 0, none⟩) 3 3, .slice (some ⟨q + 1 + 1 + 1 + 1, 0, none⟩) 1 1, .bool true] 27)) := by
  have al : ∀ (V : World) (o : Obj), Below V.heap.size V (V.alloc o) := fun V o => (Below.refl _ _).alloc (Nat.le_refl _) _
  have sz : ∀ (V : World) (o : Obj), (V.alloc o).heap.size = V.heap.size + 1 := fun V o => by simp
  obtain ⟨V1, hV1⟩ : ∃ V', V' = (V.alloc (.cells #[.string ⟨#[110, 97, 109, 101]⟩, .int .i64 2, .int .i64 1, .int .i64 1, .int .i64 0, .int .i64 0, .string ⟨#[]⟩, .bool false, .string ⟨#[97, 98, 111, 117, 116]⟩, .int .i64 4, .int .i64 0, .int .i64 4, .int .i64 0, .int .i64 0, .string ⟨#[112, 111, 114, 116]⟩, .bool false] 39)) := ⟨_, rfl⟩
  have s1 : V1.heap.size = q + 1 := by rw [hV1, sz, ← hq]
  have n1 : V1.heap[q]? = some (.cells #[.string ⟨#[110, 97, 109, 101]⟩, .int .i64 2, .int .i64 1, .int .i64 1, .int .i64 0, .int .i64 0, .string ⟨#[]⟩, .bool false, .string ⟨#[97, 98, 111, 117, 116]⟩, .int .i64 4, .int .i64 0, .int .i64 4, .int .i64 0, .int .i64 0, .string ⟨#[112, 111, 114, 116]⟩, .bool false] 39) := by rw [hV1]; have h := heap_newC V (.cells #[.string ⟨#[110, 97, 109, 101]⟩, .int .i64 2, .int .i64 1, .int .i64 1, .int .i64 0, .int .i64 0, .string ⟨#[]⟩, .bool false, .string ⟨#[97, 98, 111, 117, 116]⟩, .int .i64 4, .int .i64 0, .int .i64 4, .int .i64 0, .int .i64 0, .string ⟨#[112, 111, 114, 116]⟩, .bool false] 39); rw [← hq] at h; exact h
  have b1 : Below V.heap.size V V1 := by rw [hV1]; exact al _ _
  rw [← hV1]
  obtain ⟨V2, hV2⟩ : ∃ V', V' = (V1.alloc (.cells #[.string ⟨#[110, 97, 109, 101]⟩, .int .i64 2, .int .i64 1, .int .i64 1, .int .i64 0, .int .i64 0, .string ⟨#[]⟩, .bool false, .string ⟨#[116, 97, 103]⟩, .int .i64 1, .int .i64 0, .int .i64 1, .int .i64 0, .int .i64 99, .string ⟨#[]⟩, .bool false, .string ⟨#[117, 112]⟩, .int .i64 3, .int .i64 1, .int .i64 1, .int .i64 0, .int .i64 0, .string ⟨#[]⟩, .bool false] 39)) := ⟨_, rfl⟩
  have s2 : V2.heap.size = q + 1 + 1 := by rw [hV2, sz, s1]
  have n2 : V2.heap[q + 1]? = some (.cells #[.string ⟨#[110, 97, 109, 101]⟩, .int .i64 2, .int .i64 1, .int .i64 1, .int .i64 0, .int .i64 0, .string ⟨#[]⟩, .bool false, .string ⟨#[116, 97, 103]⟩, .int .i64 1, .int .i64 0, .int .i64 1, .int .i64 0, .int .i64 99, .string ⟨#[]⟩, .bool false, .string ⟨#[117, 112]⟩, .int .i64 3, .int .i64 1, .int .i64 1, .int .i64 0, .int .i64 0, .string ⟨#[]⟩, .bool false] 39) := by rw [hV2]; have h := heap_newC V1 (.cells #[.string ⟨#[110, 97, 109, 101]⟩, .int .i64 2, .int .i64 1, .int .i64 1, .int .i64 0, .int .i64 0, .string ⟨#[]⟩, .bool false, .string ⟨#[116, 97, 103]⟩, .int .i64 1, .int .i64 0, .int .i64 1, .int .i64 0, .int .i64 99, .string ⟨#[]⟩, .bool false, .string ⟨#[117, 112]⟩, .int .i64 3, .int .i64 1, .int .i64 1, .int .i64 0, .int .i64 0, .string ⟨#[]⟩, .bool false] 39); rw [s1] at h; exact h
  have b2 : Below V1.heap.size V1 V2 := by rw [hV2]; exact al _ _
  rw [← hV2]
  obtain ⟨V3, hV3⟩ : ∃ V', V' = (V2.alloc (.cells #[.int .i64 0] 3)) := ⟨_, rfl⟩
  have s3 : V3.heap.size = q + 1 + 1 + 1 := by rw [hV3, sz, s2]
  have n3 : V3.heap[q + 1 + 1]? = some (.cells #[.int .i64 0] 3) := by rw [hV3]; have h := heap_newC V2 (.cells #[.int .i64 0] 3); rw [s2] at h; exact h
  have b3 : Below V2.heap.size V2 V3 := by rw [hV3]; exact al _ _
  rw [← hV3]
  obtain ⟨V4, hV4⟩ : ∃ V', V' = (V3.alloc (.cells #[.string ⟨#[110, 97, 109, 101]⟩, .int .i64 2, .int .i64 1, .int .i64 1, .int .i64 0, .int .i64 0, .string ⟨#[]⟩, .bool false, .string ⟨#[99, 111, 117, 110, 116]⟩, .int .i64 1, .int .i64 1, .int .i64 1, .int .i64 (-1000), .int .i64 1000, .string ⟨#[]⟩, .bool false, .string ⟨#[112, 111, 114, 116, 115]⟩, .int .i64 4, .int .i64 0, .int .i64 8, .int .i64 0, .int .i64 0, .string ⟨#[112, 111, 114, 116]⟩, .bool true] 39)) := ⟨_, rfl⟩
  have s4 : V4.heap.size = q + 1 + 1 + 1 + 1 := by rw [hV4, sz, s3]
  have n4 : V4.heap[q + 1 + 1 + 1]? = some (.cells #[.string ⟨#[110, 97, 109, 101]⟩, .int .i64 2, .int .i64 1, .int .i64 1, .int .i64 0, .int .i64 0, .string ⟨#[]⟩, .bool false, .string ⟨#[99, 111, 117, 110, 116]⟩, .int .i64 1, .int .i64 1, .int .i64 1, .int .i64 (-1000), .int .i64 1000, .string ⟨#[]⟩, .bool false, .string ⟨#[112, 111, 114, 116, 115]⟩, .int .i64 4, .int .i64 0, .int .i64 8, .int .i64 0, .int .i64 0, .string ⟨#[112, 111, 114, 116]⟩, .bool true] 39) := by rw [hV4]; have h := heap_newC V3 (.cells #[.string ⟨#[110, 97, 109, 101]⟩, .int .i64 2, .int .i64 1, .int .i64 1, .int .i64 0, .int .i64 0, .string ⟨#[]⟩, .bool false, .string ⟨#[99, 111, 117, 110, 116]⟩, .int .i64 1, .int .i64 1, .int .i64 1, .int .i64 (-1000), .int .i64 1000, .string ⟨#[]⟩, .bool false, .string ⟨#[112, 111, 114, 116, 115]⟩, .int .i64 4, .int .i64 0, .int .i64 8, .int .i64 0, .int .i64 0, .string ⟨#[112, 111, 114, 116]⟩, .bool true] 39); rw [s3] at h; exact h
  have b4 : Below V3.heap.size V3 V4 := by rw [hV4]; exact al _ _
  rw [← hV4]
  obtain ⟨V5, hV5⟩ : ∃ V', V' = (V4.alloc (.cells #[.int .i64 0] 3)) := ⟨_, rfl⟩
  have s5 : V5.heap.size = q + 1 + 1 + 1 + 1 + 1 := by rw [hV5, sz, s4]
  have n5 : V5.heap[q + 1 + 1 + 1 + 1]? = some (.cells #[.int .i64 0] 3) := by rw [hV5]; have h := heap_newC V4 (.cells #[.int .i64 0] 3); rw [s4] at h; exact h
  have b5 : Below V4.heap.size V4 V5 := by rw [hV5]; exact al _ _
  rw [← hV5]
  obtain ⟨V6, hV6⟩ : ∃ V', V' = (V5.alloc (.cells #[.string ⟨#[110, 111, 116, 101]⟩, .slice (some ⟨q, 0, none⟩) 2 2, .slice none 0 0, .bool true, .string ⟨#[112, 111, 114, 116]⟩, .slice (some ⟨q + 1, 0, none⟩) 3 3, .slice (some ⟨q + 1 + 1, 0, none⟩) 1 1, .bool false, .string ⟨#[115, 119, 105, 116, 99, 104]⟩, .slice (some ⟨q + 1 + 1 + 1, 0, none⟩) 3 3, .slice (some ⟨q + 1 + 1 + 1 + 1, 0, none⟩) 1 1, .bool true] 27)) := ⟨_, rfl⟩
  have s6 : V6.heap.size = q + 1 + 1 + 1 + 1 + 1 + 1 := by rw [hV6, sz, s5]
  have n6 : V6.heap[q + 1 + 1 + 1 + 1 + 1]? = some (.cells #[.string ⟨#[110, 111, 116, 101]⟩, .slice (some ⟨q, 0, none⟩) 2 2, .slice none 0 0, .bool true, .string ⟨#[112, 111, 114, 116]⟩, .slice (some ⟨q + 1, 0, none⟩) 3 3, .slice (some ⟨q + 1 + 1, 0, none⟩) 1 1, .bool false, .string ⟨#[115, 119, 105, 116, 99, 104]⟩, .slice (some ⟨q + 1 + 1 + 1, 0, none⟩) 3 3, .slice (some ⟨q + 1 + 1 + 1 + 1, 0, none⟩) 1 1, .bool true] 27) := by rw [hV6]; have h := heap_newC V5 (.cells #[.string ⟨#[110, 111, 116, 101]⟩, .slice (some ⟨q, 0, none⟩) 2 2, .slice none 0 0, .bool true, .string ⟨#[112, 111, 114, 116]⟩, .slice (some ⟨q + 1, 0, none⟩) 3 3, .slice (some ⟨q + 1 + 1, 0, none⟩) 1 1, .bool false, .string ⟨#[115, 119, 105, 116, 99, 104]⟩, .slice (some ⟨q + 1 + 1 + 1, 0, none⟩) 3 3, .slice (some ⟨q + 1 + 1 + 1 + 1, 0, none⟩) 1 1, .bool true] 27); rw [s5] at h; exact h
  have b6 : Below V5.heap.size V5 V6 := by rw [hV6]; exact al _ _
  rw [← hV6]
  have m1 := (heap_keptC (heap_keptC (heap_keptC (heap_keptC (heap_keptC n1 b2) b3) b4) b5) b6)
  have m2 := (heap_keptC (heap_keptC (heap_keptC (heap_keptC n2 b3) b4) b5) b6)
  have m3 := (heap_keptC (heap_keptC (heap_keptC n3 b4) b5) b6)
  have m4 := (heap_keptC (heap_keptC n4 b5) b6)
  have m5 := (heap_keptC n5 b6)
  have m6 := n6
  have hBW : Below w.heap.size w V6 := ((((((hB.trans (b1.mono (by omega))).trans (b2.mono (by omega))).trans (b3.mono (by omega))).trans (b4.mono (by omega))).trans (b5.mono (by omega))).trans (b6.mono (by omega)))
  clear hV1 hV2 hV3 hV4 hV5 hV6 n1 n2 n3 n4 n5 n6 b1 b2 b3 b4 b5 b6
  refine ⟨plA q, q + 1 + 1 + 1 + 1 + 1, plC q, plU w.heap.size q, rfl, ⟨?_, fun i hi => ?_, fun i hi => ?_⟩, ⟨fun i hi => ?_, fun i hi => ?_, fun i j hi hj => ?_, fun i j hi hj hn => ?_, fun i j hi hj hn => ?_⟩, fun b hb => ?_, hBW⟩
  · exact own_of m6 (fun m hm => by
    match m, hm with
    | 0, _ => rfl
    | 1, _ => rfl
    | 2, _ => rfl
    | 3, _ => rfl
    | 4, _ => rfl
    | 5, _ => rfl
    | 6, _ => rfl
    | 7, _ => rfl
    | 8, _ => rfl
    | 9, _ => rfl
    | 10, _ => rfl
    | 11, _ => rfl)
  · match i, hi with
    | 0, _ => exact own_of m1 (fun m hm => by
      have hm' : m < 16 := hm
      rcases (by omega : m = 0 ∨ m = 1 ∨ m = 2 ∨ m = 3 ∨ m = 4 ∨ m = 5 ∨ m = 6 ∨ m = 7 ∨ m = 8 ∨ m = 9 ∨ m = 10 ∨ m = 11 ∨ m = 12 ∨ m = 13 ∨ m = 14 ∨ m = 15) with rfl | rfl | rfl | rfl | rfl | rfl | rfl | rfl | rfl | rfl | rfl | rfl | rfl | rfl | rfl | rfl <;> rfl)
    | 1, _ => exact own_of m2 (fun m hm => by
      have hm' : m < 24 := hm
      rcases (by omega : m = 0 ∨ m = 1 ∨ m = 2 ∨ m = 3 ∨ m = 4 ∨ m = 5 ∨ m = 6 ∨ m = 7 ∨ m = 8 ∨ m = 9 ∨ m = 10 ∨ m = 11 ∨ m = 12 ∨ m = 13 ∨ m = 14 ∨ m = 15 ∨ m = 16 ∨ m = 17 ∨ m = 18 ∨ m = 19 ∨ m = 20 ∨ m = 21 ∨ m = 22 ∨ m = 23) with rfl | rfl | rfl | rfl | rfl | rfl | rfl | rfl | rfl | rfl | rfl | rfl | rfl | rfl | rfl | rfl | rfl | rfl | rfl | rfl | rfl | rfl | rfl | rfl <;> rfl)
    | 2, _ => exact own_of m4 (fun m hm => by
      have hm' : m < 24 := hm
      rcases (by omega : m = 0 ∨ m = 1 ∨ m = 2 ∨ m = 3 ∨ m = 4 ∨ m = 5 ∨ m = 6 ∨ m = 7 ∨ m = 8 ∨ m = 9 ∨ m = 10 ∨ m = 11 ∨ m = 12 ∨ m = 13 ∨ m = 14 ∨ m = 15 ∨ m = 16 ∨ m = 17 ∨ m = 18 ∨ m = 19 ∨ m = 20 ∨ m = 21 ∨ m = 22 ∨ m = 23) with rfl | rfl | rfl | rfl | rfl | rfl | rfl | rfl | rfl | rfl | rfl | rfl | rfl | rfl | rfl | rfl | rfl | rfl | rfl | rfl | rfl | rfl | rfl | rfl <;> rfl)
  · match i, hi with
    | 0, _ => exact .inl rfl
    | 1, _ => exact own_of m3 (fun m hm => by
      match m, hm with
      | 0, _ => rfl)
    | 2, _ => exact own_of m5 (fun m hm => by
      match m, hm with
      | 0, _ => rfl)
  · match i, hi with
    | 0, _ => simp only [plC]; omega
    | 1, _ => simp only [plC]; omega
    | 2, _ => simp only [plC]; omega
  · match i, hi with
    | 0, _ => simp only [plU]; omega
    | 1, _ => simp only [plU]; omega
    | 2, _ => simp only [plU]; omega
  · match i, j, hi, hj with
    | 0, 0, _, _ => simp only [plC, plU]; omega
    | 0, 1, _, _ => simp only [plC, plU]; omega
    | 0, 2, _, _ => simp only [plC, plU]; omega
    | 1, 0, _, _ => simp only [plC, plU]; omega
    | 1, 1, _, _ => simp only [plC, plU]; omega
    | 1, 2, _, _ => simp only [plC, plU]; omega
    | 2, 0, _, _ => simp only [plC, plU]; omega
    | 2, 1, _, _ => simp only [plC, plU]; omega
    | 2, 2, _, _ => simp only [plC, plU]; omega
  · match i, j, hi, hj with
    | 0, 0, _, _ => exact absurd rfl hn
    | 0, 1, _, _ => simp only [plC]; omega
    | 0, 2, _, _ => simp only [plC]; omega
    | 1, 0, _, _ => simp only [plC]; omega
    | 1, 1, _, _ => exact absurd rfl hn
    | 1, 2, _, _ => simp only [plC]; omega
    | 2, 0, _, _ => simp only [plC]; omega
    | 2, 1, _, _ => simp only [plC]; omega
    | 2, 2, _, _ => exact absurd rfl hn
  · match i, j, hi, hj with
    | 0, 0, _, _ => exact absurd rfl hn
    | 0, 1, _, _ => simp only [plU]; omega
    | 0, 2, _, _ => simp only [plU]; omega
    | 1, 0, _, _ => simp only [plU]; omega
    | 1, 1, _, _ => exact absurd rfl hn
    | 1, 2, _, _ => simp only [plU]; omega
    | 2, 0, _, _ => simp only [plU]; omega
    | 2, 1, _, _ => simp only [plU]; omega
    | 2, 2, _, _ => exact absurd rfl hn
  · rcases hb with rfl | ⟨i, hi, h⟩
    · omega
    · match i, hi with
      | 0, _ => simp only [plC, plU] at h; omega
      | 1, _ => simp only [plC, plU] at h; omega
      | 2, _ => simp only [plC, plU] at h; omega
set_option maxRecDepth 100000 in
set_option maxHeartbeats 6400000 in
theorem plainS (w : World) : Calls Tryz.prog 5 #[] w (PlAns w) := by
  go_enter Tryz.func5, Tryz.ntmps5
  go_wp2_with fail
  refine bodyPost_ret (v := .agg #[.slice (some ⟨w.heap.size + 1 + 1 + 1 + 1 + 1 + 1 + 1, 0, none⟩) 3 3]) (by simp [results, Tryz.results5, go_sem]) rfl ?_
  refine plain_own (q := w.heap.size + 1 + 1) (by simp) (by omega) ?_
  repeat' (first | exact Below.refl _ _ | refine Below.alloc ?_ (by simp <;> omega) _)
end Go.Proofs.YtgpoigkfoliflaaGreatDoor
