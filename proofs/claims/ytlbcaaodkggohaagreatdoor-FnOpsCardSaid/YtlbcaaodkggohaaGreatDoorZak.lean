import Derived.Test.YtlbcaaodkggohaaGreatDoorZaj
import Derived.Test.YtlbcaaodkggohaaGreatDoorZah
import Derived.Laws.Append
namespace Go.Proofs.YtlbcaaodkggohaaGreatDoor
open Go.RowKit
set_option linter.unusedSimpArgs false
def plT : Nat → Tb
 | 0 => ⟨[110, 111, 116, 101], [⟨[110, 97, 109, 101], 2, 1, 1, 0, 0, [], false⟩, ⟨[97, 98, 111, 117, 116], 4, 0, 4, 0, 0, [112, 111, 114, 116], false⟩], [], true⟩
 | 1 => ⟨[112, 111, 114, 116], [⟨[110, 97, 109, 101], 2, 1, 1, 0, 0, [], false⟩, ⟨[116, 97, 103], 1, 0, 1, 0, 99, [], false⟩, ⟨[117, 112], 3, 1, 1, 0, 0, [], false⟩], [0], false⟩
 | 2 => ⟨[115, 119, 105, 116, 99, 104], [⟨[110, 97, 109, 101], 2, 1, 1, 0, 0, [], false⟩, ⟨[99, 111, 117, 110, 116], 1, 1, 1, (-1000), 1000, [], false⟩, ⟨[112, 111, 114, 116, 115], 4, 0, 8, 0, 0, [112, 111, 114, 116], true⟩], [0], true⟩
 | _ => tbZ
def plA (q : Nat) : Nat → Ad
 | 0 => ⟨some ⟨q, 0, none⟩, 2, none, 0⟩
 | 1 => ⟨some ⟨q + 1, 0, none⟩, 3, some ⟨q + 1 + 1, 0, none⟩, 1⟩
 | _ => ⟨some ⟨q + 1 + 1 + 1, 0, none⟩, 3, some ⟨q + 1 + 1 + 1 + 1, 0, none⟩, 1⟩
def plC (q : Nat) : Nat → Nat
 | 0 => q
 | 1 => q + 1
 | _ => q + 1 + 1 + 1
def plU (h q : Nat) : Nat → Nat
 | 0 => h
 | 1 => q + 1 + 1
 | _ => q + 1 + 1 + 1 + 1
theorem own_of {W : World} {b : Nat} {cs : Array Value} {ty : TypeId} {n : Nat} {f : Nat → Value} (h : W.heap[b]? = some (.cells cs ty)) (hf : ∀ m, m < n → cs[m]? = some (f m)) : OwnRw W (· = b) (some ⟨b, 0, none⟩) n f :=
 .inr ⟨b, 0, rfl, rfl, fun m hm => ⟨by rw [Nat.zero_add]; exact cell_at h (hf m hm), by rw [Nat.zero_add]; exact frozen_at m h⟩⟩
def PlAns (w : World) (e : Ending) (w' : World) : Prop := ∃ A rb cb ub, e = .returned (.agg #[.slice (some ⟨rb, 0, none⟩) 3 3]) ∧ OwnT w' 3 plT A (some ⟨rb, 0, none⟩) rb cb ub ∧ Apart 3 rb cb ub ∧ (∀ b, InT 3 rb cb ub b → w.heap.size ≤ b ∧ b < w'.heap.size) ∧ Below w.heap.size w w'
set_option maxHeartbeats 3200000 in
theorem plain_own {w V : World} {q : Nat} (hq : q = V.heap.size) (hlt : w.heap.size < q) (hB : Below w.heap.size w V) : PlAns w (.returned (.agg #[.slice (some ⟨q + 1 + 1 + 1 + 1 + 1, 0, none⟩) 3 3])) ((((((V.alloc (.cells #[.string ⟨#[110, 97, 109, 101]⟩, .int .i64 2, .int .i64 1, .int .i64 1, .int .i64 0, .int .i64 0, .string ⟨#[]⟩, .bool false, .string ⟨#[97, 98, 111, 117, 116]⟩, .int .i64 4, .int .i64 0, .int .i64 4, .int .i64 0, .int .i64 0, .string ⟨#[112, 111, 114, 116]⟩, .bool false] 44)).alloc (.cells #[.string ⟨#[110, 97, 109, 101]⟩, .int .i64 2, .int .i64 1, .int .i64 1, .int .i64 0, .int .i64 0, .string ⟨#[]⟩, .bool false, .string ⟨#[116, 97, 103]⟩, .int .i64 1, .int .i64 0, .int .i64 1, .int .i64 0, .int .i64 99, .string ⟨#[]⟩, .bool false, .string ⟨#[117, 112]⟩, .int .i64 3, .int .i64 1, .int .i64 1, .int .i64 0, .int .i64 0, .string ⟨#[]⟩, .bool false] 44)).alloc (.cells #[.int .i64 0] 3)).alloc (.cells #[.string ⟨#[110, 97, 109, 101]⟩, .int .i64 2, .int .i64 1, .int .i64 1, .int .i64 0, .int .i64 0, .string ⟨#[]⟩, .bool false, .string ⟨#[99, 111, 117, 110, 116]⟩, .int .i64 1, .int .i64 1, .int .i64 1, .int .i64 (-1000), .int .i64 1000, .string ⟨#[]⟩, .bool false, .string ⟨#[112, 111, 114, 116, 115]⟩, .int .i64 4, .int .i64 0, .int .i64 8, .int .i64 0, .int .i64 0, .string ⟨#[112, 111, 114, 116]⟩, .bool true] 44)).alloc (.cells #[.int .i64 0] 3)).alloc (.cells #[.string ⟨#[110, 111, 116, 101]⟩, .slice (some ⟨q, 0, none⟩) 2 2, .slice none 0 0, .bool true, .string ⟨#[112, 111, 114, 116]⟩, .slice (some ⟨q + 1, 0, none⟩) 3 3, .slice (some ⟨q + 1 + 1, 0, none⟩) 1 1, .bool false, .string ⟨#[115, 119, 105, 116, 99, 104]⟩, .slice (some ⟨q + 1 + 1 + 1, 0, none⟩) 3 3, .slice (some ⟨q + 1 + 1 + 1 + 1, 0, none⟩) 1 1, .bool true] 48)) := by
 have al : ∀ (V : World) (o : Obj), Below V.heap.size V (V.alloc o) := fun V o => (Below.refl _ _).alloc (Nat.le_refl _) _
 have sz : ∀ (V : World) (o : Obj), (V.alloc o).heap.size = V.heap.size + 1 := fun V o => by simp
 obtain ⟨V1, hV1⟩ : ∃ V', V' = (V.alloc (.cells #[.string ⟨#[110, 97, 109, 101]⟩, .int .i64 2, .int .i64 1, .int .i64 1, .int .i64 0, .int .i64 0, .string ⟨#[]⟩, .bool false, .string ⟨#[97, 98, 111, 117, 116]⟩, .int .i64 4, .int .i64 0, .int .i64 4, .int .i64 0, .int .i64 0, .string ⟨#[112, 111, 114, 116]⟩, .bool false] 44)) := ⟨_, rfl⟩; have s1 : V1.heap.size = q + 1 := by rw [hV1, sz, ← hq]
 have n1 : V1.heap[q]? = some (.cells #[.string ⟨#[110, 97, 109, 101]⟩, .int .i64 2, .int .i64 1, .int .i64 1, .int .i64 0, .int .i64 0, .string ⟨#[]⟩, .bool false, .string ⟨#[97, 98, 111, 117, 116]⟩, .int .i64 4, .int .i64 0, .int .i64 4, .int .i64 0, .int .i64 0, .string ⟨#[112, 111, 114, 116]⟩, .bool false] 44) := by rw [hV1]; have h := heap_newC V (.cells #[.string ⟨#[110, 97, 109, 101]⟩, .int .i64 2, .int .i64 1, .int .i64 1, .int .i64 0, .int .i64 0, .string ⟨#[]⟩, .bool false, .string ⟨#[97, 98, 111, 117, 116]⟩, .int .i64 4, .int .i64 0, .int .i64 4, .int .i64 0, .int .i64 0, .string ⟨#[112, 111, 114, 116]⟩, .bool false] 44); rw [← hq] at h; exact h
 have b1 : Below V.heap.size V V1 := by rw [hV1]; exact al _ _
 rw [← hV1]; obtain ⟨V2, hV2⟩ : ∃ V', V' = (V1.alloc (.cells #[.string ⟨#[110, 97, 109, 101]⟩, .int .i64 2, .int .i64 1, .int .i64 1, .int .i64 0, .int .i64 0, .string ⟨#[]⟩, .bool false, .string ⟨#[116, 97, 103]⟩, .int .i64 1, .int .i64 0, .int .i64 1, .int .i64 0, .int .i64 99, .string ⟨#[]⟩, .bool false, .string ⟨#[117, 112]⟩, .int .i64 3, .int .i64 1, .int .i64 1, .int .i64 0, .int .i64 0, .string ⟨#[]⟩, .bool false] 44)) := ⟨_, rfl⟩; have s2 : V2.heap.size = q + 1 + 1 := by rw [hV2, sz, s1]
 have n2 : V2.heap[q + 1]? = some (.cells #[.string ⟨#[110, 97, 109, 101]⟩, .int .i64 2, .int .i64 1, .int .i64 1, .int .i64 0, .int .i64 0, .string ⟨#[]⟩, .bool false, .string ⟨#[116, 97, 103]⟩, .int .i64 1, .int .i64 0, .int .i64 1, .int .i64 0, .int .i64 99, .string ⟨#[]⟩, .bool false, .string ⟨#[117, 112]⟩, .int .i64 3, .int .i64 1, .int .i64 1, .int .i64 0, .int .i64 0, .string ⟨#[]⟩, .bool false] 44) := by rw [hV2]; have h := heap_newC V1 (.cells #[.string ⟨#[110, 97, 109, 101]⟩, .int .i64 2, .int .i64 1, .int .i64 1, .int .i64 0, .int .i64 0, .string ⟨#[]⟩, .bool false, .string ⟨#[116, 97, 103]⟩, .int .i64 1, .int .i64 0, .int .i64 1, .int .i64 0, .int .i64 99, .string ⟨#[]⟩, .bool false, .string ⟨#[117, 112]⟩, .int .i64 3, .int .i64 1, .int .i64 1, .int .i64 0, .int .i64 0, .string ⟨#[]⟩, .bool false] 44); rw [s1] at h; exact h
 have b2 : Below V1.heap.size V1 V2 := by rw [hV2]; exact al _ _
 rw [← hV2]; obtain ⟨V3, hV3⟩ : ∃ V', V' = (V2.alloc (.cells #[.int .i64 0] 3)) := ⟨_, rfl⟩; have s3 : V3.heap.size = q + 1 + 1 + 1 := by rw [hV3, sz, s2]
 have n3 : V3.heap[q + 1 + 1]? = some (.cells #[.int .i64 0] 3) := by rw [hV3]; have h := heap_newC V2 (.cells #[.int .i64 0] 3); rw [s2] at h; exact h
 have b3 : Below V2.heap.size V2 V3 := by rw [hV3]; exact al _ _
 rw [← hV3]; obtain ⟨V4, hV4⟩ : ∃ V', V' = (V3.alloc (.cells #[.string ⟨#[110, 97, 109, 101]⟩, .int .i64 2, .int .i64 1, .int .i64 1, .int .i64 0, .int .i64 0, .string ⟨#[]⟩, .bool false, .string ⟨#[99, 111, 117, 110, 116]⟩, .int .i64 1, .int .i64 1, .int .i64 1, .int .i64 (-1000), .int .i64 1000, .string ⟨#[]⟩, .bool false, .string ⟨#[112, 111, 114, 116, 115]⟩, .int .i64 4, .int .i64 0, .int .i64 8, .int .i64 0, .int .i64 0, .string ⟨#[112, 111, 114, 116]⟩, .bool true] 44)) := ⟨_, rfl⟩; have s4 : V4.heap.size = q + 1 + 1 + 1 + 1 := by rw [hV4, sz, s3]
 have n4 : V4.heap[q + 1 + 1 + 1]? = some (.cells #[.string ⟨#[110, 97, 109, 101]⟩, .int .i64 2, .int .i64 1, .int .i64 1, .int .i64 0, .int .i64 0, .string ⟨#[]⟩, .bool false, .string ⟨#[99, 111, 117, 110, 116]⟩, .int .i64 1, .int .i64 1, .int .i64 1, .int .i64 (-1000), .int .i64 1000, .string ⟨#[]⟩, .bool false, .string ⟨#[112, 111, 114, 116, 115]⟩, .int .i64 4, .int .i64 0, .int .i64 8, .int .i64 0, .int .i64 0, .string ⟨#[112, 111, 114, 116]⟩, .bool true] 44) := by rw [hV4]; have h := heap_newC V3 (.cells #[.string ⟨#[110, 97, 109, 101]⟩, .int .i64 2, .int .i64 1, .int .i64 1, .int .i64 0, .int .i64 0, .string ⟨#[]⟩, .bool false, .string ⟨#[99, 111, 117, 110, 116]⟩, .int .i64 1, .int .i64 1, .int .i64 1, .int .i64 (-1000), .int .i64 1000, .string ⟨#[]⟩, .bool false, .string ⟨#[112, 111, 114, 116, 115]⟩, .int .i64 4, .int .i64 0, .int .i64 8, .int .i64 0, .int .i64 0, .string ⟨#[112, 111, 114, 116]⟩, .bool true] 44); rw [s3] at h; exact h
 have b4 : Below V3.heap.size V3 V4 := by rw [hV4]; exact al _ _
 rw [← hV4]; obtain ⟨V5, hV5⟩ : ∃ V', V' = (V4.alloc (.cells #[.int .i64 0] 3)) := ⟨_, rfl⟩; have s5 : V5.heap.size = q + 1 + 1 + 1 + 1 + 1 := by rw [hV5, sz, s4]
 have n5 : V5.heap[q + 1 + 1 + 1 + 1]? = some (.cells #[.int .i64 0] 3) := by rw [hV5]; have h := heap_newC V4 (.cells #[.int .i64 0] 3); rw [s4] at h; exact h
 have b5 : Below V4.heap.size V4 V5 := by rw [hV5]; exact al _ _
 rw [← hV5]; obtain ⟨V6, hV6⟩ : ∃ V', V' = (V5.alloc (.cells #[.string ⟨#[110, 111, 116, 101]⟩, .slice (some ⟨q, 0, none⟩) 2 2, .slice none 0 0, .bool true, .string ⟨#[112, 111, 114, 116]⟩, .slice (some ⟨q + 1, 0, none⟩) 3 3, .slice (some ⟨q + 1 + 1, 0, none⟩) 1 1, .bool false, .string ⟨#[115, 119, 105, 116, 99, 104]⟩, .slice (some ⟨q + 1 + 1 + 1, 0, none⟩) 3 3, .slice (some ⟨q + 1 + 1 + 1 + 1, 0, none⟩) 1 1, .bool true] 48)) := ⟨_, rfl⟩; have s6 : V6.heap.size = q + 1 + 1 + 1 + 1 + 1 + 1 := by rw [hV6, sz, s5]
 have n6 : V6.heap[q + 1 + 1 + 1 + 1 + 1]? = some (.cells #[.string ⟨#[110, 111, 116, 101]⟩, .slice (some ⟨q, 0, none⟩) 2 2, .slice none 0 0, .bool true, .string ⟨#[112, 111, 114, 116]⟩, .slice (some ⟨q + 1, 0, none⟩) 3 3, .slice (some ⟨q + 1 + 1, 0, none⟩) 1 1, .bool false, .string ⟨#[115, 119, 105, 116, 99, 104]⟩, .slice (some ⟨q + 1 + 1 + 1, 0, none⟩) 3 3, .slice (some ⟨q + 1 + 1 + 1 + 1, 0, none⟩) 1 1, .bool true] 48) := by rw [hV6]; have h := heap_newC V5 (.cells #[.string ⟨#[110, 111, 116, 101]⟩, .slice (some ⟨q, 0, none⟩) 2 2, .slice none 0 0, .bool true, .string ⟨#[112, 111, 114, 116]⟩, .slice (some ⟨q + 1, 0, none⟩) 3 3, .slice (some ⟨q + 1 + 1, 0, none⟩) 1 1, .bool false, .string ⟨#[115, 119, 105, 116, 99, 104]⟩, .slice (some ⟨q + 1 + 1 + 1, 0, none⟩) 3 3, .slice (some ⟨q + 1 + 1 + 1 + 1, 0, none⟩) 1 1, .bool true] 48); rw [s5] at h; exact h
 have b6 : Below V5.heap.size V5 V6 := by rw [hV6]; exact al _ _
 rw [← hV6]; have m1 := (heap_keptC (heap_keptC (heap_keptC (heap_keptC (heap_keptC n1 b2) b3) b4) b5) b6); have m2 := (heap_keptC (heap_keptC (heap_keptC (heap_keptC n2 b3) b4) b5) b6); have m3 := (heap_keptC (heap_keptC (heap_keptC n3 b4) b5) b6); have m4 := (heap_keptC (heap_keptC n4 b5) b6); have m5 := (heap_keptC n5 b6); have m6 := n6; have hBW : Below w.heap.size w V6 := ((((((hB.trans (b1.mono (by omega))).trans (b2.mono (by omega))).trans (b3.mono (by omega))).trans (b4.mono (by omega))).trans (b5.mono (by omega))).trans (b6.mono (by omega))); clear hV1 hV2 hV3 hV4 hV5 hV6 n1 n2 n3 n4 n5 n6 b1 b2 b3 b4 b5 b6; refine ⟨plA q, q + 1 + 1 + 1 + 1 + 1, plC q, plU w.heap.size q, rfl, ⟨?_, fun i hi => ?_, fun i hi => ?_⟩, ⟨fun i hi => ?_, fun i hi => ?_, fun i j hi hj => ?_, fun i j hi hj hn => ?_, fun i j hi hj hn => ?_⟩, fun b hb => ?_, hBW⟩
 ·
  exact own_of m6 (fun m hm => by
  match m, hm with
  | 0, _ => rfl
  | 1, _ => rfl
  | 2, _ => rfl
  | 3, _ => rfl
  | 4, _ => rfl
  | 5, _ => rfl
  | 6, _ => rfl
  | 7, _ => rfl
  | 8, _ => rfl
  | 9, _ => rfl
  | 10, _ => rfl
  | 11, _ => rfl)
 ·
  match i, hi with
  | 0, _ => exact own_of m1 (fun m hm => by
   have hm' : m < 16 := hm; rcases (by omega : m = 0 ∨ m = 1 ∨ m = 2 ∨ m = 3 ∨ m = 4 ∨ m = 5 ∨ m = 6 ∨ m = 7 ∨ m = 8 ∨ m = 9 ∨ m = 10 ∨ m = 11 ∨ m = 12 ∨ m = 13 ∨ m = 14 ∨ m = 15) with rfl | rfl | rfl | rfl | rfl | rfl | rfl | rfl | rfl | rfl | rfl | rfl | rfl | rfl | rfl | rfl <;> rfl)
  | 1, _ => exact own_of m2 (fun m hm => by
   have hm' : m < 24 := hm; rcases (by omega : m = 0 ∨ m = 1 ∨ m = 2 ∨ m = 3 ∨ m = 4 ∨ m = 5 ∨ m = 6 ∨ m = 7 ∨ m = 8 ∨ m = 9 ∨ m = 10 ∨ m = 11 ∨ m = 12 ∨ m = 13 ∨ m = 14 ∨ m = 15 ∨ m = 16 ∨ m = 17 ∨ m = 18 ∨ m = 19 ∨ m = 20 ∨ m = 21 ∨ m = 22 ∨ m = 23) with rfl | rfl | rfl | rfl | rfl | rfl | rfl | rfl | rfl | rfl | rfl | rfl | rfl | rfl | rfl | rfl | rfl | rfl | rfl | rfl | rfl | rfl | rfl | rfl <;> rfl)
  | 2, _ => exact own_of m4 (fun m hm => by
   have hm' : m < 24 := hm; rcases (by omega : m = 0 ∨ m = 1 ∨ m = 2 ∨ m = 3 ∨ m = 4 ∨ m = 5 ∨ m = 6 ∨ m = 7 ∨ m = 8 ∨ m = 9 ∨ m = 10 ∨ m = 11 ∨ m = 12 ∨ m = 13 ∨ m = 14 ∨ m = 15 ∨ m = 16 ∨ m = 17 ∨ m = 18 ∨ m = 19 ∨ m = 20 ∨ m = 21 ∨ m = 22 ∨ m = 23) with rfl | rfl | rfl | rfl | rfl | rfl | rfl | rfl | rfl | rfl | rfl | rfl | rfl | rfl | rfl | rfl | rfl | rfl | rfl | rfl | rfl | rfl | rfl | rfl <;> rfl)
 ·
  match i, hi with
  | 0, _ => exact .inl rfl
  | 1, _ => exact own_of m3 (fun m hm => by
   match m, hm with
   | 0, _ => rfl)
  | 2, _ => exact own_of m5 (fun m hm => by
   match m, hm with
   | 0, _ => rfl)
 ·
  match i, hi with
  | 0, _ => simp only [plC]; omega
  | 1, _ => simp only [plC]; omega
  | 2, _ => simp only [plC]; omega
 ·
  match i, hi with
  | 0, _ => simp only [plU]; omega
  | 1, _ => simp only [plU]; omega
  | 2, _ => simp only [plU]; omega
 ·
  match i, j, hi, hj with
  | 0, 0, _, _ => simp only [plC, plU]; omega
  | 0, 1, _, _ => simp only [plC, plU]; omega
  | 0, 2, _, _ => simp only [plC, plU]; omega
  | 1, 0, _, _ => simp only [plC, plU]; omega
  | 1, 1, _, _ => simp only [plC, plU]; omega
  | 1, 2, _, _ => simp only [plC, plU]; omega
  | 2, 0, _, _ => simp only [plC, plU]; omega
  | 2, 1, _, _ => simp only [plC, plU]; omega
  | 2, 2, _, _ => simp only [plC, plU]; omega
 ·
  match i, j, hi, hj with
  | 0, 0, _, _ => exact absurd rfl hn
  | 0, 1, _, _ => simp only [plC]; omega
  | 0, 2, _, _ => simp only [plC]; omega
  | 1, 0, _, _ => simp only [plC]; omega
  | 1, 1, _, _ => exact absurd rfl hn
  | 1, 2, _, _ => simp only [plC]; omega
  | 2, 0, _, _ => simp only [plC]; omega
  | 2, 1, _, _ => simp only [plC]; omega
  | 2, 2, _, _ => exact absurd rfl hn
 ·
  match i, j, hi, hj with
  | 0, 0, _, _ => exact absurd rfl hn
  | 0, 1, _, _ => simp only [plU]; omega
  | 0, 2, _, _ => simp only [plU]; omega
  | 1, 0, _, _ => simp only [plU]; omega
  | 1, 1, _, _ => exact absurd rfl hn
  | 1, 2, _, _ => simp only [plU]; omega
  | 2, 0, _, _ => simp only [plU]; omega
  | 2, 1, _, _ => simp only [plU]; omega
  | 2, 2, _, _ => exact absurd rfl hn
 ·
  rcases hb with rfl | ⟨i, hi, h⟩
  ·
   omega
  ·
   match i, hi with
   | 0, _ => simp only [plC, plU] at h; omega
   | 1, _ => simp only [plC, plU] at h; omega
   | 2, _ => simp only [plC, plU] at h; omega
set_option maxRecDepth 100000 in
set_option maxHeartbeats 6400000 in
theorem plainS (w : World) : Calls Tryz.prog 4 #[] w (PlAns w) := by
 (go_enter Tryz.func4, Tryz.ntmps4); (go_wp2_with fail); refine bodyPost_ret (v := .agg #[.slice (some ⟨w.heap.size + 1 + 1 + 1 + 1 + 1 + 1 + 1, 0, none⟩) 3 3]) (by simp [results, Tryz.results4, go_sem]) rfl ?_; refine plain_own (q := w.heap.size + 1 + 1) (by simp) (by omega) ?_
 repeat' (first | exact Below.refl _ _ | refine Below.alloc ?_ (by simp <;> omega) _)
def dAtom (x : At) : Nat → D
 | 0 => .i x.k
 | 1 => .i x.n
 | _ => .s x.t
def dAtomS (l : List At) : D := Ls 3 dAtom l
def cAtomS (x : List At) : Nat → D := fun _ => dAtomS x
def dAtomSS (l : List (List At)) : D := Ls 1 cAtomS l
def cString (x : List UInt8) : Nat → D := fun _ => .s x
def dStringS (l : List (List UInt8)) : D := Ls 1 cString l
structure SetV where
 col : List UInt8
 val : List At
 nms : List (List UInt8)
def dSet (x : SetV) : Nat → D
 | 0 => .s x.col
 | 1 => dAtomS x.val
 | _ => dStringS x.nms
def dSetS (l : List SetV) : D := Ls 3 dSet l
structure RowV where
 id : Int
 cells : List (List At)
def dRow (x : RowV) : Nat → D
 | 0 => .i x.id
 | _ => dAtomSS x.cells
def dRowS (l : List RowV) : D := Ls 2 dRow l
theorem wpList_append_is {P : Program} {ops : Array Oper} {rest : List Oper} {o : Oper} {a : Act} {w : World} {Q : Exit → Act → World → Prop} (hgd : o.guard = none) (s x : Operand) (t : TypeId)
  (ho : o.op = .call { callee := .builtin .append, args := #[s, x], argTypes := #[t, t] }) (v y : Value) (hs : a.eval s = v) (hx : a.eval x = y) (v' : Value) (w' : World) (hr : (Builtin.append_ #[t, t] o.type #[v, y]).run P w = .ok v' w')
  (hk : wpList P ops Q rest (a.put o.dst v') w') : wpList P ops Q (o :: rest) a w := by
 refine wpList_plain hgd fun _ hK => ?_
 unfold Oper.wp execOp; simp only [ho, resolve, invoke, builtin, Sem.run_bind, Sem.run_pure, Result.andThen_ok, List.map_toArray, List.map_cons, List.map_nil, hs, hx, hr]; exact hK _ _ hk
def GoodC (l : List Cl) (i : Nat) (h : i < l.length) : Prop := colB l[i] = true ∧ ∀ k (hk : k < i), (l[k]'(by omega)).nm ≠ l[i].nm
def GoodU (n : Nat) (u : List Int) (i : Nat) (h : i < u.length) : Prop := (0 ≤ u[i] ∧ u[i] < (n : Int)) ∧ ∀ j (hj : j + 1 = i), (u[j]'(by omega)) < u[i]
structure TabP (t : Tb) : Prop where
 nm : nameB t.nm = true
 len : 1 ≤ t.cols.length ∧ t.cols.length ≤ 6
 cols : ∀ i (h : i < t.cols.length), GoodC t.cols i h
 uq : ∀ i (h : i < t.uq.length), GoodU t.cols.length t.uq i h
noncomputable def tabB (t : Tb) : Bool := @decide (TabP t) (Classical.propDecidable _)
theorem tab_yes {t : Tb} (h : TabP t) : tabB t = true := by unfold tabB; exact @decide_eq_true _ (Classical.propDecidable _) h
theorem tab_no {t : Tb} (h : ¬ TabP t) : tabB t = false := by unfold tabB; exact @decide_eq_false _ (Classical.propDecidable _) h
theorem uq_ge {n : Nat} {u : List Int} (h : ∀ i (h : i < u.length), GoodU n u i h) : ∀ i (hi : i < u.length), (i : Int) ≤ u[i]
 | 0, hi => by have := (h 0 hi).1.1; omega
 | i + 1, hi => by
  have h1 := uq_ge h i (by omega); have h2 := (h (i + 1) hi).2 i rfl
  omega
theorem uq_len {n : Nat} {u : List Int} (h : ∀ i (h : i < u.length), GoodU n u i h) : u.length ≤ n := by
 by_cases h0 : u.length = 0
 ·
  omega
 ·
  have h1 := uq_ge h (u.length - 1) (by omega); have h2 := (h (u.length - 1) (by omega)).1.2
  omega
def FirstC (l : List Cl) (t : List UInt8) (q : Int) : Prop := (q = -1 ∧ ∀ k (h : k < l.length), l[k].nm ≠ t) ∨ ∃ k, ∃ h : k < l.length, q = (k : Int) ∧ l[k].nm = t ∧ ∀ j (hj : j < k), (l[j]'(by omega)).nm ≠ t
theorem first_one {l : List Cl} {t : List UInt8} {q q' : Int} (h : FirstC l t q) (h' : FirstC l t q') : q = q' := by
  rcases h with ⟨rfl, h⟩ | ⟨k, hk, rfl, e, h⟩
  · rcases h' with ⟨rfl, -⟩ | ⟨k', hk', rfl, e', -⟩
    · rfl
    · exact absurd e' (h k' hk')
  · rcases h' with ⟨rfl, h'⟩ | ⟨k', hk', rfl, e', h'⟩
    · exact absurd e (h' k hk)
    · rcases Nat.lt_trichotomy k k' with c | c | c
      · exact absurd e (h' k c)
      · rw [c]
      · exact absurd e' (h k' c)
theorem least_nat {P : Nat → Prop} (n : Nat) (h : P n) : ∃ k, P k ∧ ∀ j, j < k → ¬ P j := by
 induction n using Nat.strongRecOn with
 | _ n ih =>
  by_cases hh : ∃ j, j < n ∧ P j
  ·
   obtain ⟨j, hj, hp⟩ := hh; exact ih j hj hp
  ·
   exact ⟨n, h, fun j hj hp => hh ⟨j, hj, hp⟩⟩
theorem first_some (l : List Cl) (t : List UInt8) : ∃ q, FirstC l t q := by
 by_cases h : ∃ k, ∃ h : k < l.length, l[k].nm = t
 ·
  obtain ⟨n, hn⟩ := h; obtain ⟨k, ⟨hk, e⟩, hmin⟩ := least_nat (P := fun k => ∃ h : k < l.length, l[k].nm = t) n hn; exact ⟨k, .inr ⟨k, hk, rfl, e, fun j hj he => hmin j hj ⟨by omega, he⟩⟩⟩
 ·
  exact ⟨-1, .inl ⟨rfl, fun k hk e => h ⟨k, hk, e⟩⟩⟩
noncomputable def placeC (l : List Cl) (t : List UInt8) : Int := Classical.choose (first_some l t)
theorem place_first (l : List Cl) (t : List UInt8) : FirstC l t (placeC l t) := Classical.choose_spec (first_some l t)
theorem place_eq {l : List Cl} {t : List UInt8} {q : Int} (h : FirstC l t q) : placeC l t = q := first_one (place_first l t) h
set_option maxRecDepth 100000 in
set_option maxHeartbeats 3200000 in
theorem placeS (t : Tb) (s : List UInt8) (ca : Option Addr) (cc : Nat) (ua : Option Addr) (uc : Nat) (B : Nat → Prop) (w : World) (hl : t.cols.length ≤ maxLen) (hS : t.Has w B ca ua) :
  Calls Tryz.prog 52 #[.agg #[.string ⟨t.nm.toArray⟩, .slice ca t.cols.length cc, .slice ua t.uq.length uc, .bool t.rt], .string ⟨s.toArray⟩] w fun e w' => e = .returned (.int .i64 (placeC t.cols s)) ∧ Below w.heap.size w w' := by
 unfold maxLen at hl; have HS : Hid (t.Has w B ca ua) := hS; have HX := Lib.hid (boxT 48 w t ca cc ua uc); clear hS; (go_enter Tryz.func52, Tryz.ntmps52); (go_wp2_with fail); go_loopw [5] (fun i wr => ∃ k : Nat, k ≤ t.cols.length ∧ i = .int .i64 k ∧ Hid ((∀ m (h : m < t.cols.length), m < k → t.cols[m].nm ≠ s) ∧ BoxT 48 w wr t ca cc ua uc)) (fun i _ => t.cols.length - (intOf i).toNat)
 case atStart => exact ⟨0, Nat.zero_le _, rfl, fun m _ h => absurd h (by omega), HX.out⟩
 case round =>
  obtain ⟨k, hk, rfl, HW⟩ := hrel; have x1 := cell_at (o := 1) HW.out.2.1 rfl
  by_cases hlt : k < t.cols.length
  ·
   have hki : (k : Int) < (t.cols.length : Int) := by omega
   obtain ⟨b, off, rfl, -, hc⟩ := (HS.out.later HW.out.2.2).1.at k hlt; have c0 := (hc k hlt).1; clear hc
   by_cases he : t.cols[k].nm = s
   ·
    have HP : Hid (placeC t.cols s = k) := place_eq (.inr ⟨k, hlt, rfl, he, fun j hj => HW.out.1 j (by omega) hj⟩); rw [he] at c0; clear he; (go_wp2_with fail); go_ret; exact ⟨ret_i HP.out.symm, HW.out.2.2⟩
   ·
    have HN : Hid (∀ m (h : m < t.cols.length), m < k + 1 → t.cols[m].nm ≠ s) := fun m h hm => by
     by_cases e : m = k
     ·
      subst e; exact he
     ·
      exact HW.out.1 m h (by omega)
    have hne : (t.cols[k].nm == s) = false := by simpa using he
    clear he; generalize t.cols[k] = x at *; (go_wp2_with fail); go_roundw
    case rel => exact ⟨k + 1, by omega, by go_num, HN.out, HW.out.2⟩
    case measure => simp [intOf]; omega
  ·
   have HP : Hid (placeC t.cols s = -1) := place_eq (.inl ⟨rfl, fun m h => HW.out.1 m h (by omega)⟩); have hki : decide ((k : Int) < (t.cols.length : Int)) = false := by simp; omega
   (go_wp2_with fail); go_ret; exact ⟨ret_i HP.out.symm, HW.out.2.2⟩
set_option maxRecDepth 100000 in
set_option maxHeartbeats 3200000 in
theorem placeI (t : Tb) (s : List UInt8) (ca : Option Addr) (cc : Nat) (ua : Option Addr) (uc : Nat) (B : Nat → Prop) (w : World) (hl : t.cols.length ≤ maxLen) (hS : t.Has w B ca ua) :
  Calls Tryz.prog 74 #[.agg #[.string ⟨t.nm.toArray⟩, .slice ca t.cols.length cc, .slice ua t.uq.length uc, .bool t.rt], .string ⟨s.toArray⟩] w fun e w' => e = .returned (.int .i64 (placeC t.cols s)) ∧ Below w.heap.size w w' := by
 unfold maxLen at hl; have HS : Hid (t.Has w B ca ua) := hS; have HX := Lib.hid (boxT 48 w t ca cc ua uc); clear hS; (go_enter Tryz.func74, Tryz.ntmps74); (go_wp2_with fail); go_loopw [9] (fun i wr => ∃ k : Nat, k ≤ t.cols.length ∧ i = .int .i64 k ∧ Hid ((∀ m (h : m < t.cols.length), m < k → t.cols[m].nm ≠ s) ∧ BoxT 48 w wr t ca cc ua uc)) (fun i _ => t.cols.length - (intOf i).toNat)
 case atStart => exact ⟨0, Nat.zero_le _, rfl, fun m _ h => absurd h (by omega), HX.out⟩
 case round =>
  obtain ⟨k, hk, rfl, HW⟩ := hrel; have x1 := cell_at (o := 1) HW.out.2.1 rfl
  by_cases hlt : k < t.cols.length
  ·
   have hki : (k : Int) < (t.cols.length : Int) := by omega
   obtain ⟨b, off, rfl, -, hc⟩ := (HS.out.later HW.out.2.2).1.at k hlt; have c0 := (hc k hlt).1; clear hc
   by_cases he : t.cols[k].nm = s
   ·
    have HP : Hid (placeC t.cols s = k) := place_eq (.inr ⟨k, hlt, rfl, he, fun j hj => HW.out.1 j (by omega) hj⟩); rw [he] at c0; clear he; (go_wp2_with fail); go_ret; exact ⟨ret_i HP.out.symm, HW.out.2.2⟩
   ·
    have HN : Hid (∀ m (h : m < t.cols.length), m < k + 1 → t.cols[m].nm ≠ s) := fun m h hm => by
     by_cases e : m = k
     ·
      subst e; exact he
     ·
      exact HW.out.1 m h (by omega)
    have hne : (t.cols[k].nm == s) = false := by simpa using he
    clear he; generalize t.cols[k] = x at *; (go_wp2_with fail); go_roundw
    case rel => exact ⟨k + 1, by omega, by go_num, HN.out, HW.out.2⟩
    case measure => simp [intOf]; omega
  ·
   have HP : Hid (placeC t.cols s = -1) := place_eq (.inl ⟨rfl, fun m h => HW.out.1 m h (by omega)⟩); have hki : decide ((k : Int) < (t.cols.length : Int)) = false := by simp; omega
   (go_wp2_with fail); go_ret; exact ⟨ret_i HP.out.symm, HW.out.2.2⟩
end Go.Proofs.YtlbcaaodkggohaaGreatDoor
