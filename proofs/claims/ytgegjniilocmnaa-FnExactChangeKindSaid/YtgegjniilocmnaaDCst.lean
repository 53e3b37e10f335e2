import Derived.Test.YtgegjniilocmnaaDCpy
import Derived.Test.YtgegjniilocmnaaDStP
import Derived.Deep.RegionHeld3
namespace Go.Proofs.Ytgegjniilocmnaa
open Go.RowKit
set_option linter.unusedSimpArgs false
/-- a thing is put into the row first, and made behind that -/
theorem TS.late {wr wa wq : World} {T : TypeId} {n L : Nat} {f : Nat → Nat → D} {b i : Nat} (h : TS wr T n L f b i) (hB : Below wr.heap.size wr wa) (us : Nat → Value) (hq : Below wr.heap.size (putN wa b (i * n) us n) wq) (ho : Owns wq n (f i) us (fun c => wr.heap.size ≤ c ∧ c < wq.heap.size)) : TS wq T n L f b (i + 1) := by
  obtain ⟨g, X, hr, hX, hd, hx⟩ := h
  obtain ⟨Y, hY, hyd, hy⟩ := ho
  have hbl := hr.lt
  have hsz := hB.size
  have hsq := hq.size
  rw [putN_size] at hsq
  refine ⟨_, fun i' j c => if i' = i then j < n ∧ Y j c else X i' j c, (rowIs_putN (hr.of_block (hB.block _ hr.lt)) (i * n) us n).of_block (hq.block b hbl), fun i' j c hc => ?_, fun i1 j i2 j' c h1 h2 => ?_, fun i' j hi' hj => ?_⟩
  · by_cases e : i' = i
    · simp only [e, if_true] at hc
      have := hY j c hc.2
      omega
    · simp only [e, if_false] at hc
      have := hX i' j c hc
      omega
  · by_cases e1 : i1 = i <;> by_cases e2 : i2 = i
    · simp only [e1, e2, if_true] at h1 h2
      exact ⟨by omega, hyd j j' c h1.2 h2.2⟩
    · simp only [e1, e2, if_true, if_false] at h1 h2
      have := hY j c h1.2; have := hX i2 j' c h2
      omega
    · simp only [e1, e2, if_true, if_false] at h1 h2
      have := hY j' c h2.2; have := hX i1 j c h1
      omega
    · simp only [e1, e2, if_false] at h1 h2
      exact hd i1 j i2 j' c h1 h2
  · by_cases e : i' = i
    · subst e
      simp only [if_true]
      rw [if_pos (by omega), show i' * n + j - i' * n = j by omega]
      exact (hy j hj).mono (fun c hc => ⟨hj, hc⟩)
    · simp only [e, if_false]
      have hlt : i' < i := by omega
      have hspot : i' * n + j < i * n := by
        obtain ⟨k, rfl⟩ : ∃ k, i = i' + 1 + k := ⟨i - i' - 1, by omega⟩
        have : (i' + 1 + k) * n = i' * n + n + k * n := by rw [Nat.add_mul, Nat.add_mul, Nat.one_mul]
        omega
      rw [if_neg (by omega)]
      refine Own.same (f i' j) (X i' j) _ _ (fun c hc => ?_) (fun c hc => hc) (hx i' j hlt hj)
      have := hX i' j c hc
      rw [hq.block c (by omega), putN_block _ _ _ _ (by omega) n, hB.block c (by omega)]
theorem TS.apart {wr : World} {T : TypeId} {n L : Nat} {f : Nat → Nat → D} {b i p : Nat} (h : TS wr T n L f b i) (hp : p < b) (o : Nat) (v : Value) : TS (wr.setCell ⟨p, o, none⟩ v) T n L f b i := by
  obtain ⟨g, X, hr, hX, hd, hx⟩ := h
  refine ⟨g, X, hr.of_block (Below.heap_setCell _ _ _ _ (by show b ≠ p; omega)), fun i' j c hc => by simpa [World.setCell] using hX i' j c hc, hd, fun i' j hi hj => ?_⟩
  refine Own.same (f i' j) (X i' j) _ _ (fun c hc => ?_) (fun c hc => hc) (hx i' j hi hj)
  exact Below.heap_setCell _ _ _ _ (by have := hX i' j c hc; show c ≠ p; omega)
end Go.Proofs.Ytgegjniilocmnaa
