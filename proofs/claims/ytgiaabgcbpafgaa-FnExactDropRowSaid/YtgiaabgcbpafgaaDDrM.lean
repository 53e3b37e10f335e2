import Derived.Test.YtgiaabgcbpafgaaDDel
namespace Go.Proofs.Ytgiaabgcbpafgaa
open Go.RowKit
set_option linter.unusedSimpArgs false
/-! what DropRow answers -/
def stZ : StV := ⟨[], 0⟩
noncomputable def dropP (x : StV) (t id : Int) : Int × StV :=
  if plainB x = true then
    if 0 ≤ t ∧ t < x.tables.length then
      if rplI (x.tables.getD t.toNat []) id < 0 then (5, x) else (0, ⟨x.tables.set t.toNat ((x.tables.getD t.toNat []).eraseIdx (rplI (x.tables.getD t.toNat []) id).toNat), x.next⟩)
    else (10, stZ)
  else (1, stZ)
theorem erase_at {l : List RowV} {k a : Nat} (hk : k < l.length) (ha : a < (l.eraseIdx k).length) : (l.eraseIdx k)[a] = l[if a < k then a else a + 1]'(by rw [List.length_eraseIdx_of_lt hk] at ha; split <;> omega) := by
  rw [List.getElem_eraseIdx]
  split <;> rfl
/-- a row is taken out of a list of rows, in place -/
theorem own_drop {w w4 : World} {l : List RowV} {k p : Nat} {g g' : Nat → Value} {T : TypeId} {B : Nat → Prop} (hk : k < l.length) (hO : Own w (dRowS l) B (.slice (some ⟨p, 0, none⟩) l.length l.length)) (hr : w.rowIs p T (l.length * 2) g) (hfr : ∀ c, B c → c ≠ p → w4.heap[c]? = w.heap[c]?) (hr' : w4.rowIs p T (l.length * 2) g') (hg' : ∀ m, m < (l.length - 1) * 2 → g' m = shG g k (l.length - 1) m) :
    Own w4 (dRowS (l.eraseIdx k)) B (.slice (some ⟨p, 0, none⟩) (l.eraseIdx k).length l.length) := by
  obtain ⟨a, c, e, h⟩ := hO
  rcases h with h | ⟨b, off, X, ha, hB, hn, hX, hd, hc⟩
  · omega
  simp only [Value.slice.injEq, true_and] at e
  obtain ⟨rfl, rfl⟩ := e
  simp only [Option.some.injEq, Addr.mk.injEq, and_true] at ha
  obtain ⟨rfl, rfl⟩ := ha
  have hle := List.length_eraseIdx_of_lt hk
  refine ⟨_, _, rfl, .inr ⟨p, 0, fun i j c => i < l.length - 1 ∧ X (if i < k then i else i + 1) j c, rfl, hB, hn, fun i j c h => hX _ _ _ h.2, fun i j i' j' c h h' => ?_, fun i j hi hj => ?_⟩⟩
  · obtain ⟨h1, h2⟩ := hd _ _ _ _ _ h.2 h'.2
    refine ⟨?_, h2⟩
    split at h1 <;> split at h1 <;> omega
  · rw [hle] at hi
    have hlt : i * 2 + j < (l.length - 1) * 2 := by omega
    have hs : (if i < k then i else i + 1) < l.length := by split <;> omega
    obtain ⟨u, hu, -, ho⟩ := hc (if i < k then i else i + 1) j hs hj
    have hlt2 : (if i < k then i else i + 1) * 2 + j < l.length * 2 := by omega
    have hu2 := hr.cell (i := (if i < k then i else i + 1) * 2 + j) hlt2
    rw [Nat.zero_add] at hu
    rw [hu] at hu2
    simp only [Option.some.injEq] at hu2
    refine ⟨u, ?_, by rw [Nat.zero_add]; exact hr'.frozen _, ?_⟩
    · rw [Nat.zero_add, hr'.cell (i := i * 2 + j) (by omega), hg' _ hlt, hu2]
      unfold shG
      by_cases e : i < k
      · rw [if_neg (by omega), if_pos e]
      · rw [if_pos (by omega), if_neg e]
        congr 2
        omega
    · rw [lsF_at hs] at ho
      rw [lsF_at (by rw [hle]; exact hi), erase_at hk]
      exact Own.same _ _ _ _ (fun c hc2 => hfr c (hX _ _ _ hc2).1 (hX _ _ _ hc2).2) (fun c hc2 => ⟨hi, hc2⟩) ho
/-- another list is put in a table's place -/
theorem own_put {w w5 : World} {L : List (List RowV)} {i q p : Nat} {gq : Nat → Value} {T : TypeId} {B : Nat → Prop} {l' : List RowV} {v' : Value} (hi : i < L.length) (hl : 0 < L[i].length) (hO : Own w (dRowSS L) B (.slice (some ⟨q, 0, none⟩) L.length L.length)) (hcell : w.cell? ⟨q, i, none⟩ = some (.slice (some ⟨p, 0, none⟩) L[i].length L[i].length))
    (hfr : ∀ c, B c → c ≠ p → c ≠ q → w5.heap[c]? = w.heap[c]?) (hr : w.rowIs q T L.length gq) (hr' : w5.rowIs q T L.length (fun m => if m = i then v' else gq m))
    (hnew : ∀ Y : Nat → Prop, (∀ c, Y c → B c ∧ c ≠ q) → Own w (dRowS L[i]) Y (.slice (some ⟨p, 0, none⟩) L[i].length L[i].length) → Own w5 (dRowS l') Y v') :
    Own w5 (dRowSS (L.set i l')) B (.slice (some ⟨q, 0, none⟩) (L.set i l').length L.length) := by
  obtain ⟨a, c, e, h⟩ := hO
  rcases h with h | ⟨b, off, X, ha, hB, hn, hX, hd, hc⟩
  · omega
  simp only [Value.slice.injEq, true_and] at e
  obtain ⟨rfl, rfl⟩ := e
  simp only [Option.some.injEq, Addr.mk.injEq, and_true] at ha
  obtain ⟨rfl, rfl⟩ := ha
  obtain ⟨ui, hui, -, hoi⟩ := hc i 0 hi (by omega)
  rw [Nat.zero_add, Nat.mul_one, Nat.add_zero, hcell] at hui
  simp only [Option.some.injEq] at hui
  subst hui
  rw [lsF_at hi] at hoi
  replace hoi : Own w (dRowS L[i]) (X i 0) (.slice (some ⟨p, 0, none⟩) L[i].length L[i].length) := hoi
  have hXp : X i 0 p := by
    obtain ⟨a2, c2, e2, h2⟩ := hoi
    rcases h2 with h2 | ⟨b2, off2, X2, ha2, hB2, -⟩
    · omega
    simp only [Value.slice.injEq, true_and] at e2
    obtain ⟨rfl, rfl⟩ := e2
    simp only [Option.some.injEq, Addr.mk.injEq, and_true] at ha2
    obtain ⟨rfl, rfl⟩ := ha2
    exact hB2
  refine ⟨_, _, rfl, .inr ⟨q, 0, X, rfl, hB, hn, hX, hd, fun j z hj hz => ?_⟩⟩
  obtain rfl : z = 0 := by omega
  rw [List.length_set] at hj
  rw [Nat.zero_add, Nat.mul_one, Nat.add_zero]
  refine ⟨_, hr'.cell (i := j) hj, hr'.frozen _, ?_⟩
  rw [lsF_at (by rw [List.length_set]; exact hj)]
  by_cases e : j = i
  · subst e
    rw [if_pos rfl, List.getElem_set_self]
    exact hnew _ (fun c hc2 => hX _ _ _ hc2) hoi
  · obtain ⟨uj, huj, -, hoj⟩ := hc j 0 hj (by omega)
    rw [Nat.zero_add, Nat.mul_one, Nat.add_zero, hr.cell (i := j) hj] at huj
    simp only [Option.some.injEq] at huj
    rw [if_neg e, huj, List.getElem_set_ne (by omega)]
    rw [lsF_at hj] at hoj
    exact Own.same _ _ _ _ (fun c hc2 => hfr c (hX _ _ _ hc2).1 (fun ec => by subst ec; exact e (hd _ _ _ _ _ hc2 hXp).1) (hX _ _ _ hc2).2) (fun c hc2 => hc2) hoj
end Go.Proofs.Ytgiaabgcbpafgaa
