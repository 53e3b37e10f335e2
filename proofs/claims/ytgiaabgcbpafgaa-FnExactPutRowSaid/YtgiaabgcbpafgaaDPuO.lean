import Derived.Test.YtgiaabgcbpafgaaDPuM
namespace Go.Proofs.Ytgiaabgcbpafgaa
open Go.RowKit
set_option linter.unusedSimpArgs false
/-! a list of rows with a row put, in its place or in another block -/
theorem own_newL {w w5 : World} {l : List RowV} {r : RowV} {k t p b' cp : Nat} {g G : Nat → Value} {T : TypeId} {Y N0 : Nat → Prop} {vq : Value} (hk : k ≤ l.length) (ht : k ≤ t) (htl : t ≤ l.length)
    (hO : Own w (dRowS l) Y (.slice (some ⟨p, 0, none⟩) l.length l.length)) (hr : w.rowIs p T (l.length * 2) g) (hfr : ∀ c, Y c → c ≠ p → w5.heap[c]? = w.heap[c]?)
    (hcell : ∀ m, m < (l.take k ++ r :: l.drop t).length * 2 → w5.cell? ⟨b', m, none⟩ = some (G m) ∧ w5.frozen? ⟨b', m, none⟩ = false)
    (hG1 : ∀ m, m < k * 2 → G m = g m) (hG2 : G (k * 2) = .int .i64 r.id) (hG2' : G (k * 2 + 1) = vq) (hG3 : ∀ m, m < (l.length - t) * 2 → G ((k + 1) * 2 + m) = g (t * 2 + m))
    (hYb : ∀ c, Y c → c ≠ p → c ≠ b') (hN : ∀ c, N0 c → ¬ Y c ∧ c ≠ b') (hq : Own w5 (dAtomSS r.cells) N0 vq) :
    Own w5 (dRowS (l.take k ++ r :: l.drop t)) (fun c => (Y c ∨ N0 c) ∨ c = b') (.slice (some ⟨b', 0, none⟩) (l.take k ++ r :: l.drop t).length cp) := by
  have hX : ∃ X : Nat → Nat → Nat → Prop, (∀ i j c, X i j c → Y c ∧ c ≠ p) ∧ (∀ i j i' j' c, X i j c → X i' j' c → i = i' ∧ j = j') ∧ ∀ i (hi : i < l.length) j, j < 2 → Own w (dRow l[i] j) (X i j) (g (i * 2 + j)) := by
    obtain ⟨a, c, e, h⟩ := hO
    rcases h with h | ⟨b, off, X, ha, hB, hn, hX, hd, hc⟩
    · exact ⟨fun _ _ _ => False, fun _ _ _ h => h.elim, fun _ _ _ _ _ h => h.elim, fun i hi => by omega⟩
    simp only [Value.slice.injEq, true_and] at e
    obtain ⟨rfl, rfl⟩ := e
    simp only [Option.some.injEq, Addr.mk.injEq, and_true] at ha
    obtain ⟨rfl, rfl⟩ := ha
    refine ⟨X, hX, hd, fun i hi j hj => ?_⟩
    obtain ⟨u, hu, -, ho⟩ := hc i j hi hj
    rw [Nat.zero_add, hr.cell (i := i * 2 + j) (by omega)] at hu
    simp only [Option.some.injEq] at hu
    rw [lsF_at hi] at ho
    rw [hu]
    exact ho
  obtain ⟨X, hX, hd, hc⟩ := hX
  have hlen := P_len (l := l) (r := r) (t := t) hk
  refine ⟨_, _, rfl, .inr ⟨b', 0, fun i j c => if i < k then X i j c else if i = k then j = 1 ∧ N0 c else X (t + (i - (k + 1))) j c, rfl, .inr rfl, by omega, fun i j c h => ?_, fun i j i' j' c h h' => ?_, fun i j hi hj => ?_⟩⟩
  · dsimp only at h
    split at h
    · exact ⟨.inl (.inl (hX _ _ _ h).1), hYb _ (hX _ _ _ h).1 (hX _ _ _ h).2⟩
    · split at h
      · exact ⟨.inl (.inr h.2), (hN _ h.2).2⟩
      · exact ⟨.inl (.inl (hX _ _ _ h).1), hYb _ (hX _ _ _ h).1 (hX _ _ _ h).2⟩
  · dsimp only at h h'
    split at h
    · split at h'
      · exact hd _ _ _ _ _ h h'
      · split at h'
        · exact absurd (hX _ _ _ h).1 (hN _ h'.2).1
        · have := hd _ _ _ _ _ h h'; omega
    · split at h
      · split at h'
        · exact absurd (hX _ _ _ h').1 (hN _ h.2).1
        · split at h'
          · omega
          · exact absurd (hX _ _ _ h').1 (hN _ h.2).1
      · split at h'
        · have := hd _ _ _ _ _ h h'; omega
        · split at h'
          · exact absurd (hX _ _ _ h).1 (hN _ h'.2).1
          · have := hd _ _ _ _ _ h h'; omega
  · dsimp only
    rw [Nat.zero_add]
    obtain ⟨hc1, hc2⟩ := hcell (i * 2 + j) (by omega)
    refine ⟨_, hc1, hc2, ?_⟩
    rw [hlen] at hi
    rcases Nat.lt_trichotomy i k with e | e | e
    · rw [P_lt hk e, hG1 _ (by omega)]
      simp only [if_pos e]
      exact Own.same _ _ _ _ (fun c h => hfr c (hX _ _ _ h).1 (hX _ _ _ h).2) (fun c h => h) (hc i (by omega) j hj)
    · subst e
      rw [P_eq hk]
      simp only [if_neg (Nat.lt_irrefl _), if_true]
      rcases (by omega : j = 0 ∨ j = 1) with rfl | rfl
      · rw [Nat.add_zero, hG2]; rfl
      · rw [hG2']
        exact Own.mono hq (fun c h => ⟨rfl, h⟩)
    · obtain ⟨b, rfl⟩ : ∃ b, i = k + 1 + b := ⟨i - (k + 1), by omega⟩
      have hb : b < l.length - t := by omega
      rw [P_gt hk hb, show (k + 1 + b) * 2 + j = (k + 1) * 2 + (b * 2 + j) by omega, hG3 _ (by omega), show t * 2 + (b * 2 + j) = (t + b) * 2 + j by omega]
      simp only [if_neg (show ¬ k + 1 + b < k by omega), if_neg (show ¬ k + 1 + b = k by omega), show k + 1 + b - (k + 1) = b by omega]
      exact Own.same _ _ _ _ (fun c h => hfr c (hX _ _ _ h).1 (hX _ _ _ h).2) (fun c h => h) (hc (t + b) (by omega) j hj)
/-- another list is put in a table's place: it may lie in new blocks -/
theorem own_putN {w w5 : World} {L : List (List RowV)} {i q p : Nat} {gq : Nat → Value} {T : TypeId} {B N : Nat → Prop} {l' : List RowV} {v' : Value} (hi : i < L.length) (hO : Own w (dRowSS L) B (.slice (some ⟨q, 0, none⟩) L.length L.length)) (hcell : w.cell? ⟨q, i, none⟩ = some (.slice (some ⟨p, 0, none⟩) L[i].length L[i].length))
    (hfr : ∀ c, B c → c ≠ q → (c = p → L[i].length = 0) → w5.heap[c]? = w.heap[c]?) (hr : w.rowIs q T L.length gq) (hr' : w5.rowIs q T L.length (fun m => if m = i then v' else gq m)) (hNB : ∀ c, N c → ¬ B c)
    (hnew : ∀ Y : Nat → Prop, (∀ c, Y c → B c ∧ c ≠ q) → Own w (dRowS L[i]) Y (.slice (some ⟨p, 0, none⟩) L[i].length L[i].length) → Own w5 (dRowS l') (fun c => Y c ∨ N c) v') :
    Own w5 (dRowSS (L.set i l')) (fun c => B c ∨ N c) (.slice (some ⟨q, 0, none⟩) (L.set i l').length L.length) := by
  obtain ⟨a, c, e, h⟩ := hO
  rcases h with h | ⟨b, off, X, ha, hB, hn, hX, hd, hc⟩
  · omega
  simp only [Value.slice.injEq, true_and] at e
  obtain ⟨rfl, rfl⟩ := e
  simp only [Option.some.injEq, Addr.mk.injEq, and_true] at ha
  obtain ⟨rfl, rfl⟩ := ha
  obtain ⟨ui, hui, -, hoi⟩ := hc i 0 hi (by omega)
  rw [Nat.zero_add, Nat.mul_one, Nat.add_zero, hcell] at hui
  simp only [Option.some.injEq] at hui
  subst hui
  rw [lsF_at hi] at hoi
  replace hoi : Own w (dRowS L[i]) (X i 0) (.slice (some ⟨p, 0, none⟩) L[i].length L[i].length) := hoi
  have hXp : L[i].length = 0 ∨ X i 0 p := by
    obtain ⟨a2, c2, e2, h2⟩ := hoi
    rcases h2 with h2 | ⟨b2, off2, X2, ha2, hB2, -⟩
    · exact .inl h2
    simp only [Value.slice.injEq, true_and] at e2
    obtain ⟨rfl, rfl⟩ := e2
    simp only [Option.some.injEq, Addr.mk.injEq, and_true] at ha2
    obtain ⟨rfl, rfl⟩ := ha2
    exact .inr hB2
  refine ⟨_, _, rfl, .inr ⟨q, 0, fun j z c => X j z c ∨ (j = i ∧ z = 0 ∧ N c), rfl, .inl hB, hn, fun j z c h => ?_, fun j z j' z' c h h' => ?_, fun j z hj hz => ?_⟩⟩
  · rcases h with h | ⟨-, -, h⟩
    · exact ⟨.inl (hX _ _ _ h).1, (hX _ _ _ h).2⟩
    · exact ⟨.inr h, fun ec => by subst ec; exact hNB _ h hB⟩
  · rcases h with h | ⟨h1, h2, h⟩
    · rcases h' with h' | ⟨-, -, h'⟩
      · exact hd _ _ _ _ _ h h'
      · exact absurd (hX _ _ _ h).1 (hNB _ h')
    · rcases h' with h' | ⟨h1', h2', h'⟩
      · exact absurd (hX _ _ _ h').1 (hNB _ h)
      · omega
  obtain rfl : z = 0 := by omega
  rw [List.length_set] at hj
  rw [Nat.zero_add, Nat.mul_one, Nat.add_zero]
  refine ⟨_, hr'.cell (i := j) hj, hr'.frozen _, ?_⟩
  rw [lsF_at (by rw [List.length_set]; exact hj)]
  by_cases e : j = i
  · subst e
    rw [if_pos rfl, List.getElem_set_self]
    exact Own.mono (hnew _ (fun c hc2 => hX _ _ _ hc2) hoi) (fun c h => h.imp id (fun h => ⟨rfl, rfl, h⟩))
  · obtain ⟨uj, huj, -, hoj⟩ := hc j 0 hj (by omega)
    rw [Nat.zero_add, Nat.mul_one, Nat.add_zero, hr.cell (i := j) hj] at huj
    simp only [Option.some.injEq] at huj
    rw [if_neg e, huj, List.getElem_set_ne (by omega)]
    rw [lsF_at hj] at hoj
    exact Own.same _ _ _ _ (fun c hc2 => hfr c (hX _ _ _ hc2).1 (hX _ _ _ hc2).2 (fun ec => by
      subst ec
      rcases hXp with h0 | hXp
      · exact h0
      · exact absurd (hd _ _ _ _ _ hc2 hXp).1 e)) (fun c hc2 => .inl hc2) hoj
end Go.Proofs.Ytgiaabgcbpafgaa
