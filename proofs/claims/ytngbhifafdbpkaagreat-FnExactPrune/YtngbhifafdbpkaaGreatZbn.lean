import Derived.Test.YtngbhifafdbpkaaGreatZbm
namespace Go.Proofs.YtngbhifafdbpkaaGreat
open Go.RowKit
set_option linter.unusedSimpArgs false
theorem fltC_at (rows : List RowV) (ca : Nat → Option Addr) (cq : Nat → Nat) : ∀ (ks : List Nat) (k : Nat) (h : k < ks.length), (fltC rows ca cq ks)[k * 2]? = some (.int .i64 (rows.getD ks[k] z0R).id) ∧ (fltC rows ca cq ks)[k * 2 + 1]? = some (.slice (ca ks[k]) (rows.getD ks[k] z0R).cells.length (cq ks[k]))
  | [], k, h => absurd h (by simp)
  | m :: ks, 0, _ => ⟨rfl, rfl⟩
  | m :: ks, k + 1, h => by
    have ih := fltC_at rows ca cq ks k (by simpa using h)
    have e : fltC rows ca cq (m :: ks) = [.int .i64 (rows.getD m z0R).id, .slice (ca m) (rows.getD m z0R).cells.length (cq m)] ++ fltC rows ca cq ks := rfl
    rw [e]
    refine ⟨?_, ?_⟩
    · rw [List.getElem?_append_right (by simp; omega)]
      simp only [List.length_cons, List.length_nil, List.getElem_cons_succ]
      rw [show (k + 1) * 2 - (0 + 1 + 1) = k * 2 by omega]
      exact ih.1
    · rw [List.getElem?_append_right (by simp; omega)]
      simp only [List.length_cons, List.length_nil, List.getElem_cons_succ]
      rw [show (k + 1) * 2 + 1 - (0 + 1 + 1) = k * 2 + 1 by omega]
      exact ih.2
theorem own_tab {W : World} {Y : List (List RowV)} {B : Nat → Prop} {q qo rc : Nat} (h : Own W (dRowSS Y) B (.slice (some ⟨q, qo, none⟩) Y.length rc)) (hlt : ∀ d, B d → d < W.heap.size) {i : Nat} (hi : i < Y.length) :
    ∃ (la : Option Addr) (lc : Nat) (ca : Nat → Option Addr) (cq : Nat → Nat), W.cell? ⟨q, qo + i, none⟩ = some (.slice la Y[i].length lc) ∧ W.frozen? ⟨q, qo + i, none⟩ = false ∧ B q ∧
      (∀ m (hm : m < Y[i].length), ∃ rb ro, la = some ⟨rb, ro, none⟩ ∧ W.cell? ⟨rb, ro + m * 2, none⟩ = some (.int .i64 Y[i][m].id) ∧ W.cell? ⟨rb, ro + m * 2 + 1, none⟩ = some (.slice (ca m) Y[i][m].cells.length (cq m))) ∧
      ∀ (W1 : World) (base : Nat) (l' : List RowV) (ks : List Nat) (va : Option Addr) (vc : Nat), Below W.heap.size W W1 → W.heap.size ≤ base → l' = ks.map (fun m => Y[i].getD m z0R) → (∀ m ∈ ks, m < Y[i].length) → ks.Nodup → W1.ownsRow base 77 2 (.slice va l'.length vc) l'.length (fltC Y[i] ca cq ks) →
        Own (W1.setCell ⟨q, qo + i, none⟩ (.slice va l'.length vc)) (dRowSS (Y.set i l')) (fun d => B d ∨ (W.heap.size ≤ d ∧ d < W1.heap.size)) (.slice (some ⟨q, qo, none⟩) Y.length rc) := by
  obtain ⟨u1, X1, hu1, hz1, ho1, hB1, hX1, hXB1, hup1⟩ := Own.part (n := 1) (f := lsF cRowS Y) h hi (j := 0) (by omega)
  rw [lsF_at hi] at ho1
  replace ho1 : Own W (dRowS Y[i]) X1 u1 := ho1
  obtain ⟨la, lc, rfl⟩ := ho1.rd'.lsSlice
  rw [Nat.mul_one, Nat.add_zero] at hu1 hz1
  have hch : ∀ m, ∃ p : Option Addr × Nat, ∀ (hm : m < Y[i].length), ∃ rb ro, la = some ⟨rb, ro, none⟩ ∧ W.cell? ⟨rb, ro + m * 2, none⟩ = some (.int .i64 Y[i][m].id) ∧ W.cell? ⟨rb, ro + m * 2 + 1, none⟩ = some (.slice p.1 Y[i][m].cells.length p.2) := fun m => by
    by_cases hm : m < Y[i].length
    · obtain ⟨rb, ro, ca, cq, e, hW⟩ := rowsAt ho1.rd' hm
      obtain ⟨h1, h2, -⟩ := hW W (Below.refl _ _)
      exact ⟨(ca, cq), fun _ => ⟨rb, ro, e, h1, h2⟩⟩
    · exact ⟨(none, 0), fun h => absurd h hm⟩
  obtain ⟨g, hg⟩ := Classical.axiomOfChoice hch
  refine ⟨la, lc, fun m => (g m).1, fun m => (g m).2, hu1, hz1, hB1, hg, fun W1 base l' ks va vc hBl hb hl hk hnd hrow => ?_⟩
  have hll : l'.length = ks.length := by rw [hl, List.length_map]
  have hG : ∀ d, (W.heap.size ≤ d ∧ d < W1.heap.size) → ¬ B d := fun d hd hB => by have := hlt d hB; omega
  have hql := hlt q hB1
  have hq1 : W1.cell? ⟨q, qo + i, none⟩ = some (.slice la Y[i].length lc) := (hBl.cell (p := ⟨q, qo + i, none⟩) hql).trans hu1
  have hin : Own (W1.setCell ⟨q, qo + i, none⟩ (.slice va l'.length vc)) (dRowS l') (fun d => X1 d ∨ (W.heap.size ≤ d ∧ d < W1.heap.size)) (.slice va l'.length vc) := by
    rcases hrow.2 with ⟨e, h0⟩ | ⟨g2, cap, cur, e, hg2, hh, r1, r2, r3, r4⟩
    · exact ⟨va, vc, rfl, by omega, .inl h0⟩
    · simp only [Value.slice.injEq] at e
      obtain ⟨rfl, -, rfl⟩ := e
      by_cases h0 : l'.length = 0
      · exact ⟨_, _, rfl, by omega, .inl h0⟩
      have hg2l := (Array.getElem?_eq_some_iff.1 hh).1
      have hk0 : ks[0]'(by omega) < Y[i].length := hk _ (List.getElem_mem _)
      obtain ⟨rb, ro, rfl, -, -⟩ := hg _ hk0
      have hgq : g2 ≠ q := by omega
      have hpick := own_pick (dT := dRow) (n := 2) (l := Y[i]) (l' := l') (W' := W1.setCell ⟨q, qo + i, none⟩ (.slice (some ⟨g2, 0, none⟩) l'.length vc)) (g := g2) (o := 0) (c' := vc) ho1 (fun k => ks.getD k 0) (fun k hkl => by
          have e1 : ks.getD k 0 = ks[k]'(by omega) := getD_tab (by omega)
          have h2 : ks[k]'(by omega) < Y[i].length := hk _ (List.getElem_mem _)
          refine ⟨by rw [e1]; exact h2, ?_⟩
          subst hl
          rw [List.getElem_map, getD_tab h2]
          simp only [e1]) (fun k k' hkl hkl' e1 => by
          rw [getD_tab (by omega), getD_tab (by omega)] at e1
          exact (List.getElem?_inj (by omega) hnd).1 (by rw [List.getElem?_eq_getElem (by omega), List.getElem?_eq_getElem (by omega), e1])) (by omega) (fun hx => by have := hlt _ (hXB1 _ hx); omega) (fun d hd => by
          rw [Below.heap_setCell _ _ _ _ (by show d ≠ q; exact fun e => hX1 (by rw [← e]; exact hd))]
          exact hBl.block d (hlt _ (hXB1 _ hd))) (fun k j hkl hj => by
          have e1 : ks.getD k 0 = ks[k]'(by omega) := getD_tab (by omega)
          have h2 : ks[k]'(by omega) < Y[i].length := hk _ (List.getElem_mem _)
          obtain ⟨rb2, ro2, e2, v0, v1⟩ := hg _ h2
          simp only [Option.some.injEq, Addr.mk.injEq, and_true] at e2
          obtain ⟨rfl, rfl⟩ := e2
          obtain ⟨f0, f1⟩ := fltC_at Y[i] (fun m => (g m).1) (fun m => (g m).2) ks k (by omega)
          rw [getD_tab h2] at f0 f1
          have hn2 : (W1.setCell ⟨q, qo + i, none⟩ (.slice (some ⟨g2, 0, none⟩) l'.length vc)).heap[g2]? = W1.heap[g2]? := Below.heap_setCell _ _ _ _ (by show g2 ≠ q; exact hgq)
          refine ⟨?_, by simp [World.frozen?, hn2, hh]⟩
          rw [e1]
          have hlt9 : k * 2 + j < l'.length * 2 := by omega
          have hcur : ∀ u, (fltC Y[i] (fun m => (g m).1) (fun m => (g m).2) ks)[k * 2 + j]? = some u → (W1.setCell ⟨q, qo + i, none⟩ (.slice (some ⟨g2, 0, none⟩) l'.length vc)).cell? ⟨g2, 0 + k * 2 + j, none⟩ = some u := fun u hu => by
            rw [← r4, List.getElem?_take_of_lt hlt9, Array.getElem?_toList] at hu
            simp only [World.cell?, hn2, hh, Nat.zero_add]
            simpa using hu
          rcases (by omega : j = 0 ∨ j = 1) with rfl | rfl
          · rw [hcur _ f0, Nat.add_zero]; exact v0.symm
          · rw [hcur _ f1]; exact v1.symm)
      exact hpick.mono (fun d hd => hd.imp id (fun e => by subst e; exact ⟨by omega, hg2l⟩))
  have e1 := hup1 (W1.setCell ⟨q, qo + i, none⟩ (.slice va l'.length vc)) (lsF cRowS (Y.set i l')) (fun d => W.heap.size ≤ d ∧ d < W1.heap.size) (.slice va l'.length vc) (fun d hb _ hd => by
      rw [Below.heap_setCell _ _ _ _ (by show d ≠ q; exact hd)]; exact hBl.block d (hlt _ hb)) (fun o v ho hv => by
      rw [Nat.mul_one, Nat.add_zero] at ho
      exact cell_skip ((hBl.cell (p := ⟨q, o, none⟩) hql).trans hv) ho) (fun o => by
      rw [frz_set]
      have h1 := hBl.block q hql
      simp only [World.frozen?, h1]) (by
      rw [Nat.mul_one, Nat.add_zero]
      exact World.cell?_setCell_same _ _ _ hq1) (by
      rw [lsF_at (by rw [List.length_set]; exact hi), List.getElem_set_self]
      exact hin) hG (fun i' j' hi' hj' hne => by
      obtain rfl : j' = 0 := by omega
      have hic : i' ≠ i := fun e => hne (by rw [e])
      rw [lsF_at (by rw [List.length_set]; exact hi'), lsF_at hi', List.getElem_set_ne (by omega)])
  show Own _ (.l 1 (Y.set i _).length _) _ _
  rw [List.length_set]
  exact e1
end Go.Proofs.YtngbhifafdbpkaaGreat
