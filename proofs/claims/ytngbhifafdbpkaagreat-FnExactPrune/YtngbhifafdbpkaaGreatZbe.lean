import Derived.Test.YtngbhifafdbpkaaGreatZbc
import Derived.Test.YtngbhifafdbpkaaGreatZbd
namespace Go.Proofs.YtngbhifafdbpkaaGreat
open Go.RowKit
set_option linter.unusedSimpArgs false
theorem Own.part {W : World} {n m : Nat} {f : Nat → Nat → D} {B : Nat → Prop} {b off c : Nat} (h : Own W (.l n m f) B (.slice (some ⟨b, off, none⟩) m c)) {i j : Nat} (hi : i < m) (hj : j < n) :
    ∃ (u : Value) (X : Nat → Prop), W.cell? ⟨b, off + i * n + j, none⟩ = some u ∧ W.frozen? ⟨b, off + i * n + j, none⟩ = false ∧ Own W (f i j) X u ∧ B b ∧ ¬ X b ∧ (∀ c, X c → B c) ∧
      ∀ (W' : World) (f' : Nat → Nat → D) (G : Nat → Prop) (u' : Value), (∀ c, B c → ¬ X c → c ≠ b → W'.heap[c]? = W.heap[c]?) → (∀ o v, o ≠ off + i * n + j → W.cell? ⟨b, o, none⟩ = some v → W'.cell? ⟨b, o, none⟩ = some v) → (∀ o, W'.frozen? ⟨b, o, none⟩ = W.frozen? ⟨b, o, none⟩) → W'.cell? ⟨b, off + i * n + j, none⟩ = some u' →
        Own W' (f' i j) (fun c => X c ∨ G c) u' → (∀ c, G c → ¬ B c) → (∀ i' j', i' < m → j' < n → (i', j') ≠ (i, j) → f' i' j' = f i' j') → Own W' (.l n m f') (fun c => B c ∨ G c) (.slice (some ⟨b, off, none⟩) m c) := by
  obtain ⟨a, c', hv, hmc, h⟩ := h
  simp only [Value.slice.injEq, true_and] at hv
  obtain ⟨rfl, rfl⟩ := hv
  rcases h with h | ⟨b', off', X, e, hB, hn, hX, hD, hC⟩
  · omega
  simp only [Option.some.injEq, Addr.mk.injEq, and_true] at e
  obtain ⟨rfl, rfl⟩ := e
  obtain ⟨u, hu, hz, ho⟩ := hC i j hi hj
  refine ⟨u, X i j, hu, hz, ho, hB, fun hx => (hX i j _ hx).2 rfl, fun c hc => (hX i j c hc).1, fun W' f' G u' hk hc hf hu' ho' hG hff => ?_⟩
  refine ⟨_, _, rfl, hmc, .inr ⟨b, off, fun i' j' c => X i' j' c ∨ (i' = i ∧ j' = j ∧ G c), rfl, .inl hB, hn, fun i' j' c hc' => ?_, fun i1 j1 i2 j2 c h1 h2 => ?_, fun i' j' hi' hj' => ?_⟩⟩
  · rcases hc' with h1 | ⟨-, -, h1⟩
    · exact ⟨.inl (hX i' j' c h1).1, (hX i' j' c h1).2⟩
    · exact ⟨.inr h1, fun e => hG c h1 (by rw [e]; exact hB)⟩
  · rcases h1 with h1 | ⟨rfl, rfl, h1⟩ <;> rcases h2 with h2 | ⟨rfl, rfl, h2⟩
    · exact hD _ _ _ _ _ h1 h2
    · exact absurd (hX _ _ _ h1).1 (hG _ h2)
    · exact absurd (hX _ _ _ h2).1 (hG _ h1)
    · exact ⟨rfl, rfl⟩
  · by_cases e : (i', j') = (i, j)
    · simp only [Prod.mk.injEq] at e
      obtain ⟨rfl, rfl⟩ := e
      exact ⟨u', hu', (hf _).trans hz, ho'.mono (fun c hc' => hc'.imp id (fun h => ⟨rfl, rfl, h⟩))⟩
    · obtain ⟨u2, hu2, hz2, ho2⟩ := hC i' j' hi' hj'
      have hne : off + i' * n + j' ≠ off + i * n + j := fun e2 => e (by
        have h1 : i' * n + j' = i * n + j := by omega
        rcases (by omega : i' < i ∨ i' = i ∨ i < i') with e3 | e3 | e3
        · have := spot_lt (L := i) e3 hj'; omega
        · subst e3; simp only [Prod.mk.injEq, true_and]; omega
        · have := spot_lt (L := i') e3 hj; omega)
      refine ⟨u2, hc _ _ hne hu2, (hf _).trans hz2, ?_⟩
      rw [hff i' j' hi' hj' e]
      refine Own.same _ _ _ _ (fun c hc' => hk c (hX _ _ _ hc').1 (fun hx => e ?_) (hX _ _ _ hc').2) (fun c hc' => .inl hc') ho2
      obtain ⟨e1, e2⟩ := hD _ _ _ _ _ hc' hx
      rw [e1, e2]
theorem frz_set (w : World) (b o : Nat) (v : Value) (p : Addr) : (w.setCell ⟨b, o, none⟩ v).frozen? p = w.frozen? p := World.frozen?_setCell ..
theorem own_cell {W : World} {Y : List (List RowV)} {B : Nat → Prop} {q qo rc : Nat} (h : Own W (dRowSS Y) B (.slice (some ⟨q, qo, none⟩) Y.length rc)) (hlt : ∀ d, B d → d < W.heap.size) {i k c : Nat} (hi : i < Y.length) (hk : k < Y[i].length) (hc : c < Y[i][k].cells.length) :
    ∃ rb ro rcap cb co ccap, ∃ (la : Option Addr) (lc : Nat), W.cell? ⟨q, qo + i, none⟩ = some (.slice (some ⟨rb, ro, none⟩) Y[i].length rcap) ∧ W.cell? ⟨rb, ro + k * 2 + 1, none⟩ = some (.slice (some ⟨cb, co, none⟩) Y[i][k].cells.length ccap) ∧
      W.cell? ⟨cb, co + c, none⟩ = some (.slice la Y[i][k].cells[c].length lc) ∧ W.frozen? ⟨cb, co + c, none⟩ = false ∧ Rd W B (dAtomS Y[i][k].cells[c]) (.slice la Y[i][k].cells[c].length lc) ∧ B cb ∧ cb ≠ q ∧
      ∀ (W1 : World) (l' : List At) (a' : Option Addr) (c' : Nat), Below W.heap.size W W1 → Own W1 (dAtomS l') (fun d => W.heap.size ≤ d ∧ d < W1.heap.size) (.slice a' l'.length c') →
        Own (W1.setCell ⟨cb, co + c, none⟩ (.slice a' l'.length c')) (dRowSS (Y.set i (Y[i].set k ⟨Y[i][k].id, Y[i][k].cells.set c l'⟩))) (fun d => B d ∨ (W.heap.size ≤ d ∧ d < W1.heap.size)) (.slice (some ⟨q, qo, none⟩) Y.length rc) := by
  obtain ⟨u1, X1, hu1, hz1, ho1, hB1, hX1, hXB1, hup1⟩ := Own.part (n := 1) (f := lsF cRowS Y) h hi (j := 0) (by omega)
  rw [lsF_at hi] at ho1
  replace ho1 : Own W (dRowS Y[i]) X1 u1 := ho1
  obtain ⟨ra, rcap, rfl⟩ := ho1.rd'.lsSlice
  obtain ⟨rb, ro, rfl, -, -⟩ := Rd.things (d := dRow) (n := 2) ho1.rd' k hk
  obtain ⟨u2, X2, hu2, hz2, ho2, hB2, hX2, hXB2, hup2⟩ := Own.part (n := 2) (f := lsF dRow Y[i]) ho1 hk (j := 1) (by omega)
  rw [lsF_at hk] at ho2
  replace ho2 : Own W (dAtomSS Y[i][k].cells) X2 u2 := ho2
  obtain ⟨ca, ccap, rfl⟩ := ho2.rd'.lsSlice
  obtain ⟨cb, co, rfl, -, -⟩ := Rd.things (d := cAtomS) (n := 1) ho2.rd' c hc
  obtain ⟨u3, X3, hu3, hz3, ho3, hB3, hX3, hXB3, hup3⟩ := Own.part (n := 1) (f := lsF cAtomS Y[i][k].cells) ho2 hc (j := 0) (by omega)
  rw [lsF_at hc] at ho3
  replace ho3 : Own W (dAtomS Y[i][k].cells[c]) X3 u3 := ho3
  obtain ⟨la, lc, rfl⟩ := ho3.rd'.lsSlice
  rw [Nat.mul_one, Nat.add_zero] at hu1 hz1 hu3 hz3
  refine ⟨rb, ro, rcap, cb, co, ccap, la, lc, hu1, hu2, hu3, hz3, ho3.rd'.mono (fun d hd => hXB1 _ (hXB2 _ (hXB3 _ hd))), hXB1 _ (hXB2 _ hB3), fun e => hX1 (by rw [← e]; exact hXB2 _ hB3), fun W1 l' a' c' hBl hn => ?_⟩
  have hcbB : B cb := hXB1 _ (hXB2 _ hB3)
  have hcbl := hlt _ hcbB
  have hne1 : cb ≠ q := fun e => hX1 (by rw [← e]; exact hXB2 _ hB3)
  have hne2 : cb ≠ rb := fun e => hX2 (by rw [← e]; exact hB3)
  have hblk : ∀ d, d ≠ cb → d < W.heap.size → (W1.setCell ⟨cb, co + c, none⟩ (.slice a' l'.length c')).heap[d]? = W.heap[d]? := fun d hd hl => by
    rw [Below.heap_setCell _ _ _ _ (by show d ≠ cb; exact hd)]; exact hBl.block d hl
  have hcell : ∀ b, b ≠ cb → b < W.heap.size → ∀ o, (W1.setCell ⟨cb, co + c, none⟩ (.slice a' l'.length c')).cell? ⟨b, o, none⟩ = W.cell? ⟨b, o, none⟩ := fun b hb hl o => by
    simp only [World.cell?, hblk b hb hl]
  have hfrz : ∀ b, b < W.heap.size → ∀ o, (W1.setCell ⟨cb, co + c, none⟩ (.slice a' l'.length c')).frozen? ⟨b, o, none⟩ = W.frozen? ⟨b, o, none⟩ := fun b hl o => by
    rw [frz_set]
    have h1 := hBl.block b hl
    simp only [World.frozen?, h1]
  have hG : ∀ d, (W.heap.size ≤ d ∧ d < W1.heap.size) → ¬ B d := fun d hd hb => by have := hlt d hb; omega
  have c3 : W1.cell? ⟨cb, co + c, none⟩ = some (.slice la Y[i][k].cells[c].length lc) := (hBl.cell (p := ⟨cb, co + c, none⟩) hcbl).trans hu3
  have e3 := hup3 (W1.setCell ⟨cb, co + c, none⟩ (.slice a' l'.length c')) (lsF cAtomS (Y[i][k].cells.set c l')) (fun d => W.heap.size ≤ d ∧ d < W1.heap.size) (.slice a' l'.length c') (fun d hb _ hd => hblk d hd (hlt _ (hXB1 _ (hXB2 _ hb)))) (fun o v ho hv => by
      rw [Nat.mul_one, Nat.add_zero] at ho
      exact cell_skip ((hBl.cell (p := ⟨cb, o, none⟩) hcbl).trans hv) ho) (fun o => hfrz cb hcbl o) (by
      rw [Nat.mul_one, Nat.add_zero]
      exact World.cell?_setCell_same _ _ _ c3) (by
      rw [lsF_at (by rw [List.length_set]; exact hc), List.getElem_set_self]
      exact (hn.frm (F := (· = cb)) (frm_set _ _ _ _) (fun d hd e => by have e' : d = cb := e; omega)).mono (fun d hd => .inr hd)) (fun d hd hb => hG d hd (hXB1 _ (hXB2 _ hb))) (fun i' j' hi' hj' hne => by
      obtain rfl : j' = 0 := by omega
      have hic : i' ≠ c := fun e => hne (by rw [e])
      rw [lsF_at (by rw [List.length_set]; exact hi'), lsF_at hi', List.getElem_set_ne (by omega)])
  have e2 := hup2 (W1.setCell ⟨cb, co + c, none⟩ (.slice a' l'.length c')) (lsF dRow (Y[i].set k ⟨Y[i][k].id, Y[i][k].cells.set c l'⟩)) (fun d => W.heap.size ≤ d ∧ d < W1.heap.size) (.slice (some ⟨cb, co, none⟩) Y[i][k].cells.length ccap) (fun d hb hx _ => hblk d (fun e => hx (by rw [e]; exact hB3)) (hlt _ (hXB1 _ hb))) (fun o _ _ hv => (hcell rb (fun e => hne2 e.symm) (hlt _ (hXB1 _ hB2)) o).trans hv) (fun o => hfrz rb (hlt _ (hXB1 _ hB2)) o) ((hcell rb (fun e => hne2 e.symm) (hlt _ (hXB1 _ hB2)) _).trans hu2) (by
      rw [lsF_at (by rw [List.length_set]; exact hk), List.getElem_set_self]
      show Own _ (.l 1 (Y[i][k].cells.set c l').length _) _ _
      rw [List.length_set]
      exact e3) (fun d hd hb => hG d hd (hXB1 _ hb)) (fun i' j' hi' hj' hne => by
      by_cases e : i' = k
      · subst e
        have : j' = 0 := by
          rcases (by omega : j' = 0 ∨ j' = 1) with e | e
          · exact e
          · exact absurd (by rw [e]) hne
        subst this
        rw [lsF_at (by rw [List.length_set]; exact hi'), lsF_at hi', List.getElem_set_self]
        rfl
      · rw [lsF_at (by rw [List.length_set]; exact hi'), lsF_at hi', List.getElem_set_ne (by omega)])
  have e1 := hup1 (W1.setCell ⟨cb, co + c, none⟩ (.slice a' l'.length c')) (lsF cRowS (Y.set i (Y[i].set k ⟨Y[i][k].id, Y[i][k].cells.set c l'⟩))) (fun d => W.heap.size ≤ d ∧ d < W1.heap.size) (.slice (some ⟨rb, ro, none⟩) Y[i].length rcap) (fun d hb hx _ => hblk d (fun e => hx (by rw [e]; exact hXB2 _ hB3)) (hlt _ hb)) (fun o _ _ hv => (hcell q (fun e => hne1 e.symm) (hlt _ hB1) o).trans hv) (fun o => hfrz q (hlt _ hB1) o) (by
      rw [Nat.mul_one, Nat.add_zero]
      exact (hcell q (fun e => hne1 e.symm) (hlt _ hB1) _).trans hu1) (by
      rw [lsF_at (by rw [List.length_set]; exact hi), List.getElem_set_self]
      show Own _ (.l 2 (Y[i].set k _).length _) _ _
      rw [List.length_set]
      exact e2) hG (fun i' j' hi' hj' hne => by
      obtain rfl : j' = 0 := by omega
      have hic : i' ≠ i := fun e => hne (by rw [e])
      rw [lsF_at (by rw [List.length_set]; exact hi'), lsF_at hi', List.getElem_set_ne (by omega)])
  show Own _ (.l 1 (Y.set i _).length _) _ _
  rw [List.length_set]
  exact e1
end Go.Proofs.YtngbhifafdbpkaaGreat
namespace Go.Proofs.YtngbhifafdbpkaaGreat
open Go.RowKit
set_option linter.unusedSimpArgs false
theorem own_pick {α : Type} {dT : α → Nat → D} {n : Nat} {l l' : List α} {W W' : World} {B : Nat → Prop} {b off c : Nat} (h : Own W (Ls n dT l) B (.slice (some ⟨b, off, none⟩) l.length c)) (idx : Nat → Nat) (hi : ∀ k (hk : k < l'.length), ∃ h : idx k < l.length, l'[k] = l[idx k]) (hj : ∀ k k', k < l'.length → k' < l'.length → idx k = idx k' → k = k') {g o c' : Nat} (hcp : l'.length ≤ c') (hG : ¬ B g) (hK : ∀ d, B d → W'.heap[d]? = W.heap[d]?) (hc : ∀ k j, k < l'.length → j < n → W'.cell? ⟨g, o + k * n + j, none⟩ = W.cell? ⟨b, off + idx k * n + j, none⟩ ∧ W'.frozen? ⟨g, o + k * n + j, none⟩ = false) :
    Own W' (Ls n dT l') (fun d => B d ∨ d = g) (.slice (some ⟨g, o, none⟩) l'.length c') := by
  obtain ⟨a, c1, hv, -, h⟩ := h
  simp only [Value.slice.injEq, true_and] at hv
  obtain ⟨rfl, rfl⟩ := hv
  rcases h with h | ⟨b', off', X, e, hB, hn, hX, hD, hC⟩
  · refine ⟨_, _, rfl, hcp, .inl ?_⟩
    rcases Nat.eq_zero_or_pos l'.length with h0 | h0
    · exact h0
    · obtain ⟨h1, -⟩ := hi 0 h0; omega
  simp only [Option.some.injEq, Addr.mk.injEq, and_true] at e
  obtain ⟨rfl, rfl⟩ := e
  refine ⟨_, _, rfl, hcp, .inr ⟨g, o, fun k j d => k < l'.length ∧ X (idx k) j d, rfl, .inr rfl, hn, fun k j d hd => ?_, fun k j k' j' d h1 h2 => ?_, fun k j hk hjn => ?_⟩⟩
  · have h1 := hX _ _ _ hd.2
    exact ⟨.inl h1.1, fun e => hG (by rw [← e]; exact h1.1)⟩
  · obtain ⟨e1, e2⟩ := hD _ _ _ _ _ h1.2 h2.2
    exact ⟨hj _ _ h1.1 h2.1 e1, e2⟩
  · obtain ⟨hik, e⟩ := hi k hk
    obtain ⟨u, hu, hz, ho⟩ := hC (idx k) j hik hjn
    obtain ⟨hc1, hc2⟩ := hc k j hk hjn
    refine ⟨u, hc1.trans hu, hc2, ?_⟩
    rw [lsF_at hk, e, ← lsF_at (d := dT) hik]
    exact Own.same _ _ _ _ (fun d hd => hK d (hX _ _ _ hd).1) (fun d hd => ⟨hk, hd⟩) ho
def pks {α : Type} (p : α → Bool) (z : α) (l : List α) (k : Nat) : List Nat := (List.range k).filter (fun m => p (l.getD m z))
theorem pks_take {α : Type} (p : α → Bool) (z : α) (l : List α) : ∀ k, k ≤ l.length → (l.take k).filter p = (pks p z l k).map (fun m => l.getD m z)
  | 0, _ => by simp [pks]
  | k + 1, h => by
    have ih := pks_take p z l k (by omega)
    rw [List.take_succ_eq_append_getElem (by omega), List.filter_append, ih]
    unfold pks
    rw [List.range_succ, List.filter_append, List.map_append]
    congr 1
    by_cases hp : p (l[k]'(by omega)) = true
    · simp [List.getElem?_eq_getElem (show k < l.length by omega), hp]
    · have hp' : p (l[k]'(by omega)) = false := by simpa using hp
      simp [List.getElem?_eq_getElem (show k < l.length by omega), hp']
theorem pks_all {α : Type} (p : α → Bool) (z : α) (l : List α) : l.filter p = (pks p z l l.length).map (fun m => l.getD m z) := by
  rw [← pks_take p z l l.length (Nat.le_refl _), List.take_of_length_le (Nat.le_refl _)]
theorem pks_yes {α : Type} {p : α → Bool} {z : α} {l : List α} {k : Nat} (h : k < l.length) (hp : p l[k] = true) : pks p z l (k + 1) = pks p z l k ++ [k] := by
  unfold pks
  rw [List.range_succ, List.filter_append]
  simp [List.getElem?_eq_getElem h, hp]
theorem pks_no {α : Type} {p : α → Bool} {z : α} {l : List α} {k : Nat} (h : k < l.length) (hp : p l[k] = false) : pks p z l (k + 1) = pks p z l k := by
  unfold pks
  rw [List.range_succ, List.filter_append]
  simp [List.getElem?_eq_getElem h, hp]
theorem pks_lt {α : Type} {p : α → Bool} {z : α} {l : List α} {k m : Nat} (h : m ∈ pks p z l k) : m < k := by
  unfold pks at h
  exact List.mem_range.1 (List.mem_filter.1 h).1
end Go.Proofs.YtngbhifafdbpkaaGreat
