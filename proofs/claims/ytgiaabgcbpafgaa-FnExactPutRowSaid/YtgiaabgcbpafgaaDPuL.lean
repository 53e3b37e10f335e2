import Derived.Test.YtgiaabgcbpafgaaDDrL
import Derived.Test.YtgiaabgcbpafgaaDPuS
namespace Go.Proofs.Ytgiaabgcbpafgaa
open Go.RowKit
set_option linter.unusedSimpArgs false
/-! how long a store is in which a row has been put -/
theorem sumN_cons (f : Nat → Nat) : ∀ n, sumN (n + 1) f = f 0 + sumN n (fun i => f (i + 1))
  | 0 => by simp [sumN]
  | n + 1 => by
    rw [sumN_succ, sumN_cons f n, sumN_succ]
    omega
theorem szL_list {α : Type} {n : Nat} {d : α → Nat → D} : ∀ l : List α, szL n d l l.length = (l.map (fun x => szT n (d x))).sum
  | [] => rfl
  | x :: l => by
    have ih := szL_list (n := n) (d := d) l
    unfold szL at ih ⊢
    rw [List.length_cons, sumN_cons]
    simp only [List.map_cons, List.sum_cons]
    rw [← ih]
    rfl
theorem sz_list {α : Type} {n : Nat} {d : α → Nat → D} (l : List α) : (Ls n d l).sz = l.length + (l.map (fun x => szT n (d x))).sum := by
  rw [Ls_sz, szL_list]
theorem put_sum (s : RowV → Nat) (r : RowV) : ∀ l : List RowV, ((putL l r).map s).sum ≤ (l.map s).sum + s r ∧ (putL l r).length ≤ l.length + 1
  | [] => by simp [putL]
  | y :: l => by
    obtain ⟨h1, h2⟩ := put_sum s r l
    unfold putL
    split
    · simp only [List.map_cons, List.sum_cons, List.length_cons]; omega
    · split
      · simp only [List.map_cons, List.sum_cons, List.length_cons]; omega
      · simp only [List.map_cons, List.sum_cons, List.length_cons]; omega
theorem put_mem {r : RowV} : ∀ {l : List RowV} {y : RowV}, y ∈ putL l r → y = r ∨ y ∈ l
  | [], y, h => by simp [putL] at h; exact .inl h
  | z :: l, y, h => by
    unfold putL at h
    split at h
    · rcases List.mem_cons.1 h with h | h
      · exact .inr (by rw [h]; simp)
      · rcases put_mem h with h | h
        · exact .inl h
        · exact .inr (List.mem_cons_of_mem _ h)
    · split at h
      · rcases List.mem_cons.1 h with h | h
        · exact .inl h
        · exact .inr (List.mem_cons_of_mem _ h)
      · rcases List.mem_cons.1 h with h | h
        · exact .inl h
        · exact .inr h
theorem set_sum {α : Type} (s : α → Nat) (y : α) : ∀ (L : List α) (i : Nat), ((L.set i y).map s).sum ≤ (L.map s).sum + s y
  | [], _ => by simp
  | x :: L, 0 => by simp; omega
  | x :: L, i + 1 => by
    have := set_sum s y L i
    simp only [List.set_cons_succ, List.map_cons, List.sum_cons]
    omega
theorem le_sumD : ∀ {l : List Nat} {a : Nat}, a ∈ l → a ≤ l.sum
  | x :: l, a, h => by
    simp only [List.sum_cons]
    rcases List.mem_cons.1 h with h | h
    · omega
    · have := le_sumD h; omega
theorem put_le {x : StV} (t : Int) {r : RowV} (h : (dRowSS x.tables).le maxLen) (hk : (dRowSS x.tables).le 1048576) (hn : (D.i x.next).le 1048576) (hz : (dRowSS x.tables).sz ≤ 1048576) (hr : ∀ j, j < 2 → (dRow r j).le maxLen) (hrz : szT 2 (dRow r) ≤ 1048576) : (∀ j, j < 2 → (dStore (putP x t r).2 j).le maxLen) ∧ (dRowSS (putP x t r).2.tables).sz ≤ 100000000 := by
  have two : ∀ y : StV, (dRowSS y.tables).le maxLen → y.next = x.next → ∀ j, j < 2 → (dStore y j).le maxLen := fun y hy he j hj => by
    rcases (by omega : j = 0 ∨ j = 1) with rfl | rfl
    · exact hy
    · show (D.i y.next).le maxLen
      rw [he]; exact hn
  unfold putP
  split
  · split
    · rename_i ht
      have hi : t.toNat < x.tables.length := by omega
      rw [getD_tab hi]
      split
      · exact ⟨two x h rfl, by show (dRowSS x.tables).sz ≤ _; omega⟩
      · have hl : (dRowS x.tables[t.toNat]).le maxLen := (Ls_le.1 h).2.2 _ hi 0 (by omega)
        have hl2 : (dRowS x.tables[t.toNat]).le 1048576 := (Ls_le.1 hk).2.2 _ hi 0 (by omega)
        have hlen : x.tables[t.toNat].length ≤ 1048576 := (Ls_le.1 hl2).2.1
        obtain ⟨h1, h2⟩ := put_sum (fun y => szT 2 (dRow y)) r x.tables[t.toNat]
        have hpl : (dRowS (putL x.tables[t.toNat] r)).le maxLen := by
          refine Ls_le.2 ⟨by omega, by unfold maxLen; omega, fun a ha j hj => ?_⟩
          rcases put_mem (List.getElem_mem ha) with e | e
          · rw [e]; exact hr j hj
          · obtain ⟨b, hb, e⟩ := List.mem_iff_getElem.1 e
            rw [← e]; exact (Ls_le.1 hl).2.2 b hb j hj
        refine ⟨two _ (le_set hpl h) rfl, ?_⟩
        show (dRowSS (x.tables.set t.toNat (putL x.tables[t.toNat] r))).sz ≤ _
        have e1 : (dRowSS (x.tables.set t.toNat (putL x.tables[t.toNat] r))).sz = _ := sz_list (n := 1) (d := cRowS) _
        have e2 : (dRowSS x.tables).sz = _ := sz_list (n := 1) (d := cRowS) _
        have e3 : (dRowS (putL x.tables[t.toNat] r)).sz = _ := sz_list (n := 2) (d := dRow) _
        have e4 : (dRowS x.tables[t.toNat]).sz = _ := sz_list (n := 2) (d := dRow) _
        have h3 := set_sum (fun l => szT 1 (cRowS l)) (putL x.tables[t.toNat] r) x.tables t.toNat
        have hc : ∀ l : List RowV, szT 1 (cRowS l) = (dRowS l).sz := fun l => by simp [szT, sumN, cRowS]
        have h4 : (dRowS x.tables[t.toNat]).sz ≤ (x.tables.map (fun l => szT 1 (cRowS l))).sum := by
          rw [← hc]
          exact le_sumD (List.mem_map.2 ⟨_, List.getElem_mem hi, rfl⟩)
        rw [hc] at h3
        rw [List.length_set] at e1
        omega
    · exact stZ_le
  · exact stZ_le
end Go.Proofs.Ytgiaabgcbpafgaa
