import Derived.Test.YtdhlndpobpdfmaaZbr
import Derived.Test.YtdhlndpobpdfmaaZbs
namespace Go.Proofs.Ytdhlndpobpdfmaa
open Go.RowKit
set_option linter.unusedSimpArgs false
theorem set_sum2 {α : Type} (s : α → Nat) (y : α) : ∀ (L : List α) (i : Nat) (h : i < L.length), ((L.set i y).map s).sum + s L[i] = (L.map s).sum + s y
  | [], i, h => absurd h (by simp)
  | a :: L, 0, _ => by simp; omega
  | a :: L, i + 1, h => by
    have := set_sum2 s y L i (by simpa using h)
    simp only [List.set_cons_succ, List.map_cons, List.sum_cons, List.getElem_cons_succ]
    omega
theorem tab_sz (l : List RowV) : szT 1 (cRowS l) = (dRowS l).sz := by simp [szT, sumN, cRowS]
theorem row_sz (r : RowV) : szT 2 (dRow r) = (dAtomSS r.cells).sz := by simp [szT, sumN, dRow, D.sz]
theorem put_sz (l : List RowV) (r : RowV) : (dRowS (putL l r)).sz ≤ (dRowS l).sz + (1 + (dAtomSS r.cells).sz) := by
  have e3 : (dRowS (putL l r)).sz = _ := sz_list (n := 2) (d := dRow) _
  have e4 : (dRowS l).sz = _ := sz_list (n := 2) (d := dRow) _
  obtain ⟨h1, h2⟩ := put_sum (fun y => szT 2 (dRow y)) r l
  have h3 := row_sz r
  omega
theorem st_sz {L : List (List RowV)} {i : Nat} (hi : i < L.length) {l' : List RowV} {d : Nat} (h : (dRowS l').sz ≤ (dRowS L[i]).sz + d) : (dRowSS (L.set i l')).sz ≤ (dRowSS L).sz + d := by
  have e1 : (dRowSS (L.set i l')).sz = _ := sz_list (n := 1) (d := cRowS) _
  have e2 : (dRowSS L).sz = _ := sz_list (n := 1) (d := cRowS) _
  have h3 := set_sum2 (fun l => szT 1 (cRowS l)) l' L i hi
  simp only [tab_sz] at h3 e1 e2
  rw [List.length_set] at e1
  omega
theorem erase_sz (l : List RowV) (k : Nat) : (dRowS (l.eraseIdx k)).sz ≤ (dRowS l).sz := by
  by_cases h : k < l.length
  · exact sz_erase h
  · rw [List.eraseIdx_of_length_le (by omega)]; exact Nat.le_refl _
theorem dn_sz (x : StV) (c : ChV) : (dRowSS (dnC x c).1.tables).sz ≤ (dRowSS x.tables).sz + (1 + (dAtomSS c.ncs).sz) := by
  unfold dnC
  by_cases h1 : c.cid < 1 ∨ ¬ (0 ≤ c.tab ∧ c.tab < x.tables.length) ∨ kindC c = 0
  · simp only [if_pos h1]; omega
  simp only [if_neg h1]
  by_cases h2 : eqB (rowD (tabI x c.tab) c.cid) ⟨c.oid, c.ocs⟩ = false
  · simp only [if_pos h2]; omega
  simp only [if_neg h2]
  have hi : c.tab.toNat < x.tables.length := by omega
  have ht : tabI x c.tab = x.tables[c.tab.toNat] := by unfold tabI; rw [List.getD_eq_getElem?_getD, List.getElem?_eq_getElem hi]; rfl
  by_cases h3 : kindC c = 2
  · simp only [if_pos h3]; unfold dropC; rw [ht]
    have := st_sz (d := 0) hi (erase_sz x.tables[c.tab.toNat] (rplI x.tables[c.tab.toNat] c.cid).toNat)
    simp only at this ⊢
    omega
  simp only [if_neg h3]
  by_cases h4 : kindC c = 1 ∧ 12 ≤ (tabI x c.tab).length
  · simp only [if_pos h4]; omega
  simp only [if_neg h4]
  unfold putC'
  rw [ht]
  exact st_sz hi (put_sz _ _)
theorem ap_sz : ∀ (l : List ChV) (x : StV), (dRowSS (apL x l).1.tables).sz ≤ (dRowSS x.tables).sz + (l.map (fun c => 1 + (dAtomSS c.ncs).sz)).sum
  | [], x => by simp [apL]
  | c :: r, x => by
    have h := dn_sz x c
    rw [apL_cons]
    simp only [List.map_cons, List.sum_cons]
    split
    · have := ap_sz r (dnC x c).1; omega
    · omega
theorem ap_all : ∀ (l : List ChV) (x : StV), ApP x → iOK x.next → (∀ c ∈ l, iOK c.nid ∧ (dAtomSS c.ncs).le 1048576) → ApP (apL x l).1 ∧ iOK (apL x l).1.next
  | [], x, h, hn, _ => by simp only [apL]; exact ⟨h, hn⟩
  | c :: r, x, h, hn, hc => by
    have h1 := dn_P h (hc c (by simp))
    have h2 := dn_next (c := c) hn
    rw [apL_cons]
    split
    · exact ap_all r _ h1 h2 (fun c' hc' => hc c' (by simp [hc']))
    · exact ⟨h1, h2⟩
theorem acp_le {x : StV} {l : List ChV} (hk : (dRowSS x.tables).le 1048576) (hn : iOK x.next) (hz : (dRowSS x.tables).sz ≤ 1048576) (hc : ∀ c ∈ l, iOK c.nid ∧ (dAtomSS c.ncs).le 1048576) (hs : (l.map (fun c => 1 + (dAtomSS c.ncs).sz)).sum ≤ 1048576) : (∀ j, j < 2 → (dStore (acP x l).1 j).le maxLen) ∧ (dRowSS (acP x l).1.tables).sz ≤ 100000000 := by
  unfold acP
  by_cases h : acC x l = 0
  · simp only [if_pos h]
    have hp : plainB x = true := by
      unfold acC at h
      split at h
      · omega
      split at h
      · assumption
      · omega
    obtain ⟨h1, h2⟩ := ap_all l x (ap_plain hp hk) hn hc
    have h3 := ap_sz l x
    refine ⟨fun j hj => ?_, by omega⟩
    rcases (by omega : j = 0 ∨ j = 1) with rfl | rfl
    · exact D.le.mono (by unfold maxLen; omega) _ h1.2
    · exact h2
  · simp only [if_neg h]
    exact stZ_le
theorem ch_sum : ∀ l : List ChV, (l.map (fun c => 1 + (dAtomSS c.ncs).sz)).sum ≤ l.length + (l.map (fun c => szT 6 (dChange c))).sum ∧ (l.map (fun c => 1 + (dAtomSS c.ocs).sz)).sum ≤ l.length + (l.map (fun c => szT 6 (dChange c))).sum
  | [] => by simp
  | c :: l => by
    have h := ch_sum l
    have h2 := szT_Change c
    simp only [List.map_cons, List.sum_cons, List.length_cons]
    omega
theorem ch_mem {l : List ChV} (h : (dChangeS l).le 1048576) {c : ChV} (hc : c ∈ l) : (iOK c.oid ∧ (dAtomSS c.ocs).le 1048576) ∧ iOK c.nid ∧ (dAtomSS c.ncs).le 1048576 := by
  obtain ⟨i, hi, rfl⟩ := List.mem_iff_getElem.1 hc
  have := ch_le h hi
  exact ⟨⟨this.2.2.1, this.2.2.2.1⟩, this.2.2.2.2.1, this.2.2.2.2.2⟩
theorem apI_le {x : StV} {l : List ChV} (hk : (dRowSS x.tables).le 1048576) (hn : iOK x.next) (hz : (dRowSS x.tables).sz ≤ 1048576) (hl : (dChangeS l).le 1048576) (hlz : (dChangeS l).sz ≤ 1048576) : (∀ j, j < 2 → (dStore (acP x l).1 j).le maxLen) ∧ (dRowSS (acP x l).1.tables).sz ≤ 100000000 := by
  have e : (dChangeS l).sz = _ := sz_list (n := 6) (d := dChange) _
  have h := (ch_sum l).1
  exact acp_le hk hn hz (fun c hc => (ch_mem hl hc).2) (by omega)
end Go.Proofs.Ytdhlndpobpdfmaa
