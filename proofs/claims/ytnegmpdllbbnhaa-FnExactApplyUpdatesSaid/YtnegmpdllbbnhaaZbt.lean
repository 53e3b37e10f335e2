import Derived.Test.YtnegmpdllbbnhaaZbf
import Derived.Test.YtnegmpdllbbnhaaZbs
namespace Go.Proofs.Ytnegmpdllbbnhaa
open Go.RowKit
set_option linter.unusedSimpArgs false
theorem row_szU (r : RowV) : szT 2 (dRow r) = (dAtomSS r.cells).sz := by simp [szT, sumN, dRow, D.sz]
theorem put_szU (l : List RowV) (r : RowV) : (dRowS (putL l r)).sz ≤ (dRowS l).sz + (1 + (dAtomSS r.cells).sz) := by
  have e3 : (dRowS (putL l r)).sz = _ := sz_list (n := 2) (d := dRow) _
  have e4 : (dRowS l).sz = _ := sz_list (n := 2) (d := dRow) _
  obtain ⟨h1, h2⟩ := put_sum (fun y => szT 2 (dRow y)) r l
  have h3 := row_szU r
  omega
theorem erase_szU (l : List RowV) (k : Nat) : (dRowS (l.eraseIdx k)).sz ≤ (dRowS l).sz := by
  by_cases h : k < l.length
  · exact sz_erase h
  · rw [List.eraseIdx_of_length_le (by omega)]; exact Nat.le_refl _
theorem in_sz (l : List RowV) (m : Int) (c : ChV) : (dRowS (inC l m c).1).sz ≤ (dRowS l).sz + (1 + (dAtomSS c.ncs).sz) := by
  unfold inC
  split
  · simp only; omega
  split
  · simp only; omega
  split
  · have := erase_szU l (rplI l c.cid).toNat; simp only; omega
  split
  · simp only; omega
  · exact put_szU _ _
theorem up_sz : ∀ (us : List UpV) (l : List RowV), (dRowS (upL l us).1).sz ≤ (dRowS l).sz + (us.map (fun u => 1 + (dAtomSS u.ncs).sz)).sum
  | [], l => by simp [upL]
  | u :: r, l => by
    have h : (dRowS (inC l 9223372036854775807 (chU u)).1).sz ≤ (dRowS l).sz + (1 + (dAtomSS u.ncs).sz) := in_sz l 9223372036854775807 (chU u)
    rw [upL_cons]
    simp only [List.map_cons, List.sum_cons]
    split
    · have := up_sz r (inC l 9223372036854775807 (chU u)).1; omega
    · omega
theorem up_all : ∀ (us : List UpV) (l : List RowV) (K : Nat), UpP l K → (∀ u ∈ us, iOK u.nid ∧ (dAtomSS u.ncs).le 1048576) → UpP (upL l us).1 (K + us.length)
  | [], l, K, h, _ => by simp only [upL]; exact h
  | u :: r, l, K, h, hu => by
    have h1 := h.go (hu u (by simp)) 9223372036854775807
    rw [upL_cons]
    split
    · exact (up_all r _ (K + 1) h1 (fun u' h' => hu u' (by simp [h']))).mono (by simp; omega)
    · exact h1.mono (by simp)
theorem up_sum : ∀ us : List UpV, (us.map (fun u => 1 + (dAtomSS u.ncs).sz)).sum ≤ us.length + (us.map (fun u => szT 5 (dUpdate u))).sum
  | [] => by simp
  | u :: us => by
    have h := up_sum us
    have h2 := szT_Update u
    simp only [List.map_cons, List.sum_cons, List.length_cons]
    omega
theorem nil_leU : (dRowS []).le maxLen ∧ (dRowS []).sz ≤ 100000000 := ⟨Ls_le.2 ⟨by omega, by simp, fun i hi => absurd hi (by simp)⟩, by decide⟩
theorem au_le {l : List RowV} {us : List UpV} (hk : (dRowS l).le 1048576) (hz : (dRowS l).sz ≤ 1048576) (hu : (dUpdateS us).le 1048576) (huz : (dUpdateS us).sz ≤ 1048576) : (dRowS (upR l us).1).le maxLen ∧ (dRowS (upR l us).1).sz ≤ 100000000 := by
  by_cases h1 : 4096 < l.length ∨ 4096 < us.length
  · rw [upR_long h1]; exact nil_leU
  have h2 : ¬ 4096 < l.length := fun h => h1 (.inl h)
  have h3 : ¬ 4096 < us.length := fun h => h1 (.inr h)
  by_cases hr : riseIds l
  · rw [upR_ok h2 h3 hr]
    have hP := up_all us l l.length ⟨asc_of hr, le_rows hk, Nat.le_refl _⟩ (fun u hu' => by
      obtain ⟨i, hi, rfl⟩ := List.mem_iff_getElem.1 hu'
      have := (Ls_le.1 hu).2.2 i hi
      exact ⟨this 3 (by omega), this 4 (by omega)⟩)
    have hS := up_sz us l
    have h4 := up_sum us
    have e : (dUpdateS us).sz = _ := sz_list (n := 5) (d := dUpdate) _
    exact ⟨D.le.mono (by unfold maxLen; omega) _ (hP.le (by omega)), by omega⟩
  · rw [upR_bad h2 h3 hr]; exact nil_leU
end Go.Proofs.Ytnegmpdllbbnhaa
