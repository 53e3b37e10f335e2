import Derived.Test.YtpjjpdbmooiplaaGreatDoorZbo
namespace Go.Proofs.YtpjjpdbmooiplaaGreatDoor
open Go.RowKit
set_option linter.unusedSimpArgs false
theorem sz_ints (l : List Int) : (dIntS l).sz = l.length := by
  show l.length + szL 1 cInt l l.length = l.length
  have : szL 1 cInt l l.length = 0 := by
    unfold szL
    rw [sumN_congr (h := fun _ => 0) (fun i hi => by rw [lsF_at hi]; rfl)]
    have := sumN_lin 0 0 (fun _ => 0) l.length
    simpa using this
  omega
theorem chosen_ok {t : Tb} {rows : List RowV} {list : List CondV} {K : Nat} (h : (dRowS rows).le K) : ∀ m ∈ chosen t rows list, iOK m := fun m hm => by
  unfold chosen at hm
  obtain ⟨r, hr, rfl⟩ := List.mem_map.1 hm
  have hr' := (List.mem_filter.1 hr).1
  obtain ⟨i, hi, rfl⟩ := List.mem_iff_getElem.1 hr'
  exact (Ls_le.1 h).2.2 i hi 0 (by omega)
theorem ints_le {F : List Int} (hF : F.length ≤ 1048576) (hm : ∀ m ∈ F, iOK m) : (dIntS F).le maxLen ∧ (dIntS F).sz ≤ 100000000 :=
  ⟨Ls_le.2 ⟨by omega, by unfold maxLen; omega, fun i hi _ _ => hm _ (List.getElem_mem hi)⟩, by rw [sz_ints]; omega⟩
theorem si_le {l : List Tb} {x : StV} {tb : Int} {list : List CondV} (h : (dRowSS x.tables).le 1048576) : (dIntS (siR l x tb list)).le maxLen ∧ (dIntS (siR l x tb list)).sz ≤ 100000000 := by
  unfold siR
  split
  · have hr : (dRowS (x.tables.getD tb.toNat [])).le 1048576 := by
      by_cases hi : tb.toNat < x.tables.length
      · rw [getDR hi]; exact (Ls_le.1 h).2.2 _ hi 0 (by omega)
      · rw [List.getD_eq_getElem?_getD, List.getElem?_eq_none (by omega)]
        exact Ls_le.2 ⟨by omega, by simp, fun i hi => absurd hi (by simp)⟩
    exact ints_le (Nat.le_trans (chosen_le _ _ _) (Ls_le.1 hr).2.1) (chosen_ok hr)
  · exact ints_le (by simp) (fun m hm => absurd hm (by simp))
end Go.Proofs.YtpjjpdbmooiplaaGreatDoor
