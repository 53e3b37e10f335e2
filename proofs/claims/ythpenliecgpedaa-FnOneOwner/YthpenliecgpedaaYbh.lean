import Derived.Test.YthpenliecgpedaaYbf
namespace Go.Proofs.Ythpenliecgpedaa
open Go.RowKit Go.MuLone
set_option linter.unusedSimpArgs false
structure SmL (x : LkV) : Prop where
  nm : x.nm.length ≤ 40
  qu : x.qu.length ≤ 4
  se : ∀ m ∈ x.qu, 0 ≤ m ∧ m ≤ 2
theorem iOK_ses {m : Int} (h : 0 ≤ m ∧ m ≤ 2) : iOK m := by
  rcases (by omega : m = 0 ∨ m = 1 ∨ m = 2) with rfl | rfl | rfl <;> (unfold iOK; decide +kernel)
theorem ints_le {q : List Int} (h : ∀ m ∈ q, 0 ≤ m ∧ m ≤ 2) (hl : q.length ≤ 100000) : (dIntS q).le maxLen ∧ (dIntS q).sz = q.length := by
  refine ⟨Ls_le.2 ⟨by omega, by unfold maxLen; omega, fun i hi j hj => iOK_ses (h _ (List.getElem_mem hi))⟩, ?_⟩
  have h3 : sumN q.length (fun i => sumN 1 (fun j => (lsF cInt q i j).sz)) ≤ sumN q.length (fun _ => 0) := sumN_bound (fun i hi => by
    show 0 + (lsF cInt q i 0).sz ≤ 0
    rw [lsF_at hi]
    exact Nat.le_refl _)
  rw [sumN_cst] at h3
  show q.length + sumN q.length (fun i => sumN 1 (fun j => (lsF cInt q i j).sz)) = q.length
  omega
theorem locks_le {R : List LkV} (h1 : R.length ≤ 100) (h2 : ∀ x ∈ R, SmL x) : (dLockS R).le maxLen ∧ (dLockS R).sz ≤ 100000000 := by
  refine ⟨Ls_le.2 ⟨by omega, by unfold maxLen; omega, fun i hi j hj => ?_⟩, ?_⟩
  · have hx := h2 _ (List.getElem_mem hi)
    rcases (by omega : j = 0 ∨ j = 1) with rfl | rfl
    · show R[i].nm.length ≤ maxLen
      have := hx.nm; unfold maxLen; omega
    · exact (ints_le hx.se (by have := hx.qu; omega)).1
  · have h3 : sumN R.length (fun i => sumN 2 (fun j => (lsF dLock R i j).sz)) ≤ sumN R.length (fun _ => 44) := sumN_bound (fun i hi => by
      show 0 + (lsF dLock R i 0).sz + (lsF dLock R i 1).sz ≤ 44
      rw [lsF_at hi]
      have hx := h2 _ (List.getElem_mem hi)
      have h4 := (ints_le hx.se (by have := hx.qu; omega)).2
      have h5 : (dLock R[i] 1).sz = (dIntS R[i].qu).sz := rfl
      have h6 : (dLock R[i] 0).sz = R[i].nm.length := rfl
      have := hx.nm; have := hx.qu
      omega)
    rw [sumN_cst] at h3
    show R.length + sumN R.length (fun i => sumN 2 (fun j => (lsF dLock R i j).sz)) ≤ 100000000
    omega
theorem LksP.small {l : List LkV} (h : LksP l) : ∀ x ∈ l, SmL x ∧ x.qu.length ≤ 3 := fun x hx => by
  obtain ⟨k, hk, rfl⟩ := List.mem_iff_getElem.1 hx
  have hq := h.que k hk
  refine ⟨⟨nmB_len (h.nam k hk), by have := hq.len; omega, fun m hm => ?_⟩, hq.len.2⟩
  obtain ⟨j, hj, rfl⟩ := List.mem_iff_getElem.1 hm
  exact ses_in (hq.ses j hj)
theorem insL_mem {l : List LkV} {s : List UInt8} {q : List Int} {x : LkV} (h : x ∈ insL l s q) : x ∈ l ∨ x = ⟨s, q⟩ := by
  unfold insL at h
  rcases List.mem_append.1 h with h | h
  · rcases List.mem_append.1 h with h | h
    · exact .inl (List.mem_of_mem_take h)
    · simp only [List.mem_cons, List.not_mem_nil, or_false] at h; exact .inr h
  · exact .inl (List.mem_of_mem_drop h)
theorem atL_mem {l : List LkV} {k : Nat} : atL l k ∈ l ∨ atL l k = ⟨[], []⟩ := by
  by_cases h : k < l.length
  · rw [atL_at h]; exact .inl (List.getElem_mem h)
  · refine .inr ?_
    unfold atL; rw [List.getD_eq_getElem?_getD, List.getElem?_eq_none (by omega)]; rfl
end Go.Proofs.Ythpenliecgpedaa
