import Derived.Test.YtooiejlbnddfmaaFSb
namespace Go.Proofs.Ytooiejlbnddfmaa
open Go.RowKit
set_option linter.unusedSimpArgs false
theorem does1 {b : UInt8} (h : doesB b = 1) : b = 32 ∨ b = 9 ∨ b = 10 ∨ b = 13 := by
  unfold doesB at h
  split at h
  · assumption
  · repeat' split at h
    all_goals omega
theorem does2 {b : UInt8} (h : doesB b = 2) : b = 91 ∨ b = 123 := by
  unfold doesB at h
  split at h
  · omega
  split at h
  · assumption
  · repeat' split at h
    all_goals omega
theorem does3 {b : UInt8} (h : doesB b = 3) : b = 93 ∨ b = 125 := by
  unfold doesB at h
  split at h
  · omega
  split at h
  · omega
  split at h
  · assumption
  · repeat' split at h
    all_goals omega
theorem does4 {b : UInt8} (h : doesB b = 4) : b = 34 := by
  unfold doesB at h
  split at h
  · omega
  split at h
  · omega
  split at h
  · omega
  split at h
  · assumption
  · split at h <;> omega
theorem does5 {b : UInt8} (h : doesB b = 5) : b = 92 := by
  unfold doesB at h
  repeat' split at h
  all_goals first | omega | assumption
theorem nd {b k : UInt8} {n : Nat} (h : ¬ doesB b = n) (hk : doesB k = n) : ¬ b = k := fun e => h (by rw [e]; exact hk)
theorem byteSI {f : Fr} {w : World} (b : UInt8) (hI : Inv f) (hc : f.c = false) :
    Calls Try.prog 24 #[.agg #[.string ⟨f.buf.toArray⟩, .int .i64 f.d, .bool f.q, .bool f.s, .bool f.c], .int .u8 (b.toNat : Int)] w (ByAns w (byteS f b).1 (byteS f b).2) := by
  have hl := hI.len
  by_cases hd : f.d = 0
  · have hz := hI.dz.1 hd
    obtain ⟨hq, hs⟩ := hI.nq hz
    by_cases h1 : doesB b = 1
    · rw [show byteS f b = (f, false) by unfold byteS; rw [if_pos ⟨hd, h1⟩]]
      rcases does1 h1 with e | e | e | e
      · exact by0_32 hl hc hd e
      · exact by0_9 hl hc hd e
      · exact by0_10 hl hc hd e
      · exact by0_13 hl hc hd e
    by_cases h2 : doesB b = 2
    · have e0 : byteS f b = ({ f with buf := f.buf ++ [b], d := f.d + 1 }, false) := by
        unfold byteS
        rw [if_neg (by omega), if_neg (by omega), if_neg (by rw [hz]; simp), if_neg (by simp [hs]), if_neg (by simp [hq]), if_neg (by omega), if_neg (by simp [hq]), if_pos h2, if_neg (by omega)]
      rw [e0]
      rcases does2 h2 with e | e
      · exact by0_91 hl hc hd hz hq hs e
      · exact by0_123 hl hc hd hz hq hs e
    · rw [show byteS f b = (frC, false) by unfold byteS; rw [if_neg (by omega), if_pos ⟨hd, h2⟩]]
      exact by0_n hl hc hd (nd h1 (by decide)) (nd h1 (by decide)) (nd h1 (by decide)) (nd h1 (by decide)) (nd h2 (by decide)) (nd h2 (by decide))
  have e0 : byteS f b = (if 3000 < f.buf.length + 1 then (frC, false)
      else if f.s = true then ({ f with buf := f.buf ++ [b], s := false }, false)
      else if f.q = true ∧ doesB b = 5 then ({ f with buf := f.buf ++ [b], s := true }, false)
      else if doesB b = 4 then ({ f with buf := f.buf ++ [b], q := !f.q }, false)
      else if f.q = true then ({ f with buf := f.buf ++ [b] }, false)
      else if doesB b = 2 then (if 12 < f.d + 1 then (frC, false) else ({ f with buf := f.buf ++ [b], d := f.d + 1 }, false))
      else if doesB b = 3 then ({ f with buf := f.buf ++ [b], d := f.d - 1 }, decide (f.d - 1 = 0))
      else ({ f with buf := f.buf ++ [b] }, false)) := by
    unfold byteS
    rw [if_neg (by omega), if_neg (by omega)]
  rw [e0]
  clear e0
  by_cases h3 : f.buf.length = 3000
  · rw [if_pos (by omega)]
    exact byL hl hc hd h3
  have hlt : f.buf.length < 3000 := by omega
  rw [if_neg (by omega)]
  cases hs : f.s
  case true =>
    rw [if_pos rfl]
    have := byS (b := b) (w := w) hl hc hd hlt hs
    simpa [hs] using this
  rw [if_neg (by simp)]
  cases hq : f.q
  case true =>
    by_cases h5 : doesB b = 5
    · rw [if_pos ⟨rfl, h5⟩]
      have := byQ92 (w := w) hl hc hd hlt hs hq (does5 h5)
      simpa [hs, hq] using this
    rw [if_neg (fun h => h5 h.2)]
    by_cases h4 : doesB b = 4
    · rw [if_pos h4]
      have := byQ34 (w := w) hl hc hd hlt hs hq (does4 h4)
      simpa [hs, hq] using this
    · rw [if_neg h4, if_pos rfl]
      have := byQn (w := w) hl hc hd hlt hs hq (nd h5 (by decide)) (nd h4 (by decide))
      simpa [hs, hq] using this
  rw [if_neg (by simp)]
  by_cases h4 : doesB b = 4
  · rw [if_pos h4]
    have := byN34 (w := w) hl hc hd hlt hs hq (does4 h4)
    simpa [hs, hq] using this
  rw [if_neg h4, if_neg (by simp)]
  by_cases h2 : doesB b = 2
  · rw [if_pos h2]
    by_cases h12 : 12 < f.d + 1
    · rw [if_pos h12]
      rcases does2 h2 with e | e
      · have := byN91b (w := w) hl hc hd hlt hs hq hI.d0 (by have := hI.d12; omega) e
        simpa [hs, hq] using this
      · have := byN123b (w := w) hl hc hd hlt hs hq hI.d0 (by have := hI.d12; omega) e
        simpa [hs, hq] using this
    · rw [if_neg h12]
      rcases does2 h2 with e | e
      · have := byN91a (w := w) hl hc hd hlt hs hq hI.d0 (by omega) e
        simpa [hs, hq] using this
      · have := byN123a (w := w) hl hc hd hlt hs hq hI.d0 (by omega) e
        simpa [hs, hq] using this
  rw [if_neg h2]
  by_cases h3' : doesB b = 3
  · rw [if_pos h3']
    rcases does3 h3' with e | e
    · have := byN93 (w := w) hl hc hd hlt hs hq hI.d0 hI.d12 e
      simpa [hs, hq] using this
    · have := byN125 (w := w) hl hc hd hlt hs hq hI.d0 hI.d12 e
      simpa [hs, hq] using this
  · rw [if_neg h3']
    have := byNn (w := w) hl hc hd hlt hs hq (nd h4 (by decide)) (nd h2 (by decide)) (nd h2 (by decide)) (nd h3' (by decide)) (nd h3' (by decide))
    simpa [hs, hq] using this
end Go.Proofs.Ytooiejlbnddfmaa
