import Derived.Test.YtodgijhpokjjhaaDoorZbr
import Derived.Laws.BytesArg
namespace Go.Proofs.YtodgijhpokjjhaaDoor
open Go.RowKit
set_option linter.unusedSimpArgs false
theorem takeI {w W : World} {p : Nat} {f : Fr} {out : List (List UInt8)} (b : UInt8) (h : FrS w p W f out) (hI : Inv f) (hol : out.length ≤ 100000000) :
    Calls Tryd.prog 22 #[.pointer (some ⟨p, 0, none⟩), .int .u8 (b.toNat : Int)] W (TakeAns w p (stepF f b).1 (out ++ (stepF f b).2.toList)) := by
  have hle := does_le b
  by_cases hb : f.buf = []
  · obtain ⟨hq, hs⟩ := hI.nq hb
    rcases (by omega : doesB b = 1 ∨ doesB b = 2 ∨ doesB b = 0 ∨ doesB b = 3 ∨ doesB b = 4 ∨ doesB b = 5) with k | k | k | k | k | k
    · rw [show stepF f b = (f, none) by unfold stepF; rw [if_pos ⟨hb, k⟩]]
      simpa using takeA h hb k
    · have e : stepF f b = (openF { f with buf := f.buf ++ [b] }, none) := by
        unfold stepF openF
        rw [if_neg (by omega), if_neg (by rw [hb]; simp [k]), if_neg (by simp [hs]), if_neg (by omega), if_neg (by simp [hq]), if_pos k]
        split <;> rfl
      rw [e]
      simpa using take20 h hb (by rw [hb]; simp) hs hq hI.d0 hI.d12 k
    · rw [show stepF f b = (frC, none) by unfold stepF; rw [if_neg (by omega), if_pos (.inl ⟨hb, by omega⟩)]]
      simpa using takeB0 h hb k
    · rw [show stepF f b = (frC, none) by unfold stepF; rw [if_neg (by omega), if_pos (.inl ⟨hb, by omega⟩)]]
      simpa using takeB3 h hb k
    · rw [show stepF f b = (frC, none) by unfold stepF; rw [if_neg (by omega), if_pos (.inl ⟨hb, by omega⟩)]]
      simpa using takeB4 h hb k
    · rw [show stepF f b = (frC, none) by unfold stepF; rw [if_neg (by omega), if_pos (.inl ⟨hb, by omega⟩)]]
      simpa using takeB5 h hb k
  by_cases hl : f.buf.length = 3000
  · rw [show stepF f b = (frC, none) by unfold stepF; rw [if_neg (fun h => hb h.1), if_pos (.inr hl)]]
    simpa using takeC h hl _ rfl
  have hlt : f.buf.length < 3000 := by have := hI.len; omega
  have e0 : stepF f b = (if f.s = true then ({ f with buf := f.buf ++ [b], s := false }, none)
      else if doesB b = 4 then ({ f with buf := f.buf ++ [b], q := !f.q }, none)
      else if f.q = true then ({ f with buf := f.buf ++ [b], s := decide (doesB b = 5) }, none)
      else if doesB b = 2 then (if 12 < f.d + 1 then (frC, none) else ({ f with buf := f.buf ++ [b], d := f.d + 1 }, none))
      else if doesB b = 3 then (if f.d - 1 = 0 then ({ f with buf := [], d := 0 }, some (f.buf ++ [b])) else ({ f with buf := f.buf ++ [b], d := f.d - 1 }, none))
      else ({ f with buf := f.buf ++ [b] }, none)) := by
    unfold stepF
    rw [if_neg (fun h => hb h.1), if_neg (by rintro (h | h); exact hb h.1; exact hl h)]
  rw [e0]
  clear e0
  cases hs : f.s
  case true =>
    rw [if_pos rfl]
    simpa using takeS h hb hlt hs _ rfl
  rw [if_neg (by simp)]
  by_cases h4 : doesB b = 4
  · rw [if_pos h4]
    simpa [hs] using take4 h hb hlt hs h4
  rw [if_neg h4]
  cases hq : f.q
  case true =>
    rw [if_pos rfl]
    rcases (by omega : doesB b = 1 ∨ doesB b = 2 ∨ doesB b = 0 ∨ doesB b = 3 ∨ doesB b = 5) with k | k | k | k | k
    · simpa [k, hq] using takeQ1 h hb hlt hs hq k
    · simpa [k, hq] using takeQ2 h hb hlt hs hq k
    · simpa [k, hq] using takeQ0 h hb hlt hs hq k
    · simpa [k, hq] using takeQ3 h hb hlt hs hq k
    · simpa [k, hq] using takeQ5 h hb hlt hs hq k
  rw [if_neg (by simp)]
  by_cases h2 : doesB b = 2
  · rw [if_pos h2]
    have := take2 h hb hlt hs hq hI.d0 hI.d12 h2
    unfold openF at this
    by_cases hd : 12 < f.d + 1
    · rw [if_pos hd] at this ⊢
      simpa using this
    · rw [if_neg hd] at this ⊢
      simpa [hs, hq] using this
  rw [if_neg h2]
  by_cases h3 : doesB b = 3
  · rw [if_pos h3]
    have := take3 h hb hlt hs hq hI.d0 hI.d12 hol h3
    unfold shutF shutO at this
    by_cases hd : f.d - 1 = 0
    · rw [if_pos hd, if_pos hd] at this
      rw [if_pos hd]
      simpa [hs, hq] using this
    · rw [if_neg hd, if_neg hd] at this
      rw [if_neg hd]
      simpa [hs, hq] using this
  rw [if_neg h3]
  rcases (by omega : doesB b = 1 ∨ doesB b = 0 ∨ doesB b = 5) with k | k | k
  · simpa [hs, hq] using takeP1 h hb hlt hs hq k
  · simpa [hs, hq] using takeP0 h hb hlt hs hq k
  · simpa [hs, hq] using takeP5 h hb hlt hs hq k
set_option maxRecDepth 100000 in
set_option maxHeartbeats 3200000 in
theorem feedI {w W : World} {p : Nat} {f : Fr} {out : List (List UInt8)} (s : ByteArray) (h : FrS w p W f out) (hI : Inv f) (hol : out.length + f.buf.length + s.size ≤ 100000000) :
    Calls Tryd.prog 12 #[.pointer (some ⟨p, 0, none⟩), .string s] W (TakeAns w p (feedL f s.data.toList).1 (out ++ (feedL f s.data.toList).2)) := by
  have H := Lib.hid h
  have HIv := Lib.hid hI
  have HL : Hid (∀ k, out.length + (feedL f (s.data.toList.take k)).2.length ≤ 100000000) := fun k => by
    have h1 := out_len f (s.data.toList.take k)
    have h2 : (s.data.toList.take k).length ≤ s.size := by rw [List.length_take]; exact Nat.le_trans (Nat.min_le_right _ _) (by simp)
    omega
  clear h hI
  go_enter Tryd.func12, Tryd.ntmps12
  go_wp2_with fail
  go_loopw [4] (fun i wr => ∃ k : Nat, k ≤ s.size ∧ i = .int .i64 k ∧ Hid (FrS w p wr (feedL f (s.data.toList.take k)).1 (out ++ (feedL f (s.data.toList.take k)).2))) (fun i _ => s.size - (intOf i).toNat)
  case atStart => exact ⟨0, Nat.zero_le _, rfl, by show FrS _ _ _ _ _; simpa [feedL] using H.out⟩
  case round =>
    obtain ⟨k, hk, rfl, HS⟩ := hrel
    by_cases hlt : k < s.size
    · have hki : (k : Int) < (s.size : Int) := by omega
      obtain ⟨g, hg⟩ : ∃ g, g = (feedL f (s.data.toList.take k)).1 := ⟨_, rfl⟩
      obtain ⟨o, ho⟩ : ∃ o, o = (feedL f (s.data.toList.take k)).2 := ⟨_, rfl⟩
      have HI2 : Hid (Inv g) := by show Inv g; rw [hg]; exact inv_feed HIv.out _
      have HT : Hid (g.c = true → feedL f s.data.toList = (g, o)) := fun hc => by
        rw [feed_stop f s.data.toList k (by rw [← hg]; exact hc), hg, ho]
      have HN : Hid (g.c = false → feedL f (s.data.toList.take (k + 1)) = ((stepF g s[k]).1, o ++ (stepF g s[k]).2.toList)) := fun hc => by
        have := feed_snoc f s.data.toList k (by simpa using hlt) (by rw [← hg]; exact hc)
        rw [this, ← hg, ← ho]
        rfl
      have HO : Hid (out.length + o.length ≤ 100000000) := by show _ ≤ _; rw [ho]; exact HL.out k
      rw [← hg, ← ho] at HS
      clear hg ho
      have hs4 : wr.cell? ⟨p, 4, none⟩ = some (.bool g.c) := by obtain ⟨vb, ve, h⟩ := HS.out; exact h.cell.2.2.2.2.1
      cases hc : g.c
      · rw [hc] at hs4
        have HN' := Lib.hid (HN.out hc)
        clear hc
        go_wp2_with (go_at_call 22; refine (takeI s[k] HS.out HI2.out (by have := HO.out; rw [List.length_append]; exact this)).mono ?_; rintro e w2 ⟨rfl, hs2⟩)
        go_roundw
        case rel => exact ⟨k + 1, by omega, by go_num, by show FrS _ _ _ _ _; rw [HN'.out]; rw [← List.append_assoc]; exact hs2⟩
        case measure => simp [intOf]; omega
      · rw [hc] at hs4
        have HT' := Lib.hid (HT.out hc)
        clear hc
        go_wp2_with fail
        refine bodyPost_end (results_none rfl _ _ _) rfl ⟨rfl, ?_⟩
        rw [HT'.out]
        exact HS.out
    · have hmi : decide ((k : Int) < (s.size : Int)) = false := by simp; omega
      have hE : Hid (s.data.toList.take k = s.data.toList) := List.take_of_length_le (by simp; exact Nat.le_of_not_lt hlt)
      rw [hE.out] at HS
      go_wp2_with fail
      exact bodyPost_end (results_none rfl _ _ _) rfl ⟨rfl, HS.out⟩
end Go.Proofs.YtodgijhpokjjhaaDoor
