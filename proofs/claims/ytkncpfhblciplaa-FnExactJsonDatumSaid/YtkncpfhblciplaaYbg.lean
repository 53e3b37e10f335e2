import Derived.Test.YtkncpfhblciplaaYbf
namespace Go.Proofs.Ytkncpfhblciplaa
open Go.RowKit
set_option linter.unusedSimpArgs false
def SoFar (d : Nat) (items : List J) (k : Nat) (m : Int) : Prop := left 400 (cntTo d items k) = 400 - m
theorem sofar_zero (d : Nat) (items : List J) : SoFar d items 0 1 := by unfold SoFar; rw [cntTo_zero]; rfl
theorem sofar_step {d : Nat} {items : List J} {k : Nat} {m n : Int} (h : k < items.length) (hs : SoFar d items k m) (hm0 : 0 ≤ m) (hm : m ≤ 400) (hx : left 400 (cnt d items[k]) = 400 - n) (hn0 : 0 ≤ n) (hn : n ≤ 400) (hle : m + n ≤ 400) : SoFar d items (k + 1) (m + n) := by
  unfold SoFar at hs ⊢
  rw [cntTo_succ d items k h, left_both hs hm0 hm hx hn0 hn, if_pos hle]
theorem sofar_over {d : Nat} {items : List J} {k : Nat} {m n : Int} (h : k < items.length) (hs : SoFar d items k m) (hm0 : 0 ≤ m) (hm : m ≤ 400) (hx : left 400 (cnt d items[k]) = 400 - n) (hn0 : 0 ≤ n) (hn : n ≤ 400) (hle : ¬ m + n ≤ 400) : left 400 (cntTo d items items.length) = -1 := by
  unfold SoFar at hs
  have e : left 400 (cntTo d items (k + 1)) = -1 := by rw [cntTo_succ d items k h, left_both hs hm0 hm hx hn0 hn, if_neg hle]
  rw [cntTo_split d items (k + 1)]
  exact left_add_neg _ _ _ (by rw [e]; omega) (by omega)
theorem sofar_bad {d : Nat} {items : List J} {k : Nat} (h : k < items.length) (hx : okD d items[k] = false) : left 400 (cntTo d items items.length) = -1 := by
  have hx' : left 400 (cnt d items[k]) < 0 := by unfold okD at hx; have := of_decide_eq_false hx; omega
  have e : left 400 (cntTo d items (k + 1)) = -1 := by rw [cntTo_succ d items k h]; exact left_bad hx'
  rw [cntTo_split d items (k + 1)]
  exact left_add_neg _ _ _ (by rw [e]; omega) (by omega)
theorem sofar_end {d : Nat} {j : J} {m : Int} (hp : partB j = true) (hs : SoFar d j.items j.items.length m) (hm : m ≤ 400) : okD (d + 1) j = true ∧ left 400 (cnt (d + 1) j) = 400 - m := by
  unfold SoFar at hs
  have e : left 400 (cnt (d + 1) j) = 400 - m := by rw [cnt_part hp]; exact hs
  exact ⟨by unfold okD; rw [e]; exact decide_eq_true (by omega), e⟩
theorem okD_no {d : Nat} {j : J} (hp : partB j = true) (h : left 400 (cntTo d j.items j.items.length) = -1) : okD (d + 1) j = false := by
  unfold okD; rw [cnt_part hp, h]; rfl
set_option maxRecDepth 100000 in
set_option maxHeartbeats 16000000 in
theorem okList (d : Nat) (hd : d ≤ 12) (ih : OkSaid d) (j : J) (h0 : j.k = 4) (hn : j.n = 0) (ht : j.t = []) (hk : j.keys.length = 0) (ka ia : Option Addr) (kc ic : Nat) (B : Nat → Prop) (w : World) (hil : j.items.length ≤ maxLen) (hi : Jsons w B ia j.items) :
    Calls Try.prog 83 #[.agg #[.int .i64 4, .int .i64 0, .string ⟨#[]⟩, .slice ka 0 kc, .slice ia j.items.length ic], .int .i64 ((d : Int) + 1)] w (OkAns (d + 1) j w) := by
  have HP : Hid (partB j = true) := by show partB j = true; rw [part4 h0, hn, ht]; unfold noKeys; rw [hk]; rfl
  have HI : Hid (Jsons w B ia j.items) := hi
  unfold maxLen at hil
  have hdz : ((d : Int) + 1 == 0) = false := by simp; omega
  clear hi h0 hn ht hk
  cases ei : ((j.items.length : Int) == 0)
  all_goals
    have HEI : Hid (((j.items.length : Int) == 0) = _) := ei
    go_enter Try.func83, Try.ntmps83
    go_wp2_with fail
    clear ei
    go_loopw [7, 8] (fun q i wr => ∃ k : Nat, k ≤ j.items.length ∧ i = .int .i64 k ∧ ∃ m : Int, q = .int .i64 m ∧ 0 ≤ m ∧ m ≤ 400 ∧ Hid (SoFar d j.items k m) ∧ Below (w.heap.size + 1) (w.alloc (.cells #[.int .i64 4, .int .i64 0, .string ⟨#[]⟩, .slice ka 0 kc, .slice ia j.items.length ic] 28)) wr) (fun _ i _ => j.items.length - (intOf i).toNat)
    case atStart => exact ⟨0, Nat.zero_le _, rfl, 1, rfl, by omega, by omega, sofar_zero _ _, Below.refl _ _⟩
    case round =>
      obtain ⟨k, hk, rfl, m, rfl, hm0, hm1, HS, hw⟩ := hrel
      have hB : Below w.heap.size w wr := ((Below.refl _ _).alloc (Nat.le_refl _) _).trans (hw.mono (by omega))
      have hx0 : wr.cell? ⟨w.heap.size, 0, none⟩ = some (.int .i64 4) := by rw [hw.cell (p := ⟨w.heap.size, 0, none⟩) (by simp)]; simp [go_sem]
      have hx4 : wr.cell? ⟨w.heap.size, 4, none⟩ = some (.slice ia j.items.length ic) := by rw [hw.cell (p := ⟨w.heap.size, 4, none⟩) (by simp)]; simp [go_sem]
      by_cases hlt : k < j.items.length
      · obtain ⟨b, off, ka', kc', ia', ic', rfl, _, c0, c1, c2, c3, c4, hr⟩ := (HI.out.later hB).item k hlt
        have HR : Hid (RJ wr B j.items[k] _) := hr
        clear hr
        go_wp2_with fail
        go_quiet (fail)
        go_wp2_with fail
        refine (ih _ _ B _ (HR.out.later (below_drewN (Below.refl _ _) _))).mono ?_
        rintro e w2 ⟨n, rfl, hn0, hn1, hfn, hB3⟩
        have hw2 : Below (w.heap.size + 1) (w.alloc (.cells #[.int .i64 4, .int .i64 0, .string ⟨#[]⟩, .slice ka 0 kc, .slice (some ⟨b, off, none⟩) j.items.length ic] 28)) w2 := (below_drewN hw _).trans (hB3.mono (by have := hw.size; simp at this ⊢; omega))
        have hB4 : Below w.heap.size w w2 := ((Below.refl _ _).alloc (Nat.le_refl _) _).trans (hw2.mono (by omega))
        have HFN : Hid (okD d j.items[k] = true → left 400 (cnt d j.items[k]) = 400 - n) := hfn
        clear hB3 c0 c1 c2 c3 c4 hx4 hx0 hw hB hfn
        cases hok : okD d j.items[k]
        · have HO : Hid (okD (d + 1) j = false) := okD_no HP.out (sofar_bad hlt hok)
          go_wp2_with fail
          go_ret2
          exact ⟨0, ret_ib HO.out.symm, by omega, by omega, (fun h => by rw [HO.out] at h; cases h), hB4⟩
        · have HL := HFN.out hok
          by_cases hle : m + n ≤ 400
          · have HS2 : Hid (SoFar d j.items (k + 1) (m + n)) := sofar_step hlt HS.out hm0 hm1 HL hn0 hn1 hle
            clear HL
            go_wp2_with fail
            go_roundw
            case rel => exact ⟨k + 1, by omega, by go_num, m + n, rfl, by omega, by omega, HS2.out, hw2⟩
            case measure => simp [intOf]; omega
          · have HO : Hid (okD (d + 1) j = false) := okD_no HP.out (sofar_over hlt HS.out hm0 hm1 HL hn0 hn1 hle)
            clear HL
            go_wp2_with fail
            go_ret2
            exact ⟨0, ret_ib HO.out.symm, by omega, by omega, (fun h => by rw [HO.out] at h; cases h), hB4⟩
      · have hk' : k = j.items.length := by omega
        have HE : Hid (okD (d + 1) j = true ∧ left 400 (cnt (d + 1) j) = 400 - m) := sofar_end HP.out (by have h := HS.out; rw [hk'] at h; exact h) hm1
        clear hk'
        go_wp2_with fail
        go_ret2
        exact ⟨m, ret_ib HE.out.1.symm, hm0, hm1, fun _ => HE.out.2, hB⟩
end Go.Proofs.Ytkncpfhblciplaa
