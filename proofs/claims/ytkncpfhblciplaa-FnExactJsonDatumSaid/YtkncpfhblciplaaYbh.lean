import Derived.Test.YtkncpfhblciplaaYbg
namespace Go.Proofs.Ytkncpfhblciplaa
open Go.RowKit
set_option linter.unusedSimpArgs false
theorem okD_no' {d : Nat} {j : J} (h : left 400 (cntTo d j.items j.items.length) = -1) : okD (d + 1) j = false := by
  cases hp : partB j
  · exact ok_nopart hp
  · exact okD_no hp h
theorem okD_keys {d : Nat} {j : J} (h0 : j.k = 5) (h : keysB j.keys = false) : okD (d + 1) j = false := by
  refine ok_nopart ?_
  rw [part5 h0, h]; simp
set_option maxRecDepth 100000 in
set_option maxHeartbeats 32000000 in
theorem okObj (d : Nat) (hd : d ≤ 12) (ih : OkSaid d) (j : J) (h0 : j.k = 5) (hn : j.n = 0) (ht : j.t = []) (hkl : j.keys.length = j.items.length) (ka ia : Option Addr) (kc ic : Nat) (B : Nat → Prop) (w : World) (hil : j.items.length ≤ maxLen) (hkx : ∀ x ∈ j.keys, x.length ≤ maxLen) (hk : Strs w B ka j.keys) (hi : Jsons w B ia j.items) :
    Calls Try.prog 83 #[.agg #[.int .i64 5, .int .i64 0, .string ⟨#[]⟩, .slice ka j.items.length kc, .slice ia j.items.length ic], .int .i64 ((d : Int) + 1)] w (OkAns (d + 1) j w) := by
  have HP : Hid (keysB j.keys = true → partB j = true) := by
    show keysB j.keys = true → partB j = true
    intro h; rw [part5 h0, hn, ht, hkl, h]; simp
  have HK5 : Hid (j.k = 5) := h0
  have HKL : Hid (j.keys.length = j.items.length) := hkl
  have HI : Hid (Jsons w B ia j.items) := hi
  have HK : Hid (Strs w B ka j.keys) := hk
  have HX : Hid (∀ x ∈ j.keys, x.length ≤ maxLen) := hkx
  unfold maxLen at hil
  have hdz : ((d : Int) + 1 == 0) = false := by simp; omega
  have hne : ((j.items.length : Int) != (j.items.length : Int)) = false := by simp
  clear hi h0 hn ht hk hkl hkx
  cases ei : ((j.items.length : Int) == 0)
  all_goals
    have HEI : Hid (((j.items.length : Int) == 0) = _) := ei
    go_enter Try.func83, Try.ntmps83
    go_wp2_with fail
    clear ei
    go_loopw [7, 8] (fun q i wr => ∃ k : Nat, k ≤ j.items.length ∧ i = .int .i64 k ∧ ∃ m : Int, q = .int .i64 m ∧ 0 ≤ m ∧ m ≤ 400 ∧ Hid (SoFar d j.items k m) ∧ Hid (keysTo j.keys k = true) ∧ Below (w.heap.size + 1) (w.alloc (.cells #[.int .i64 5, .int .i64 0, .string ⟨#[]⟩, .slice ka j.items.length kc, .slice ia j.items.length ic] 28)) wr) (fun _ i _ => j.items.length - (intOf i).toNat)
    case atStart => exact ⟨0, Nat.zero_le _, rfl, 1, rfl, by omega, by omega, sofar_zero _ _, rfl, Below.refl _ _⟩
    case round =>
      obtain ⟨k, hk, rfl, m, rfl, hm0, hm1, HS, HT, hw⟩ := hrel
      have hB : Below w.heap.size w wr := ((Below.refl _ _).alloc (Nat.le_refl _) _).trans (hw.mono (by omega))
      have hx0 : wr.cell? ⟨w.heap.size, 0, none⟩ = some (.int .i64 5) := by rw [hw.cell (p := ⟨w.heap.size, 0, none⟩) (by simp)]; simp [go_sem]
      have hx3 : wr.cell? ⟨w.heap.size, 3, none⟩ = some (.slice ka j.items.length kc) := by rw [hw.cell (p := ⟨w.heap.size, 3, none⟩) (by simp)]; simp [go_sem]
      have hx4 : wr.cell? ⟨w.heap.size, 4, none⟩ = some (.slice ia j.items.length ic) := by rw [hw.cell (p := ⟨w.heap.size, 4, none⟩) (by simp)]; simp [go_sem]
      by_cases hlt : k < j.items.length
      · obtain ⟨b', off', rfl, hcs⟩ : ∃ b off, ka = some ⟨b, off, none⟩ ∧ ∀ i (h : i < j.keys.length), wr.cell? ⟨b, off + i, none⟩ = some (.string ⟨j.keys[i].toArray⟩) := by
          rcases HK.out.later hB with h | ⟨b, off, ha, _, hc⟩
          · have := HKL.out; omega
          · exact ⟨b, off, ha, hc⟩
        have hltk : k < j.keys.length := by have := HKL.out; omega
        have HL : Hid ((j.keys.getD k []).length ≤ maxLen) := by
          show (j.keys.getD k []).length ≤ maxLen
          rw [List.getD_eq_getElem?_getD, List.getElem?_eq_getElem hltk]; exact HX.out _ (List.getElem_mem hltk)
        have hck : wr.cell? ⟨b', off' + k, none⟩ = some (.string ⟨(j.keys.getD k []).toArray⟩) := by
          rw [hcs k hltk, List.getD_eq_getElem?_getD, List.getElem?_eq_getElem hltk]; rfl
        have hki : (k : Int) < (j.items.length : Int) := by omega
        obtain ⟨b, off, ka', kc', ia', ic', rfl, _, c0, c1, c2, c3, c4, hr⟩ := (HI.out.later hB).item k hlt
        have HR : Hid (RJ wr B j.items[k] _) := hr
        clear hr
        cases hte : textB (j.keys.getD k [])
        · have HO : Hid (okD (d + 1) j = false) := okD_keys HK5.out (keysTo_false hltk (by unfold keyB; rw [hte]; rfl))
          clear hcs
          generalize j.keys.getD k [] = x at *
          go_wp2_with fail
          go_quiet ((go_at_call 72; exact Calls.quiet_of_same ((textS _ _ HL.out).mono fun e w' h => h)))
          go_wp2_with fail
          go_ret2
          exact ⟨0, ret_ib HO.out.symm, by omega, by omega, (fun h => by rw [HO.out] at h; cases h), below_drewN hB _⟩
        · by_cases h0 : k = 0
          · have HKN : Hid (keysTo j.keys (k + 1) = true) := by
              show keysTo j.keys (k + 1) = true
              rw [keysTo_succ, HT.out]; unfold keyB; rw [hte, decide_eq_true h0]; rfl
            have hg : decide (0 < k) = false := by simp; omega
            clear hcs h0
            generalize j.keys.getD k [] = x at *
            go_wp2_with fail
            go_quiet ((go_at_call 72; exact Calls.quiet_of_same ((textS _ _ HL.out).mono fun e w' h => h)))
            go_wp2_with fail
            refine (ih _ _ B _ (HR.out.later (below_drewN (Below.refl _ _) _))).mono ?_
            rintro e w2 ⟨n, rfl, hn0, hn1, hfn, hB3⟩
            have hw2 : Below (w.heap.size + 1) (w.alloc (.cells #[.int .i64 5, .int .i64 0, .string ⟨#[]⟩, .slice (some ⟨b', off', none⟩) j.items.length kc, .slice (some ⟨b, off, none⟩) j.items.length ic] 28)) w2 := (below_drewN hw _).trans (hB3.mono (by have := hw.size; simp at this ⊢; omega))
            have hB4 : Below w.heap.size w w2 := ((Below.refl _ _).alloc (Nat.le_refl _) _).trans (hw2.mono (by omega))
            have HFN : Hid (okD d j.items[k] = true → left 400 (cnt d j.items[k]) = 400 - n) := hfn
            clear hB3 c0 c1 c2 c3 c4 hx4 hx0 hw hB hfn
            cases hok : okD d j.items[k]
            · have HO : Hid (okD (d + 1) j = false) := okD_no' (sofar_bad hlt hok)
              go_wp2_with fail
              go_ret2
              exact ⟨0, ret_ib HO.out.symm, by omega, by omega, (fun h => by rw [HO.out] at h; cases h), hB4⟩
            · have HL := HFN.out hok
              by_cases hle : m + n ≤ 400
              · have HS2 : Hid (SoFar d j.items (k + 1) (m + n)) := sofar_step hlt HS.out hm0 hm1 HL hn0 hn1 hle
                clear HL
                go_wp2_with fail
                go_roundw
                case rel => exact ⟨k + 1, by omega, by go_num, m + n, rfl, by omega, by omega, HS2.out, HKN.out, hw2⟩
                case measure => simp [intOf]; omega
              · have HO : Hid (okD (d + 1) j = false) := okD_no' (sofar_over hlt HS.out hm0 hm1 HL hn0 hn1 hle)
                clear HL
                go_wp2_with fail
                go_ret2
                exact ⟨0, ret_ib HO.out.symm, by omega, by omega, (fun h => by rw [HO.out] at h; cases h), hB4⟩
          · obtain ⟨p, hp⟩ : ∃ p, k = p + 1 := ⟨k - 1, by omega⟩
            have HM : Hid (k = p + 1) := hp
            have hltp : p < j.keys.length := by omega
            have hc' : wr.cell? ⟨b', off' + p, none⟩ = some (.string ⟨(j.keys.getD p []).toArray⟩) := by
              rw [hcs p hltp, List.getD_eq_getElem?_getD, List.getElem?_eq_getElem hltp]; rfl
            have hwr : IntKind.i64.wrap ((k : Int) - 1) = (p : Int) := by rw [IntKind.wrap_i64]; omega
            have hp' : (p : Int) < (j.items.length : Int) := by omega
            have hg : decide (0 < k) = true := by simp; omega
            have HK1 : Hid (keyB j.keys k = (textB (j.keys.getD k []) && Op.bytesLess (j.keys.getD p []) (j.keys.getD k []))) := by
              show keyB j.keys k = _
              unfold keyB; rw [decide_eq_false h0, hp, Nat.add_sub_cancel]; rfl
            clear hp hltp hcs h0
            cases hb : Op.bytesLess (j.keys.getD p []) (j.keys.getD k [])
            · have HO : Hid (okD (d + 1) j = false) := okD_keys HK5.out (keysTo_false hltk (by rw [HK1.out, hb]; simp))
              generalize j.keys.getD p [] = y at *
              generalize j.keys.getD k [] = x at *
              go_wp2_with fail
              go_quiet ((go_at_call 72; exact Calls.quiet_of_same ((textS _ _ HL.out).mono fun e w' h => h)))
              go_wp2_with fail
              go_ret2
              exact ⟨0, ret_ib HO.out.symm, by omega, by omega, (fun h => by rw [HO.out] at h; cases h), below_drewN hB _⟩
            · have HKN : Hid (keysTo j.keys (k + 1) = true) := by
                show keysTo j.keys (k + 1) = true
                rw [keysTo_succ, HT.out, HK1.out, hte, hb]; rfl
              clear HK1
              generalize j.keys.getD p [] = y at *
              generalize j.keys.getD k [] = x at *
              go_wp2_with fail
              go_quiet ((go_at_call 72; exact Calls.quiet_of_same ((textS _ _ HL.out).mono fun e w' h => h)))
              go_wp2_with fail
              refine (ih _ _ B _ (HR.out.later (below_drewN (Below.refl _ _) _))).mono ?_
              rintro e w2 ⟨n, rfl, hn0, hn1, hfn, hB3⟩
              have hw2 : Below (w.heap.size + 1) (w.alloc (.cells #[.int .i64 5, .int .i64 0, .string ⟨#[]⟩, .slice (some ⟨b', off', none⟩) j.items.length kc, .slice (some ⟨b, off, none⟩) j.items.length ic] 28)) w2 := (below_drewN hw _).trans (hB3.mono (by have := hw.size; simp at this ⊢; omega))
              have hB4 : Below w.heap.size w w2 := ((Below.refl _ _).alloc (Nat.le_refl _) _).trans (hw2.mono (by omega))
              have HFN : Hid (okD d j.items[k] = true → left 400 (cnt d j.items[k]) = 400 - n) := hfn
              clear hB3 c0 c1 c2 c3 c4 hx4 hx0 hw hB hfn
              cases hok : okD d j.items[k]
              · have HO : Hid (okD (d + 1) j = false) := okD_no' (sofar_bad hlt hok)
                go_wp2_with fail
                go_ret2
                exact ⟨0, ret_ib HO.out.symm, by omega, by omega, (fun h => by rw [HO.out] at h; cases h), hB4⟩
              · have HL := HFN.out hok
                by_cases hle : m + n ≤ 400
                · have HS2 : Hid (SoFar d j.items (k + 1) (m + n)) := sofar_step hlt HS.out hm0 hm1 HL hn0 hn1 hle
                  clear HL
                  go_wp2_with fail
                  go_roundw
                  case rel => exact ⟨k + 1, by omega, by go_num, m + n, rfl, by omega, by omega, HS2.out, HKN.out, hw2⟩
                  case measure => simp [intOf]; omega
                · have HO : Hid (okD (d + 1) j = false) := okD_no' (sofar_over hlt HS.out hm0 hm1 HL hn0 hn1 hle)
                  clear HL
                  go_wp2_with fail
                  go_ret2
                  exact ⟨0, ret_ib HO.out.symm, by omega, by omega, (fun h => by rw [HO.out] at h; cases h), hB4⟩
      · have hk' : k = j.items.length := by omega
        have HE : Hid (okD (d + 1) j = true ∧ left 400 (cnt (d + 1) j) = 400 - m) := sofar_end (HP.out (by have h := HT.out; rw [hk', ← HKL.out] at h; exact h)) (by have h := HS.out; rw [hk'] at h; exact h) hm1
        clear hk'
        go_wp2_with fail
        go_ret2
        exact ⟨m, ret_ib HE.out.1.symm, hm0, hm1, fun _ => HE.out.2, hB⟩
end Go.Proofs.Ytkncpfhblciplaa
