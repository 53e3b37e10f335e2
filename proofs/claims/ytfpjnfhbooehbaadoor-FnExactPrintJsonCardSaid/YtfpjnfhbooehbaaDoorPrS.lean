import Derived.Test.YtfpjnfhbooehbaaDoorPrL
import Derived.Test.YtfpjnfhbooehbaaDoorTo
namespace Go.Proofs.YtfpjnfhbooehbaaDoor
open Go.RowKit
set_option linter.unusedSimpArgs false
theorem heap_new0 (w : World) (o : Obj) : (w.alloc o).heap[w.heap.size]? = some o := by
  show (w.heap.push o)[w.heap.size]? = _
  simp
theorem heap_kept0 {w w' : World} {b : Nat} {o : Obj} (h : w.heap[b]? = some o) (hB : Below w.heap.size w w') : w'.heap[b]? = some o := by
  rw [hB.block b (Array.getElem?_eq_some_iff.1 h).1]; exact h
def PrSaid (j : J) : Prop := ∀ (cs : List Value) (B : Nat → Prop) (w : World), Good j → j.sz ≤ 1048576 → RJ w B j cs →
    Calls Tryd.prog 12 #[.agg cs.toArray] w fun e w' => e = .returned (.string ⟨(pr j).toArray⟩) ∧ Below w.heap.size w w'
set_option maxRecDepth 100000 in
set_option maxHeartbeats 6400000 in
theorem printS (j : J) : PrSaid j := by
  induction j using J.induct with
  | h j ih =>
    intro cs B w hg hz hr
    have hk := hg.kind
    have hp := hg.part
    rw [RJ_eq] at hr
    obtain ⟨ka, kc, ia, ic, rfl, ht, hkl, hil, hkx, hks, hjs⟩ := hr
    have HI : Hid (Jsons w B ia j.items) := hjs
    have HK : Hid (Strs w B ka j.keys) := hks
    have hsz := J.sz_eq j
    have ht20 : j.t.length ≤ 1048576 := by omega
    have hB0 : Below w.heap.size w (w.alloc (.cells #[.int .i64 j.k, .int .i64 j.n, .string ⟨j.t.toArray⟩, .slice ka j.keys.length kc, .slice ia j.items.length ic] 31)) := (Below.refl _ _).alloc (Nat.le_refl _) _
    have HB0 : Hid (Below w.heap.size w (w.alloc (.cells #[.int .i64 j.k, .int .i64 j.n, .string ⟨j.t.toArray⟩, .slice ka j.keys.length kc, .slice ia j.items.length ic] 31))) := hB0
    clear hB0 hkl hil hjs hks
    rcases (by omega : j.k = 0 ∨ j.k = 1 ∨ j.k = 2 ∨ j.k = 3 ∨ 4 ≤ j.k) with k | k | k | k | k
    · have HP : Hid (pr j = [110, 117, 108, 108]) := by show pr j = _; rw [pr_eq, if_pos k]
      clear hp hsz hz hkx ht ih
      rw [k]
      go_enter Tryd.func12, Tryd.ntmps12
      go_wp2_with fail
      go_ret
      exact ⟨by first | (rw [HP.out]; done) | (rw [HP.out]; rfl), (Below.refl _ _).alloc (Nat.le_refl _) _⟩
    · rw [part1 k] at hp
      simp only [inB, Bool.and_eq_true, decide_eq_true_eq] at hp
      have h01 := hp.1
      clear hp hsz hz hkx ht ih
      rcases (by omega : j.n = 0 ∨ j.n = 1) with n | n
      · have HP : Hid (pr j = [102, 97, 108, 115, 101]) := by show pr j = _; rw [pr_eq, if_neg (by omega), if_pos k, if_pos n]
        rw [k, n]
        go_enter Tryd.func12, Tryd.ntmps12
        go_wp2_with fail
        go_ret
        exact ⟨by first | (rw [HP.out]; done) | (rw [HP.out]; rfl), ((Below.refl _ _).alloc (Nat.le_refl _) _).alloc (by simp) _⟩
      · have HP : Hid (pr j = [116, 114, 117, 101]) := by show pr j = _; rw [pr_eq, if_neg (by omega), if_pos k, if_neg (by omega)]
        rw [k, n]
        go_enter Tryd.func12, Tryd.ntmps12
        go_wp2_with fail
        go_ret
        exact ⟨by first | (rw [HP.out]; done) | (rw [HP.out]; rfl), ((Below.refl _ _).alloc (Nat.le_refl _) _).alloc (by simp) _⟩
    · rw [part2 k] at hp
      simp only [inB, Bool.and_eq_true, decide_eq_true_eq] at hp
      obtain ⟨h1, h2⟩ := hp.1
      have HP : Hid (pr j = num j.n) := by show pr j = _; rw [pr_eq, if_neg (by omega), if_neg (by omega), if_pos k]
      clear hp hsz hz hkx ht ih
      rw [k]
      go_enter Tryd.func12, Tryd.ntmps12
      go_wp2_with (go_at_call 20; refine (digitsI j.n _ h1 h2).mono ?_; rintro e w1 ⟨rfl, hB1⟩)
      go_ret
      exact ⟨by first | (rw [HP.out]; done) | (rw [HP.out]; rfl), ((Below.refl _ _).alloc (Nat.le_refl _) _).trans (hB1.mono (by simp))⟩
    · have HP : Hid (pr j = quo j.t) := by show pr j = _; rw [pr_eq, if_neg (by omega), if_neg (by omega), if_neg (by omega), if_pos k]
      have HQ : Hid (∀ w, Calls Tryd.prog 21 #[.string ⟨j.t.toArray⟩] w fun e w' => e = .returned (.string ⟨(quo j.t).toArray⟩) ∧ Below w.heap.size w w') := fun w => by
        have := quoteS ⟨j.t.toArray⟩ w (by show j.t.toArray.size ≤ _; simpa using ht20)
        simpa using this
      clear hp hsz hz hkx ht ih
      rw [k]
      go_enter Tryd.func12, Tryd.ntmps12
      go_wp2_with (go_at_call 21; refine (HQ.out _).mono ?_; rintro e w1 ⟨rfl, hB1⟩)
      go_ret
      exact ⟨by first | (rw [HP.out]; done) | (rw [HP.out]; rfl), ((Below.refl _ _).alloc (Nat.le_refl _) _).trans (hB1.mono (by simp))⟩
    · have HLEN' : j.k = 5 → j.keys.length = j.items.length := fun k5 => by
        rw [part5 k5] at hp
        simp at hp
        omega
      have hl := HLEN'
      have IH : Hid (∀ x ∈ j.items, PrSaid x) := ih
      have HGI : Hid (∀ x ∈ j.items, Good x ∧ x.sz ≤ 1048576) := fun x hx => ⟨hg.item x hx, Nat.le_trans (J.sz_item j x hx) hz⟩
      have HOL : Hid (∀ m, (outM j m).length ≤ 16 + 20 * 1048576) := fun m => by have := outM_len hg k m; omega
      have HKY : Hid (∀ m, m < j.keys.length → (j.keys.getD m []).length ≤ 1048576) := fun m hm => by
        have h1 := mem_le_sum List.length j.keys (j.keys.getD m []) (by rw [List.getD_eq_getElem?_getD, List.getElem?_eq_getElem hm]; exact List.getElem_mem hm)
        unfold szK at hsz; omega
      have hcell : ∃ b off, (0 < j.keys.length → ka = some ⟨b, off, none⟩) ∧ ∀ i, i < j.keys.length → w.cell? ⟨b, off + i, none⟩ = some (.string ⟨(j.keys.getD i []).toArray⟩) := by
        rcases HK.out with h | ⟨b, off, ha, _, hc⟩
        · exact ⟨0, 0, fun h' => absurd h (by omega), fun i hi => absurd h (by omega)⟩
        · exact ⟨b, off, fun _ => ha, fun i hi => by rw [List.getD_eq_getElem?_getD, List.getElem?_eq_getElem hi]; exact hc i hi⟩
      obtain ⟨bk, ok, ha, hc⟩ := hcell
      have HA : Hid (0 < j.keys.length → ka = some ⟨bk, ok, none⟩) := ha
      have HC : Hid (∀ i, i < j.keys.length → w.cell? ⟨bk, ok + i, none⟩ = some (.string ⟨(j.keys.getD i []).toArray⟩)) := hc
      have hi20 : j.items.length ≤ 1048576 := by omega
      have hk20 : j.keys.length ≤ 1048576 := by unfold szK at hsz; omega
      clear ha hc hp hsz hz hkx ht ih HLEN' HB0
      by_cases k5 : j.k = 5
      · have HLEN : Hid (j.keys.length = j.items.length) := hl k5
        have HS : Hid (∀ m (h : m < j.items.length), outM j (m + 1) = outM j m ++ ((if m = 0 then [] else [44]) ++ (quo (j.keys.getD m []) ++ [58] ++ pr j.items[m]))) := fun m h => by
          have := outM_succ hl m h
          rw [if_pos k5] at this
          exact this
        have HE : Hid (outM j j.items.length ++ [125] = pr j) := by
          have := outM_end k
          rw [if_pos k5] at this
          exact this
        have HZ0 : Hid (outM j 0 = [123]) := by
          show outM j 0 = _
          rw [outM_zero, if_pos k5]
        have hkK : j.k = 5 := by omega
        rw [hkK]
        clear hkK k5 hl k
        go_enter Tryd.func12, Tryd.ntmps12
        go_wp2_with fail
        go_loopw [4, 5] (fun o i wr => ∃ m : Nat, m ≤ j.items.length ∧ i = .int .i64 m ∧ o = .string ⟨(outM j m).toArray⟩ ∧ Hid (Below w.heap.size w wr ∧ wr.heap[w.heap.size]? = some (.cells #[.int .i64 5, .int .i64 j.n, .string ⟨j.t.toArray⟩, .slice ka j.keys.length kc, .slice ia j.items.length ic] 31))) (fun _ i _ => j.items.length - (intOf i).toNat)
        case atStart => exact ⟨0, Nat.zero_le _, rfl, by rw [HZ0.out]; rfl, (Below.refl _ _).alloc (Nat.le_refl _) _, heap_new0 _ _⟩
        case round =>
          obtain ⟨m, hm, rfl, rfl, HW⟩ := hrel
          have x0 := cell_at (o := 0) HW.out.2 rfl
          have x3 := cell_at (o := 3) HW.out.2 rfl
          have x4 := cell_at (o := 4) HW.out.2 rfl
          have hol := HOL.out m
          by_cases hlt : m < j.items.length
          · obtain ⟨b, off, kx, kcx, ix, icx, rfl, _, c0, c1, c2, c3, c4, hr⟩ := (HI.out.later HW.out.1).item m hlt
            have HR : Hid (RJ wr B j.items[m] _) := hr
            have HX : Hid (PrSaid j.items[m]) := IH.out _ (List.getElem_mem hlt)
            have HXG : Hid (Good j.items[m] ∧ j.items[m].sz ≤ 1048576) := HGI.out _ (List.getElem_mem hlt)
            have hpl : (pr j.items[m]).length ≤ 16 + 20 * 1048576 := by have := pr_len _ HXG.out.1; have := HXG.out.2; omega
            have HSM := HS.out m hlt
            have HSm : Hid (outM j (m + 1) = _) := HSM
            clear hr HSM
            have hkm : m < j.keys.length := by have := HLEN.out; omega
            obtain rfl := HA.out (by omega)
            have hkc : wr.cell? ⟨bk, ok + m, none⟩ = some (.string ⟨(j.keys.getD m []).toArray⟩) := by
              rw [HW.out.1.cell (World.block_lt_of_cell? _ _ (HC.out m hkm))]; exact HC.out m hkm
            have hkm' : (m : Int) < (j.keys.length : Int) := by omega
            have hky : (j.keys.getD m []).length ≤ 1048576 := HKY.out m hkm
            have hql := quo_len (j.keys.getD m [])
            have HQ : Hid (∀ w, Calls Tryd.prog 21 #[.string ⟨(j.keys.getD m []).toArray⟩] w fun e w' => e = .returned (.string ⟨(quo (j.keys.getD m [])).toArray⟩) ∧ Below w.heap.size w w') := fun w => by
              have := quoteS ⟨(j.keys.getD m []).toArray⟩ w (by show (j.keys.getD m []).toArray.size ≤ _; simpa using hky)
              simpa using this
            have hql2 : (quo (j.keys.getD m [])).length ≤ 3000000 := by omega
            clear hql hky hkm
            generalize j.keys.getD m [] = key at *
            generalize quo key = qk at *
            have hmi : (m : Int) < (j.items.length : Int) := by omega
            generalize j.items[m] = x at *
            obtain ⟨o', ho'⟩ : ∃ o', o' = outM j (m + 1) := ⟨_, rfl⟩
            rw [← ho'] at HSm
            have HO : Hid (o' = outM j (m + 1)) := ho'
            clear ho'
            generalize outM j m = o at *
            obtain ⟨px, hpx⟩ : ∃ px, px = pr x := ⟨_, rfl⟩
            have HPX : Hid (px = pr x) := hpx
            rw [← hpx] at hpl HSm
            clear hpx
            by_cases h0 : m = 0
            · have hd : decide (0 < m) = false := by simp; omega
              have HF : Hid (o' = o ++ ([] ++ (qk ++ [58] ++ px))) := by
                have := HSm.out
                rw [if_pos h0] at this
                exact this
              clear HSm
              clear h0
              go_wp2_with (first | (go_at_call 21; refine (HQ.out _).mono ?_; rintro e w1 ⟨rfl, hB1⟩; have g1 := heap_kept0 HW.out.2 hB1; have x0' := cell_at (o := 0) g1 rfl; have x4' := cell_at (o := 4) g1 rfl; have c0' := keep_cell hB1 c0; have c1' := keep_cell hB1 c1; have c2' := keep_cell hB1 c2; have c3' := keep_cell hB1 c3; have c4' := keep_cell hB1 c4; have HR1 : Hid (RJ w1 B x _) := HR.out.later hB1; have HB1 : Hid (Below wr.heap.size wr w1) := hB1; clear hB1 g1) | (go_at_call 12; refine (HX.out _ B _ HXG.out.1 HXG.out.2 HR1.out).mono ?_; rintro e w2 ⟨rfl, hB2⟩; have HW2 : Hid (Below w.heap.size w w2 ∧ w2.heap[w.heap.size]? = _) := ⟨(HW.out.1.trans (HB1.out.mono HW.out.1.size)).trans (hB2.mono (Nat.le_trans HW.out.1.size HB1.out.size)), heap_kept0 (heap_kept0 HW.out.2 HB1.out) hB2⟩; rw [← HPX.out]; clear hB2))
              go_roundw
              case rel => exact ⟨m + 1, by omega, by go_num, by rw [← HO.out, HF.out]; exact congrArg Value.string (by apply ByteArray.ext; simp), HW2.out⟩
              case measure => simp [intOf]; omega
            · have hd : decide (0 < m) = true := by simp; omega
              have HF : Hid (o' = o ++ ([44] ++ (qk ++ [58] ++ px))) := by
                have := HSm.out
                rw [if_neg h0] at this
                exact this
              clear HSm
              clear h0
              go_wp2_with (first | (go_at_call 21; refine (HQ.out _).mono ?_; rintro e w1 ⟨rfl, hB1⟩; have g1 := heap_kept0 HW.out.2 hB1; have x0' := cell_at (o := 0) g1 rfl; have x4' := cell_at (o := 4) g1 rfl; have c0' := keep_cell hB1 c0; have c1' := keep_cell hB1 c1; have c2' := keep_cell hB1 c2; have c3' := keep_cell hB1 c3; have c4' := keep_cell hB1 c4; have HR1 : Hid (RJ w1 B x _) := HR.out.later hB1; have HB1 : Hid (Below wr.heap.size wr w1) := hB1; clear hB1 g1) | (go_at_call 12; refine (HX.out _ B _ HXG.out.1 HXG.out.2 HR1.out).mono ?_; rintro e w2 ⟨rfl, hB2⟩; have HW2 : Hid (Below w.heap.size w w2 ∧ w2.heap[w.heap.size]? = _) := ⟨(HW.out.1.trans (HB1.out.mono HW.out.1.size)).trans (hB2.mono (Nat.le_trans HW.out.1.size HB1.out.size)), heap_kept0 (heap_kept0 HW.out.2 HB1.out) hB2⟩; rw [← HPX.out]; clear hB2))
              go_roundw
              case rel => exact ⟨m + 1, by omega, by go_num, by rw [← HO.out, HF.out]; exact congrArg Value.string (by apply ByteArray.ext; simp), HW2.out⟩
              case measure => simp [intOf]; omega
          · have hmn : m = j.items.length := by omega
            have HF : Hid (outM j m ++ [125] = pr j) := by show outM j m ++ [125] = _; rw [hmn]; exact HE.out
            have hki : decide ((m : Int) < (j.items.length : Int)) = false := by simp; omega
            clear hmn
            generalize outM j m = o at *
            go_wp2_with fail
            go_ret
            refine ⟨?_, HW.out.1⟩
            rw [← HF.out]
            exact ret_s (by apply ByteArray.ext; simp)
      · have HS : Hid (∀ m (h : m < j.items.length), outM j (m + 1) = outM j m ++ ((if m = 0 then [] else [44]) ++ ([] ++ pr j.items[m]))) := fun m h => by
          have := outM_succ hl m h
          rw [if_neg k5] at this
          exact this
        have HE : Hid (outM j j.items.length ++ [93] = pr j) := by
          have := outM_end k
          rw [if_neg k5] at this
          exact this
        have HZ0 : Hid (outM j 0 = [91]) := by
          show outM j 0 = _
          rw [outM_zero, if_neg k5]
        have hkK : j.k = 4 := by omega
        rw [hkK]
        clear hkK k5 hl k
        go_enter Tryd.func12, Tryd.ntmps12
        go_wp2_with fail
        go_loopw [4, 5] (fun o i wr => ∃ m : Nat, m ≤ j.items.length ∧ i = .int .i64 m ∧ o = .string ⟨(outM j m).toArray⟩ ∧ Hid (Below w.heap.size w wr ∧ wr.heap[w.heap.size]? = some (.cells #[.int .i64 4, .int .i64 j.n, .string ⟨j.t.toArray⟩, .slice ka j.keys.length kc, .slice ia j.items.length ic] 31))) (fun _ i _ => j.items.length - (intOf i).toNat)
        case atStart => exact ⟨0, Nat.zero_le _, rfl, by rw [HZ0.out]; rfl, (Below.refl _ _).alloc (Nat.le_refl _) _, heap_new0 _ _⟩
        case round =>
          obtain ⟨m, hm, rfl, rfl, HW⟩ := hrel
          have x0 := cell_at (o := 0) HW.out.2 rfl
          have x3 := cell_at (o := 3) HW.out.2 rfl
          have x4 := cell_at (o := 4) HW.out.2 rfl
          have hol := HOL.out m
          by_cases hlt : m < j.items.length
          · obtain ⟨b, off, kx, kcx, ix, icx, rfl, _, c0, c1, c2, c3, c4, hr⟩ := (HI.out.later HW.out.1).item m hlt
            have HR : Hid (RJ wr B j.items[m] _) := hr
            have HX : Hid (PrSaid j.items[m]) := IH.out _ (List.getElem_mem hlt)
            have HXG : Hid (Good j.items[m] ∧ j.items[m].sz ≤ 1048576) := HGI.out _ (List.getElem_mem hlt)
            have hpl : (pr j.items[m]).length ≤ 16 + 20 * 1048576 := by have := pr_len _ HXG.out.1; have := HXG.out.2; omega
            have HSM := HS.out m hlt
            have HSm : Hid (outM j (m + 1) = _) := HSM
            clear hr HSM
            have hmi : (m : Int) < (j.items.length : Int) := by omega
            generalize j.items[m] = x at *
            obtain ⟨o', ho'⟩ : ∃ o', o' = outM j (m + 1) := ⟨_, rfl⟩
            rw [← ho'] at HSm
            have HO : Hid (o' = outM j (m + 1)) := ho'
            clear ho'
            generalize outM j m = o at *
            obtain ⟨px, hpx⟩ : ∃ px, px = pr x := ⟨_, rfl⟩
            have HPX : Hid (px = pr x) := hpx
            rw [← hpx] at hpl HSm
            clear hpx
            by_cases h0 : m = 0
            · have hd : decide (0 < m) = false := by simp; omega
              have HF : Hid (o' = o ++ ([] ++ ([] ++ px))) := by
                have := HSm.out
                rw [if_pos h0] at this
                exact this
              clear HSm
              clear h0
              go_wp2_with (first | (go_at_call 12; refine (HX.out _ B _ HXG.out.1 HXG.out.2 HR.out).mono ?_; rintro e w2 ⟨rfl, hB2⟩; have HW2 : Hid (Below w.heap.size w w2 ∧ w2.heap[w.heap.size]? = _) := ⟨HW.out.1.trans (hB2.mono HW.out.1.size), heap_kept0 HW.out.2 hB2⟩; rw [← HPX.out]; clear hB2))
              go_roundw
              case rel => exact ⟨m + 1, by omega, by go_num, by rw [← HO.out, HF.out]; exact congrArg Value.string (by apply ByteArray.ext; simp), HW2.out⟩
              case measure => simp [intOf]; omega
            · have hd : decide (0 < m) = true := by simp; omega
              have HF : Hid (o' = o ++ ([44] ++ ([] ++ px))) := by
                have := HSm.out
                rw [if_neg h0] at this
                exact this
              clear HSm
              clear h0
              go_wp2_with (first | (go_at_call 12; refine (HX.out _ B _ HXG.out.1 HXG.out.2 HR.out).mono ?_; rintro e w2 ⟨rfl, hB2⟩; have HW2 : Hid (Below w.heap.size w w2 ∧ w2.heap[w.heap.size]? = _) := ⟨HW.out.1.trans (hB2.mono HW.out.1.size), heap_kept0 HW.out.2 hB2⟩; rw [← HPX.out]; clear hB2))
              go_roundw
              case rel => exact ⟨m + 1, by omega, by go_num, by rw [← HO.out, HF.out]; exact congrArg Value.string (by apply ByteArray.ext; simp), HW2.out⟩
              case measure => simp [intOf]; omega
          · have hmn : m = j.items.length := by omega
            have HF : Hid (outM j m ++ [93] = pr j) := by show outM j m ++ [93] = _; rw [hmn]; exact HE.out
            have hki : decide ((m : Int) < (j.items.length : Int)) = false := by simp; omega
            clear hmn
            generalize outM j m = o at *
            go_wp2_with fail
            go_ret
            refine ⟨?_, HW.out.1⟩
            rw [← HF.out]
            exact ret_s (by apply ByteArray.ext; simp)
end Go.Proofs.YtfpjnfhbooehbaaDoor
