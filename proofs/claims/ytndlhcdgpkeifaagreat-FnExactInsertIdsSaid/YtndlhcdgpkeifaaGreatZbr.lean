import Derived.Test.YtndlhcdgpkeifaaGreatZbq
namespace Go.Proofs.YtndlhcdgpkeifaaGreat
open Go.RowKit
set_option linter.unusedSimpArgs false
set_option maxRecDepth 100000 in
set_option maxHeartbeats 6400000 in
theorem iiS (ops : List OpV) (a : Option Addr) (c : Nat) (B : Nat → Prop) (n : Int) (w : World) (ho : (dOpS ops).le maxLen) (hL : Rd w B (dOpS ops) (.slice a ops.length c)) :
    Calls Tryz.prog 5 #[.slice a ops.length c, .int .i64 n] w fun e w' => ∃ ra rc, e = .returned (.tuple #[.slice ra (iiR ops n).length rc, .int .i64 (iiC ops n)]) ∧ Rd w' (fun c => w.heap.size ≤ c ∧ c < w'.heap.size) (dIntS (iiR ops n)) (.slice ra (iiR ops n).length rc) ∧ Below w.heap.size w w' := by
  have OC : Hid (Calls Tryz.prog 14 #[.slice a ops.length c] w fun e w' => e = .returned (.int .i64 (opsC ops)) ∧ Below w.heap.size w w') := opsS ops a c B w ho hL
  have ID : Hid (∀ W, Calls Tryz.prog 15 #[.int .i64 n, .int .i64 1, .int .i64 1000000] W fun e w' => e = .returned (.bool (inB 1 n 1000000)) ∧ w' = W) := fun W => inS n 1 1000000 W
  have IS : Hid (ops.length ≤ 4096 → (1 ≤ n ∧ n ≤ 1000000) → ∀ W, Below w.heap.size w W → Calls Tryz.prog 16 #[.slice a ops.length c, .int .i64 n] W (IntAns W (idsL ops n))) := fun h4 hn W h => idsS ops a c B W ho (hL.later h) n h4 hn
  have hll : ops.length ≤ maxLen := (Ls_le.1 ho).2.1
  unfold maxLen at hll
  clear ho hL
  by_cases h4 : 4096 < ops.length
  case pos =>
    have HP := Lib.hid (ii_no (ii_long (n := n) h4) (by omega))
    have hd : decide (4096 < (ops.length : Int)) = true := decide_eq_true (by omega)
    clear h4
    go_enter Tryz.func5, Tryz.ntmps5
    go_wp2_with fail
    go_ret2
    exact ⟨_, _, by rw [HP.out.1, HP.out.2]; rfl, by rw [HP.out.1]; exact Rd.lsNil _ _, (Below.refl w.heap.size w).alloc (Below.refl w.heap.size w).size _⟩
  have hd : decide (4096 < (ops.length : Int)) = false := decide_eq_false (by omega)
  have H4 := Lib.hid h4
  clear h4
  by_cases ho : opsC ops = 0
  case neg =>
    have HP := Lib.hid (ii_no (ii_ops (n := n) H4.out ho) ho)
    have hne : (opsC ops != 0) = true := by simpa using ho
    clear ho
    generalize opsC ops = oc at *
    go_enter Tryz.func5, Tryz.ntmps5
    go_wp2_with fail
    refine OC.out.mono ?_
    rintro e w1 ⟨rfl, hB⟩
    have HB := Lib.hid hB
    clear hB
    go_wp2_with fail
    go_ret2
    exact ⟨_, _, by rw [HP.out.1, HP.out.2]; rfl, by rw [HP.out.1]; exact Rd.lsNil _ _, HB.out.alloc HB.out.size _⟩
  cases hn : inB 1 n 1000000
  case false =>
    have HP := Lib.hid (ii_no (ii_range H4.out ho hn) (by omega))
    rw [ho] at OC
    rw [hn] at ID
    clear ho hn
    go_enter Tryz.func5, Tryz.ntmps5
    go_wp2_with fail
    refine OC.out.mono ?_
    rintro e w1 ⟨rfl, hB⟩
    have HB := Lib.hid hB
    clear hB
    go_wp2_with fail
    refine (ID.out _).mono ?_
    rintro e w2 ⟨rfl, rfl⟩
    go_wp2_with fail
    go_ret2
    exact ⟨_, _, by rw [HP.out.1, HP.out.2]; rfl, by rw [HP.out.1]; exact Rd.lsNil _ _, HB.out.alloc HB.out.size _⟩
  have HP := Lib.hid (ii_ok H4.out ho hn)
  have IS2 := Lib.hid (IS.out (by have := H4.out; omega) (by simpa [inB] using hn))
  rw [ho] at OC
  rw [hn] at ID
  clear ho hn IS
  go_enter Tryz.func5, Tryz.ntmps5
  go_wp2_with fail
  refine OC.out.mono ?_
  rintro e w1 ⟨rfl, hB⟩
  have HB := Lib.hid hB
  clear hB
  go_wp2_with fail
  refine (ID.out _).mono ?_
  rintro e w2 ⟨rfl, rfl⟩
  go_wp2_with fail
  refine (IS2.out _ HB.out).mono ?_
  rintro e w3 ⟨va, vq, rfl, hg⟩
  have HO : Hid (Rd w3 (fun c => w.heap.size ≤ c ∧ c < w3.heap.size) (dIntS (idsL ops n)) (.slice va (idsL ops n).length vq)) := (Own.rd' hg.own).mono (fun c hc => ⟨Nat.le_trans HB.out.size hc.1, hc.2⟩)
  have HB3 := Lib.hid (HB.out.trans (hg.bel.mono HB.out.size))
  clear hg
  generalize idsL ops n = F at *
  go_wp2_with fail
  go_ret2
  exact ⟨va, vq, by rw [HP.out.1, HP.out.2]; rfl, by rw [HP.out.1]; exact HO.out, HB3.out⟩
set_option maxRecDepth 100000 in
set_option maxHeartbeats 6400000 in
theorem iiI (ops : List OpV) (a : Option Addr) (c : Nat) (B : Nat → Prop) (n : Int) (w : World) (ho : (dOpS ops).le maxLen) (hL : Rd w B (dOpS ops) (.slice a ops.length c)) :
    Calls Tryz.prog 7 #[.slice a ops.length c, .int .i64 n] w fun e w' => ∃ ra rc, e = .returned (.tuple #[.slice ra (iiR ops n).length rc, .int .i64 (iiC ops n)]) ∧ Own w' (dIntS (iiR ops n)) (fun c => w.heap.size ≤ c ∧ c < w'.heap.size) (.slice ra (iiR ops n).length rc) ∧ Below w.heap.size w w' := by
  have OC : Hid (Calls Tryz.prog 18 #[.slice a ops.length c] w fun e w' => e = .returned (.int .i64 (opsC ops)) ∧ Below w.heap.size w w') := opsI ops a c B w ho hL
  have ID : Hid (∀ W, Calls Tryz.prog 19 #[.int .i64 n] W fun e w' => e = .returned (.bool (inB 1 n 1000000)) ∧ w' = W) := fun W => idOKi n W
  have IS : Hid (ops.length ≤ 4096 → (1 ≤ n ∧ n ≤ 1000000) → ∀ W, Below w.heap.size w W → Calls Tryz.prog 20 #[.slice a ops.length c, .int .i64 n] W fun e w' => ∃ b, e = .returned (.tuple #[.slice (some ⟨b, 0, none⟩) (idsL ops n).length (idsL ops n).length, .int .i64 (n + cntI ops)]) ∧ (W.heap.size ≤ b ∧ w'.rowIs b 3 (idsL ops n).length (atI (idsL ops n))) ∧ Below W.heap.size W w') := fun h4 hn W h => idsI ops a c B W ho (hL.later h) n h4 hn
  have hll : ops.length ≤ maxLen := (Ls_le.1 ho).2.1
  unfold maxLen at hll
  clear ho hL
  by_cases h4 : 4096 < ops.length
  case pos =>
    have HP := Lib.hid (ii_no (ii_long (n := n) h4) (by omega))
    have hd : decide (4096 < (ops.length : Int)) = true := decide_eq_true (by omega)
    clear h4
    go_enter Tryz.func7, Tryz.ntmps7
    go_wp2_with fail
    go_ret2
    exact ⟨none, 0, by rw [HP.out.1, HP.out.2]; rfl, by rw [HP.out.1]; exact ⟨none, 0, rfl, .inl rfl⟩, (Below.refl w.heap.size w)⟩
  have hd : decide (4096 < (ops.length : Int)) = false := decide_eq_false (by omega)
  have H4 := Lib.hid h4
  clear h4
  by_cases ho : opsC ops = 0
  case neg =>
    have HP := Lib.hid (ii_no (ii_ops (n := n) H4.out ho) ho)
    have hne : (opsC ops != 0) = true := by simpa using ho
    clear ho
    generalize opsC ops = oc at *
    go_enter Tryz.func7, Tryz.ntmps7
    go_wp2_with fail
    refine OC.out.mono ?_
    rintro e w1 ⟨rfl, hB⟩
    have HB := Lib.hid hB
    clear hB
    go_wp2_with fail
    go_ret2
    exact ⟨none, 0, by rw [HP.out.1, HP.out.2]; rfl, by rw [HP.out.1]; exact ⟨none, 0, rfl, .inl rfl⟩, HB.out⟩
  cases hn : inB 1 n 1000000
  case false =>
    have HP := Lib.hid (ii_no (ii_range H4.out ho hn) (by omega))
    rw [ho] at OC
    rw [hn] at ID
    clear ho hn
    go_enter Tryz.func7, Tryz.ntmps7
    go_wp2_with fail
    refine OC.out.mono ?_
    rintro e w1 ⟨rfl, hB⟩
    have HB := Lib.hid hB
    clear hB
    go_wp2_with fail
    refine (ID.out _).mono ?_
    rintro e w2 ⟨rfl, rfl⟩
    go_wp2_with fail
    go_ret2
    exact ⟨none, 0, by rw [HP.out.1, HP.out.2]; rfl, by rw [HP.out.1]; exact ⟨none, 0, rfl, .inl rfl⟩, HB.out⟩
  have HP := Lib.hid (ii_ok H4.out ho hn)
  have IS2 := Lib.hid (IS.out (by have := H4.out; omega) (by simpa [inB] using hn))
  rw [ho] at OC
  rw [hn] at ID
  clear ho hn IS
  go_enter Tryz.func7, Tryz.ntmps7
  go_wp2_with fail
  refine OC.out.mono ?_
  rintro e w1 ⟨rfl, hB⟩
  have HB := Lib.hid hB
  clear hB
  go_wp2_with fail
  refine (ID.out _).mono ?_
  rintro e w2 ⟨rfl, rfl⟩
  go_wp2_with fail
  refine (IS2.out _ HB.out).mono ?_
  rintro e w3 ⟨b, rfl, hb, hB⟩
  have HO : Hid (Own w3 (dIntS (idsL ops n)) (fun c => w.heap.size ≤ c ∧ c < w3.heap.size) (.slice (some ⟨b, 0, none⟩) (idsL ops n).length (idsL ops n).length)) := rowIs_own (Nat.le_trans HB.out.size hb.1) hb.2
  have HB3 := Lib.hid (HB.out.trans (hB.mono HB.out.size))
  clear hb hB
  generalize idsL ops n = F at *
  go_wp2_with fail
  go_ret2
  exact ⟨some ⟨b, 0, none⟩, F.length, by rw [HP.out.1, HP.out.2]; rfl, by rw [HP.out.1]; exact HO.out, HB3.out⟩
theorem idsL_ok {l : List OpV} {n : Int} (h1 : 1 ≤ n ∧ n ≤ 1000000) (h2 : l.length ≤ 4096) : ∀ m ∈ idsL l n, iOK m := fun m hm => by
  obtain ⟨i, hi, rfl⟩ := List.mem_iff_getElem.1 hm
  have hi' : i < l.length := by rw [idsL_len] at hi; exact hi
  have e : (idsL l n)[i] = (idsL l n).getD i 0 := by rw [List.getD_eq_getElem?_getD, List.getElem?_eq_getElem hi]; rfl
  rw [e]
  by_cases hk : l[i].kd = 1
  · rw [idsL_atY hi' hk]
    have := cntI_le (l.take i)
    have h5 : (l.take i).length ≤ l.length := List.length_take_le' _ _
    exact iOK_smallN (by omega)
  · rw [idsL_atN hi' hk]
    exact iOK_smallN (by omega)
theorem ii_le {l : List OpV} {n : Int} : (dIntS (iiR l n)).le maxLen ∧ (dIntS (iiR l n)).sz ≤ 100000000 := by
  unfold iiR
  split
  · rename_i h
    have hn : inB 1 n 1000000 = true ∧ l.length ≤ 4096 := by
      unfold iiC at h
      split at h
      · omega
      split at h
      · contradiction
      split at h
      · rename_i h4 _ hn; exact ⟨hn, by omega⟩
      · omega
    have hb : 1 ≤ n ∧ n ≤ 1000000 := by simpa [inB] using hn.1
    exact ints_leN (by rw [idsL_len]; omega) (idsL_ok hb hn.2)
  · exact ints_leN (by simp) (fun m hm => absurd hm (by simp))
end Go.Proofs.YtndlhcdgpkeifaaGreat
