import Derived.Test.YtkncpfhblciplaaWar
namespace Go.Proofs.Ytkncpfhblciplaa
open Go.RowKit
set_option linter.unusedSimpArgs false
def HeldSaid (j : J) : Prop := ∀ (ia : Option Addr) (c k : Nat) (B : Nat → Prop) (w : World), j.items.length ≤ maxLen → 0 < k → k + (j.items.map mn).sum < 1000000000000 → Jsons w B ia (mkL j.items k) →
    Calls Try.prog 47 #[.slice ia j.items.length c, .int .i64 k] w fun e w' => e = .returned (.int .i64 (k + (j.items.map mn).sum : Nat)) ∧ Below w.heap.size w w'
set_option maxRecDepth 100000 in
set_option maxHeartbeats 3200000 in
theorem heldJsons (j : J) : HeldSaid j := by
  induction j using J.induct with
  | h j ih =>
    intro ia c k B w hl h0 h1 hS
    unfold maxLen at hl
    have IH : Hid (∀ x ∈ j.items, HeldSaid x) := ih
    have HS : Hid (Jsons w B ia (mkL j.items k)) := hS
    clear hS ih
    go_enter Try.func47, Try.ntmps47
    go_wp2_with fail
    go_loopw [1, 5] (fun q i wr => ∃ m : Nat, m ≤ j.items.length ∧ i = .int .i64 m ∧ q = .int .i64 (k + sumTo mn j.items m : Nat) ∧ Below w.heap.size w wr) (fun _ i _ => j.items.length - (intOf i).toNat)
    case atStart => exact ⟨0, Nat.zero_le _, rfl, by rw [sumTo_zero]; rfl, Below.refl _ _⟩
    case round =>
      obtain ⟨m, hm, rfl, rfl, hw⟩ := hrel
      by_cases hlt : m < j.items.length
      · have hlt' : m < (mkL j.items k).length := by rw [mkL_len]; exact hlt
        obtain ⟨b, off, ka, kc, ia', ic, rfl, _, c0, c1, c2, c3, c4, hr⟩ := (HS.out.later hw).item m hlt'
        rw [mkL_at _ _ _ hlt] at c0 c1 c2 c3 c4 hr
        have HSU : Hid (sumTo mn j.items (m + 1) = sumTo mn j.items m + mn j.items[m]) := sumTo_succ _ _ _ hlt
        have HLE : Hid (sumTo mn j.items (m + 1) ≤ (j.items.map mn).sum) := sumTo_le _ _ _
        have HIX : Hid (HeldSaid j.items[m]) := IH.out _ (List.getElem_mem hlt)
        have hmn := mn_eq j.items[m]
        generalize j.items[m] = x at *
        have hbd : k + sumTo mn j.items m + mn x < 1000000000000 := by have := HSU.out; have := HLE.out; omega
        generalize hkk : k + sumTo mn j.items m = kk at *
        have HKE : Hid (k + sumTo mn j.items m = kk) := hkk
        clear hkk hlt'
        rw [RJ_eq] at hr
        obtain ⟨ka2, kc2, ia2, ic2, e5, -, hkl, hil, -, hks, hjs⟩ := hr
        simp only [List.cons.injEq, Value.slice.injEq, and_true, true_and] at e5
        obtain ⟨⟨rfl, rfl⟩, rfl, rfl⟩ := e5
        rw [mkJ_eq] at c0 c1 c2 c3 c4 hks hjs hkl hil
        simp only [marks_len, mkL_len] at c0 c1 c2 c3 c4 hks hjs hkl hil
        have HKS : Hid (Strs wr B ka (marks x.keys.length (kk + 3))) := hks
        have HJS : Hid (Jsons wr B ia' (mkL x.items (kk + 3 + x.keys.length))) := hjs
        have hkl' : x.keys.length ≤ 9223372036854775807 := hkl
        have hil' : x.items.length ≤ 9223372036854775807 := hil
        have hkb : kk + 3 + x.keys.length + (x.items.map mn).sum < 1000000000000 := by omega
        have HW : Hid (Below w.heap.size w wr) := hw
        have hki : (m : Int) < (j.items.length : Int) := by omega
        have HC3 : Hid (wr.cell? ⟨b, off + m * 5 + 3, none⟩ = some (.slice ka x.keys.length kc)) := c3
        have HC4 : Hid (wr.cell? ⟨b, off + m * 5 + 4, none⟩ = some (.slice ia' x.items.length ic)) := c4
        clear hks hjs hkl hil hw
        go_wp2_with fail
        go_region_with (go_at_call 57; rw [show ((kk : Int) + 1 + 1) = ((kk + 2 : Nat) : Int) by omega]; refine (markText (kk + 2) _ ?_ ?_).mono ?_; omega; omega; rintro e w1 ⟨rfl, hB1⟩; have d2 := hB1.cell (p := ⟨b, off + m * 5 + 2, none⟩) (World.block_lt_of_cell? wr.drew ⟨b, off + m * 5 + 2, none⟩ c2); rw [show wr.drew.cell? ⟨b, off + m * 5 + 2, none⟩ = _ from c2] at d2)
        all_goals
          have hw1 : Below wr.heap.size wr w1 := (Below.refl _ _).drew.trans hB1
          have d3 : w1.cell? ⟨b, off + m * 5 + 3, none⟩ = some (.slice ka x.keys.length kc) := by rw [hw1.cell (p := ⟨b, off + m * 5 + 3, none⟩) (World.block_lt_of_cell? _ _ HC3.out)]; exact HC3.out
          have d4 : w1.cell? ⟨b, off + m * 5 + 4, none⟩ = some (.slice ia' x.items.length ic) := by rw [hw1.cell (p := ⟨b, off + m * 5 + 4, none⟩) (World.block_lt_of_cell? _ _ HC4.out)]; exact HC4.out
          have HD4 : Hid (w1.cell? ⟨b, off + m * 5 + 4, none⟩ = some (.slice ia' x.items.length ic)) := d4
          clear hB1 c0 c1 c2 c3 c4 d2 d4
          generalize hy : mt (kk + 2) = y at *
          clear hy
          have hyy : (y != y) = false := by simp
          go_wp2_with fail
          rw [show ((kk : Int) + 2 + 1) = ((kk + 3 : Nat) : Int) by omega]
          refine (heldStrs x.keys.length ka kc (kk + 3) B _ hkl' (by omega) (by omega) (HKS.out.later hw1)).mono ?_
          rintro e w2 ⟨rfl, hB3⟩
          have hw2 : Below wr.heap.size wr w2 := hw1.trans (hB3.mono hw1.size)
          have d4 : w2.cell? ⟨b, off + m * 5 + 4, none⟩ = some (.slice ia' x.items.length ic) := by rw [hB3.cell (p := ⟨b, off + m * 5 + 4, none⟩) (World.block_lt_of_cell? _ _ HD4.out)]; exact HD4.out
          clear d3 hw1 hB3
          generalize hk2 : kk + 3 + x.keys.length = k2 at *
          have hk2' : 0 < k2 := by omega
          have HK2 : Hid (kk + 3 + x.keys.length = k2) := hk2
          clear hk2
          go_wp2_with fail
          refine (HIX.out ia' ic k2 B _ hil' hk2' hkb (HJS.out.later hw2)).mono ?_
          rintro e w3 ⟨rfl, hB4⟩
          have hw3 : Below w.heap.size w w3 := (HW.out.trans (hw2.mono HW.out.size)).trans (hB4.mono (Nat.le_trans HW.out.size hw2.size))
          have HKK : Hid (k2 + (x.items.map mn).sum = k + sumTo mn j.items (m + 1)) := by
            show _ = _
            have h1 := HSU.out
            have h2 := HKE.out
            have h3 := HK2.out
            omega
          clear d4 hw2 hB4
          generalize k2 + (x.items.map mn).sum = kn at *
          have hkn : (0 : Int) ≤ (kn : Int) := by omega
          go_wp2_with fail
          go_roundw
          case rel => exact ⟨m + 1, by omega, by go_num, by rw [← HKK.out], hw3⟩
          case measure => simp [intOf]; omega
      · have HE : Hid (k + sumTo mn j.items m = k + (j.items.map mn).sum) := by show _ = _; rw [show m = j.items.length by omega, sumTo_all]
        generalize k + sumTo mn j.items m = kn at *
        go_wp2_with fail
        go_ret
        exact ⟨ret_i (by rw [HE.out]), hw⟩
def mkT (j : J) (k : Nat) : J := ⟨j.k, j.n, j.t, marks j.keys.length k, mkL j.items (k + j.keys.length)⟩
def mnT (j : J) : Nat := j.keys.length + (j.items.map mn).sum
set_option maxHeartbeats 1600000 in
theorem markJson (j : J) (cs : List Value) (k : Nat) (B : Nat → Prop) (w : World) (h0 : 0 < k) (h1 : k + mnT j < 1000000000000) (hB : ∀ b, B b → b < w.heap.size) (hr : OwnJ w j B cs) :
    Calls Try.prog 13 #[.agg cs.toArray, .int .i64 k] w fun e w' => e = .returned (.int .i64 (k + mnT j : Nat)) ∧ OwnJ w' (mkT j k) B cs ∧ Frm B w w' := by
  unfold mnT at *
  rw [OwnJ_eq] at hr
  obtain ⟨ka, kc, ia, ic, K, I, rfl, ht, hkl, hil, hkx, hks, hK, hI, hjs⟩ := hr
  have HK : Hid (∀ b, K b → B b ∧ ¬ I b) := hK
  have HI : Hid (∀ b, I b → B b) := hI
  have HKS : Hid (OwnStrs w K ka j.keys) := hks
  have HJS : Hid (OwnJsons w I ia j.items) := hjs
  have HT : Hid (j.t.length ≤ maxLen) := ht
  have HB : Hid (∀ b, B b → b < w.heap.size) := hB
  have hkl' : j.keys.length ≤ 9223372036854775807 := hkl
  have hil' : j.items.length ≤ 9223372036854775807 := hil
  clear hK hI hks hjs hkx ht hkl hil hB
  go_enter Try.func13, Try.ntmps13
  go_wp2_with fail
  refine (markStrs j.keys ka kc k K _ hkl' h0 (by omega) (HKS.out.same (fun b hb => Below.heap_alloc _ _ _ (HB.out b (HK.out b hb).1)) (fun _ h => h))).mono ?_
  rintro e w1 ⟨rfl, hO1, hF1⟩
  have hz1 : w.heap.size + 1 ≤ w1.heap.size := by have := hF1.size; simpa using this
  have g1 : w1.heap[w.heap.size]? = some (.cells #[.int .i64 j.k, .int .i64 j.n, .string ⟨j.t.toArray⟩, .slice ka j.keys.length kc, .slice ia j.items.length ic] 28) := by
    rw [hF1.block w.heap.size (by simp) (fun h => Nat.lt_irrefl _ (HB.out _ (HK.out _ h).1))]
    show (w.heap.push _)[w.heap.size]? = _
    simp
  have x4 : w1.cell? ⟨w.heap.size, 4, none⟩ = some (.slice ia j.items.length ic) := by unfold World.cell?; rw [g1]; rfl
  have hsame : ∀ c, c < w.heap.size → ¬ K c → w1.heap[c]? = w.heap[c]? := fun c hc hk => by
    rw [hF1.block c (by simp; omega) hk, Below.heap_alloc _ _ _ hc]
  have hFr : Frm B w w1 := (Frm.of_below ((Below.refl _ _).alloc (Nat.le_refl _) _)).trans (hF1.mono (fun c h => (HK.out c h).1))
  have HO1 : Hid (OwnStrs w1 K ka (marks j.keys.length k)) := hO1
  clear hO1 hF1 g1
  go_wp2_with fail
  refine (markJsons j ia ic (k + j.keys.length) I _ hil' (by omega) (by omega) (HJS.out.same (fun b hb => hsame b (HB.out b (HI.out b hb)) (fun hk => (HK.out b hk).2 hb)) (fun _ h => h))).mono ?_
  rintro e w2 ⟨rfl, hO2, hF2⟩
  have HO2 : Hid (OwnJsons w2 I ia (mkL j.items (k + j.keys.length))) := hO2
  have hFr2 : Frm B w w2 := hFr.trans (hF2.mono (fun c h => HI.out c h))
  have HO3 : Hid (OwnStrs w2 K ka (marks j.keys.length k)) := HO1.out.same (fun c hc => hF2.block c (by have := HB.out c (HK.out c hc).1; omega) (HK.out c hc).2) (fun _ h => h)
  clear hO2 hF2 x4 hsame
  have HE : Hid (k + j.keys.length + (j.items.map mn).sum = k + (j.keys.length + (j.items.map mn).sum)) := by show _ = _; omega
  generalize k + j.keys.length + (j.items.map mn).sum = kn at *
  go_wp2_with fail
  go_ret
  refine ⟨ret_i (by rw [HE.out]), ?_, hFr2⟩
  rw [OwnJ_eq]
  refine ⟨ka, kc, ia, ic, K, I, by simp only [mkT, marks_len, mkL_len], HT.out, by simp only [mkT, marks_len]; exact hkl', by simp only [mkT, mkL_len]; exact hil', fun y hy => ?_, HO3.out, HK.out, HI.out, HO2.out⟩
  simp only [mkT, marks, List.mem_map] at hy
  obtain ⟨i, -, rfl⟩ := hy
  exact mt_len _
set_option maxHeartbeats 1600000 in
theorem heldJson (j : J) (cs : List Value) (k : Nat) (B : Nat → Prop) (w : World) (h0 : 0 < k) (h1 : k + mnT j < 1000000000000) (hr : RJ w B (mkT j k) cs) :
    Calls Try.prog 14 #[.agg cs.toArray, .int .i64 k] w fun e w' => e = .returned (.int .i64 (k + mnT j : Nat)) ∧ Below w.heap.size w w' := by
  unfold mnT at *
  rw [RJ_eq] at hr
  obtain ⟨ka, kc, ia, ic, rfl, -, hkl, hil, -, hks, hjs⟩ := hr
  simp only [mkT, marks_len, mkL_len] at hkl hil hks hjs ⊢
  have HKS : Hid (Strs w B ka (marks j.keys.length k)) := hks
  have HJS : Hid (Jsons w B ia (mkL j.items (k + j.keys.length))) := hjs
  have hkl' : j.keys.length ≤ 9223372036854775807 := hkl
  have hil' : j.items.length ≤ 9223372036854775807 := hil
  have hB0 : Below w.heap.size w (w.alloc (.cells #[.int .i64 j.k, .int .i64 j.n, .string ⟨j.t.toArray⟩, .slice ka j.keys.length kc, .slice ia j.items.length ic] 28)) := (Below.refl _ _).alloc (Nat.le_refl _) _
  clear hkl hil hks hjs
  go_enter Try.func14, Try.ntmps14
  go_wp2_with fail
  refine (heldStrs j.keys.length ka kc k B _ hkl' h0 (by omega) (HKS.out.later hB0)).mono ?_
  rintro e w1 ⟨rfl, hB1⟩
  have hw1 : Below w.heap.size w w1 := hB0.trans (hB1.mono (by simp))
  have x4 : w1.cell? ⟨w.heap.size, 4, none⟩ = some (.slice ia j.items.length ic) := by rw [hB1.cell (p := ⟨w.heap.size, 4, none⟩) (by simp)]; simp [go_sem]
  clear hB1 hB0
  have HE : Hid (k + j.keys.length + (j.items.map mn).sum = k + (j.keys.length + (j.items.map mn).sum)) := by show _ = _; omega
  have hb2 : k + j.keys.length + (j.items.map mn).sum < 1000000000000 := by omega
  generalize hk2 : k + j.keys.length = k2 at *
  have hk2' : 0 < k2 := by omega
  clear hk2
  go_wp2_with fail
  refine (heldJsons j ia ic k2 B _ hil' hk2' hb2 (HJS.out.later hw1)).mono ?_
  rintro e w2 ⟨rfl, hB2⟩
  have hw2 : Below w.heap.size w w2 := hw1.trans (hB2.mono hw1.size)
  clear hB2 x4
  generalize k2 + (j.items.map mn).sum = kn at *
  have hkn : (0 : Int) ≤ (kn : Int) := by omega
  go_wp2_with fail
  go_ret
  exact ⟨ret_i (by rw [HE.out]), hw2⟩
end Go.Proofs.Ytkncpfhblciplaa
