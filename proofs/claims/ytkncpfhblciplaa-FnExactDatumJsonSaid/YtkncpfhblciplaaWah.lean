import Derived.Test.YtkncpfhblciplaaWag
namespace Go.Proofs.Ytkncpfhblciplaa
open Go.RowKit
theorem left_len {d : Nat} {j : J} {r : Int} (h : r ≤ (j.items.length : Int)) : left r (cnt (d + 1) j) = -1 := by
  cases e : cnt (d + 1) j with
  | none => rfl
  | some n => have := cnt_len e; unfold left; simp only; rw [if_neg (by omega)]
theorem left_le {r : Int} (c : Option Nat) (h0 : 0 ≤ left r c) : left r c ≤ r := by
  cases c with
  | none => simp [left] at h0
  | some n => unfold left at h0 ⊢; simp only at h0 ⊢; split at h0
              · rename_i h; rw [if_pos h]; omega
              · omega
def RoomSaid (d : Nat) : Prop := ∀ (j : J) (cs : List Value) (B : Nat → Prop) (r : Int) (w : World), 0 ≤ r → r ≤ 400 → RJ w B j cs →
    Calls Try.prog 103 #[.agg cs.toArray, .int .i64 (d : Int), .int .i64 r] w fun e w' => e = .returned (.int .i64 (left r (cnt d j))) ∧ Below w.heap.size w w'
set_option maxHeartbeats 1600000 in
theorem room0 : RoomSaid 0 := by
  intro j cs B r w h0 h1 hr
  rw [RJ_eq] at hr
  obtain ⟨ka, kc, ia, ic, rfl, -⟩ := hr
  have HL : Hid (left r (cnt 0 j) = -1) := rfl
  go_enter Try.func103, Try.ntmps103
  go_wp2_with fail
  go_ret
  exact ⟨ret_i HL.out.symm, (Below.refl _ _).alloc (Nat.le_refl _) _⟩
set_option maxHeartbeats 3200000 in
theorem roomS (d : Nat) (hd : d ≤ 12) (ih : RoomSaid d) : RoomSaid (d + 1) := by
  intro j cs B r w h0 h1 hr
  rw [show ((d + 1 : Nat) : Int) = (d : Int) + 1 from by omega]
  have HJ : Hid (RJ w B j cs) := hr
  rw [RJ_eq] at hr
  obtain ⟨ka, kc, ia, ic, rfl, ht, hkl, hil, hkx, hk, hi⟩ := hr
  have HI : Hid (Jsons w B ia j.items) := hi
  have hil' : j.items.length ≤ 9223372036854775807 := hil
  clear ht hkl hkx hk hi hil
  have hdz : ((d : Int) + 1 == 0) = false := by simp; omega
  by_cases hlen : r ≤ (j.items.length : Int)
  · have HL : Hid (left r (cnt (d + 1) j) = -1) := left_len hlen
    go_enter Try.func103, Try.ntmps103
    go_wp2_with fail
    go_ret
    exact ⟨ret_i HL.out.symm, (Below.refl _ _).alloc (Nat.le_refl _) _⟩
  · have hlb : decide (r ≤ (j.items.length : Int)) = false := by simp; omega
    cases hp : partB j
    · have HL : Hid (left r (cnt (d + 1) j) = -1) := by show left r (cnt (d + 1) j) = -1; rw [cnt_nopart hp]; rfl
      go_enter Try.func103, Try.ntmps103
      go_wp2_with fail
      refine (partOK j _ B _ (HJ.out.later ((Below.refl _ _).alloc (Nat.le_refl _) _))).mono ?_
      rintro e w1 ⟨rfl, hB1⟩
      go_wp2_with fail
      go_ret
      exact ⟨ret_i HL.out.symm, ((Below.refl _ _).alloc (Nat.le_refl _) _).trans (hB1.mono (by simp))⟩
    · have HC : Hid (cnt (d + 1) j = cntTo d j.items j.items.length) := cnt_part hp
      go_enter Try.func103, Try.ntmps103
      go_wp2_with fail
      refine (partOK j _ B _ (HJ.out.later ((Below.refl _ _).alloc (Nat.le_refl _) _))).mono ?_
      rintro e w1 ⟨rfl, hB1⟩
      have x4 : w1.cell? ⟨w.heap.size, 4, none⟩ = some (.slice ia j.items.length ic) := by rw [hB1.cell (p := ⟨w.heap.size, 4, none⟩) (by simp)]; simp [go_sem]
      have hsz : w.heap.size < w1.heap.size := by have := hB1.size; simp at this; omega
      have hB2 : Below w.heap.size w w1 := ((Below.refl _ _).alloc (Nat.le_refl _) _).trans (hB1.mono (by simp))
      clear hB1
      go_wp2_with fail
      go_loopw [2, 27] (fun q i wr => ∃ k : Nat, k ≤ j.items.length ∧ i = .int .i64 k ∧ ∃ m : Int, q = .int .i64 m ∧ 0 ≤ m ∧ m ≤ 400 ∧ Hid (m = left r (cntTo d j.items k)) ∧ Below w1.heap.size w1 wr) (fun _ i _ => j.items.length - (intOf i).toNat)
      case atStart =>
        refine ⟨0, Nat.zero_le _, rfl, r - 1, rfl, by omega, by omega, ?_, Below.refl _ _⟩
        show r - 1 = _
        rw [cntTo_zero]; unfold left; simp only; rw [if_pos (by omega)]; rfl
      case round =>
        obtain ⟨k, hk, rfl, m, rfl, hm0, hm1, HM, hw⟩ := hrel
        by_cases hlt : k < j.items.length
        · have hx4 : wr.cell? ⟨w.heap.size, 4, none⟩ = some (.slice ia j.items.length ic) := by rw [hw.cell (p := ⟨w.heap.size, 4, none⟩) hsz]; exact x4
          obtain ⟨b, off, ka', kc', ia', ic', rfl, _, c0, c1, c2, c3, c4, hr⟩ := ((HI.out.later hB2).later hw).item k hlt
          have HR : Hid (RJ wr B j.items[k] _) := hr
          have HS : Hid (cntTo d j.items (k + 1) = addO (cntTo d j.items k) (cnt d j.items[k])) := cntTo_succ _ _ _ hlt
          have HSP : Hid (cntTo d j.items j.items.length = addO (cntTo d j.items (k + 1)) (sumO ((j.items.drop (k + 1)).map (cnt d)))) := cntTo_split _ _ _
          clear hr
          generalize j.items[k] = x at *
          go_wp2_with fail
          refine (ih x _ B m _ hm0 hm1 HR.out).mono ?_
          rintro e w2 ⟨rfl, hB3⟩
          have hw2 : Below w1.heap.size w1 w2 := hw.trans (hB3.mono hw.size)
          have HQ : Hid (left m (cnt d x) = left r (cntTo d j.items (k + 1))) := by
            have e1 := HM.out
            show left m (cnt d x) = _
            rw [e1, left_add _ _ _ (by rw [← e1]; exact hm0), HS.out]
          have HLE : Hid (0 ≤ left m (cnt d x) → left m (cnt d x) ≤ m) := left_le _
          clear hB3 c0 c1 c2 c3 c4 hx4 hw
          generalize left m (cnt d x) = q at *
          by_cases hq : q < 0
          · have HL : Hid (left r (cnt (d + 1) j) = -1) := by
              show left r (cnt (d + 1) j) = -1
              rw [HC.out, HSP.out]
              exact left_add_neg _ _ _ (by rw [← HQ.out]; exact hq) h0
            go_wp2_with fail
            go_ret
            exact ⟨ret_i HL.out.symm, hB2.trans (hw2.mono (by omega))⟩
          · go_wp2_with fail
            go_roundw
            case rel => exact ⟨k + 1, by omega, by go_num, q, rfl, by omega, by have := HLE.out (by omega); omega, HQ.out, hw2⟩
            case measure => simp [intOf]; omega
        · have HL : Hid (left r (cnt (d + 1) j) = m) := by
            show left r (cnt (d + 1) j) = m
            have hk' : k = j.items.length := by omega
            rw [HC.out, HM.out, hk']
          go_wp2_with fail
          go_ret
          exact ⟨ret_i HL.out.symm, hB2.trans (hw.mono (by omega))⟩
theorem room : ∀ (d : Nat), d ≤ 12 → RoomSaid d
  | 0, _ => room0
  | d + 1, h => roomS d (by omega) (room d (by omega))
end Go.Proofs.Ytkncpfhblciplaa
