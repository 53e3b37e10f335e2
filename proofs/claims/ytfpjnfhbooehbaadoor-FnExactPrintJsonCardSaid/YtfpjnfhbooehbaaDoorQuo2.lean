import Derived.Test.YtfpjnfhbooehbaaDoorQuo
import Derived.Test.YtfpjnfhbooehbaaDoorSpec
namespace Go.Proofs.YtfpjnfhbooehbaaDoor
open Go.RowKit
set_option linter.unusedSimpArgs false
theorem own_one (w : World) (e : TypeId) (x : Value) : (w.alloc (.cells #[x] e)).ownsRow w.heap.size e 1 (.slice (some ⟨w.heap.size, 0, none⟩) 1 1) 1 [x] :=
  ⟨by simp, .inr ⟨w.heap.size, 1, #[x], rfl, Nat.le_refl _, by show (w.heap.push _)[w.heap.size]? = _; simp, Nat.le_refl _, by unfold maxLen; omega, by simp, by simp⟩⟩
theorem own_shape' {w : World} {base : Nat} {e : TypeId} {size : Nat} {v : Value} {n : Nat} {xs : List Value} (h : w.ownsRow base e size v n xs) : ∃ va vc, v = .slice va n vc := by
  rcases h.2 with ⟨rfl, rfl⟩ | ⟨g, cap, cur, rfl, _⟩
  · exact ⟨none, 0, rfl⟩
  · exact ⟨_, _, rfl⟩
def QInv (w wr : World) (v : Value) (n : Nat) (l : List UInt8) : Prop := wr.ownsRow w.heap.size 5 1 v n (bc l) ∧ Below w.heap.size w wr
theorem esc_len (l : List UInt8) : (l.flatMap esc).length ≤ 2 * l.length := by
  induction l with
  | nil => simp
  | cons c l ih =>
    have h1 : (esc c).length ≤ 2 := by unfold esc; split <;> simp
    simp only [List.flatMap_cons, List.length_append, List.length_cons]; omega
theorem take_flat {s : ByteArray} (m : Nat) (h : m < s.size) : (s.data.toList.take (m + 1)).flatMap esc = (s.data.toList.take m).flatMap esc ++ esc s[m] := by
  rw [List.take_succ_eq_append_getElem (by simpa using h), List.flatMap_append]
  simp
  rfl
theorem QInv.grow {w wr w1 : World} {v v1 : Value} {n : Nat} {l : List UInt8} {c : UInt8} {x : Int} (h : QInv w wr v n l) (hx : x = (c.toNat : Int)) (ho : w1.ownsRow w.heap.size 5 1 v1 (n + 1) (bc l ++ [.int .u8 x])) (hg : (wr.alloc (.cells #[.int .u8 x] 5)).grownBy w1 v.ownBlock) :
    QInv w w1 v1 (n + 1) (l ++ [c]) := by
  subst hx
  refine ⟨by rw [← bc_app]; exact ho, below_grown (h.2.alloc h.2.size _) (Nat.le_refl _) (by have := h.2.size; simp; omega) (own_alloc h.1 _) hg⟩
set_option maxRecDepth 100000 in
set_option maxHeartbeats 3200000 in
theorem quoteS (s : ByteArray) (w : World) (hs : s.size ≤ 1048576) :
    Calls Tryd.prog 21 #[.string s] w fun e w' => e = .returned (.string ⟨(quo s.data.toList).toArray⟩) ∧ Below w.heap.size w w' := by
  obtain ⟨i5, hi5⟩ := info5'
  have HI5 : Hid (Tryd.prog.info? 5 = some i5 ∧ i5.zero = some (.int .u8 0) ∧ i5.size = 1 ∧ i5.bytes = 1) := hi5
  clear hi5
  go_enter Tryd.func21, Tryd.ntmps21
  go_wp2_with fail
  go_loopw [3, 4] (fun o i wr => ∃ m n : Nat, m ≤ s.size ∧ i = .int .i64 m ∧ n ≤ 1 + 2 * m ∧ 0 < n ∧ Hid (QInv w wr o n (34 :: (s.data.toList.take m).flatMap esc))) (fun _ i _ => s.size - (intOf i).toNat)
  case atStart => exact ⟨0, 1, Nat.zero_le _, rfl, by omega, by omega, own_one _ _ _, (Below.refl _ _).alloc (Nat.le_refl _) _⟩
  case round =>
    obtain ⟨m, n, hm, rfl, hn, hn0, HQ⟩ := hrel
    rename_i vo _ _
    obtain ⟨va, vc, rfl⟩ := own_shape' HQ.out.1
    by_cases hlt : m < s.size
    · have HT : Hid ((s.data.toList.take (m + 1)).flatMap esc = (s.data.toList.take m).flatMap esc ++ esc s[m]) := take_flat m hlt
      by_cases hsp : special s[m] = true
      · have HE : Hid (esc s[m] = [92, s[m]]) := by show esc s[m] = _; unfold esc; rw [if_pos hsp]
        have HTE : Hid (∀ (W : World) v k, QInv w W v k (34 :: (s.data.toList.take m).flatMap esc ++ [92] ++ [s[m]]) ↔ QInv w W v k (34 :: (s.data.toList.take (m + 1)).flatMap esc)) := by
          intro W v k; rw [HT.out, HE.out]; simp
        have hc : ((s[m].toNat : Int) = 34) ∨ ((s[m].toNat : Int) = 92) := by
          unfold special at hsp
          rcases Bool.or_eq_true_iff.1 hsp with h | h <;> (have := beq_iff_eq.1 h; rw [this]; simp)
        clear hsp
        rcases hc with hc | hc
        · have HC : Hid (34 = (s[m].toNat : Int)) := hc.symm
          go_wp2_with (at_builtin; go_must (first | (refine wpList_append_own _ rfl (.tmp 22) (.tmp 23) 41 rfl w.heap.size 5 i5 (.int .u8 0) 1 1 Tryd.underlying41 HI5.out.1 HI5.out.2.1 HI5.out.2.2.1 HI5.out.2.2.2 rfl (Nat.lt_succ_self 0) (.slice va n vc) (n) _ rfl (own_alloc HQ.out.1 _) ⟨wr.heap.size, 0, none⟩ 1 1 [.int .u8 92] rfl rfl (news1 _ _ _) (fun u hu => by rw [List.mem_singleton.1 hu]; rfl) (by unfold maxLen; omega) (by omega) (by have := HQ.out.2.size; simp; omega) ?_; intro v1 w1 ho1 hg1 _; obtain ⟨va1, vc1, rfl⟩ := own_shape' ho1; have HQ1 : Hid (QInv w w1 (.slice va1 (n + 1) vc1) (n + 1) (34 :: (s.data.toList.take m).flatMap esc ++ [92])) := HQ.out.grow (c := 92) rfl ho1 hg1; clear ho1 hg1) | (refine wpList_append_own _ rfl (.tmp 25) (.tmp 29) 41 rfl w.heap.size 5 i5 (.int .u8 0) 1 1 Tryd.underlying41 HI5.out.1 HI5.out.2.1 HI5.out.2.2.1 HI5.out.2.2.2 rfl (Nat.lt_succ_self 0) (.slice va1 (n + 1) vc1) (n + 1) _ rfl (own_alloc HQ1.out.1 _) ⟨w1.heap.size, 0, none⟩ 1 1 [.int .u8 34] rfl rfl (news1 _ _ _) (fun u hu => by rw [List.mem_singleton.1 hu]; rfl) (by unfold maxLen; omega) (by omega) (by have := HQ1.out.2.size; simp; omega) ?_; intro v2 w2 ho2 hg2 _; obtain ⟨va2, vc2, rfl⟩ := own_shape' ho2; have HQ2 : Hid (QInv w w2 (.slice va2 (n + 1 + 1) vc2) (n + 1 + 1) (34 :: (s.data.toList.take (m + 1)).flatMap esc)) := (HTE.out _ _ _).mp (HQ1.out.grow (c := s[m]) HC.out ho2 hg2); clear ho2 hg2)))
          go_roundw
          case rel => exact ⟨m + 1, n + 1 + 1, by omega, by go_num, by omega, by omega, HQ2.out⟩
          case measure => simp [intOf]; omega
        · have HC : Hid (92 = (s[m].toNat : Int)) := hc.symm
          go_wp2_with (at_builtin; go_must (first | (refine wpList_append_own _ rfl (.tmp 22) (.tmp 23) 41 rfl w.heap.size 5 i5 (.int .u8 0) 1 1 Tryd.underlying41 HI5.out.1 HI5.out.2.1 HI5.out.2.2.1 HI5.out.2.2.2 rfl (Nat.lt_succ_self 0) (.slice va n vc) (n) _ rfl (own_alloc HQ.out.1 _) ⟨wr.heap.size, 0, none⟩ 1 1 [.int .u8 92] rfl rfl (news1 _ _ _) (fun u hu => by rw [List.mem_singleton.1 hu]; rfl) (by unfold maxLen; omega) (by omega) (by have := HQ.out.2.size; simp; omega) ?_; intro v1 w1 ho1 hg1 _; obtain ⟨va1, vc1, rfl⟩ := own_shape' ho1; have HQ1 : Hid (QInv w w1 (.slice va1 (n + 1) vc1) (n + 1) (34 :: (s.data.toList.take m).flatMap esc ++ [92])) := HQ.out.grow (c := 92) rfl ho1 hg1; clear ho1 hg1) | (refine wpList_append_own _ rfl (.tmp 25) (.tmp 29) 41 rfl w.heap.size 5 i5 (.int .u8 0) 1 1 Tryd.underlying41 HI5.out.1 HI5.out.2.1 HI5.out.2.2.1 HI5.out.2.2.2 rfl (Nat.lt_succ_self 0) (.slice va1 (n + 1) vc1) (n + 1) _ rfl (own_alloc HQ1.out.1 _) ⟨w1.heap.size, 0, none⟩ 1 1 [.int .u8 92] rfl rfl (news1 _ _ _) (fun u hu => by rw [List.mem_singleton.1 hu]; rfl) (by unfold maxLen; omega) (by omega) (by have := HQ1.out.2.size; simp; omega) ?_; intro v2 w2 ho2 hg2 _; obtain ⟨va2, vc2, rfl⟩ := own_shape' ho2; have HQ2 : Hid (QInv w w2 (.slice va2 (n + 1 + 1) vc2) (n + 1 + 1) (34 :: (s.data.toList.take (m + 1)).flatMap esc)) := (HTE.out _ _ _).mp (HQ1.out.grow (c := s[m]) HC.out ho2 hg2); clear ho2 hg2)))
          go_roundw
          case rel => exact ⟨m + 1, n + 1 + 1, by omega, by go_num, by omega, by omega, HQ2.out⟩
          case measure => simp [intOf]; omega
      · have HE : Hid (esc s[m] = [s[m]]) := by show esc s[m] = _; unfold esc; rw [if_neg hsp]
        have HTE : Hid (∀ (W : World) v k, QInv w W v k (34 :: (s.data.toList.take m).flatMap esc ++ [s[m]]) ↔ QInv w W v k (34 :: (s.data.toList.take (m + 1)).flatMap esc)) := by
          intro W v k; rw [HT.out, HE.out]; simp
        have hc1 : ((s[m].toNat : Int) == 34) = false := by
          rw [beq_eq_false_iff_ne]; intro h; apply hsp; unfold special
          have : s[m] = 34 := UInt8.toNat_inj.1 (by simp; omega)
          rw [this]; rfl
        have hc2 : ((s[m].toNat : Int) == 92) = false := by
          rw [beq_eq_false_iff_ne]; intro h; apply hsp; unfold special
          have : s[m] = 92 := UInt8.toNat_inj.1 (by simp; omega)
          rw [this]; rfl
        clear hsp
        go_wp2_with (at_builtin; go_must (refine wpList_append_own _ rfl (.tmp 25) (.tmp 29) 41 rfl w.heap.size 5 i5 (.int .u8 0) 1 1 Tryd.underlying41 HI5.out.1 HI5.out.2.1 HI5.out.2.2.1 HI5.out.2.2.2 rfl (Nat.lt_succ_self 0) (.slice va n vc) (n) _ rfl (own_alloc HQ.out.1 _) ⟨wr.heap.size, 0, none⟩ 1 1 [.int .u8 (s[m].toNat : Int)] rfl rfl (news1 _ _ _) (fun u hu => by rw [List.mem_singleton.1 hu]; rfl) (by unfold maxLen; omega) (by omega) (by have := HQ.out.2.size; simp; omega) ?_; intro v2 w2 ho2 hg2 _; obtain ⟨va2, vc2, rfl⟩ := own_shape' ho2; have HQ2 : Hid (QInv w w2 (.slice va2 (n + 1) vc2) (n + 1) (34 :: (s.data.toList.take (m + 1)).flatMap esc)) := (HTE.out _ _ _).mp (HQ.out.grow (c := s[m]) rfl ho2 hg2); clear ho2 hg2))
        go_roundw
        case rel => exact ⟨m + 1, n + 1, by omega, by go_num, by omega, by omega, HQ2.out⟩
        case measure => simp [intOf]; omega
    · have hms : m = s.size := by omega
      have HTE : Hid (∀ (W : World) v k, QInv w W v k (34 :: (s.data.toList.take m).flatMap esc ++ [34]) ↔ QInv w W v k (quo s.data.toList)) := by
        intro W v k
        rw [List.take_of_length_le (by simp [hms])]
        simp [quo]
      clear hms
      go_wp2_with (at_builtin; go_must (refine wpList_append_own _ rfl (.tmp 31) (.tmp 32) 41 rfl w.heap.size 5 i5 (.int .u8 0) 1 1 Tryd.underlying41 HI5.out.1 HI5.out.2.1 HI5.out.2.2.1 HI5.out.2.2.2 rfl (Nat.lt_succ_self 0) (.slice va n vc) (n) _ rfl (own_alloc HQ.out.1 _) ⟨wr.heap.size, 0, none⟩ 1 1 [.int .u8 34] rfl rfl (news1 _ _ _) (fun u hu => by rw [List.mem_singleton.1 hu]; rfl) (by unfold maxLen; omega) (by omega) (by have := HQ.out.2.size; simp; omega) ?_; intro v1 w1 ho1 hg1 _; obtain ⟨va1, vc1, rfl⟩ := own_shape' ho1; have HQ1 : Hid (QInv w w1 (.slice va1 (n + 1) vc1) (n + 1) (quo s.data.toList)) := (HTE.out _ _ _).mp (HQ.out.grow (c := 34) rfl ho1 hg1); have hcv := own_conv HQ1.out.1 (Nat.succ_pos n); clear ho1 hg1))
      go_ret
      exact ⟨rfl, HQ1.out.2⟩
end Go.Proofs.YtfpjnfhbooehbaaDoor
