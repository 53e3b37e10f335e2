import Derived.Test.YtodgijhpokjjhaaDoorZbf
namespace Go.Proofs.YtodgijhpokjjhaaDoor
open Go.RowKit
set_option linter.unusedSimpArgs false
structure QI (w : World) (v : Value) (B : Nat) (W : World) (vo : Value) (l : List UInt8) : Prop where
  buf : Buf W B vo l
  app : App w v W vo
  le : B ≤ W.heap.size
theorem QI.push {w W w1 : World} {v vo v1 : Value} {B : Nat} {l : List UInt8} {l' : List UInt8} {o : Obj} (h : QI w v B W vo l) (hb : Buf w1 B v1 l') (ha : App (W.alloc o) vo w1 v1) : QI w v B w1 v1 l' :=
  ⟨hb, h.app.trans (((App.refl _ _).alloc _).trans ha), by have h1 := ha.size; have h2 := h.le; simp at h1; omega⟩
theorem QI.cast {w W : World} {v vo : Value} {B : Nat} {l l' : List UInt8} (h : QI w v B W vo l) (e : l = l') : QI w v B W vo l' := by rw [← e]; exact h
theorem esc_take_len (s : ByteArray) (m : Nat) (hm : m ≤ s.size) : ((s.data.toList.take m).flatMap esc).length ≤ 2 * s.size := by
  have h1 := esc_len (s.data.toList.take m)
  have h2 : (s.data.toList.take m).length ≤ m := List.length_take_le _ _
  omega
set_option maxRecDepth 100000 in
set_option maxHeartbeats 3200000 in
theorem appQ (s : ByteArray) (B : Nat) (v : Value) (bs : List UInt8) (w : World) (hs : s.size ≤ 1048576) (hb : Buf w B v bs) (hB : B ≤ w.heap.size) (hl : bs.length ≤ 900000000000) :
    Calls Tryd.prog 17 #[v, .string s] w fun e w' => ∃ v', e = .returned v' ∧ Buf w' B v' (bs ++ quo s.data.toList) ∧ App w v w' v' := by
  have HB : Hid (Buf w B v bs ∧ bs.length ≤ 900000000000) := ⟨hb, hl⟩
  have HL : Hid (∀ m, m ≤ s.size → (bs ++ 34 :: (s.data.toList.take m).flatMap esc).length + 2 ≤ 70368744177664) := fun m hm => by
    have := esc_take_len s m hm
    simp only [List.length_append, List.length_cons]
    omega
  clear hb hl
  go_enter Tryd.func17, Tryd.ntmps17
  go_wp2_with (at_builtin; go_must (refine wpList_push rfl (.tmp 6) (.tmp 7) rfl B v bs 34 w.heap.size rfl rfl (HB.out.1.alloc _) (by simp; omega) (by have := HB.out.2; omega) (cell_at (o := 0) (heap_new0 _ _) rfl) ?_; intro v0 w0 hb0 ha0; have H0 : Hid (QI w v B w0 v0 (bs ++ [34])) := QI.push ⟨HB.out.1, App.refl _ _, hB⟩ hb0 ha0; clear hb0 ha0))
  go_loopw [0, 11] (fun o i wr => ∃ m : Nat, ∃ vo, m ≤ s.size ∧ i = .int .i64 m ∧ vo = o ∧ Hid (QI w v B wr vo (bs ++ 34 :: (s.data.toList.take m).flatMap esc))) (fun _ i _ => s.size - (intOf i).toNat)
  case atStart => exact ⟨0, v0, Nat.zero_le _, rfl, rfl, by show QI _ _ _ _ _ _; exact H0.out.cast (by simp)⟩
  case round =>
    obtain ⟨m, vo, hm, rfl, rfl, HQ⟩ := hrel
    have hlm := HL.out m hm
    have HLM : Hid ((bs ++ 34 :: (s.data.toList.take m).flatMap esc).length + 2 ≤ 70368744177664) := hlm
    clear hlm
    by_cases hlt : m < s.size
    · have HT : Hid ((s.data.toList.take (m + 1)).flatMap esc = (s.data.toList.take m).flatMap esc ++ esc s[m]) := take_flat m hlt
      by_cases hsp : special s[m] = true
      · have HE : Hid (bs ++ 34 :: (s.data.toList.take m).flatMap esc ++ [92] ++ [s[m]] = bs ++ 34 :: (s.data.toList.take (m + 1)).flatMap esc) := by
          show _ = _
          have he : esc s[m] = [92, s[m]] := by unfold esc; rw [if_pos hsp]
          rw [HT.out, he]; simp
        have hc : ((s[m].toNat : Int) = 34) ∨ ((s[m].toNat : Int) = 92) := by
          unfold special at hsp
          rcases Bool.or_eq_true_iff.1 hsp with h | h <;> (have := beq_iff_eq.1 h; rw [this]; simp)
        clear hsp
        rcases hc with hc | hc
        · have HC : Hid (34 = (s[m].toNat : Int)) := hc.symm
          go_wp2_with (at_builtin; go_must (first
            | (refine wpList_push rfl (.tmp 24) (.tmp 25) rfl B vo (bs ++ 34 :: (s.data.toList.take m).flatMap esc) 92 wr.heap.size rfl rfl (HQ.out.buf.alloc _) (by have := HQ.out.le; simp; omega) (by have := HLM.out; omega) (cell_at (o := 0) (heap_new0 _ _) rfl) ?_; intro v1 w1 hb1 ha1; have HQ1 : Hid (QI w v B w1 v1 _) := HQ.out.push hb1 ha1; clear hb1 ha1)
            | (refine wpList_push rfl (.tmp 27) (.tmp 31) rfl B v1 (bs ++ 34 :: (s.data.toList.take m).flatMap esc ++ [92]) s[m] w1.heap.size rfl rfl (HQ1.out.buf.alloc _) (by have := HQ1.out.le; simp; omega) (by have := HLM.out; rw [List.length_append]; simp only [List.length_singleton]; omega) (by rw [← HC.out]; exact cell_at (o := 0) (heap_new0 _ _) rfl) ?_; intro v2 w2 hb2 ha2; have HQ2 : Hid (QI w v B w2 v2 _) := (HQ1.out.push hb2 ha2).cast HE.out; clear hb2 ha2)))
          go_roundw
          case rel => exact ⟨m + 1, v2, by omega, by go_num, rfl, HQ2.out⟩
          case measure => simp [intOf]; omega
        · have HC : Hid (92 = (s[m].toNat : Int)) := hc.symm
          go_wp2_with (at_builtin; go_must (first
            | (refine wpList_push rfl (.tmp 24) (.tmp 25) rfl B vo (bs ++ 34 :: (s.data.toList.take m).flatMap esc) 92 wr.heap.size rfl rfl (HQ.out.buf.alloc _) (by have := HQ.out.le; simp; omega) (by have := HLM.out; omega) (cell_at (o := 0) (heap_new0 _ _) rfl) ?_; intro v1 w1 hb1 ha1; have HQ1 : Hid (QI w v B w1 v1 _) := HQ.out.push hb1 ha1; clear hb1 ha1)
            | (refine wpList_push rfl (.tmp 27) (.tmp 31) rfl B v1 (bs ++ 34 :: (s.data.toList.take m).flatMap esc ++ [92]) s[m] w1.heap.size rfl rfl (HQ1.out.buf.alloc _) (by have := HQ1.out.le; simp; omega) (by have := HLM.out; rw [List.length_append]; simp only [List.length_singleton]; omega) (by rw [← HC.out]; exact cell_at (o := 0) (heap_new0 _ _) rfl) ?_; intro v2 w2 hb2 ha2; have HQ2 : Hid (QI w v B w2 v2 _) := (HQ1.out.push hb2 ha2).cast HE.out; clear hb2 ha2)))
          go_roundw
          case rel => exact ⟨m + 1, v2, by omega, by go_num, rfl, HQ2.out⟩
          case measure => simp [intOf]; omega
      · have HE : Hid (bs ++ 34 :: (s.data.toList.take m).flatMap esc ++ [s[m]] = bs ++ 34 :: (s.data.toList.take (m + 1)).flatMap esc) := by
          show _ = _
          have he : esc s[m] = [s[m]] := by unfold esc; rw [if_neg hsp]
          rw [HT.out, he]; simp
        have hc1 : ((s[m].toNat : Int) == 34) = false := by
          rw [beq_eq_false_iff_ne]; intro h; apply hsp; unfold special
          have : s[m] = 34 := UInt8.toNat_inj.1 (by simp; omega)
          rw [this]; rfl
        have hc2 : ((s[m].toNat : Int) == 92) = false := by
          rw [beq_eq_false_iff_ne]; intro h; apply hsp; unfold special
          have : s[m] = 92 := UInt8.toNat_inj.1 (by simp; omega)
          rw [this]; rfl
        clear hsp
        go_wp2_with (at_builtin; go_must (refine wpList_push rfl (.tmp 27) (.tmp 31) rfl B vo (bs ++ 34 :: (s.data.toList.take m).flatMap esc) s[m] wr.heap.size rfl rfl (HQ.out.buf.alloc _) (by have := HQ.out.le; simp; omega) (by have := HLM.out; omega) (cell_at (o := 0) (heap_new0 _ _) rfl) ?_; intro v2 w2 hb2 ha2; have HQ2 : Hid (QI w v B w2 v2 _) := (HQ.out.push hb2 ha2).cast HE.out; clear hb2 ha2))
        go_roundw
        case rel => exact ⟨m + 1, v2, by omega, by go_num, rfl, HQ2.out⟩
        case measure => simp [intOf]; omega
    · have HE : Hid (bs ++ 34 :: (s.data.toList.take m).flatMap esc ++ [34] = bs ++ quo s.data.toList) := by
        show _ = _
        rw [List.take_of_length_le (by simp; omega)]
        simp [quo]
      go_wp2_with (at_builtin; go_must (refine wpList_push rfl (.tmp 34) (.tmp 35) rfl B vo (bs ++ 34 :: (s.data.toList.take m).flatMap esc) 34 wr.heap.size rfl rfl (HQ.out.buf.alloc _) (by have := HQ.out.le; simp; omega) (by have := HLM.out; omega) (cell_at (o := 0) (heap_new0 _ _) rfl) ?_; intro v2 w2 hb2 ha2; have HQ2 : Hid (QI w v B w2 v2 _) := (HQ.out.push hb2 ha2).cast HE.out; clear hb2 ha2))
      go_ret
      exact ⟨v2, rfl, HQ2.out.buf, HQ2.out.app⟩
end Go.Proofs.YtodgijhpokjjhaaDoor
