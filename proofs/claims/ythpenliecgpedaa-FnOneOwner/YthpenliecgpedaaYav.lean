import Derived.Test.YthpenliecgpedaaYau
namespace Go.Proofs.Ythpenliecgpedaa
open Go.RowKit
set_option linter.unusedSimpArgs false
noncomputable def obC (l : List LkV) (n : Int) : Int := askC l n xN
noncomputable def obR (l : List LkV) (n : Int) : List (List UInt8) := if obC l n = 0 then ownN l n else []
theorem ask_zero {l : List LkV} {n : Int} {s : List UInt8} (h : askC l n s = 0) : LksP l ∧ sesB n = true ∧ nameB s = true := by
  unfold askC askK at h
  by_cases h1 : (decide (4096 < l.length) || decide (65536 < s.length)) = true
  · rw [if_pos h1] at h; omega
  rw [if_neg h1] at h
  by_cases h2 : lksB l = true
  · rw [if_pos h2] at h
    by_cases h3 : (sesB n && nameB s) = true
    · rw [Bool.and_eq_true] at h3; exact ⟨lks_of h2, h3⟩
    · rw [if_neg h3] at h; omega
  · rw [if_neg h2] at h; omega
theorem ask_long {l : List LkV} {n : Int} {s : List UInt8} (h : 4096 < l.length) : askC l n s = 2 := by unfold askC askK; rw [decide_eq_true h]; rfl
theorem ask_none {l : List LkV} {n : Int} (s : List UInt8) : askK (decide (4096 < l.length) || longM 0 s) (lksB l) (sesB n) (nameM 0 s) = obC l n := by
  unfold obC askC
  rw [name_x]
  rfl
theorem nmB_len {t : List UInt8} (h : nameB t = true) : t.length ≤ 40 := by
  by_cases h1 : 40 < t.length
  · have := name_size (s := ⟨t.toArray⟩) (.inr (by show 40 < t.toArray.size; simpa using h1))
    have e : (⟨t.toArray⟩ : ByteArray).data.toList = t := by simp
    rw [e, h] at this; cases this
  · omega
theorem sumN_cst (c : Nat) : ∀ n : Nat, sumN n (fun _ => c) = n * c
  | 0 => by simp [sumN]
  | n + 1 => by rw [sumN_succ, sumN_cst c n, Nat.succ_mul]
set_option maxRecDepth 100000 in
set_option maxHeartbeats 3200000 in
theorem ownedByI (l : List LkV) (n : Int) (a : Option Addr) (c : Nat) (B : Nat → Prop) (w : World) (ho : (dLockS l).le maxLen) (hS : Rd w B (dLockS l) (.slice a l.length c)) :
    Calls Try.prog 17 #[.slice a l.length c, .int .i64 n] w fun e w' => ∃ (ra : Option Addr) (rc : Nat), e = .returned (.tuple #[.slice ra (obR l n).length rc, .int .i64 (obC l n)]) ∧ Own w' (dStringS (obR l n)) (fun c => w.heap.size ≤ c ∧ c < w'.heap.size) (.slice ra (obR l n).length rc) ∧ Below w.heap.size w w' := by
  have hl : l.length ≤ maxLen := (Ls_le.1 ho).2.1
  unfold maxLen at hl
  have CA : Hid (Calls Try.prog 23 #[.slice a l.length c, .int .i64 n, .slice none 0 0] w fun e w' => e = .returned (.int .i64 (obC l n)) ∧ Below w.heap.size w w') := by
    have h1 := askI l n [] a c none 0 0 B w ho (by unfold maxLen; decide) hS (.inl rfl)
    rw [ask_none] at h1
    exact h1
  have HNO : Hid (¬ obC l n = 0 → obR l n = []) := fun h => by unfold obR; rw [if_neg h]
  by_cases h0 : obC l n = 0
  case neg =>
    have HR : Hid (obR l n = []) := HNO.out h0
    rw [HR.out]
    have hne : (obC l n != 0) = true := by simpa using h0
    clear hS ho h0 HNO
    generalize obC l n = r at *
    go_enter Try.func17, Try.ntmps17
    go_wp2_with (go_at_call 23; refine CA.out.mono ?_; rintro e w1 ⟨rfl, hB⟩)
    go_ret2
    exact ⟨none, 0, rfl, (StG.nil w.heap.size w1).own, hB⟩
  have hp := (ask_zero h0).1
  have HQ : Hid (∀ k (h : k < l.length), 0 < l[k].qu.length) := fun k hk => by have := (hp.que k hk).len; omega
  have HL : Hid (l.length ≤ 6) := hp.len
  have HR : Hid (obR l n = ownN l n) := by show _ = _; unfold obR; rw [if_pos h0]
  have HS : Hid (∀ W, Below w.heap.size w W → Rd W B (dLockS l) (.slice a l.length c)) := fun W h => Rd.later hS h
  rw [HR.out]
  rw [h0] at CA ⊢
  clear hS ho h0 HNO HR hp
  go_enter Try.func17, Try.ntmps17
  go_wp2_with (go_at_call 23; refine CA.out.mono ?_; rintro e w1 ⟨rfl, hB⟩)
  have HB1 := Lib.hid hB
  clear hB CA
  go_loopw [7, 18] (fun v iv wr => ∃ k : Nat, k ≤ l.length ∧ iv = .int .i64 k ∧ Hid (Below w.heap.size w wr ∧ StG w.heap.size wr (ownN (l.take k) n) v)) (fun _ iv _ => l.length - (intOf iv).toNat)
  case atStart => exact ⟨0, Nat.zero_le _, rfl, HB1.out, StG.nil _ _⟩
  case round =>
    clear HB1
    obtain ⟨k, hk, rfl, HW⟩ := hrel
    obtain ⟨va, vc, rfl⟩ := HW.out.2.shape
    by_cases hlt : k < l.length
    case neg =>
      have hki : decide ((k : Int) < (l.length : Int)) = false := by simp; omega
      have HF : Hid (StG w.heap.size wr (ownN l n) (.slice va (ownN l n).length vc)) := by
        have h1 := HW.out.2
        rw [List.take_of_length_le (by omega)] at h1
        exact h1
      have HE : Hid (ownN (l.take k) n = ownN l n) := by show _ = _; rw [List.take_of_length_le (by omega)]
      have HB : Hid (Below w.heap.size w wr) := HW.out.1
      rw [HE.out]
      clear HW HE
      go_wp2_with fail
      go_ret2
      exact ⟨va, vc, rfl, HF.out.own, HB.out⟩
    have hki : (k : Int) < (l.length : Int) := by omega
    obtain ⟨b, off, qa, qc, rfl, -, hqr, hc⟩ := lockAt (HS.out _ HW.out.1) hlt
    have hq0 : 0 < l[k].qu.length := HQ.out k hlt
    obtain ⟨g, o, rfl, -, hcq⟩ := intAt hqr hq0
    have c0 := (hc _ (Below.refl _ _)).1
    have c1 := (hc _ (Below.refl _ _)).2
    have HBA : Hid (Below wr.heap.size wr (wr.alloc (.cells #[.string ⟨l[k].nm.toArray⟩, .slice (some ⟨g, o, none⟩) l[k].qu.length qc] 54))) := below_allocD _ _
    have y0 := cell_at (o := 0) (heap_newD wr (.cells #[.string ⟨l[k].nm.toArray⟩, .slice (some ⟨g, o, none⟩) l[k].qu.length qc] 54)) rfl
    have y1 := cell_at (o := 1) (heap_newD wr (.cells #[.string ⟨l[k].nm.toArray⟩, .slice (some ⟨g, o, none⟩) l[k].qu.length qc] 54)) rfl
    have e0 := hcq 0 hq0 _ HBA.out
    rw [Nat.add_zero] at e0
    have hq0i : (0 : Int) < (l[k].qu.length : Int) := by omega
    have HT := Lib.hid (ownN_take hlt n)
    have HHD := Lib.hid (head_at hq0)
    clear hc hcq hqr
    generalize l[k].qu[0] = h0 at *
    by_cases he : h0 = n
    case neg =>
      have hne : (h0 == n) = false := by simpa using he
      have HN : Hid (Below w.heap.size w (wr.alloc (.cells #[.string ⟨l[k].nm.toArray⟩, .slice (some ⟨g, o, none⟩) l[k].qu.length qc] 54)) ∧ StG w.heap.size (wr.alloc (.cells #[.string ⟨l[k].nm.toArray⟩, .slice (some ⟨g, o, none⟩) l[k].qu.length qc] 54)) (ownN (l.take (k + 1)) n) (.slice va (ownN (l.take k) n).length vc)) := by
        rw [HT.out, HHD.out, if_neg he, List.append_nil]; exact ⟨HW.out.1.trans (HBA.out.mono HW.out.1.size), HW.out.2.later HBA.out⟩
      clear he HT HHD HW HBA
      generalize (ownN (l.take k) n).length = m at *
      generalize l[k] = x at *
      go_wp2_with fail
      go_roundw
      case rel => exact ⟨k + 1, by omega, by go_num, HN.out⟩
      case measure => simp [intOf]; omega
    have hne : (h0 == n) = true := by simpa using he
    have HB2 : Hid (Below wr.heap.size wr ((wr.alloc (.cells #[.string ⟨l[k].nm.toArray⟩, .slice (some ⟨g, o, none⟩) l[k].qu.length qc] 54)).alloc (.cells #[.string ⟨l[k].nm.toArray⟩] 9))) := HBA.out.trans ((below_allocD _ _).mono HBA.out.size)
    obtain ⟨a', c', W4, hr, hst, -, hB4, hz4⟩ := HW.out.2.push HB2.out l[k].nm ⟨wr.heap.size + 1, 0, none⟩ 1 (by
      have h1 := cell_at (o := 0) (heap_newD (wr.alloc (.cells #[.string ⟨l[k].nm.toArray⟩, .slice (some ⟨g, o, none⟩) l[k].qu.length qc] 54)) (.cells #[.string ⟨l[k].nm.toArray⟩] 9)) rfl
      rw [size_allocD] at h1
      exact h1) HW.out.1.size (by have h1 := ownN_len (l.take k) n; have h2 := HL.out; rw [List.length_take] at h1; omega)
    have RUN := Lib.hid hr
    have HN : Hid (Below w.heap.size w W4 ∧ StG w.heap.size W4 (ownN (l.take (k + 1)) n) (.slice a' ((ownN (l.take k) n).length + 1) c')) := by
      rw [HT.out, HHD.out, if_pos he]; exact ⟨HW.out.1.trans hB4, hst⟩
    clear he HT HHD HW hr hst hB4 hz4 HB2 HBA
    generalize (ownN (l.take k) n).length = m at *
    generalize l[k] = x at *
    go_wp2_with (at_builtin; go_must (refine wpList_appIs rfl (.tmp 28) (.tmp 31) 35 rfl _ _ rfl rfl _ _ RUN.out ?_))
    go_roundw
    case rel => exact ⟨k + 1, by omega, by go_num, HN.out⟩
    case measure => simp [intOf]; omega
end Go.Proofs.Ythpenliecgpedaa
