import Derived.Test.YthpenliecgpedaaYbm
namespace Go.Proofs.Ythpenliecgpedaa
open Go.RowKit Go.MuLone
set_option linter.unusedSimpArgs false
structure LA (w : World) (l : List LkV) (n : Int) (k : Nat) (tv ov : Value) (wr : World) : Prop where
  rd : Rd wr (fun b => b < wr.heap.size ∧ tv.ownBlock ≠ some b) (dLockS (laK l n k).1) ov
  td : TdG w.heap.size wr (laK l n k).2 tv
  bel : Below w.heap.size w wr
set_option maxRecDepth 100000 in
set_option maxHeartbeats 6400000 in
theorem allS (l : List LkV) (n : Int) (a : Option Addr) (c : Nat) (B : Nat → Prop) (w : World) (hp : LksP l) (hS : Rd w B (dLockS l) (.slice a l.length c)) :
    Calls Try.prog 38 #[.slice a l.length c, .int .i64 n] w fun e w' => ∃ (ra : Option Addr) (rc : Nat) (ta : Option Addr) (tc : Nat), e = .returned (.tuple #[.slice ra (laK l n l.length).1.length rc, .slice ta (laK l n l.length).2.length tc]) ∧ Rd w' (· < w'.heap.size) (dLockS (laK l n l.length).1) (.slice ra (laK l n l.length).1.length rc) ∧ Rd w' (· < w'.heap.size) (dToldS (laK l n l.length).2) (.slice ta (laK l n l.length).2.length tc) ∧ Below w.heap.size w w' := by
  have D0 : Below w.heap.size w (w.alloc (.cells #[] 57)) := below_allocD _ _
  have s0 : (w.alloc (.cells #[] 57)).heap.size = w.heap.size + 1 := size_allocD _ _
  have CO := Lib.hid (lkOwnS l a c B (w.alloc (.cells #[] 57)) (by have := hp.len; omega) (lks_que hp) (hS.later D0))
  have HD0 := Lib.hid (And.intro D0 s0)
  have HP := Lib.hid hp
  have HS : Hid (∀ W, Below w.heap.size w W → Rd W B (dLockS l) (.slice a l.length c)) := fun W h => Rd.later hS h
  have hl6 : l.length ≤ 6 := hp.len
  clear hS hp D0 s0
  go_enter Try.func38, Try.ntmps38
  go_wp2_with fail
  refine CO.out.mono ?_
  rintro e w1 ⟨es, ra, rc, rfl, hes, hT, hB, g, rfl⟩
  have H0 : Hid (LA w l n 0 (.slice (some ⟨w.heap.size, 0, none⟩) 0 0) (.slice (some ⟨g, 0, none⟩) l.length rc) w1) := by
    refine ⟨?_, TdG.start (Nat.le_refl _) ((hB.block w.heap.size (by rw [HD0.out.2]; omega)).trans (heap_newD _ _)), HD0.out.1.trans (hB.mono (by rw [HD0.out.2]; omega))⟩
    have h1 := hT.own.rd'
    rw [hes] at h1
    exact h1.mono (fun b hb => ⟨hb.2, fun e => by
      have e2 : w.heap.size = b := by cases e; rfl
      have h3 := hb.1
      rw [HD0.out.2] at h3; omega⟩)
  clear hes hT hB CO HD0
  go_wp2_with fail
  go_loopw [6, 7, 8] (fun tv ov iv wr => ∃ (k : Nat) (oa : Option Addr) (oc : Nat), k ≤ l.length ∧ iv = .int .i64 k ∧ ov = .slice oa (laK l n k).1.length oc ∧ Hid (LA w l n k tv ov wr)) (fun _ _ iv _ => l.length - (intOf iv).toNat)
  case atStart => exact ⟨0, some ⟨g, 0, none⟩, rc, Nat.zero_le _, rfl, rfl, H0.out⟩
  case round =>
    clear H0
    obtain ⟨k, oa, oc, hk, rfl, rfl, HW⟩ := hrel
    obtain ⟨ta, tc, rfl⟩ := HW.out.td.shape
    by_cases hlt : k < l.length
    case neg =>
      have hki : decide ((k : Int) < (l.length : Int)) = false := by simp; omega
      have hkn : ¬ (k : Int) < (l.length : Int) := by omega
      have hkk : k = l.length := by omega
      subst hkk
      clear hki
      have hki : decide ((l.length : Int) < (l.length : Int)) = false := by simp
      go_wp2_with fail
      go_ret2
      exact ⟨oa, oc, ta, tc, rfl, HW.out.rd.mono (fun _ h => h.1), (HW.out.td.own.rd').mono (fun b hb => (HW.out.td.low hb).2), HW.out.bel⟩
    have hki : (k : Int) < (l.length : Int) := by omega
    have hk0 : (0 : Int) ≤ (k : Int) := by omega
    obtain ⟨b, off, qa, qc, rfl, -, hqr, hc⟩ := lockAt (HS.out _ (Below.refl _ _)) hlt
    have c0 := (hc _ HW.out.bel).1
    have CL := Lib.hid (leaveS (laK l n k).1 n l[k].nm oa oc _ wr (laK_ok HP.out n k hk).1 HW.out.rd)
    have HSU := Lib.hid (laK_succ (n := n) hlt)
    have HLN : Hid ((laK l n k).2.length ≤ 6 ∧ (laK l n (k + 1)).2.length ≤ 6) := ⟨Nat.le_trans (laK_ok HP.out n k hk).2 (by omega), Nat.le_trans (laK_ok HP.out n (k + 1) hlt).2 (by omega)⟩
    clear hqr hc
    generalize l[k].nm = s at *
    go_wp2_with fail
    refine CL.out.mono ?_
    rintro e w2 ⟨es, ra, rc, ma, mc, rfl, hes, hT, hM, hB⟩
    have hT1 : TdG w.heap.size w2 (laK l n k).2 (.slice ta (laK l n k).2.length tc) := HW.out.td.same (fun g hg => hB.block g (HW.out.td.low hg).2)
    obtain ⟨a', c', W2, r2, h2, f2, n2⟩ := hT1.app (leaveT (laK l n k).1 n s) hM (Nat.le_trans HW.out.bel.size hB.size) (by
      have h1 := HLN.out.2
      rw [HSU.out] at h1
      simp only [List.length_append] at h1
      omega)
    have RUN := Lib.hid r2
    have HN : Hid (LA w l n (k + 1) (.slice a' ((laK l n k).2.length + (leaveT (laK l n k).1 n s).length) c') (.slice ra (leaveL (laK l n k).1 n s).length rc) W2) := by
      refine ⟨?_, by rw [HSU.out]; exact h2, below_frm (HW.out.bel.trans (hB.mono HW.out.bel.size)) f2 (fun b hb => (hT1.low hb).1) (Nat.le_refl _)⟩
      have h1 := hT.own.rd'
      rw [hes] at h1
      have h3 := h1.frm f2 (fun b hb hx => by have := (HW.out.td.low hx).2; have := hb.1; omega)
      rw [HSU.out]
      exact h3.mono (fun b hb => ⟨by have := hb.2; have := f2.size; omega, fun e => by
        rcases n2 b e with h4 | h4
        · have := (HW.out.td.low h4).2; have := hb.1; omega
        · have := hb.2; omega⟩)
    have HLL : Hid ((leaveL (laK l n k).1 n s).length = (laK l n (k + 1)).1.length) := by rw [HSU.out]; rfl
    clear hes hT hM hB hT1 r2 h2 f2 n2 CL HW
    go_wp2_with (at_builtin; go_must (refine wpList_appIs rfl (.tmp 34) (.tmp 35) 29 rfl _ _ rfl rfl _ _ RUN.out ?_))
    go_roundw
    case rel => exact ⟨k + 1, ra, rc, by omega, by go_num, by rw [HLL.out], HN.out⟩
    case measure => simp [intOf]; omega
end Go.Proofs.Ythpenliecgpedaa
