import Derived.Test.YtnegmpdllbbnhaaZbp
import Derived.Test.YtnegmpdllbbnhaaZbf
import Derived.Test.YtnegmpdllbbnhaaZar
import Derived.Test.YtnegmpdllbbnhaaZas
namespace Go.Proofs.Ytnegmpdllbbnhaa
open Go.RowKit
set_option linter.unusedSimpArgs false
def UpOwn (w : World) (R : List RowV × Int) (e : Ending) (w' : World) : Prop := ∃ a c, e = .returned (.tuple #[.slice a R.1.length c, .int .i64 R.2]) ∧ Own w' (dRowS R.1) (fun d => w.heap.size ≤ d ∧ d < w'.heap.size) (.slice a R.1.length c) ∧ Below w.heap.size w w'
theorem UpOwn.nil {w w' : World} {R : List RowV × Int} {n : Int} (hR : R = ([], n)) (hB : Below w.heap.size w w') : UpOwn w R (.returned (.tuple #[.slice none 0 0, .int .i64 n])) w' := by
  subst hR; exact ⟨none, 0, rfl, ⟨none, 0, rfl, .inl rfl⟩, hB⟩
structure UpM (w W : World) (T : Tab3) : Prop where
  tb : TabW W T
  lo : ∀ c, T.bl c → w.heap.size ≤ c
  bel : Below w.heap.size w W
theorem UpM.later {w W W' : World} {T : Tab3} (h : UpM w W T) (hB : Below W.heap.size W W') : UpM w W' T := ⟨h.tb.same hB.size (fun c hc => hB.block c (h.tb.lt c hc)), h.lo, h.bel.trans (hB.mono h.bel.size)⟩
theorem UpM.to {w W W' : World} {T T' : Tab3} (h : UpM w W T) (hT : TabW W' T') (hb : ∀ c, T'.bl c → T.bl c ∨ W.heap.size ≤ c) (hF : Frm T.bl W W') : UpM w W' T' :=
  ⟨hT, fun c hc => by rcases hb c hc with h1 | h1; exact h.lo c h1; exact Nat.le_trans h.bel.size h1, ⟨hF.os.trans h.bel.os, hF.tape.trans h.bel.tape, hF.output.trans h.bel.output, Nat.le_trans h.bel.size hF.size, fun b hb' => (hF.block b (Nat.lt_of_lt_of_le hb' h.bel.size) (fun hx => by have := h.lo b hx; omega)).trans (h.bel.block b hb')⟩⟩
theorem UpM.ans {w W : World} {p cap : Nat} {ts : List Rw3} {R : List RowV × Int} {n : Int} (h : UpM w W ⟨p, cap, ts⟩) (hR : R = ((Tab3.mk p cap ts).rows, n)) : UpOwn w R (.returned (.tuple #[.slice (some ⟨p, 0, none⟩) ts.length cap, .int .i64 n])) W := by
  have hl : (Tab3.mk p cap ts).rows.length = ts.length := Tab3.rows_len _
  subst hR
  refine ⟨some ⟨p, 0, none⟩, cap, by rw [hl], ?_, h.bel⟩
  have ho := h.tb.own.mono (B' := fun d => w.heap.size ≤ d ∧ d < W.heap.size) (fun c hc => ⟨h.lo c hc, h.tb.lt c hc⟩)
  rw [hl]
  exact ho
theorem up_le {us : List UpV} (h : (dUpdateS us).le 1048576) {k : Nat} (hk : k < us.length) : (dAtomSS us[k].ocs).le 1048576 ∧ iOK us[k].nid ∧ (dAtomSS us[k].ncs).le 1048576 := by
  have := (Ls_le.1 h).2.2 k hk
  exact ⟨this 2 (by omega), this 3 (by omega), this 4 (by omega)⟩
set_option maxRecDepth 100000 in
set_option maxHeartbeats 12800000 in
theorem auI (l : List RowV) (us : List UpV) (la : Option Addr) (lc : Nat) (A : Nat → Prop) (ua : Option Addr) (uc : Nat) (B : Nat → Prop) (w : World) (hl : (dRowS l).le 1048576) (hu : (dUpdateS us).le 1048576) (rl : Rd w A (dRowS l) (.slice la l.length lc)) (ru : Rd w B (dUpdateS us) (.slice ua us.length uc)) :
    Calls Try.prog 9 #[.slice la l.length lc, .slice ua us.length uc] w (UpOwn w (upR l us)) := by
  generalize hR : upR l us = R
  have HR := Lib.hid hR
  clear hR
  have hll : l.length ≤ 1048576 := (Ls_le.1 hl).2.1
  have hul : us.length ≤ 1048576 := (Ls_le.1 hu).2.1
  by_cases h1 : 4096 < l.length
  · have HV := Lib.hid (HR.out.symm.trans (upR_long (.inl h1)))
    have d1 : decide ((l.length : Int) > 4096) = true := by simp; omega
    have d2 : decide ((4096 : Int) < (l.length : Int)) = true := by simp; omega
    clear h1 rl ru hl hu
    go_enter Try.func9, Try.ntmps9
    go_wp2_with fail
    go_ret2
    exact UpOwn.nil HV.out (Below.refl _ _)
  have d1 : decide ((l.length : Int) > 4096) = false := by simp; omega
  have d2 : decide ((4096 : Int) < (l.length : Int)) = false := by simp; omega
  by_cases h2 : 4096 < us.length
  · have HV := Lib.hid (HR.out.symm.trans (upR_long (.inr h2)))
    have d3 : decide ((us.length : Int) > 4096) = true := by simp; omega
    have d4 : decide ((4096 : Int) < (us.length : Int)) = true := by simp; omega
    clear h1 h2 rl ru hl hu
    go_enter Try.func9, Try.ntmps9
    go_wp2_with fail
    go_ret2
    exact UpOwn.nil HV.out (Below.refl _ _)
  have d3 : decide ((us.length : Int) > 4096) = false := by simp; omega
  have d4 : decide ((4096 : Int) < (us.length : Int)) = false := by simp; omega
  have RI := Lib.hid (risesR l la lc A w (by unfold maxLen; omega) rl)
  have CR : Hid (∀ W, Below w.heap.size w W → Calls Try.prog 29 #[.slice la l.length lc] W _) := fun W h => copyRowsI l la lc A W hl (rl.later h)
  have HL : Hid (∀ W, Below w.heap.size w W → Rd W B (Ls 5 dUpdate us) (.slice ua us.length uc)) := fun W h => Rd.later ru h
  have HLL := Lib.hid hl
  have HUL := Lib.hid hu
  have H12 := Lib.hid (And.intro h1 h2)
  clear hl hu rl ru h1 h2
  by_cases hri : riseIds l
  case neg =>
    have HV := Lib.hid (HR.out.symm.trans (upR_bad H12.out.1 H12.out.2 hri))
    rw [riBR_no hri] at RI
    clear hri
    go_enter Try.func9, Try.ntmps9
    go_wp2_with fail
    refine RI.out.mono ?_
    rintro e w1 ⟨rfl, hB⟩
    have HB1 := Lib.hid hB
    clear hB
    go_wp2_with fail
    go_ret2
    exact UpOwn.nil HV.out HB1.out
  have HRU : Hid (R = upL l us) := HR.out.symm.trans (upR_ok H12.out.1 H12.out.2 hri)
  have HUP : Hid (UpP l (4096 + 0)) := ⟨asc_of hri, le_rows HLL.out, by have := H12.out.1; omega⟩
  rw [riBR_yes hri] at RI
  clear hri HR
  go_enter Try.func9, Try.ntmps9
  go_wp2_with fail
  refine RI.out.mono ?_
  rintro e w1 ⟨rfl, hB⟩
  have HB1 := Lib.hid hB
  clear hB
  go_wp2_with fail
  refine (CR.out _ HB1.out).mono ?_
  rintro e w2 ⟨g, rfl, hown, hrow, hB⟩
  obtain ⟨T0, hv0, hr0, hT0, hb0⟩ := tab_of hown hrow (by unfold maxLen; omega) (fun c hc => hc.2)
  obtain ⟨p0, cap0, ts0⟩ := T0
  have hM0 : UpM w w2 ⟨p0, cap0, ts0⟩ := ⟨hT0, fun c hc => Nat.le_trans HB1.out.size (hb0 c hc).1, HB1.out.trans (hB.mono HB1.out.size)⟩
  have HM0 : Hid (∃ p cap ts, Value.slice (some ⟨w1.heap.size, 0, none⟩) l.length l.length = .slice (some ⟨p, 0, none⟩) ts.length cap ∧ R = upL (Tab3.mk p cap ts).rows (us.drop 0) ∧ UpP (Tab3.mk p cap ts).rows (4096 + 0) ∧ UpM w w2 ⟨p, cap, ts⟩) := ⟨p0, cap0, ts0, hv0.symm, by rw [hr0]; exact HRU.out, by rw [hr0]; exact HUP.out, hM0⟩
  clear hown hrow hB hv0 hr0 hT0 hb0 hM0 p0 cap0 ts0
  go_wp2_with fail
  go_loopw [6, 7, 26] (fun mv cv t wr => ∃ k : Nat, k ≤ us.length ∧ t = .int .i64 k ∧ cv = .int .i64 0 ∧ Hid (∃ p cap ts, mv = .slice (some ⟨p, 0, none⟩) ts.length cap ∧ R = upL (Tab3.mk p cap ts).rows (us.drop k) ∧ UpP (Tab3.mk p cap ts).rows (4096 + k) ∧ UpM w wr ⟨p, cap, ts⟩)) (fun _ _ t _ => us.length - (intOf t).toNat)
  case atStart => exact ⟨0, Nat.zero_le _, rfl, rfl, HM0.out⟩
  case round =>
    obtain ⟨k, hk, rfl, rfl, HW0⟩ := hrel
    obtain ⟨pk, capk, tsk, rfl, hRk, hPk, hMk⟩ := HW0.out
    have HRX := Lib.hid hRk
    have HP := Lib.hid hPk
    have HM := Lib.hid hMk
    clear hRk hPk hMk HW0 HM0
    by_cases hlt : k < us.length
    case neg =>
      have hki : decide ((k : Int) < (us.length : Int)) = false := by simp; omega
      have HE : Hid (R = ((Tab3.mk pk capk tsk).rows, 0)) := by rw [HRX.out, List.drop_of_length_le (by omega)]; rfl
      go_wp2_with fail
      go_ret2
      exact HM.out.ans HE.out
    have hki : (k : Int) < (us.length : Int) := by omega
    obtain ⟨b, off, rfl, -, hc⟩ := (HL.out _ HM.out.bel).things k hlt
    have HCK : Hid (us.drop k = us[k] :: us.drop (k + 1)) := drop_at hlt
    obtain ⟨u0, c0, r0⟩ := hc 0 (by omega)
    obtain rfl : u0 = .int .i64 us[k].uid := r0
    rw [Nat.add_zero] at c0
    obtain ⟨u1, c1, r1⟩ := hc 1 (by omega)
    obtain rfl : u1 = .int .i64 us[k].oid := r1
    obtain ⟨u3, c3, r3⟩ := hc 3 (by omega)
    obtain rfl : u3 = .int .i64 us[k].nid := r3
    obtain ⟨u2, c2, r2⟩ := hc 2 (by omega)
    replace r2 : Rd wr B (dAtomSS us[k].ocs) u2 := r2
    obtain ⟨a2, q2, rfl⟩ := r2.lsSlice
    obtain ⟨u4, c4, r4⟩ := hc 4 (by omega)
    replace r4 : Rd wr B (dAtomSS us[k].ncs) u4 := r4
    obtain ⟨a4, q4, rfl⟩ := r4.lsSlice
    have HCO := Lib.hid (up_le HUL.out hlt)
    have R2 := Lib.hid r2
    have R4 := Lib.hid r4
    have HRC : Hid (R = upL (Tab3.mk pk capk tsk).rows (us[k] :: us.drop (k + 1))) := by rw [← HCK.out]; exact HRX.out
    clear hc r2 r4 HCK
    generalize us[k] = u at *
    obtain ⟨uid, oid, ocs, nid, ncs⟩ := u
    dsimp only at *
    have h70 := heap_newD wr (.cells #[.int .i64 uid, .int .i64 oid, .slice a2 ocs.length q2, .int .i64 nid, .slice a4 ncs.length q4] 53)
    have h71 := heap_newD (wr.alloc (.cells #[.int .i64 uid, .int .i64 oid, .slice a2 ocs.length q2, .int .i64 nid, .slice a4 ncs.length q4] 53)) (.cells #[.int .i64 0, .int .i64 uid, .int .i64 oid, .slice a2 ocs.length q2, .int .i64 nid, .slice a4 ncs.length q4] 55)
    rw [size_allocD] at h71
    have m0 := cell_at (o := 0) h70 rfl
    have m1 := cell_at (o := 1) h70 rfl
    have m2 := cell_at (o := 2) h70 rfl
    have m3 := cell_at (o := 3) h70 rfl
    have m4 := cell_at (o := 4) h70 rfl
    have n0 := cell_at (o := 0) h71 rfl
    have n1 := cell_at (o := 1) h71 rfl
    have n2 := cell_at (o := 2) h71 rfl
    have n3 := cell_at (o := 3) h71 rfl
    have n4 := cell_at (o := 4) h71 rfl
    have n5 := cell_at (o := 5) h71 rfl
    obtain ⟨V, hV⟩ : ∃ V, V = ((wr.alloc (.cells #[.int .i64 uid, .int .i64 oid, .slice a2 ocs.length q2, .int .i64 nid, .slice a4 ncs.length q4] 53)).alloc (.cells #[.int .i64 0, .int .i64 uid, .int .i64 oid, .slice a2 ocs.length q2, .int .i64 nid, .slice a4 ncs.length q4] 55)) := ⟨_, rfl⟩
    have HBV : Hid (Below wr.heap.size wr V) := by show Below _ _ _; rw [hV]; exact (below_allocD _ _).trans ((below_allocD _ _).mono (by simp))
    have HMV := Lib.hid (HM.out.later HBV.out)
    have IT : Hid (Calls Try.prog 30 #[.agg #[.int .i64 0, .int .i64 uid, .int .i64 oid, .slice a2 ocs.length q2, .int .i64 nid, .slice a4 ncs.length q4], .slice (some ⟨pk, 0, none⟩) tsk.length capk, .int .i64 9223372036854775807] V fun e w' => ∃ p' cap' ts', e = .returned (.tuple #[.slice (some ⟨p', 0, none⟩) ts'.length cap', .int .i64 (inC (Tab3.mk pk capk tsk).rows 9223372036854775807 (chU ⟨uid, oid, ocs, nid, ncs⟩)).2]) ∧ TabW w' ⟨p', cap', ts'⟩ ∧ (Tab3.mk p' cap' ts').rows = (inC (Tab3.mk pk capk tsk).rows 9223372036854775807 (chU ⟨uid, oid, ocs, nid, ncs⟩)).1 ∧ (∀ c, (Tab3.mk p' cap' ts').bl c → (Tab3.mk pk capk tsk).bl c ∨ V.heap.size ≤ c) ∧ Frm (Tab3.mk pk capk tsk).bl V w') := by
      have hlen : (Tab3.mk pk capk tsk).rows.length = tsk.length := Tab3.rows_len _
      have h1 := intoI 0 uid oid nid 9223372036854775807 ocs ncs a2 q2 a4 q4 pk capk tsk B V HMV.out.tb HP.out.1 (HP.out.le (by have := H12.out.2; omega)) (fun _ => by have h3 := HP.out.2.2; have h4 := H12.out.2; omega) HCO.out.1 HCO.out.2.2 (R2.out.later HBV.out) (R4.out.later HBV.out)
      refine h1.mono ?_
      rintro e w' ⟨T', he, h2, h3, h4, h5, -⟩
      obtain ⟨p', cap', ts'⟩ := T'
      exact ⟨p', cap', ts', he, h2, h3, h4, h5⟩
    have HV := Lib.hid hV
    have HPN : Hid (UpP (inC (Tab3.mk pk capk tsk).rows 9223372036854775807 (chU ⟨uid, oid, ocs, nid, ncs⟩)).1 (4096 + (k + 1))) := HP.out.go ⟨HCO.out.2.1, HCO.out.2.2⟩ _
    have HUC := Lib.hid (upL_cons (Tab3.mk pk capk tsk).rows ⟨uid, oid, ocs, nid, ncs⟩ (us.drop (k + 1)))
    clear h70 h71 hV
    generalize hIR : inC (Tab3.mk pk capk tsk).rows 9223372036854775807 (chU ⟨uid, oid, ocs, nid, ncs⟩) = IR at *
    clear hIR
    go_wp2_with fail
    rw [← HV.out]
    with_reducible refine IT.out.mono ?_
    rintro e w3 ⟨p', cap', ts', rfl, hT3, hr3, hb3, hF3⟩
    have HM3 := Lib.hid (HMV.out.to hT3 hb3 hF3)
    have HR3 := Lib.hid hr3
    clear hT3 hr3 hb3 hF3 c0 c1 c2 c3 c4 m0 m1 m2 m3 m4 n0 n1 n2 n3 n4 n5 IT
    by_cases hz : IR.2 = 0
    case pos =>
      have HRN : Hid (R = upL (Tab3.mk p' cap' ts').rows (us.drop (k + 1))) := by
        show R = _
        rw [HRC.out, HUC.out, if_pos hz, HR3.out]
      have HPM : Hid (UpP (Tab3.mk p' cap' ts').rows (4096 + (k + 1))) := by show UpP _ _; rw [HR3.out]; exact HPN.out
      rw [hz]
      clear hz
      go_wp2_with fail
      go_roundw
      case rel => exact ⟨k + 1, by omega, by go_num, rfl, p', cap', ts', rfl, HRN.out, HPM.out, HM3.out⟩
      case measure => simp [intOf] <;> omega
    have HE : Hid (R = ((Tab3.mk p' cap' ts').rows, IR.2)) := by
      show R = _
      rw [HRC.out, HUC.out, if_neg hz, HR3.out]
    have hzn : (IR.2 != 0) = true := by simpa using hz
    clear hz
    generalize IR.2 = cd at *
    go_wp2_with fail
    go_ret2
    exact HM3.out.ans HE.out
end Go.Proofs.Ytnegmpdllbbnhaa
