import Derived.Test.YtdhlndpobpdfmaaYbc
import Derived.Deep.CutRange
import Derived.Test.YtdhlndpobpdfmaaYTk
namespace Go.Proofs.Ytdhlndpobpdfmaa
open Go.RowKit
set_option linter.unusedSimpArgs false
set_option maxRecDepth 100000 in
set_option maxHeartbeats 25600000 in
theorem apK (x : StV) (list : List ChV) (xa0 : Option Addr) (xc0 : Nat) (A : Nat → Prop) (la : Option Addr) (lc : Nat) (B : Nat → Prop) (w : World) (hx : ApP x) (hl : (dChangeS list).le 1048576) (rx : Rd w A (dRowSS x.tables) (.slice xa0 x.tables.length xc0)) (rl : Rd w B (dChangeS list) (.slice la list.length lc)) :
    Calls Try.prog 21 #[.agg #[.slice xa0 x.tables.length xc0, .int .i64 x.next], .slice la list.length lc, .bool true] w (ApAns w (apL x (list.reverse.map swapC))) := by
  generalize hR : apL x (list.reverse.map swapC) = R
  have HR := Lib.hid hR
  clear hR
  have hll : list.length ≤ 1048576 := (Ls_le.1 hl).2.1
  have HL : Hid (Rd w B (Ls 6 dChange list) (.slice la list.length lc)) := rl
  have HLO : Hid (∀ k (h : k < list.length) j, j < 6 → (dChange list[k] j).le 1048576) := (Ls_le.1 hl).2.2
  have HXP := Lib.hid hx
  have OS : Hid (∀ W, Below w.heap.size w W → Calls Try.prog 36 #[.agg #[.slice xa0 x.tables.length xc0, .int .i64 x.next]] W _) := fun W h => ownS x xa0 xc0 A W hx.2 (rx.later h)
  have hb : ApB w ((w.alloc (.cells #[.slice xa0 x.tables.length xc0, .int .i64 x.next] 30)).alloc (.cells #[.slice none 0 0, .int .i64 0] 30)) x xa0 xc0 ∨ True := .inr trivial
  clear hb
  have h0 := heap_keptD (heap_newD w (.cells #[.slice xa0 x.tables.length xc0, .int .i64 x.next] 30)) (below_allocD (w.alloc (.cells #[.slice xa0 x.tables.length xc0, .int .i64 x.next] 30)) (.cells #[.slice none 0 0, .int .i64 0] 30))
  have h1 : ((w.alloc (.cells #[.slice xa0 x.tables.length xc0, .int .i64 x.next] 30)).alloc (.cells #[.slice none 0 0, .int .i64 0] 30)).heap[w.heap.size + 1]? = some (.cells #[.slice none 0 0, .int .i64 0] 30) := by
    have h := heap_newD (w.alloc (.cells #[.slice xa0 x.tables.length xc0, .int .i64 x.next] 30)) (.cells #[.slice none 0 0, .int .i64 0] 30)
    rw [size_allocD] at h
    exact h
  have hB0 : Below w.heap.size w ((w.alloc (.cells #[.slice xa0 x.tables.length xc0, .int .i64 x.next] 30)).alloc (.cells #[.slice none 0 0, .int .i64 0] 30)) := (below_allocD _ _).trans ((below_allocD _ _).mono (by simp))
  have H0 := Lib.hid (And.intro h0 (And.intro h1 hB0))
  have x0 := cell_at (o := 0) h0 rfl
  have x1 := cell_at (o := 1) h0 rfl
  clear hl rl rx hx h0 h1 hB0
  go_enter Try.func21, Try.ntmps21
  go_wp2_with fail
  refine (OS.out _ H0.out.2.2).mono ?_
  rintro e w1 ⟨oa, oc, rfl, hsq, hB⟩
  have hbx := heap_keptD H0.out.1 hB
  have H1 : Hid (ApB w ((w1.setCell ⟨w.heap.size, 0, none⟩ (.slice oa x.tables.length oc)).setCell ⟨w.heap.size, 1, none⟩ (.int .i64 x.next)) x oa oc) := by
    have hsz : ((w.alloc (.cells #[.slice xa0 x.tables.length xc0, .int .i64 x.next] 30)).alloc (.cells #[.slice none 0 0, .int .i64 0] 30)).heap.size = w.heap.size + 1 + 1 := by simp
    have hr : Rd w1 _ (dRowSS x.tables) (.slice oa x.tables.length oc) := hsq.rd (by omega) (fun g hg => (hsq.low hg).1)
    refine ⟨by rw [heap_set 1 _ (heap_set 0 _ hbx)]; rfl, ?_, ?_, ((H0.out.2.2.trans (hB.mono H0.out.2.2.size)).setCell (Nat.le_refl _) _).setCell (Nat.le_refl _) _⟩
    · rw [Below.heap_setCell _ _ _ _ (by show w.heap.size + 1 ≠ w.heap.size; omega), Below.heap_setCell _ _ _ _ (by show w.heap.size + 1 ≠ w.heap.size; omega)]; exact heap_keptD H0.out.2.1 hB
    · exact (hr.frm (F := (· = w.heap.size)) ((frm_set _ _ _ _).trans (frm_set _ _ _ _)) (fun d hd e => by have h3 := hd.1; rw [hsz] at h3; have e2 : d = w.heap.size := e; omega)).mono (fun d hd => by have h3 := hd.1; rw [hsz] at h3; omega)
  clear x0 x1
  have x0 := cell_at (o := 0) hbx rfl
  have x1 := cell_at (o := 1) hbx rfl
  have f0 := frozen_at 0 hbx
  have f1 := frozen_at 1 hbx
  clear hsq hB hbx
  go_wp2_with fail
  clear x0 x1 f0 f1
  go_loopw [8] (fun i wr => ∃ k : Nat, k ≤ list.length ∧ i = .int .i64 k ∧ Hid (∃ (X : StV) (xa : Option Addr) (xc : Nat), R = apL X ((list.reverse.map swapC).drop k) ∧ ApP X ∧ ApB w wr X xa xc)) (fun i _ => list.length - (intOf i).toNat)
  case atStart => exact ⟨0, Nat.zero_le _, rfl, x, oa, oc, HR.out.symm, HXP.out, H1.out⟩
  case round =>
    obtain ⟨k, hk, rfl, HW0⟩ := hrel
    obtain ⟨X, xa, xc, hRX, hXP, hAB⟩ := HW0.out
    have HRX := Lib.hid hRX
    have HP := Lib.hid hXP
    have HW := Lib.hid hAB
    clear hRX hXP hAB HW0
    by_cases hlt : k < list.length
    case neg =>
      have hki : decide ((k : Int) < (list.length : Int)) = false := by simp; omega
      have HE : Hid (R = (X, 0)) := by rw [HRX.out, List.drop_of_length_le (by simp; omega)]; rfl
      have z0 := cell_at (o := 0) HW.out.rv rfl
      have g0 := frozen_at 0 HW.out.rv
      have x0 := cell_at (o := 0) HW.out.bx rfl
      have z1 := cell_at (o := 1) HW.out.rv rfl
      have g1 := frozen_at 1 HW.out.rv
      have x1 := cell_at (o := 1) HW.out.bx rfl
      go_wp2_with fail
      refine bodyPost_ret (v := .tuple #[.agg #[.slice xa X.tables.length xc, .int .i64 X.next], .int .i64 0]) (by simp [results, Try.results21, go_sem, *]) rfl ?_
      exact HW.out.ans HE.out _ _
    have hki : (k : Int) < (list.length : Int) := by omega
    obtain ⟨b, off, rfl, -, hc⟩ := HL.out.things k hlt
    obtain ⟨m, hm⟩ : ∃ m : Nat, m = list.length - 1 - k := ⟨_, rfl⟩
    have hml : m < list.length := by omega
    have hmi : (m : Int) < (list.length : Int) := by omega
    have hm1 : IntKind.i64.wrap ((list.length : Int) - 1) = (list.length : Int) - 1 := by rw [IntKind.wrap_i64]; omega
    have hm2 : IntKind.i64.wrap ((list.length : Int) - 1 - (k : Int)) = (m : Int) := by rw [IntKind.wrap_i64]; omega
    have HCK : Hid ((list.reverse.map swapC).drop k = swapC list[m] :: (list.reverse.map swapC).drop (k + 1)) := by
      have hkl : k < (list.reverse.map swapC).length := by simp; omega
      have e : (list.reverse.map swapC)[k] = swapC list[m] := by simp [List.getElem_reverse, hm]
      show _ = _; rw [drop_at hkl, e]
    clear hm
    obtain ⟨u0, c0, r0⟩ := hc 0 (by omega)
    obtain rfl : u0 = .int .i64 list[k].tab := r0
    rw [Nat.add_zero] at c0
    obtain ⟨u1, c1, r1⟩ := hc 1 (by omega)
    obtain rfl : u1 = .int .i64 list[k].cid := r1
    obtain ⟨u2, c2, r2⟩ := hc 2 (by omega)
    obtain rfl : u2 = .int .i64 list[k].oid := r2
    obtain ⟨u4, c4, r4⟩ := hc 4 (by omega)
    obtain rfl : u4 = .int .i64 list[k].nid := r4
    obtain ⟨u3, c3, r3⟩ := hc 3 (by omega)
    replace r3 : Rd w B (dAtomSS list[k].ocs) u3 := r3
    obtain ⟨ka3, kq3, rfl⟩ := r3.lsSlice
    obtain ⟨u5, c5, r5⟩ := hc 5 (by omega)
    replace r5 : Rd w B (dAtomSS list[k].ncs) u5 := r5
    obtain ⟨ka5, kq5, rfl⟩ := r5.lsSlice
    have HKK : Hid (∀ W, Below w.heap.size w W → W.cell? ⟨b, off + k * 6, none⟩ = some (.int .i64 list[k].tab) ∧ W.cell? ⟨b, off + k * 6 + 1, none⟩ = some (.int .i64 list[k].cid) ∧ W.cell? ⟨b, off + k * 6 + 2, none⟩ = some (.int .i64 list[k].oid) ∧ W.cell? ⟨b, off + k * 6 + 3, none⟩ = some (.slice ka3 list[k].ocs.length kq3) ∧ W.cell? ⟨b, off + k * 6 + 4, none⟩ = some (.int .i64 list[k].nid) ∧ W.cell? ⟨b, off + k * 6 + 5, none⟩ = some (.slice ka5 list[k].ncs.length kq5)) := fun W h => ⟨(h.cell (p := ⟨b, off + k * 6, none⟩) (World.block_lt_of_cell? _ _ c0)).trans c0, (h.cell (p := ⟨b, off + k * 6 + 1, none⟩) (World.block_lt_of_cell? _ _ c1)).trans c1, (h.cell (p := ⟨b, off + k * 6 + 2, none⟩) (World.block_lt_of_cell? _ _ c2)).trans c2, (h.cell (p := ⟨b, off + k * 6 + 3, none⟩) (World.block_lt_of_cell? _ _ c3)).trans c3, (h.cell (p := ⟨b, off + k * 6 + 4, none⟩) (World.block_lt_of_cell? _ _ c4)).trans c4, (h.cell (p := ⟨b, off + k * 6 + 5, none⟩) (World.block_lt_of_cell? _ _ c5)).trans c5⟩
    clear r3 r5 c0 c1 c2 c3 c4 c5 hc
    obtain ⟨u0, c0, r0⟩ := HL.out.spotT hml (j := 0) (by omega)
    obtain ⟨u1, c1, r1⟩ := HL.out.spotT hml (j := 1) (by omega)
    obtain ⟨u2, c2, r2⟩ := HL.out.spotT hml (j := 2) (by omega)
    obtain ⟨u3, c3, r3⟩ := HL.out.spotT hml (j := 3) (by omega)
    obtain ⟨u4, c4, r4⟩ := HL.out.spotT hml (j := 4) (by omega)
    obtain ⟨u5, c5, r5⟩ := HL.out.spotT hml (j := 5) (by omega)
    rw [Nat.add_zero] at c0
    obtain rfl : u0 = .int .i64 (swapC list[m]).tab := r0
    obtain rfl : u1 = .int .i64 (swapC list[m]).cid := r1
    obtain rfl : u2 = .int .i64 (swapC list[m]).nid := r2
    obtain rfl : u4 = .int .i64 (swapC list[m]).oid := r4
    replace r3 : Rd w B (dAtomSS (swapC list[m]).ncs) u3 := r3
    obtain ⟨a5, q5, rfl⟩ := r3.lsSlice
    replace r5 : Rd w B (dAtomSS (swapC list[m]).ocs) u5 := r5
    obtain ⟨a3, q3, rfl⟩ := r5.lsSlice
    have HRO : Hid (∀ W, Below w.heap.size w W → Rd W B (dAtomSS (swapC list[m]).ocs) (.slice a3 (swapC list[m]).ocs.length q3) ∧ Rd W B (dAtomSS (swapC list[m]).ncs) (.slice a5 (swapC list[m]).ncs.length q5)) := fun W h => ⟨r5.later h, r3.later h⟩
    have HCO : Hid (iOK (swapC list[m]).nid ∧ (dAtomSS (swapC list[m]).ocs).le 1048576 ∧ (dAtomSS (swapC list[m]).ncs).le 1048576) := ⟨HLO.out m hml 2 (by omega), HLO.out m hml 5 (by omega), HLO.out m hml 3 (by omega)⟩
    have HCC : Hid (∀ W, Below w.heap.size w W → W.cell? ⟨b, off + m * 6, none⟩ = some (.int .i64 (swapC list[m]).tab) ∧ W.cell? ⟨b, off + m * 6 + 1, none⟩ = some (.int .i64 (swapC list[m]).cid) ∧ W.cell? ⟨b, off + m * 6 + 2, none⟩ = some (.int .i64 (swapC list[m]).nid) ∧ W.cell? ⟨b, off + m * 6 + 3, none⟩ = some (.slice a5 (swapC list[m]).ncs.length q5) ∧ W.cell? ⟨b, off + m * 6 + 4, none⟩ = some (.int .i64 (swapC list[m]).oid) ∧ W.cell? ⟨b, off + m * 6 + 5, none⟩ = some (.slice a3 (swapC list[m]).ocs.length q3)) := fun W h => ⟨(h.cell (p := ⟨b, off + m * 6, none⟩) (World.block_lt_of_cell? _ _ c0)).trans c0, (h.cell (p := ⟨b, off + m * 6 + 1, none⟩) (World.block_lt_of_cell? _ _ c1)).trans c1, (h.cell (p := ⟨b, off + m * 6 + 2, none⟩) (World.block_lt_of_cell? _ _ c2)).trans c2, (h.cell (p := ⟨b, off + m * 6 + 3, none⟩) (World.block_lt_of_cell? _ _ c3)).trans c3, (h.cell (p := ⟨b, off + m * 6 + 4, none⟩) (World.block_lt_of_cell? _ _ c4)).trans c4, (h.cell (p := ⟨b, off + m * 6 + 5, none⟩) (World.block_lt_of_cell? _ _ c5)).trans c5⟩
    clear r3 r5 c0 c1 c2 c3 c4 c5
    have HRC : Hid (R = apL X (swapC list[m] :: (list.reverse.map swapC).drop (k + 1))) := by rw [← HCK.out]; exact HRX.out
    clear HCK
    generalize list[k] = c9 at *
    generalize swapC list[m] = ch at *
    have HV : Hid (ApC w (wr.alloc (.cells #[.int .i64 ch.tab, .int .i64 ch.cid, .int .i64 ch.oid, .slice a3 ch.ocs.length q3, .int .i64 ch.nid, .slice a5 ch.ncs.length q5] 55)) X xa xc wr.heap.size #[.int .i64 ch.tab, .int .i64 ch.cid, .int .i64 ch.oid, .slice a3 ch.ocs.length q3, .int .i64 ch.nid, .slice a5 ch.ncs.length q5]) := ⟨HW.out.later (below_allocD _ _), heap_newD _ _, (Array.getElem?_eq_some_iff.1 HW.out.rv).1⟩
    have h70 := heap_newD wr (.cells #[.int .i64 c9.tab, .int .i64 c9.cid, .int .i64 c9.oid, .slice ka3 c9.ocs.length kq3, .int .i64 c9.nid, .slice ka5 c9.ncs.length kq5] 55)
    have m0 := cell_at (o := 0) h70 rfl
    have n0 := frozen_at 0 h70
    have m1 := cell_at (o := 1) h70 rfl
    have n1 := frozen_at 1 h70
    have m2 := cell_at (o := 2) h70 rfl
    have n2 := frozen_at 2 h70
    have m3 := cell_at (o := 3) h70 rfl
    have n3 := frozen_at 3 h70
    have m4 := cell_at (o := 4) h70 rfl
    have n4 := frozen_at 4 h70
    have m5 := cell_at (o := 5) h70 rfl
    have n5 := frozen_at 5 h70
    obtain ⟨c0, c1, c2, c3, c4, c5⟩ := HCC.out _ HW.out.bel
    obtain ⟨d0, d1_, d2, d3, d4, d5⟩ := HKK.out _ HW.out.bel
    have g0 := HCC.out _ (HW.out.bel.trans ((below_allocD wr (.cells #[.int .i64 c9.tab, .int .i64 c9.cid, .int .i64 c9.oid, .slice ka3 c9.ocs.length kq3, .int .i64 c9.nid, .slice ka5 c9.ncs.length kq5] 55)).mono HW.out.bel.size))
    obtain ⟨i0, i1, i2, i3, i4, i5⟩ := g0
    clear h70
    go_upto_region 7 with fail
    go_upto_region 8 with fail
    clear c0 c1 c2 c3 c4 c5 d0 d1_ d2 d3 d4 d5 i0 i1 i2 i3 i4 i5 hm1 hm2 hmi m0 n0 m1 n1 m2 n2 m3 n3 m4 n4 m5 n5
    have h71 := heap_newD wr (.cells #[.int .i64 ch.tab, .int .i64 ch.cid, .int .i64 ch.nid, .slice a5 ch.ncs.length q5, .int .i64 ch.oid, .slice a3 ch.ocs.length q3] 55)
    have y0 := cell_at (o := 0) h71 rfl
    have e0 := frozen_at 0 h71
    have y1 := cell_at (o := 1) h71 rfl
    have e1 := frozen_at 1 h71
    have y2 := cell_at (o := 2) h71 rfl
    have e2 := frozen_at 2 h71
    have y3 := cell_at (o := 3) h71 rfl
    have e3 := frozen_at 3 h71
    have y4 := cell_at (o := 4) h71 rfl
    have e4 := frozen_at 4 h71
    have y5 := cell_at (o := 5) h71 rfl
    have e5 := frozen_at 5 h71
    clear h71
    go_upto_region 9 with fail
    clear y0 e0 y1 e1 y2 e2 y3 e3 y4 e4 y5 e5
    obtain ⟨V, hV⟩ : ∃ V, V = (wr.alloc (.cells #[.int .i64 ch.tab, .int .i64 ch.cid, .int .i64 ch.oid, .slice a3 ch.ocs.length q3, .int .i64 ch.nid, .slice a5 ch.ncs.length q5] 55)) := ⟨_, rfl⟩
    rw [← hV] at HV ⊢
    have HBV : Hid (Below wr.heap.size wr V) := by rw [hV]; exact below_allocD _ _
    clear hV
    obtain ⟨qb, hqb⟩ : ∃ qb, qb = wr.heap.size := ⟨_, rfl⟩
    rw [← hqb] at HV ⊢
    clear hqb
    have KI : Hid (∀ W, ApC w W X xa xc qb #[.int .i64 ch.tab, .int .i64 ch.cid, .int .i64 ch.oid, .slice a3 ch.ocs.length q3, .int .i64 ch.nid, .slice a5 ch.ncs.length q5] → Calls Try.prog 38 #[.agg #[.int .i64 ch.tab, .int .i64 ch.cid, .int .i64 ch.oid, .slice a3 ch.ocs.length q3, .int .i64 ch.nid, .slice a5 ch.ncs.length q5]] W fun e w' => e = .returned (.int .i64 (kindC ch)) ∧ ApC w w' X xa xc qb #[.int .i64 ch.tab, .int .i64 ch.cid, .int .i64 ch.oid, .slice a3 ch.ocs.length q3, .int .i64 ch.nid, .slice a5 ch.ncs.length q5] ∧ Below W.heap.size W w') := fun W h => (kindS ch a3 q3 a5 q5 W).mono (fun e w' ⟨he, hB⟩ => ⟨he, h.later hB, hB⟩)
    have y0 := cell_at (o := 0) HV.out.cb rfl
    have y1 := cell_at (o := 1) HV.out.cb rfl
    have y2 := cell_at (o := 2) HV.out.cb rfl
    have y3 := cell_at (o := 3) HV.out.cb rfl
    have y4 := cell_at (o := 4) HV.out.cb rfl
    have y5 := cell_at (o := 5) HV.out.cb rfl
    have x0 := cell_at (o := 0) HV.out.ap.bx rfl
    have x1 := cell_at (o := 1) HV.out.ap.bx rfl
    by_cases h1 : ch.cid < 1
    case pos =>
      have d1 : decide (ch.cid < 1) = true := decide_eq_true h1
      have HE : Hid (R = (X, 1)) := HRC.out.trans (ap_bad (.inl h1))
      clear h1 KI
      have z0 := cell_at (o := 0) HV.out.ap.rv rfl
      have g0 := frozen_at 0 HV.out.ap.rv
      have z1 := cell_at (o := 1) HV.out.ap.rv rfl
      have g1 := frozen_at 1 HV.out.ap.rv
      go_wp2_with fail
      refine bodyPost_ret (v := .tuple #[.agg #[.slice xa X.tables.length xc, .int .i64 X.next], .int .i64 1]) (by simp [results, Try.results21, go_sem, *]) rfl ?_
      exact HV.out.ap.ans HE.out _ _
    have d1 : decide (ch.cid < 1) = false := decide_eq_false h1
    have HXL : Hid (X.tables.length ≤ 1048576) := (Ls_le.1 HP.out.2).2.1
    have hxw : IntKind.i64.wrap ((X.tables.length : Int) - 1) = (X.tables.length : Int) - 1 := by have := HXL.out; rw [IntKind.wrap_i64]; omega
    by_cases h2 : 0 ≤ ch.tab ∧ ch.tab < X.tables.length
    case neg =>
      have IN : Hid (∀ W, Calls Try.prog 37 #[.int .i64 ch.tab, .int .i64 0, .int .i64 ((X.tables.length : Int) - 1)] W fun e w' => e = .returned (.bool false) ∧ w' = W) := fun W => by
        have h := inS ch.tab 0 ((X.tables.length : Int) - 1) W
        have e : inB 0 ch.tab ((X.tables.length : Int) - 1) = false := by unfold inB; exact decide_eq_false (by omega)
        rw [e] at h; exact h
      have HE : Hid (R = (X, 1)) := HRC.out.trans (ap_bad (.inr (.inl h2)))
      clear h1 h2 KI
      go_wp2_with fail
      refine (IN.out _).mono ?_
      rintro e w2 ⟨rfl, hw2⟩
      rw [hw2]; clear hw2 w2
      have z0 := cell_at (o := 0) HV.out.ap.rv rfl
      have g0 := frozen_at 0 HV.out.ap.rv
      have z1 := cell_at (o := 1) HV.out.ap.rv rfl
      have g1 := frozen_at 1 HV.out.ap.rv
      go_wp2_with fail
      refine bodyPost_ret (v := .tuple #[.agg #[.slice xa X.tables.length xc, .int .i64 X.next], .int .i64 1]) (by simp [results, Try.results21, go_sem, *]) rfl ?_
      exact HV.out.ap.ans HE.out _ _
    obtain ⟨t, ht⟩ : ∃ t : Nat, ch.tab = (t : Int) := ⟨ch.tab.toNat, by omega⟩
    have hti : t < X.tables.length := by omega
    have hti2 : (t : Int) < (X.tables.length : Int) := by omega
    obtain ⟨ctab, ccid, coid, cocs, cnid, cncs⟩ := ch
    dsimp only at *
    subst ht
    have IN : Hid (∀ W, Calls Try.prog 37 #[.int .i64 (t : Int), .int .i64 0, .int .i64 ((X.tables.length : Int) - 1)] W fun e w' => e = .returned (.bool true) ∧ w' = W) := fun W => by
      have h := inS (t : Int) 0 ((X.tables.length : Int) - 1) W
      have e : inB 0 (t : Int) ((X.tables.length : Int) - 1) = true := by unfold inB; exact decide_eq_true (by omega)
      rw [e] at h; exact h
    have HTAB := Lib.hid (And.intro h1 h2)
    clear h1 h2
    go_wp2_with fail
    refine (IN.out _).mono ?_
    rintro e w2 ⟨rfl, hw2⟩
    rw [hw2]; clear hw2 w2 IN
    go_wp2_with fail
    refine (KI.out _ HV.out).mono ?_
    rintro e v1 ⟨rfl, hb, -⟩
    have HV1 := Lib.hid hb
    clear y0 y1 y2 y3 y4 y5 x0 x1
    clear hb
    have y0 := cell_at (o := 0) HV1.out.cb rfl
    have y1 := cell_at (o := 1) HV1.out.cb rfl
    have y2 := cell_at (o := 2) HV1.out.cb rfl
    have y3 := cell_at (o := 3) HV1.out.cb rfl
    have y4 := cell_at (o := 4) HV1.out.cb rfl
    have y5 := cell_at (o := 5) HV1.out.cb rfl
    have x0 := cell_at (o := 0) HV1.out.ap.bx rfl
    have x1 := cell_at (o := 1) HV1.out.ap.bx rfl
    by_cases h3 : kindC ⟨(t : Int), ccid, coid, cocs, cnid, cncs⟩ = 0
    case pos =>
      have HE : Hid (R = (X, 1)) := HRC.out.trans (ap_bad (.inr (.inr h3)))
      have k0 : (kindC ⟨(t : Int), ccid, coid, cocs, cnid, cncs⟩ == 0) = true := by simpa using h3
      clear h3 KI
      generalize kindC ⟨(t : Int), ccid, coid, cocs, cnid, cncs⟩ = kc at *
      have z0 := cell_at (o := 0) HV1.out.ap.rv rfl
      have g0 := frozen_at 0 HV1.out.ap.rv
      have z1 := cell_at (o := 1) HV1.out.ap.rv rfl
      have g1 := frozen_at 1 HV1.out.ap.rv
      go_wp2_with fail
      refine bodyPost_ret (v := .tuple #[.agg #[.slice xa X.tables.length xc, .int .i64 X.next], .int .i64 1]) (by simp [results, Try.results21, go_sem, *]) rfl ?_
      exact HV1.out.ap.ans HE.out _ _
    have HNB : Hid (¬ (ccid < 1 ∨ ¬ (0 ≤ (t : Int) ∧ (t : Int) < X.tables.length) ∨ kindC ⟨(t : Int), ccid, coid, cocs, cnid, cncs⟩ = 0)) := fun h => by have h9 := HTAB.out; rcases h with h | h | h; omega; omega; exact h3 h
    have k0 : (kindC ⟨(t : Int), ccid, coid, cocs, cnid, cncs⟩ == 0) = false := by simpa using h3
    clear h3
    obtain ⟨tb, to', rfl, htb, tc⟩ := Rd.things (d := cRowS) (n := 1) HV1.out.ap.rd t hti
    obtain ⟨u0, t0, q0⟩ := tc 0 (by omega)
    replace q0 : Rd v1 (fun d => w.heap.size + 1 < d) (dRowS X.tables[t]) u0 := q0
    obtain ⟨ra, rc, rfl⟩ := q0.lsSlice
    rw [Nat.mul_one, Nat.add_zero] at t0
    have TC : Hid (∀ W, Below v1.heap.size v1 W → W.cell? ⟨tb, to' + t, none⟩ = some (.slice ra X.tables[t].length rc)) := fun W h => (h.cell (p := ⟨tb, to' + t, none⟩) (World.block_lt_of_cell? _ _ t0)).trans t0
    have RT : Hid (∀ W, Below v1.heap.size v1 W → Rd W (fun d => w.heap.size + 1 < d) (dRowS X.tables[t]) (.slice ra X.tables[t].length rc)) := fun W h => q0.later h
    have HTA := Lib.hid (HP.out.tab hti)
    have HTI : Hid (tabI X (t : Int) = X.tables[t]) := tabI_at hti
    have HTB : Hid (w.heap.size + 1 < tb) := htb
    clear tc t0 q0 htb
    obtain ⟨kc, hkc⟩ : ∃ kc, kindC ⟨(t : Int), ccid, coid, cocs, cnid, cncs⟩ = kc := ⟨_, rfl⟩
    rw [hkc] at KI k0 ⊢
    have HKC := Lib.hid hkc
    clear hkc
    have L1 : Hid (∀ W, Below v1.heap.size v1 W → Calls Try.prog 40 #[.slice ra X.tables[t].length rc, .int .i64 ccid] W (RowNew W (rowD X.tables[t] ccid))) := fun W h => l10RowS X.tables[t] ccid ra rc _ W HTA.out.2 (RT.out W h)
    have HOL : Hid ((dAtomSS (rowD X.tables[t] ccid).cells).le maxLen ∧ (dAtomSS cocs).le maxLen) := ⟨rowD_le6 HTA.out.2 _, D.le.mono (by unfold maxLen; omega) _ HCO.out.2.1⟩
    have CE : Hid (∀ W, Below v1.heap.size v1 W → W.cell? ⟨w.heap.size, 0, none⟩ = some (.slice (some ⟨tb, to', none⟩) X.tables.length xc) ∧ W.cell? ⟨tb, to' + t, none⟩ = some (.slice ra X.tables[t].length rc) ∧ W.cell? ⟨qb, 0, none⟩ = some (.int .i64 (t : Int)) ∧ W.cell? ⟨qb, 1, none⟩ = some (.int .i64 ccid) ∧ W.cell? ⟨qb, 2, none⟩ = some (.int .i64 coid) ∧ W.cell? ⟨qb, 3, none⟩ = some (.slice a3 cocs.length q3)) := fun W h => by
      have h2 := HV1.out.later h
      exact ⟨cell_at (o := 0) h2.ap.bx rfl, TC.out W h, cell_at (o := 0) h2.cb rfl, cell_at (o := 1) h2.cb rfl, cell_at (o := 2) h2.cb rfl, cell_at (o := 3) h2.cb rfl⟩
    go_wp2_with fail
    clear y0 y1 y2 y3 y4 y5 x0 x1
    refine wp_region_held_drew (S := (fun W => W.cell? ⟨w.heap.size, 0, none⟩ = some (.slice (some ⟨tb, to', none⟩) X.tables.length xc) ∧ W.cell? ⟨tb, to' + t, none⟩ = some (.slice ra X.tables[t].length rc) ∧ W.cell? ⟨qb, 0, none⟩ = some (.int .i64 (t : Int)) ∧ W.cell? ⟨qb, 1, none⟩ = some (.int .i64 ccid) ∧ W.cell? ⟨qb, 2, none⟩ = some (.int .i64 coid) ∧ W.cell? ⟨qb, 3, none⟩ = some (.slice a3 cocs.length q3))) (by kernel_rfl) ?_ (fun hHeld => ?_)
    · (exact CE.out _ (by first | exact HB3.out | exact HB2.out | exact (Below.refl _ _).drew | exact Below.refl _ _))
    refine wpAnyH_take (i := 0) (v := ?_) rfl (by kernel_rfl) (by kernel_rfl) (by kernel_rfl) (fun _ _ _ h => h) (Or.inl ⟨by kernel_rfl, ?_⟩) (by assumption) ?_
    rotate_left
    · (intro wS hSw; (try dsimp only at hSw); go_simp <;> with_reducible rfl)
    try simp only [Act.put, tkS]
    refine wpAnyH_take (i := 1) (v := ?_) rfl (by kernel_rfl) (by kernel_rfl) (by kernel_rfl) (fun _ _ _ h => h) (Or.inl ⟨by kernel_rfl, ?_⟩) (by assumption) ?_
    rotate_left
    · (intro wS hSw; (try dsimp only at hSw); go_simp <;> with_reducible rfl)
    try simp only [Act.put, tkS]
    refine wpAnyH_take (i := 2) (v := ?_) rfl (by kernel_rfl) (by kernel_rfl) (by kernel_rfl) (fun _ _ _ h => h) (Or.inl ⟨by kernel_rfl, ?_⟩) (by assumption) ?_
    rotate_left
    · (intro wS hSw; (try dsimp only at hSw); go_simp <;> with_reducible rfl)
    try simp only [Act.put, tkS]
    refine wpAnyH_take (i := 3) (v := ?_) rfl (by kernel_rfl) (by kernel_rfl) (by kernel_rfl) (fun _ _ _ h => h) (Or.inl ⟨by kernel_rfl, ?_⟩) (by assumption) ?_
    rotate_left
    · (intro wS hSw; (try dsimp only at hSw); go_simp <;> with_reducible rfl)
    try simp only [Act.put, tkS]
    refine wpAnyH_take (i := 4) (v := ?_) rfl (by kernel_rfl) (by kernel_rfl) (by kernel_rfl) (fun _ _ _ h => h) (Or.inl ⟨by kernel_rfl, ?_⟩) (by assumption) ?_
    rotate_left
    · (intro wS hSw; (try dsimp only at hSw); go_simp <;> with_reducible rfl)
    try simp only [Act.put, tkS]
    refine wpAnyH_take (i := 5) (v := ?_) rfl (by kernel_rfl) (by kernel_rfl) (by kernel_rfl) (fun _ _ _ h => h) (Or.inl ⟨by kernel_rfl, ?_⟩) (by assumption) ?_
    rotate_left
    · (intro wS hSw; (try dsimp only at hSw); go_simp <;> with_reducible rfl)
    try simp only [Act.put, tkS]
    refine wpAnyH_take (i := 6) (v := ?_) rfl (by kernel_rfl) (by kernel_rfl) (by kernel_rfl) (fun _ _ _ h => h) (Or.inl ⟨by kernel_rfl, ?_⟩) (by assumption) ?_
    rotate_left
    · (intro wS hSw; (try dsimp only at hSw); go_simp <;> with_reducible rfl)
    try simp only [Act.put, tkS]
    refine wpAnyH_take (i := 7) (v := ?_) rfl (by kernel_rfl) (by kernel_rfl) (by kernel_rfl) (fun _ _ _ h => h) (Or.inl ⟨by kernel_rfl, ?_⟩) (by assumption) ?_
    rotate_left
    · (intro wS hSw; (try dsimp only at hSw); go_simp <;> with_reducible rfl)
    try simp only [Act.put, tkS]
    refine wpAnyH_take (i := 9) (v := ?_) rfl (by kernel_rfl) (by kernel_rfl) (by kernel_rfl) (fun _ _ _ h => h) (Or.inl ⟨by kernel_rfl, ?_⟩) (by assumption) ?_
    rotate_left
    · (intro wS hSw; (try dsimp only at hSw); go_simp <;> with_reducible rfl)
    try simp only [Act.put, tkS]
    refine wpAnyH_take (i := 10) (v := ?_) rfl (by kernel_rfl) (by kernel_rfl) (by kernel_rfl) (fun _ _ _ h => h) (Or.inl ⟨by kernel_rfl, ?_⟩) (by assumption) ?_
    rotate_left
    · (intro wS hSw; (try dsimp only at hSw); go_simp <;> with_reducible rfl)
    try simp only [Act.put, tkS]
    refine wpAnyH_ready (rs := [8]) (by kernel_rfl) (by simp) (AllReadyH.cons rfl (fun K hK => ?_) AllReadyH.nil)
    go_simp
    (go_at_call 40; refine (L1.out _ (by first | exact (Below.refl _ _).drew | exact Below.refl _ _)).mono ?_; rintro e v2 ⟨oa2, oc2, rfl, hro, hB2⟩; have HB2 : Hid (Below v1.heap.size v1 v2) := (by first | exact (Below.refl _ _).drew.trans hB2 | exact hB2); have HRO2 := Lib.hid hro; clear hro hB2)
    refine hK.out _ _ ?_ (fun hHeld => ?_)
    · (exact CE.out _ (by first | exact HB3.out | exact HB2.out | exact (Below.refl _ _).drew | exact Below.refl _ _))
    clear hK K
    try simp only [Act.put, tkS]
    refine wpAnyH_ready (rs := [11]) (by kernel_rfl) (by simp) (AllReadyH.cons rfl (fun K hK => ?_) AllReadyH.nil)
    go_simp
    (go_at_call 39; refine (sameRowS (rowD X.tables[t] ccid) ⟨coid, cocs⟩ oa2 oc2 a3 q3 _ _ v2 HOL.out.1 HOL.out.2 HRO2.out (HRO.out v2 ((HV1.out.ap.later HB2.out).bel)).1).mono ?_; rintro e v3 ⟨rfl, hB3⟩; have HB3 : Hid (Below v1.heap.size v1 v3) := HB2.out.trans (hB3.mono HB2.out.size); clear hB3)
    refine hK.out _ _ ?_ (fun hHeld => ?_)
    · (exact CE.out _ (by first | exact HB3.out | exact HB2.out | exact (Below.refl _ _).drew | exact Below.refl _ _))
    clear hK K
    try simp only [Act.put, tkS]
    refine wpAnyH_take (i := 12) (v := ?_) rfl (by kernel_rfl) (by kernel_rfl) (by kernel_rfl) (fun _ _ _ h => h) (Or.inl ⟨by kernel_rfl, ?_⟩) (by assumption) ?_
    rotate_left
    · (intro wS hSw; (try dsimp only at hSw); go_simp <;> with_reducible rfl)
    try simp only [Act.put, tkS]
    refine wpAnyH_done (by kernel_rfl) ?_ _
    have HV3 := Lib.hid (HV1.out.later HB3.out)
    clear HRO2 L1
    cases he : eqB (rowD X.tables[t] ccid) ⟨coid, cocs⟩
    case false =>
      have HE : Hid (R = (X, 13)) := HRC.out.trans (ap_ref HNB.out (by show eqB (rowD (tabI X (t : Int)) ccid) ⟨coid, cocs⟩ = false; rw [HTI.out]; exact he))
      clear he KI
      have y0 := cell_at (o := 0) HV3.out.cb rfl
      have y1 := cell_at (o := 1) HV3.out.cb rfl
      have y2 := cell_at (o := 2) HV3.out.cb rfl
      have y3 := cell_at (o := 3) HV3.out.cb rfl
      have y4 := cell_at (o := 4) HV3.out.cb rfl
      have y5 := cell_at (o := 5) HV3.out.cb rfl
      have x0 := cell_at (o := 0) HV3.out.ap.bx rfl
      have x1 := cell_at (o := 1) HV3.out.ap.bx rfl
      have z0 := cell_at (o := 0) HV3.out.ap.rv rfl
      have g0 := frozen_at 0 HV3.out.ap.rv
      have z1 := cell_at (o := 1) HV3.out.ap.rv rfl
      have g1 := frozen_at 1 HV3.out.ap.rv
      go_wp2_with fail
      refine bodyPost_ret (v := .tuple #[.agg #[.slice (some ⟨tb, to', none⟩) X.tables.length xc, .int .i64 X.next], .int .i64 13]) (by simp [results, Try.results21, go_sem, *]) rfl ?_
      exact HV3.out.ap.ans HE.out _ _
    have HEQ : Hid (eqB (rowD (tabI X (t : Int)) ccid) ⟨coid, cocs⟩ = true ∧ rowD X.tables[t] ccid = ⟨coid, cocs⟩) := ⟨by rw [HTI.out]; exact he, eqB_iff.1 he⟩
    clear he
    have y0 := cell_at (o := 0) HV3.out.cb rfl
    have y1 := cell_at (o := 1) HV3.out.cb rfl
    have y2 := cell_at (o := 2) HV3.out.cb rfl
    have y3 := cell_at (o := 3) HV3.out.cb rfl
    have y4 := cell_at (o := 4) HV3.out.cb rfl
    have y5 := cell_at (o := 5) HV3.out.cb rfl
    have x0 := cell_at (o := 0) HV3.out.ap.bx rfl
    have x1 := cell_at (o := 1) HV3.out.ap.bx rfl
    by_cases h2 : kc = 2
    case pos =>
      have k2 : (kc == 2) = true := by simpa using h2
      have HD : Hid (∃ k5 : Nat, ∃ hk5 : k5 < X.tables[t].length, rplI X.tables[t] ccid = k5) := by
        obtain ⟨k5, hk5, h5, -⟩ := rowD_there (by have := HTAB.out; omega) (kind_old (HKC.out.trans h2)) HEQ.out.2
        exact ⟨k5, hk5, h5⟩
      obtain ⟨k5, hk5, hp5⟩ := HD.out
      have HRD : Hid (R = apL ⟨X.tables.set t (X.tables[t].eraseIdx k5), X.next⟩ ((list.reverse.map swapC).drop (k + 1))) := by
        have h := HRC.out.trans (ap_drop HNB.out HEQ.out.1 (HKC.out.trans h2))
        show R = _; rw [h]; unfold dropC; dsimp only; rw [HTI.out, hp5, Int.toNat_natCast, Int.toNat_natCast]
      have HP5 : Hid (ApP ⟨X.tables.set t (X.tables[t].eraseIdx k5), X.next⟩) := ap_dropP HP.out hti X.next
      clear HD h2
      go_wp2_with fail
      refine (KI.out _ HV3.out).mono ?_
      rintro e v4 ⟨rfl, hb, hB⟩
      have HV4 := Lib.hid hb
      have HB4 : Hid (Below v1.heap.size v1 v4) := HB3.out.trans (hB.mono HB3.out.size)
      clear y0 y1 y2 y3 y4 y5 x0 x1
      clear hb hB
      have y0 := cell_at (o := 0) HV4.out.cb rfl
      have y1 := cell_at (o := 1) HV4.out.cb rfl
      have y2 := cell_at (o := 2) HV4.out.cb rfl
      have y3 := cell_at (o := 3) HV4.out.cb rfl
      have y4 := cell_at (o := 4) HV4.out.cb rfl
      have y5 := cell_at (o := 5) HV4.out.cb rfl
      have x0 := cell_at (o := 0) HV4.out.ap.bx rfl
      have x1 := cell_at (o := 1) HV4.out.ap.bx rfl
      have L2 : Hid (∀ W, Below v1.heap.size v1 W → Calls Try.prog 42 #[.slice ra X.tables[t].length rc, .int .i64 ccid] W fun e w' => e = .returned (.int .i64 (k5 : Int)) ∧ Below W.heap.size W w') := fun W h => by
        have h9 := rplS X.tables[t] ra rc ccid _ W (by have := (Ls_le.1 HTA.out.2).2.1; unfold maxLen; omega) (RT.out W h)
        rw [hp5] at h9; exact h9
      have L3 : Hid (∀ W, Below v1.heap.size v1 W → Calls Try.prog 41 #[.agg #[.slice (some ⟨tb, to', none⟩) X.tables.length xc, .int .i64 X.next], .int .i64 (t : Int), .int .i64 (k5 : Int)] W fun e w' => ∃ da dc, e = .returned (.agg #[.slice da X.tables.length dc, .int .i64 X.next]) ∧ Rd w' (fun d => W.heap.size ≤ d ∧ d < w'.heap.size) (dRowSS (X.tables.set t (X.tables[t].eraseIdx k5))) (.slice da (X.tables.set t (X.tables[t].eraseIdx k5)).length dc) ∧ Below W.heap.size W w') := fun W h => ldropS X t k5 hti hk5 (some ⟨tb, to', none⟩) xc _ W HP.out.2 (HV1.out.later h).ap.rd
      have CE2 : Hid (∀ W, Below v1.heap.size v1 W → W.cell? ⟨tb, to' + t, none⟩ = some (.slice ra X.tables[t].length rc) ∧ W.cell? ⟨qb, 0, none⟩ = some (.int .i64 (t : Int)) ∧ W.cell? ⟨qb, 1, none⟩ = some (.int .i64 ccid)) := fun W h => by
        have h2 := HV1.out.later h
        exact ⟨TC.out W h, cell_at (o := 0) h2.cb rfl, cell_at (o := 1) h2.cb rfl⟩
      have CE3 : Hid (∀ W u v, Below v1.heap.size v1 W → ((W.setCell ⟨w.heap.size, 0, none⟩ u).setCell ⟨w.heap.size, 1, none⟩ v).cell? ⟨tb, to' + t, none⟩ = some (.slice ra X.tables[t].length rc) ∧ ((W.setCell ⟨w.heap.size, 0, none⟩ u).setCell ⟨w.heap.size, 1, none⟩ v).cell? ⟨qb, 0, none⟩ = some (.int .i64 (t : Int)) ∧ ((W.setCell ⟨w.heap.size, 0, none⟩ u).setCell ⟨w.heap.size, 1, none⟩ v).cell? ⟨qb, 1, none⟩ = some (.int .i64 ccid)) := fun W u v h => by
        have h2 := CE2.out W h
        have hlo := HV1.out.lo; have htb := HTB.out
        have e : ∀ (b o : Nat), b ≠ w.heap.size → ((W.setCell ⟨w.heap.size, 0, none⟩ u).setCell ⟨w.heap.size, 1, none⟩ v).cell? ⟨b, o, none⟩ = W.cell? ⟨b, o, none⟩ := fun b o hb => World.cell?_of_block (by show ((W.setCell ⟨w.heap.size, 0, none⟩ u).setCell ⟨w.heap.size, 1, none⟩ v).heap[b]? = _; rw [Below.heap_setCell _ _ _ _ (by show b ≠ w.heap.size; exact hb), Below.heap_setCell _ _ _ _ (by show b ≠ w.heap.size; exact hb)])
        rw [e _ _ (by omega), e _ _ (by omega), e _ _ (by omega)]; exact h2
      clear y0 y1 y2 y3 y4 y5
      go_wp2_with fail
      refine wp_region_held_drew (S := (fun W => W.cell? ⟨tb, to' + t, none⟩ = some (.slice ra X.tables[t].length rc) ∧ W.cell? ⟨qb, 0, none⟩ = some (.int .i64 (t : Int)) ∧ W.cell? ⟨qb, 1, none⟩ = some (.int .i64 ccid))) (by kernel_rfl) ?_ (fun hHeld => ?_)
      · (first | exact CE2.out _ HB6.out | exact CE2.out _ HB5.out | exact CE2.out _ HB4.out.drew | exact CE2.out _ HB4.out | exact CE3.out _ _ _ HB6.out)
      refine wpAnyH_take (i := 1) (v := ?_) rfl (by kernel_rfl) (by kernel_rfl) (by kernel_rfl) (fun _ _ _ h => h) (Or.inl ⟨by kernel_rfl, ?_⟩) (by assumption) ?_
      rotate_left
      · (intro wS hSw; (try dsimp only at hSw); go_simp <;> with_reducible rfl)
      try simp only [Act.put, tkS]
      refine wpAnyH_take (i := 2) (v := ?_) rfl (by kernel_rfl) (by kernel_rfl) (by kernel_rfl) (fun _ _ _ h => h) (Or.inl ⟨by kernel_rfl, ?_⟩) (by assumption) ?_
      rotate_left
      · (intro wS hSw; (try dsimp only at hSw); go_simp <;> with_reducible rfl)
      try simp only [Act.put, tkS]
      refine wpAnyH_take (i := 3) (v := ?_) rfl (by kernel_rfl) (by kernel_rfl) (by kernel_rfl) (fun _ _ _ h => h) (Or.inl ⟨by kernel_rfl, ?_⟩) (by assumption) ?_
      rotate_left
      · (intro wS hSw; (try dsimp only at hSw); go_simp <;> with_reducible rfl)
      try simp only [Act.put, tkS]
      refine wpAnyH_take (i := 5) (v := ?_) rfl (by kernel_rfl) (by kernel_rfl) (by kernel_rfl) (fun _ _ _ h => h) (Or.inl ⟨by kernel_rfl, ?_⟩) (by assumption) ?_
      rotate_left
      · (intro wS hSw; (try dsimp only at hSw); go_simp <;> with_reducible rfl)
      try simp only [Act.put, tkS]
      refine wpAnyH_take (i := 6) (v := ?_) rfl (by kernel_rfl) (by kernel_rfl) (by kernel_rfl) (fun _ _ _ h => h) (Or.inl ⟨by kernel_rfl, ?_⟩) (by assumption) ?_
      rotate_left
      · (intro wS hSw; (try dsimp only at hSw); go_simp <;> with_reducible rfl)
      try simp only [Act.put, tkS]
      refine wpAnyH_take (i := 9) (v := ?_) rfl (by kernel_rfl) (by kernel_rfl) (by kernel_rfl) (fun _ _ _ h => h) (Or.inl ⟨by kernel_rfl, ?_⟩) (by assumption) ?_
      rotate_left
      · (intro wS hSw; (try dsimp only at hSw); go_simp <;> with_reducible rfl)
      try simp only [Act.put, tkS]
      refine wpAnyH_take (i := 10) (v := ?_) rfl (by kernel_rfl) (by kernel_rfl) (by kernel_rfl) (fun _ _ _ h => h) (Or.inl ⟨by kernel_rfl, ?_⟩) (by assumption) ?_
      rotate_left
      · (intro wS hSw; (try dsimp only at hSw); go_simp <;> with_reducible rfl)
      try simp only [Act.put, tkS]
      refine wpAnyH_ready (rs := [0, 4]) (by kernel_rfl) (by simp) (AllReadyH.cons rfl (fun K hK => ?_) (AllReadyH.cons rfl (fun K hK => ?_) AllReadyH.nil))
      ·
        go_simp
        refine hK.out _ _ ?_ (fun hHeld => ?_)
        · (first | exact CE2.out _ HB6.out | exact CE2.out _ HB5.out | exact CE2.out _ HB4.out.drew | exact CE2.out _ HB4.out | exact CE3.out _ _ _ HB6.out)
        clear hK K
        try simp only [Act.put, tkS]
        refine wpAnyH_ready (rs := [4]) (by kernel_rfl) (by simp) (AllReadyH.cons rfl (fun K hK => ?_) AllReadyH.nil)
        go_simp
        refine hK.out _ _ ?_ (fun hHeld => ?_)
        · (first | exact CE2.out _ HB6.out | exact CE2.out _ HB5.out | exact CE2.out _ HB4.out.drew | exact CE2.out _ HB4.out | exact CE3.out _ _ _ HB6.out)
        clear hK K
        try simp only [Act.put, tkS]
        refine wpAnyH_take (i := 7) (v := ?_) rfl (by kernel_rfl) (by kernel_rfl) (by kernel_rfl) (fun _ _ _ h => h) (Or.inl ⟨by kernel_rfl, ?_⟩) (by assumption) ?_
        rotate_left
        · (intro wS hSw; (try dsimp only at hSw); go_simp <;> with_reducible rfl)
        try simp only [Act.put, tkS]
        refine wpAnyH_take (i := 8) (v := ?_) rfl (by kernel_rfl) (by kernel_rfl) (by kernel_rfl) (fun _ _ _ h => h) (Or.inl ⟨by kernel_rfl, ?_⟩) (by assumption) ?_
        rotate_left
        · (intro wS hSw; (try dsimp only at hSw); go_simp <;> with_reducible rfl)
        try simp only [Act.put, tkS]
        refine wpAnyH_ready (rs := [11]) (by kernel_rfl) (by simp) (AllReadyH.cons rfl (fun K hK => ?_) AllReadyH.nil)
        go_simp
        go_at_call 42
        refine (L2.out _ (by first | exact HB4.out.drew | exact HB4.out)).mono ?_
        rintro e v5 ⟨rfl, hB5⟩
        have HB5 : Hid (Below v1.heap.size v1 v5) := (by first | exact HB4.out.drew.trans (hB5.mono HB4.out.size) | exact HB4.out.trans (hB5.mono HB4.out.size))
        clear hB5
        refine hK.out _ _ ?_ (fun hHeld => ?_)
        · (first | exact CE2.out _ HB6.out | exact CE2.out _ HB5.out | exact CE2.out _ HB4.out.drew | exact CE2.out _ HB4.out | exact CE3.out _ _ _ HB6.out)
        clear hK K
        try simp only [Act.put, tkS]
        refine wpAnyH_ready (rs := [12]) (by kernel_rfl) (by simp) (AllReadyH.cons rfl (fun K hK => ?_) AllReadyH.nil)
        go_simp
        go_at_call 41
        refine (L3.out _ HB5.out).mono ?_
        rintro e v6 ⟨da, dc, rfl, hrd, hB6⟩
        have HB6 : Hid (Below v1.heap.size v1 v6) := HB5.out.trans (hB6.mono HB5.out.size)
        have hv6 := (HV1.out.later HB6.out).ap
        have HN6 : Hid (ApB w ((v6.setCell ⟨w.heap.size, 0, none⟩ (.slice da X.tables.length dc)).setCell ⟨w.heap.size, 1, none⟩ (.int .i64 X.next)) ⟨X.tables.set t (X.tables[t].eraseIdx k5), X.next⟩ da dc) := by
          have h := (HV1.out.later HB5.out).ap.put (X' := ⟨X.tables.set t (X.tables[t].eraseIdx k5), X.next⟩) hB6 (hrd.mono (fun d hd => hd.1))
          dsimp only at h
          rw [List.length_set] at h
          exact h
        clear hrd hB6 x0 x1
        have x0 := cell_at (o := 0) hv6.bx rfl
        have x1 := cell_at (o := 1) hv6.bx rfl
        have f0 := frozen_at 0 hv6.bx
        have f1 := frozen_at 1 hv6.bx
        clear hv6
        refine hK.out _ _ ?_ (fun hHeld => ?_)
        · (first | exact CE2.out _ HB6.out | exact CE2.out _ HB5.out | exact CE2.out _ HB4.out.drew | exact CE2.out _ HB4.out | exact CE3.out _ _ _ HB6.out)
        clear hK K
        try simp only [Act.put, tkS]
        refine wpAnyH_ready (rs := [13]) (by kernel_rfl) (by simp) (AllReadyH.cons rfl (fun K hK => ?_) AllReadyH.nil)
        go_simp
        refine hK.out _ _ ?_ (fun hHeld => ?_)
        · (first | exact CE2.out _ HB6.out | exact CE2.out _ HB5.out | exact CE2.out _ HB4.out.drew | exact CE2.out _ HB4.out | exact CE3.out _ _ _ HB6.out)
        clear hK K
        try simp only [Act.put, tkS]
        refine wpAnyH_done (by kernel_rfl) ?_ _
        clear x0 x1 f0 f1
        go_wp2_with fail
        go_roundw
        case rel => exact ⟨k + 1, by omega, by go_num, ⟨X.tables.set t (X.tables[t].eraseIdx k5), X.next⟩, da, dc, HRD.out, HP5.out, HN6.out⟩
        case measure => simp [intOf]; omega
      ·
        go_simp
        refine hK.out _ _ ?_ (fun hHeld => ?_)
        · (first | exact CE2.out _ HB6.out | exact CE2.out _ HB5.out | exact CE2.out _ HB4.out.drew | exact CE2.out _ HB4.out | exact CE3.out _ _ _ HB6.out)
        clear hK K
        try simp only [Act.put, tkS]
        refine wpAnyH_take (i := 7) (v := ?_) rfl (by kernel_rfl) (by kernel_rfl) (by kernel_rfl) (fun _ _ _ h => h) (Or.inl ⟨by kernel_rfl, ?_⟩) (by assumption) ?_
        rotate_left
        · (intro wS hSw; (try dsimp only at hSw); go_simp <;> with_reducible rfl)
        try simp only [Act.put, tkS]
        refine wpAnyH_take (i := 8) (v := ?_) rfl (by kernel_rfl) (by kernel_rfl) (by kernel_rfl) (fun _ _ _ h => h) (Or.inl ⟨by kernel_rfl, ?_⟩) (by assumption) ?_
        rotate_left
        · (intro wS hSw; (try dsimp only at hSw); go_simp <;> with_reducible rfl)
        try simp only [Act.put, tkS]
        refine wpAnyH_ready (rs := [0, 11]) (by kernel_rfl) (by simp) (AllReadyH.cons rfl (fun K hK => ?_) (AllReadyH.cons rfl (fun K hK => ?_) AllReadyH.nil))
        ·
          go_simp
          refine hK.out _ _ ?_ (fun hHeld => ?_)
          · (first | exact CE2.out _ HB6.out | exact CE2.out _ HB5.out | exact CE2.out _ HB4.out.drew | exact CE2.out _ HB4.out | exact CE3.out _ _ _ HB6.out)
          clear hK K
          try simp only [Act.put, tkS]
          refine wpAnyH_ready (rs := [11]) (by kernel_rfl) (by simp) (AllReadyH.cons rfl (fun K hK => ?_) AllReadyH.nil)
          go_simp
          go_at_call 42
          refine (L2.out _ (by first | exact HB4.out.drew | exact HB4.out)).mono ?_
          rintro e v5 ⟨rfl, hB5⟩
          have HB5 : Hid (Below v1.heap.size v1 v5) := (by first | exact HB4.out.drew.trans (hB5.mono HB4.out.size) | exact HB4.out.trans (hB5.mono HB4.out.size))
          clear hB5
          refine hK.out _ _ ?_ (fun hHeld => ?_)
          · (first | exact CE2.out _ HB6.out | exact CE2.out _ HB5.out | exact CE2.out _ HB4.out.drew | exact CE2.out _ HB4.out | exact CE3.out _ _ _ HB6.out)
          clear hK K
          try simp only [Act.put, tkS]
          refine wpAnyH_ready (rs := [12]) (by kernel_rfl) (by simp) (AllReadyH.cons rfl (fun K hK => ?_) AllReadyH.nil)
          go_simp
          go_at_call 41
          refine (L3.out _ HB5.out).mono ?_
          rintro e v6 ⟨da, dc, rfl, hrd, hB6⟩
          have HB6 : Hid (Below v1.heap.size v1 v6) := HB5.out.trans (hB6.mono HB5.out.size)
          have hv6 := (HV1.out.later HB6.out).ap
          have HN6 : Hid (ApB w ((v6.setCell ⟨w.heap.size, 0, none⟩ (.slice da X.tables.length dc)).setCell ⟨w.heap.size, 1, none⟩ (.int .i64 X.next)) ⟨X.tables.set t (X.tables[t].eraseIdx k5), X.next⟩ da dc) := by
            have h := (HV1.out.later HB5.out).ap.put (X' := ⟨X.tables.set t (X.tables[t].eraseIdx k5), X.next⟩) hB6 (hrd.mono (fun d hd => hd.1))
            dsimp only at h
            rw [List.length_set] at h
            exact h
          clear hrd hB6 x0 x1
          have x0 := cell_at (o := 0) hv6.bx rfl
          have x1 := cell_at (o := 1) hv6.bx rfl
          have f0 := frozen_at 0 hv6.bx
          have f1 := frozen_at 1 hv6.bx
          clear hv6
          refine hK.out _ _ ?_ (fun hHeld => ?_)
          · (first | exact CE2.out _ HB6.out | exact CE2.out _ HB5.out | exact CE2.out _ HB4.out.drew | exact CE2.out _ HB4.out | exact CE3.out _ _ _ HB6.out)
          clear hK K
          try simp only [Act.put, tkS]
          refine wpAnyH_ready (rs := [13]) (by kernel_rfl) (by simp) (AllReadyH.cons rfl (fun K hK => ?_) AllReadyH.nil)
          go_simp
          refine hK.out _ _ ?_ (fun hHeld => ?_)
          · (first | exact CE2.out _ HB6.out | exact CE2.out _ HB5.out | exact CE2.out _ HB4.out.drew | exact CE2.out _ HB4.out | exact CE3.out _ _ _ HB6.out)
          clear hK K
          try simp only [Act.put, tkS]
          refine wpAnyH_done (by kernel_rfl) ?_ _
          clear x0 x1 f0 f1
          go_wp2_with fail
          go_roundw
          case rel => exact ⟨k + 1, by omega, by go_num, ⟨X.tables.set t (X.tables[t].eraseIdx k5), X.next⟩, da, dc, HRD.out, HP5.out, HN6.out⟩
          case measure => simp [intOf]; omega
        ·
          go_simp
          go_at_call 42
          refine (L2.out _ (by first | exact HB4.out.drew | exact HB4.out)).mono ?_
          rintro e v5 ⟨rfl, hB5⟩
          have HB5 : Hid (Below v1.heap.size v1 v5) := (by first | exact HB4.out.drew.trans (hB5.mono HB4.out.size) | exact HB4.out.trans (hB5.mono HB4.out.size))
          clear hB5
          have hv5 := HV1.out.later HB5.out
          clear x0 x1
          have x0 := cell_at (o := 0) hv5.ap.bx rfl
          have x1 := cell_at (o := 1) hv5.ap.bx rfl
          clear hv5
          refine hK.out _ _ ?_ (fun hHeld => ?_)
          · (first | exact CE2.out _ HB6.out | exact CE2.out _ HB5.out | exact CE2.out _ HB4.out.drew | exact CE2.out _ HB4.out | exact CE3.out _ _ _ HB6.out)
          clear hK K
          try simp only [Act.put, tkS]
          refine wpAnyH_ready (rs := [0]) (by kernel_rfl) (by simp) (AllReadyH.cons rfl (fun K hK => ?_) AllReadyH.nil)
          go_simp
          refine hK.out _ _ ?_ (fun hHeld => ?_)
          · (first | exact CE2.out _ HB6.out | exact CE2.out _ HB5.out | exact CE2.out _ HB4.out.drew | exact CE2.out _ HB4.out | exact CE3.out _ _ _ HB6.out)
          clear hK K
          try simp only [Act.put, tkS]
          refine wpAnyH_ready (rs := [12]) (by kernel_rfl) (by simp) (AllReadyH.cons rfl (fun K hK => ?_) AllReadyH.nil)
          go_simp
          go_at_call 41
          refine (L3.out _ HB5.out).mono ?_
          rintro e v6 ⟨da, dc, rfl, hrd, hB6⟩
          have HB6 : Hid (Below v1.heap.size v1 v6) := HB5.out.trans (hB6.mono HB5.out.size)
          have hv6 := (HV1.out.later HB6.out).ap
          have HN6 : Hid (ApB w ((v6.setCell ⟨w.heap.size, 0, none⟩ (.slice da X.tables.length dc)).setCell ⟨w.heap.size, 1, none⟩ (.int .i64 X.next)) ⟨X.tables.set t (X.tables[t].eraseIdx k5), X.next⟩ da dc) := by
            have h := (HV1.out.later HB5.out).ap.put (X' := ⟨X.tables.set t (X.tables[t].eraseIdx k5), X.next⟩) hB6 (hrd.mono (fun d hd => hd.1))
            dsimp only at h
            rw [List.length_set] at h
            exact h
          clear hrd hB6 x0 x1
          have x0 := cell_at (o := 0) hv6.bx rfl
          have x1 := cell_at (o := 1) hv6.bx rfl
          have f0 := frozen_at 0 hv6.bx
          have f1 := frozen_at 1 hv6.bx
          clear hv6
          refine hK.out _ _ ?_ (fun hHeld => ?_)
          · (first | exact CE2.out _ HB6.out | exact CE2.out _ HB5.out | exact CE2.out _ HB4.out.drew | exact CE2.out _ HB4.out | exact CE3.out _ _ _ HB6.out)
          clear hK K
          try simp only [Act.put, tkS]
          refine wpAnyH_ready (rs := [13]) (by kernel_rfl) (by simp) (AllReadyH.cons rfl (fun K hK => ?_) AllReadyH.nil)
          go_simp
          refine hK.out _ _ ?_ (fun hHeld => ?_)
          · (first | exact CE2.out _ HB6.out | exact CE2.out _ HB5.out | exact CE2.out _ HB4.out.drew | exact CE2.out _ HB4.out | exact CE3.out _ _ _ HB6.out)
          clear hK K
          try simp only [Act.put, tkS]
          refine wpAnyH_done (by kernel_rfl) ?_ _
          clear x0 x1 f0 f1
          go_wp2_with fail
          go_roundw
          case rel => exact ⟨k + 1, by omega, by go_num, ⟨X.tables.set t (X.tables[t].eraseIdx k5), X.next⟩, da, dc, HRD.out, HP5.out, HN6.out⟩
          case measure => simp [intOf]; omega
    have k2 : (kc == 2) = false := by simpa using h2
    have HK2 := Lib.hid h2
    clear h2
    go_wp2_with fail
    refine (KI.out _ HV3.out).mono ?_
    rintro e v4 ⟨rfl, hb, hB⟩
    have HV4 := Lib.hid hb
    have HB4 : Hid (Below v1.heap.size v1 v4) := HB3.out.trans (hB.mono HB3.out.size)
    clear y0 y1 y2 y3 y4 y5 x0 x1
    clear hb hB
    have y0 := cell_at (o := 0) HV4.out.cb rfl
    have y1 := cell_at (o := 1) HV4.out.cb rfl
    have y2 := cell_at (o := 2) HV4.out.cb rfl
    have y3 := cell_at (o := 3) HV4.out.cb rfl
    have y4 := cell_at (o := 4) HV4.out.cb rfl
    have y5 := cell_at (o := 5) HV4.out.cb rfl
    have x0 := cell_at (o := 0) HV4.out.ap.bx rfl
    have x1 := cell_at (o := 1) HV4.out.ap.bx rfl
    go_wp2_with fail
    refine (KI.out _ HV4.out).mono ?_
    rintro e v5 ⟨rfl, hb, hB⟩
    have HV5 := Lib.hid hb
    have HB5 : Hid (Below v1.heap.size v1 v5) := HB4.out.trans (hB.mono HB4.out.size)
    clear y0 y1 y2 y3 y4 y5 x0 x1
    clear hb hB
    have y0 := cell_at (o := 0) HV5.out.cb rfl
    have y1 := cell_at (o := 1) HV5.out.cb rfl
    have y2 := cell_at (o := 2) HV5.out.cb rfl
    have y3 := cell_at (o := 3) HV5.out.cb rfl
    have y4 := cell_at (o := 4) HV5.out.cb rfl
    have y5 := cell_at (o := 5) HV5.out.cb rfl
    have x0 := cell_at (o := 0) HV5.out.ap.bx rfl
    have x1 := cell_at (o := 1) HV5.out.ap.bx rfl
    have t0 := TC.out _ HB5.out
    by_cases h4 : kc = 1
    case neg =>
      have k1 : (kc == 1) = false := by simpa using h4
      have HNF : Hid (¬ (kindC ⟨(t : Int), ccid, coid, cocs, cnid, cncs⟩ = 1 ∧ 12 ≤ (tabI X (t : Int)).length)) := fun h => h4 (HKC.out.symm.trans h.1)
      have HLN : Hid ((∃ y ∈ X.tables[t], y.id = (⟨cnid, cncs⟩ : RowV).id) ∨ X.tables[t].length < 12) := by
        have hr := kind_rng ⟨(t : Int), ccid, coid, cocs, cnid, cncs⟩
        have h3 : kindC ⟨(t : Int), ccid, coid, cocs, cnid, cncs⟩ = 3 := by have e1 := HKC.out; have e2 := HK2.out; have e3 := HNB.out; omega
        have h5 := kind_three h3
        obtain ⟨k6, hk6, -, he6⟩ := rowD_there (by have := HTAB.out; omega) h5.1 HEQ.out.2
        exact .inl ⟨_, List.getElem_mem hk6, he6.trans h5.2.symm⟩
      clear h4
      have HRP : Hid (R = apL ⟨X.tables.set t (putL X.tables[t] ⟨cnid, cncs⟩), nextI X.next ccid⟩ ((list.reverse.map swapC).drop (k + 1))) := by
        have h := HRC.out.trans (ap_put HNB.out HEQ.out.1 (fun h => HK2.out (HKC.out.symm.trans h)) HNF.out)
        show R = _; rw [h]; unfold putC'; dsimp only; rw [HTI.out, Int.toNat_natCast]
      have HP6 : Hid (ApP ⟨X.tables.set t (putL X.tables[t] ⟨cnid, cncs⟩), nextI X.next ccid⟩) := ap_putP HP.out hti _ ⟨HCO.out.1, HCO.out.2.2⟩ HLN.out
      have L4 : Hid (Calls Try.prog 43 #[.agg #[.slice (some ⟨tb, to', none⟩) X.tables.length xc, .int .i64 X.next], .int .i64 (t : Int), .agg #[.int .i64 cnid, .slice a5 cncs.length q5]] v5 fun e w' => ∃ da dc, e = .returned (.agg #[.slice da X.tables.length dc, .int .i64 X.next]) ∧ Rd w' (fun d => v5.heap.size ≤ d ∧ d < w'.heap.size) (dRowSS (X.tables.set t (putL X.tables[t] ⟨cnid, cncs⟩))) (.slice da (X.tables.set t (putL X.tables[t] ⟨cnid, cncs⟩)).length dc) ∧ Below v5.heap.size v5 w') := lputS X t ⟨cnid, cncs⟩ hti (some ⟨tb, to', none⟩) xc a5 q5 _ _ v5 HP.out.2 HCO.out.2.2 HV5.out.ap.rd (HRO.out v5 HV5.out.ap.bel).2
      clear KI
      go_wp2_with fail
      refine L4.out.mono ?_
      rintro e v6 ⟨da, dc, rfl, hrd, hB6⟩
      have HN6 : Hid (ApB w ((v6.setCell ⟨w.heap.size, 0, none⟩ (.slice da X.tables.length dc)).setCell ⟨w.heap.size, 1, none⟩ (.int .i64 X.next)) ⟨X.tables.set t (putL X.tables[t] ⟨cnid, cncs⟩), X.next⟩ da dc) := by
        have h := HV5.out.ap.put (X' := ⟨X.tables.set t (putL X.tables[t] ⟨cnid, cncs⟩), X.next⟩) hB6 (hrd.mono (fun d hd => hd.1))
        dsimp only at h
        rw [List.length_set] at h
        exact h
      have HV6 := Lib.hid (HV5.out.later hB6)
      clear hrd hB6 L4
      clear y0 y1 y2 y3 y4 y5 x0 x1
      clear t0
      have x0 := cell_at (o := 0) HV6.out.ap.bx rfl
      have f0 := frozen_at 0 HV6.out.ap.bx
      have x1 := cell_at (o := 1) HV6.out.ap.bx rfl
      have f1 := frozen_at 1 HV6.out.ap.bx
      go_upto_region 18 with fail
      obtain ⟨V6, hV6⟩ : ∃ V6, V6 = (v6.setCell ⟨w.heap.size, 0, none⟩ (.slice da X.tables.length dc)).setCell ⟨w.heap.size, 1, none⟩ (.int .i64 X.next) := ⟨_, rfl⟩
      have HC6 : Hid (V6.heap[qb]? = some (.cells #[.int .i64 (t : Int), .int .i64 ccid, .int .i64 coid, .slice a3 cocs.length q3, .int .i64 cnid, .slice a5 cncs.length q5] 55)) := by have hlo := HV1.out.lo; rw [hV6, Below.heap_setCell _ _ _ _ (by show qb ≠ w.heap.size; omega), Below.heap_setCell _ _ _ _ (by show qb ≠ w.heap.size; omega)]; exact HV6.out.cb
      rw [← hV6] at HN6 ⊢
      clear hV6 x0 x1 f0 f1
      have x1 := cell_at (o := 1) HN6.out.bx rfl
      have f1 := frozen_at 1 HN6.out.bx
      have y1 := cell_at (o := 1) HC6.out rfl
      have HNX : Hid (ApB w (V6.setCell ⟨w.heap.size, 1, none⟩ (.int .i64 (nextI X.next ccid))) ⟨X.tables.set t (putL X.tables[t] ⟨cnid, cncs⟩), nextI X.next ccid⟩ da dc) := HN6.out.next _
      go_wp2_with fail
      go_roundw
      case rel => exact ⟨k + 1, by omega, by go_num, ⟨X.tables.set t (putL X.tables[t] ⟨cnid, cncs⟩), nextI X.next ccid⟩, da, dc, HRP.out, HP6.out, HNX.out⟩
      case measure => simp [intOf]; omega
    have k1 : (kc == 1) = true := by simpa using h4
    by_cases h5 : 12 ≤ X.tables[t].length
    case pos =>
      have HE : Hid (R = (X, 7)) := HRC.out.trans (ap_full HNB.out HEQ.out.1 (HKC.out.trans h4) (by show 12 ≤ (tabI X (t : Int)).length; rw [HTI.out]; exact h5))
      have d12 : decide (12 ≤ (X.tables[t].length : Int)) = true := decide_eq_true (by omega)
      clear h4 h5 KI
      have z0 := cell_at (o := 0) HV5.out.ap.rv rfl
      have g0 := frozen_at 0 HV5.out.ap.rv
      have z1 := cell_at (o := 1) HV5.out.ap.rv rfl
      have g1 := frozen_at 1 HV5.out.ap.rv
      go_wp2_with fail
      refine bodyPost_ret (v := .tuple #[.agg #[.slice (some ⟨tb, to', none⟩) X.tables.length xc, .int .i64 X.next], .int .i64 7]) (by simp [results, Try.results21, go_sem, *]) rfl ?_
      exact HV5.out.ap.ans HE.out _ _
    have d12 : decide (12 ≤ (X.tables[t].length : Int)) = false := decide_eq_false (by omega)
    have HNF : Hid (¬ (kindC ⟨(t : Int), ccid, coid, cocs, cnid, cncs⟩ = 1 ∧ 12 ≤ (tabI X (t : Int)).length)) := fun h => by rw [HTI.out] at h; exact h5 h.2
    have HLN : Hid ((∃ y ∈ X.tables[t], y.id = (⟨cnid, cncs⟩ : RowV).id) ∨ X.tables[t].length < 12) := .inr (by omega)
    clear h4 h5
    have HRP : Hid (R = apL ⟨X.tables.set t (putL X.tables[t] ⟨cnid, cncs⟩), nextI X.next ccid⟩ ((list.reverse.map swapC).drop (k + 1))) := by
      have h := HRC.out.trans (ap_put HNB.out HEQ.out.1 (fun h => HK2.out (HKC.out.symm.trans h)) HNF.out)
      show R = _; rw [h]; unfold putC'; dsimp only; rw [HTI.out, Int.toNat_natCast]
    have HP6 : Hid (ApP ⟨X.tables.set t (putL X.tables[t] ⟨cnid, cncs⟩), nextI X.next ccid⟩) := ap_putP HP.out hti _ ⟨HCO.out.1, HCO.out.2.2⟩ HLN.out
    have L4 : Hid (Calls Try.prog 43 #[.agg #[.slice (some ⟨tb, to', none⟩) X.tables.length xc, .int .i64 X.next], .int .i64 (t : Int), .agg #[.int .i64 cnid, .slice a5 cncs.length q5]] v5 fun e w' => ∃ da dc, e = .returned (.agg #[.slice da X.tables.length dc, .int .i64 X.next]) ∧ Rd w' (fun d => v5.heap.size ≤ d ∧ d < w'.heap.size) (dRowSS (X.tables.set t (putL X.tables[t] ⟨cnid, cncs⟩))) (.slice da (X.tables.set t (putL X.tables[t] ⟨cnid, cncs⟩)).length dc) ∧ Below v5.heap.size v5 w') := lputS X t ⟨cnid, cncs⟩ hti (some ⟨tb, to', none⟩) xc a5 q5 _ _ v5 HP.out.2 HCO.out.2.2 HV5.out.ap.rd (HRO.out v5 HV5.out.ap.bel).2
    clear KI
    go_wp2_with fail
    refine L4.out.mono ?_
    rintro e v6 ⟨da, dc, rfl, hrd, hB6⟩
    have HN6 : Hid (ApB w ((v6.setCell ⟨w.heap.size, 0, none⟩ (.slice da X.tables.length dc)).setCell ⟨w.heap.size, 1, none⟩ (.int .i64 X.next)) ⟨X.tables.set t (putL X.tables[t] ⟨cnid, cncs⟩), X.next⟩ da dc) := by
      have h := HV5.out.ap.put (X' := ⟨X.tables.set t (putL X.tables[t] ⟨cnid, cncs⟩), X.next⟩) hB6 (hrd.mono (fun d hd => hd.1))
      dsimp only at h
      rw [List.length_set] at h
      exact h
    have HV6 := Lib.hid (HV5.out.later hB6)
    clear hrd hB6 L4
    clear y0 y1 y2 y3 y4 y5 x0 x1
    clear t0
    have x0 := cell_at (o := 0) HV6.out.ap.bx rfl
    have f0 := frozen_at 0 HV6.out.ap.bx
    have x1 := cell_at (o := 1) HV6.out.ap.bx rfl
    have f1 := frozen_at 1 HV6.out.ap.bx
    go_upto_region 18 with fail
    obtain ⟨V6, hV6⟩ : ∃ V6, V6 = (v6.setCell ⟨w.heap.size, 0, none⟩ (.slice da X.tables.length dc)).setCell ⟨w.heap.size, 1, none⟩ (.int .i64 X.next) := ⟨_, rfl⟩
    have HC6 : Hid (V6.heap[qb]? = some (.cells #[.int .i64 (t : Int), .int .i64 ccid, .int .i64 coid, .slice a3 cocs.length q3, .int .i64 cnid, .slice a5 cncs.length q5] 55)) := by have hlo := HV1.out.lo; rw [hV6, Below.heap_setCell _ _ _ _ (by show qb ≠ w.heap.size; omega), Below.heap_setCell _ _ _ _ (by show qb ≠ w.heap.size; omega)]; exact HV6.out.cb
    rw [← hV6] at HN6 ⊢
    clear hV6 x0 x1 f0 f1
    have x1 := cell_at (o := 1) HN6.out.bx rfl
    have f1 := frozen_at 1 HN6.out.bx
    have y1 := cell_at (o := 1) HC6.out rfl
    have HNX : Hid (ApB w (V6.setCell ⟨w.heap.size, 1, none⟩ (.int .i64 (nextI X.next ccid))) ⟨X.tables.set t (putL X.tables[t] ⟨cnid, cncs⟩), nextI X.next ccid⟩ da dc) := HN6.out.next _
    go_wp2_with fail
    go_roundw
    case rel => exact ⟨k + 1, by omega, by go_num, ⟨X.tables.set t (putL X.tables[t] ⟨cnid, cncs⟩), nextI X.next ccid⟩, da, dc, HRP.out, HP6.out, HNX.out⟩
    case measure => simp [intOf]; omega
end Go.Proofs.Ytdhlndpobpdfmaa
