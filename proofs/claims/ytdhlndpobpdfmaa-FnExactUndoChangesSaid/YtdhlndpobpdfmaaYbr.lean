import Derived.Test.YtdhlndpobpdfmaaYbq
namespace Go.Proofs.Ytdhlndpobpdfmaa
open Go.RowKit
set_option linter.unusedSimpArgs false
def ApI (w : World) (R : StV × Int) (e : Ending) (w' : World) : Prop := ∃ (ra : Option Addr) (rc : Nat), e = .returned (.tuple #[.agg #[.slice ra R.1.tables.length rc, .int .i64 R.1.next], .int .i64 R.2]) ∧ Own w' (dRowSS R.1.tables) (fun c => w.heap.size ≤ c ∧ c < w'.heap.size) (.slice ra R.1.tables.length rc) ∧ Below w.heap.size w w'
structure AIB (w W : World) (m q : Nat) (Ts : List Tab3) (n : Int) : Prop where
  rv : W.heap[w.heap.size + 1]? = some (.cells #[.slice none 0 0, .int .i64 0] 30)
  ms : MSt W (w.heap.size + 1 + 1) m q Ts n
  bel : Below w.heap.size w W
theorem AIB.later {w W W' : World} {m q : Nat} {Ts : List Tab3} {n : Int} (h : AIB w W m q Ts n) (hB : Below W.heap.size W W') : AIB w W' m q Ts n := ⟨heap_keptD h.rv hB, h.ms.later hB, h.bel.trans (hB.mono h.bel.size)⟩
theorem AIB.to {w W W' : World} {m q : Nat} {Ts Ts' : List Tab3} {n n' : Int} (h : AIB w W m q Ts n) (hM : MSt W' (w.heap.size + 1 + 1) m q Ts' n') (hB : Below (w.heap.size + 1 + 1) W W') : AIB w W' m q Ts' n' := ⟨by rw [hB.block _ (by omega)]; exact h.rv, hM, h.bel.trans (hB.mono (by omega))⟩
theorem AIB.ans {w W : World} {m q : Nat} {Ts : List Tab3} {n r : Int} {R : StV × Int} (h : AIB w W m q Ts n) (hR : R = (stOf Ts n, r)) : ApI w R (.returned (.tuple #[.agg #[.slice (some ⟨q, 0, none⟩) Ts.length Ts.length, .int .i64 n], .int .i64 r])) ((W.setCell ⟨w.heap.size + 1, 0, none⟩ (.slice (some ⟨q, 0, none⟩) Ts.length Ts.length)).setCell ⟨w.heap.size + 1, 1, none⟩ (.int .i64 n)) := by
  refine ⟨some ⟨q, 0, none⟩, Ts.length, by rw [hR, stOf_len]; rfl, ?_, (h.bel.setCell (by show w.heap.size ≤ w.heap.size + 1; omega) _).setCell (by show w.heap.size ≤ w.heap.size + 1; omega) _⟩
  rw [hR]
  have hf : Frm (· = w.heap.size + 1) W ((W.setCell ⟨w.heap.size + 1, 0, none⟩ (.slice (some ⟨q, 0, none⟩) Ts.length Ts.length)).setCell ⟨w.heap.size + 1, 1, none⟩ (.int .i64 n)) := (frm_set _ _ _ _).trans (frm_set _ _ _ _)
  refine (h.ms.own.frm hf (fun b hb e => ?_)).mono (fun b hb => ⟨by have := hb.1.1; omega, by have := hb.1.2; simpa [World.setCell] using this⟩)
  have e' : b = w.heap.size + 1 := e
  have := hb.1.1
  omega
theorem ApI.zero {w w' : World} {x : StV} {l : List ChV} {n : Int} (h : acC x l = n) (hn : n ≠ 0) (hB : Below w.heap.size w w') : ApI w (acP x l) (.returned (.tuple #[.agg #[.slice none 0 0, .int .i64 0], .int .i64 n])) w' := by
  have e : acP x l = (stZ, n) := by unfold acP; rw [h, if_neg hn]
  rw [e]
  exact ⟨none, 0, rfl, ⟨none, 0, rfl, .inl rfl⟩, hB⟩
theorem ch_le {l : List ChV} (h : (dChangeS l).le 1048576) {k : Nat} (hk : k < l.length) : iOK l[k].tab ∧ iOK l[k].cid ∧ iOK l[k].oid ∧ (dAtomSS l[k].ocs).le 1048576 ∧ iOK l[k].nid ∧ (dAtomSS l[k].ncs).le 1048576 := by
  have := (Ls_le.1 h).2.2 k hk
  exact ⟨this 0 (by omega), this 1 (by omega), this 2 (by omega), this 3 (by omega), this 4 (by omega), this 5 (by omega)⟩
set_option maxRecDepth 100000 in
set_option maxHeartbeats 6400000 in
theorem unI (x : StV) (list : List ChV) (a : Option Addr) (c : Nat) (la : Option Addr) (lc : Nat) (A B : Nat → Prop) (w : World) (hl : (dChangeS list).le 1048576) (hx : (dRowSS x.tables).le 1048576) (hn : iOK x.next) (rx : Rd w A (dRowSS x.tables) (.slice a x.tables.length c)) (rl : Rd w B (dChangeS list) (.slice la list.length lc)) :
    Calls Try.prog 17 #[.agg #[.slice a x.tables.length c, .int .i64 x.next], .slice la list.length lc] w (ApI w (acP x (list.reverse.map swapC))) := by
  have hll : list.length ≤ 1048576 := (Ls_le.1 hl).2.1
  have hxm : (dRowSS x.tables).le maxLen := D.le.mono (by unfold maxLen; omega) _ hx
  have HC : Hid (acC x (list.reverse.map swapC) = acC x list) := ac_len (by simp)
  have K0 : Hid (∀ W, Box2D 30 w W #[.slice a x.tables.length c, .int .i64 x.next] #[.slice none 0 0, .int .i64 0] → Calls Try.prog 24 #[.agg #[.slice a x.tables.length c, .int .i64 x.next], .slice la list.length lc] W fun e w' => e = .returned (.int .i64 (acC x list)) ∧ Box2D 30 w w' #[.slice a x.tables.length c, .int .i64 x.next] #[.slice none 0 0, .int .i64 0]) := fun W h => (chCodeI x list a c la lc A W hll hxm (rx.later h.bel)).mono (fun e w' ⟨he, hB⟩ => ⟨he, h.later hB⟩)
  have KC : Hid (∀ W, Box2D 30 w W #[.slice a x.tables.length c, .int .i64 x.next] #[.slice none 0 0, .int .i64 0] → Calls Try.prog 25 #[.agg #[.slice a x.tables.length c, .int .i64 x.next]] W _) := fun W h => copyStoreI x a c A W hx (rx.later h.bel)
  have HL : Hid (∀ W, Below w.heap.size w W → Rd W B (Ls 6 dChange list) (.slice la list.length lc)) := fun W h => Rd.later rl h
  have HO := Lib.hid (And.intro hl (And.intro hx hn))
  have HB0 := Lib.hid (box2D 30 w #[.slice a x.tables.length c, .int .i64 x.next] #[.slice none 0 0, .int .i64 0])
  clear hx hxm hl rx rl hn
  have x0 := cell_at (o := 0) HB0.out.a rfl
  have x1 := cell_at (o := 1) HB0.out.a rfl
  by_cases hac : acC x list = 0
  case neg =>
    have HZ : Hid (∀ w', Below w.heap.size w w' → ApI w (acP x (list.reverse.map swapC)) (.returned (.tuple #[.agg #[.slice none 0 0, .int .i64 0], .int .i64 (acC x list)])) w') := fun w' hB => ApI.zero HC.out hac hB
    have hne : (acC x list != 0) = true := by simpa using hac
    clear hac
    generalize acC x list = ac at *
    go_enter Try.func17, Try.ntmps17
    go_wp2_with fail
    refine (K0.out _ HB0.out).mono ?_
    rintro e w1 ⟨rfl, hb⟩
    have HB1 := Lib.hid hb
    have y0 := cell_at (o := 0) hb.b rfl
    have y1 := cell_at (o := 1) hb.b rfl
    have g0 := frozen_at 0 hb.b
    have g1 := frozen_at 1 hb.b
    clear hb x0 x1
    go_wp2_with fail
    exact bodyPost_ret (v := .tuple #[.agg #[.slice none 0 0, .int .i64 0], .int .i64 ac]) (by simp [results, Try.results17, go_sem, *]) rfl (HZ.out _ ((HB1.out.bel.setCell (by simp <;> omega) _).setCell (by simp <;> omega) _))
  have HP : Hid (ApP x) := by
    unfold acC at hac
    split at hac
    · omega
    split at hac
    · rename_i h; exact ap_plain h HO.out.2.1
    · omega
  have HA : Hid (acP x (list.reverse.map swapC) = apL x (list.reverse.map swapC)) := ac_yes (HC.out.trans hac)
  rw [HA.out]
  rw [hac] at K0
  clear hac HC HA
  generalize hR : apL x (list.reverse.map swapC) = R
  have HR := Lib.hid hR
  clear hR
  go_enter Try.func17, Try.ntmps17
  go_wp2_with fail
  refine (K0.out _ HB0.out).mono ?_
  rintro e w1 ⟨rfl, hb⟩
  have HB1 := Lib.hid hb
  clear x0 x1
  have x0 := cell_at (o := 0) hb.a rfl
  have x1 := cell_at (o := 1) hb.a rfl
  clear hb
  go_wp2_with fail
  refine (KC.out _ HB1.out).mono ?_
  rintro e w2 ⟨q, rfl, hq, hT, hex, hB2⟩
  obtain ⟨Ts, hst, hM, hlen⟩ := MSt.of (lo := w.heap.size + 1 + 1) HO.out.2.1 hT hex (by have := (Array.getElem?_eq_some_iff.1 HB1.out.b).1; omega)
  have hb3 := (HB1.out.later hB2).later (below_allocD w2 (.cells #[.slice (some ⟨q, 0, none⟩) x.tables.length x.tables.length, .int .i64 x.next] 30))
  have HM0 : Hid (AIB w (w2.alloc (.cells #[.slice (some ⟨q, 0, none⟩) x.tables.length x.tables.length, .int .i64 x.next] 30)) w2.heap.size q Ts x.next) := ⟨hb3.b, hM, hb3.bel⟩
  have HST := Lib.hid hst
  have m0 := cell_at (o := 0) hM.bx rfl
  have m1 := cell_at (o := 1) hM.bx rfl
  clear hq hT hex hB2 hst hM hb3 x0 x1 hlen m0 m1
  go_wp2_with fail
  go_loopw [8] (fun t wr => ∃ j : Nat, ∃ z : Int, j ≤ list.length ∧ t = .int .i64 z ∧ Hid (z = (j : Int) - 1 ∧ ∃ Ts n, AIB w wr w2.heap.size q Ts n ∧ ApP (stOf Ts n) ∧ iOK n ∧ R = apL (stOf Ts n) ((list.reverse.map swapC).drop (list.length - j)))) (fun t _ => (intOf t + 1).toNat)
  case atStart => exact ⟨list.length, (list.length : Int) - 1, Nat.le_refl _, by go_num, rfl, Ts, x.next, HM0.out, by rw [HST.out]; exact HP.out, HO.out.2.2, by rw [HST.out, Nat.sub_self]; exact HR.out.symm⟩
  case round =>
    obtain ⟨j, z, hj, rfl, HW⟩ := hrel
    obtain ⟨hz, Tk, nk, hA, hPk, hnk, hRk⟩ := HW.out
    have HAk := Lib.hid hA
    have HPk := Lib.hid (And.intro hPk (And.intro hnk hRk))
    clear hA hPk hnk hRk HW HM0 HST
    have m0 := cell_at (o := 0) HAk.out.ms.bx rfl
    have m1 := cell_at (o := 1) HAk.out.ms.bx rfl
    have r0 := cell_at (o := 0) HAk.out.rv rfl
    have r1 := cell_at (o := 1) HAk.out.rv rfl
    have g0 := frozen_at 0 HAk.out.rv
    have g1 := frozen_at 1 HAk.out.rv
    by_cases hj0 : j = 0
    case pos =>
      have HE : Hid (R = (stOf Tk nk, 0)) := by
        show R = _
        rw [HPk.out.2.2, List.drop_eq_nil_of_le (by simp; omega)]; rfl
      obtain rfl : z = -1 := by omega
      clear hz hj0
      go_wp2_with fail
      refine bodyPost_ret (v := .tuple #[.agg #[.slice (some ⟨q, 0, none⟩) Tk.length Tk.length, .int .i64 nk], .int .i64 0]) (by simp [results, Try.results17, go_sem, *]) rfl ?_
      exact HAk.out.ans HE.out
    obtain ⟨k, hkj⟩ : ∃ k, j = k + 1 := ⟨j - 1, by omega⟩
    obtain rfl : z = (k : Int) := by omega
    have hkl : k < list.length := by omega
    have hki : (k : Int) < (list.length : Int) := by omega
    have HDR : Hid ((list.reverse.map swapC).drop (list.length - j) = swapC list[k] :: (list.reverse.map swapC).drop (list.length - k)) := by
      have h1 : list.length - j < (list.reverse.map swapC).length := by simp; omega
      rw [drop_at h1, show list.length - k = list.length - j + 1 by omega, List.getElem_map, List.getElem_reverse]
      congr 3
      omega
    have HCL := Lib.hid (ch_le HO.out.1 hkl)
    obtain ⟨b, off, rfl, -, hc⟩ := (HL.out _ HAk.out.bel).things k hkl
    have HKJ := Lib.hid hkj
    clear hz hj0 hkj
    obtain ⟨u0, c0, t0⟩ := hc 0 (by omega)
    obtain ⟨u1, c1, t1⟩ := hc 1 (by omega)
    obtain ⟨u2, c2, t2⟩ := hc 2 (by omega)
    obtain ⟨u3, c3', t3⟩ := hc 3 (by omega)
    obtain ⟨u4, c4, t4⟩ := hc 4 (by omega)
    obtain ⟨u5, c5', t5⟩ := hc 5 (by omega)
    obtain rfl : u0 = .int .i64 list[k].tab := t0
    obtain rfl : u1 = .int .i64 list[k].cid := t1
    obtain rfl : u2 = .int .i64 list[k].oid := t2
    obtain rfl : u4 = .int .i64 list[k].nid := t4
    replace t3 : Rd wr B (dAtomSS list[k].ocs) u3 := t3
    replace t5 : Rd wr B (dAtomSS list[k].ncs) u5 := t5
    obtain ⟨a3, c3, rfl⟩ := t3.lsSlice
    obtain ⟨a5, c5, rfl⟩ := t5.lsSlice
    rw [Nat.add_zero] at c0
    have T3 := Lib.hid t3
    have T5 := Lib.hid t5
    clear hc t3 t5
    generalize list[k] = y at *
    have BK := Lib.hid (fun W => backI y a3 c3 a5 c5 W)
    go_wp2_with fail
    refine (BK.out _).mono ?_
    rintro e w4 ⟨rfl, hB4⟩
    have hA2 := HAk.out.later hB4
    have DN := Lib.hid (doneI y.tab y.cid y.nid y.oid y.ncs y.ocs a5 c5 a3 c3 (w.heap.size + 1 + 1) w2.heap.size q Tk nk B _ hA2.ms HPk.out.1 HPk.out.2.1 HCL.out.2.1 HCL.out.2.2.2.2.2 HCL.out.2.2.2.1 (T5.out.later hB4) (T3.out.later hB4))
    have HA2 := Lib.hid hA2
    clear hA2 hB4 m0 m1 r0 r1 g0 g1
    have HDN : Hid ((⟨y.tab, y.cid, y.nid, y.ncs, y.oid, y.ocs⟩ : ChV) = swapC y) := rfl
    rw [HDN.out] at DN
    clear HDN
    go_wp2_with fail
    with_reducible refine DN.out.mono ?_
    rintro e w3 ⟨T', n', rfl, hM3, hs3, hB3⟩
    have HA3 := Lib.hid (HA2.out.to hM3 hB3)
    have HS3 := Lib.hid hs3
    have HPC : Hid (iOK (swapC y).nid ∧ (dAtomSS (swapC y).ncs).le 1048576) := ⟨HCL.out.2.2.1, HCL.out.2.2.2.1⟩
    have HN3 : Hid (iOK n') := by
      have h1 : (stOf T' n').next = n' := rfl
      show iOK n'
      rw [← h1, HS3.out]
      exact dn_next HPk.out.2.1
    clear hM3 hs3 hB3
    by_cases hz : (dnC (stOf Tk nk) (swapC y)).2 = 0
    case pos =>
      have HZ0 := Lib.hid hz
      rw [hz]
      clear hz
      clear c0 c1 c2 c3' c4 c5'
      go_wp2_with fail
      go_roundw
      case rel => exact ⟨k, (k : Int) - 1, by omega, by go_num, rfl, T', n', HA3.out, by rw [HS3.out]; exact dn_P HPk.out.1 HPC.out, HN3.out, by rw [HPk.out.2.2, HDR.out, apL_cons, if_pos HZ0.out, HS3.out]⟩
      case measure => simp [intOf] <;> omega
    have HE : Hid (R = (stOf T' n', (dnC (stOf Tk nk) (swapC y)).2)) := by
      show R = _
      rw [HPk.out.2.2, HDR.out, apL_cons, if_neg hz, HS3.out]
    have hzn : ((dnC (stOf Tk nk) (swapC y)).2 != 0) = true := by simpa using hz
    clear hz
    generalize (dnC (stOf Tk nk) (swapC y)).2 = cd at *
    clear c0 c1 c2 c3' c4 c5'
    have m0 := cell_at (o := 0) HA3.out.ms.bx rfl
    have m1 := cell_at (o := 1) HA3.out.ms.bx rfl
    have r0 := cell_at (o := 0) HA3.out.rv rfl
    have r1 := cell_at (o := 1) HA3.out.rv rfl
    have g0 := frozen_at 0 HA3.out.rv
    have g1 := frozen_at 1 HA3.out.rv
    go_wp2_with fail
    refine bodyPost_ret (v := .tuple #[.agg #[.slice (some ⟨q, 0, none⟩) T'.length T'.length, .int .i64 n'], .int .i64 cd]) (by simp [results, Try.results17, go_sem, *]) rfl ?_
    exact HA3.out.ans HE.out
end Go.Proofs.Ytdhlndpobpdfmaa
