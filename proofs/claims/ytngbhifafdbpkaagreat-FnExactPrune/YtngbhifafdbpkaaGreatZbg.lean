import Derived.Test.YtngbhifafdbpkaaGreatZbf
import Derived.Test.YtngbhifafdbpkaaGreatZaf
import Derived.Test.YtngbhifafdbpkaaGreatZbd
import Derived.Test.YtngbhifafdbpkaaGreatZap
import Derived.Deep.RegionHeld3
namespace Go.Proofs.YtngbhifafdbpkaaGreat
open Go.RowKit
set_option linter.unusedSimpArgs false
set_option maxRecDepth 100000 in
set_option maxHeartbeats 6400000 in
theorem strongS (l : List Tb) (sa : Option Addr) (sc : Nat) (A : Nat → Prop) (x : StV) (xa : Option Addr) (xc : Nat) (B : Nat → Prop) (tb : Nat) (htb : tb < l.length) (id : Int) (w : World) (hlo : (dTableS l).le maxLen) (ho : (dRowSS x.tables).le maxLen) (hl4 : l.length ≤ 1000) (hc6 : ∀ i (h : i < l.length), l[i].cols.length ≤ 1000) (hf : FormP l x) (hT : Rd w A (dTableS l) (.slice sa l.length sc)) (hR : Rd w B (dRowSS x.tables) (.slice xa x.tables.length xc)) :
    Calls Tryz.prog 37 #[.agg #[.slice sa l.length sc], .agg #[.slice xa x.tables.length xc, .int .i64 x.next], .int .i64 tb, .int .i64 id] w fun e w' => e = .returned (.int .i64 (strongN l x.tables l[tb].nm ⟨4, id, []⟩ l.length)) ∧ Below w.heap.size w w' := by
  have HL : Hid (∀ W, Below w.heap.size w W → Rd W B (Ls 1 cRowS x.tables) (.slice xa x.tables.length xc)) := fun W h => Rd.later hR h
  obtain ⟨Ad, hA⟩ := hT.tabs
  have HS : Hid (∀ W, Below w.heap.size w W → Tabs W A sa l Ad) := fun W h => hA.later h
  have HO := Lib.hid (And.intro (le_tables hlo) ho)
  have HF := Lib.hid hf
  have HC6 := Lib.hid hc6
  have HSL : Hid (∀ k, strongN l x.tables l[tb].nm ⟨4, id, []⟩ k ≤ k * (1000 * 12)) := fun k => strongN_le _ _ hc6 (fun i h => (hf.2.2 i (by have := hf.1; omega) h).1) k
  have htj : (tb : Int) < (l.length : Int) := by omega
  have hxl : x.tables.length ≤ 1000 := by have := hf.1; omega
  have HB := Lib.hid (boxE 37 32 w #[.slice sa l.length sc] #[.slice xa x.tables.length xc, .int .i64 x.next])
  clear hlo ho hT hR hA hf hc6
  go_enter Tryz.func37, Tryz.ntmps37
  go_wp2_with fail
  go_loopw [9, 10] (fun n i wr => ∃ k : Nat, k ≤ x.tables.length ∧ i = .int .i64 k ∧ ∃ s : Nat, n = .int .i64 s ∧ Hid (s = strongN l x.tables l[tb].nm ⟨4, id, []⟩ k ∧ BoxE 37 32 w wr #[.slice sa l.length sc] #[.slice xa x.tables.length xc, .int .i64 x.next])) (fun _ i _ => x.tables.length - (intOf i).toNat)
  case atStart => exact ⟨0, Nat.zero_le _, rfl, 0, rfl, rfl, HB.out⟩
  case round =>
    obtain ⟨i, hi, rfl, s, rfl, HW⟩ := hrel
    generalize wr = wo at *
    have y0 := cell_at (o := 0) HW.out.2.b rfl
    have hsk : s ≤ 12000000 := by have := HSL.out i; rw [← HW.out.1] at this; omega
    by_cases hlt' : i < x.tables.length
    case neg =>
      have hki : decide ((i : Int) < (x.tables.length : Int)) = false := by simp; omega
      have HE : Hid ((s : Int) = (strongN l x.tables l[tb].nm ⟨4, id, []⟩ l.length : Nat)) := by
        show (s : Int) = _
        rw [HW.out.1, show i = l.length by have := HF.out.1; omega]
      go_wp2_with fail
      go_ret
      exact ⟨ret_i HE.out, HW.out.2.bel⟩
    have hlt : i < l.length := by have := HF.out.1; omega
    have hki : (i : Int) < (l.length : Int) := by omega
    have hkj : (i : Int) < (x.tables.length : Int) := by omega
    obtain ⟨b, off, rfl, -, hc⟩ := (HS.out _ HW.out.2.bel).at i hlt
    obtain ⟨t0, t1, t2, t3⟩ := hc i hlt
    have n0 := (hc tb htb).1
    obtain ⟨xb, xoff, rfl, -, hd⟩ := (HL.out _ HW.out.2.bel).things i hlt'
    obtain ⟨u0, q0, r0⟩ := hd 0 (by omega)
    replace r0 : Rd wo B (dRowS x.tables[i]) u0 := r0
    obtain ⟨ra, rq, rfl⟩ := r0.lsSlice
    rw [Nat.mul_one, Nat.add_zero] at q0
    have HRP := Lib.hid (HF.out.2.2 i hlt hlt')
    have HRO : Hid ((dRowS x.tables[i]).le maxLen) := (Ls_le.1 HO.out.2).2.2 i hlt' 0 (by omega)
    have HH : Hid (∀ W, Below w.heap.size w W → l[i].Has W A (Ad i).ca (Ad i).ua) := fun W h => (HS.out _ h).has i hlt
    have HRR : Hid (∀ W, Below wo.heap.size wo W → Rd W B (Ls 2 dRow x.tables[i]) (.slice ra x.tables[i].length rq)) := fun W h => Rd.later r0 h
    have HCL : Hid (∀ m (h : m < x.tables[i].length), x.tables[i][m].cells.length = l[i].cols.length) := fun m hm => (row_of5 (HRP.out.2.2 m hm).2).len
    have hzl := HC6.out i hlt
    have HNX : Hid (∀ v, v = s + colsN l[i].cols x.tables[i] l[tb].nm ⟨4, id, []⟩ l[i].cols.length → v = strongN l x.tables l[tb].nm ⟨4, id, []⟩ (i + 1)) := fun v h => by rw [strongN_succ hlt hlt', ← HW.out.1]; exact h
    have CX : Hid (∀ W, Below wo.heap.size wo W → W.cell? ⟨w.heap.size, 0, none⟩ = some (.slice (some ⟨b, off, none⟩) l.length sc) ∧ W.cell? ⟨w.heap.size + 1, 0, none⟩ = some (.slice (some ⟨xb, xoff, none⟩) x.tables.length xc) ∧ W.cell? ⟨b, off + tb * 4, none⟩ = some (.string ⟨l[tb].nm.toArray⟩) ∧ W.cell? ⟨xb, xoff + i, none⟩ = some (.slice ra x.tables[i].length rq) ∧ W.cell? ⟨b, off + i * 4 + 1, none⟩ = some (.slice (Ad i).ca l[i].cols.length (Ad i).cc)) := fun W h => ⟨cell_at (o := 0) (HW.out.2.later h).a rfl, cell_at (o := 0) (HW.out.2.later h).b rfl, (h.cell (p := ⟨b, off + tb * 4, none⟩) (World.block_lt_of_cell? _ _ n0)).trans n0, (h.cell (p := ⟨xb, xoff + i, none⟩) (World.block_lt_of_cell? _ _ q0)).trans q0, (h.cell (p := ⟨b, off + i * 4 + 1, none⟩) (World.block_lt_of_cell? _ _ t1)).trans t1⟩
    have hr12 := HRP.out.1
    clear hc hd n0 q0 r0 HRP t0 t1 t2 t3
    generalize x.tables[i] = rows at *
    generalize l[tb].nm = nm at *
    generalize Ad i = ad at *
    obtain ⟨ca, cc, ua, uc⟩ := ad
    dsimp only at CX HH
    generalize l[i] = z at *
    go_wp2_with fail
    clear y0
    go_loopw [9, 11] (fun n q wr => ∃ k : Nat, k ≤ z.cols.length ∧ q = .int .i64 k ∧ ∃ v : Nat, n = .int .i64 v ∧ Hid (v = s + colsN z.cols rows nm ⟨4, id, []⟩ k ∧ Below wo.heap.size wo wr)) (fun _ q _ => z.cols.length - (intOf q).toNat)
    case atStart => exact ⟨0, Nat.zero_le _, rfl, s, rfl, rfl, Below.refl _ _⟩
    case round =>
      obtain ⟨k, hk, rfl, v, rfl, HV⟩ := hrel
      generalize wr = wm at *
      have hvk : v ≤ 12012000 := by
        have h1 := colsN_le z.cols rows nm ⟨4, id, []⟩ k
        have h2 := Nat.mul_le_mul (show k ≤ 1000 by omega) hr12
        rw [HV.out.1]; omega
      have x0 := (CX.out wm HV.out.2).1
      have k0 := (CX.out wm HV.out.2).2.2.2.2
      by_cases hkl : k < z.cols.length
      case neg =>
        have hkd : decide ((k : Int) < (z.cols.length : Int)) = false := by simp; omega
        have HG := Lib.hid (HNX.out v (by rw [HV.out.1, show k = z.cols.length by omega]))
        have HV2 := Lib.hid (HW.out.2.later HV.out.2)
        clear HV HW
        go_wp2_with fail
        go_roundw
        case rel => exact ⟨i + 1, by omega, by go_num, v, rfl, HG.out, HV2.out⟩
        case measure => simp [intOf]; omega
      have hkk : (k : Int) < (z.cols.length : Int) := by omega
      obtain ⟨bc, oc, rfl, -, hcc⟩ := (HH.out _ (HW.out.2.later HV.out.2).bel).1.at k hkl
      obtain ⟨c0, c1, c2, c3, c4, c5, c6, c7⟩ := hcc k hkl
      have HY : Hid (pullB z.cols[k] nm = true → ∀ n, n = v + setsN rows k ⟨4, id, []⟩ rows.length → n = s + colsN z.cols rows nm ⟨4, id, []⟩ (k + 1)) := fun h n e => by rw [colsN_yes hkl h, e, HV.out.1]; omega
      have HN : Hid (pullB z.cols[k] nm = false → v = s + colsN z.cols rows nm ⟨4, id, []⟩ (k + 1)) := fun h => by rw [colsN_no hkl h]; exact HV.out.1
      have HVB := Lib.hid HV.out.2
      clear HV hcc
      generalize z.cols[k] = y at *
      obtain ⟨ynm, yk, ymn, ymx, ylo, yhi, yrf, yst⟩ := y
      dsimp only at c0 c1 c2 c3 c4 c5 c6 c7
      have HWB : Hid (Below wo.heap.size wo (wm.alloc (.cells #[.string ⟨ynm.toArray⟩, .int .i64 yk, .int .i64 ymn, .int .i64 ymx, .int .i64 ylo, .int .i64 yhi, .string ⟨yrf.toArray⟩, .bool yst] 72))) := HVB.out.trans ((below_allocD _ _).mono HVB.out.size)
      have x1 := (CX.out (wm.alloc (.cells #[.string ⟨ynm.toArray⟩, .int .i64 yk, .int .i64 ymn, .int .i64 ymx, .int .i64 ylo, .int .i64 yhi, .string ⟨yrf.toArray⟩, .bool yst] 72)) HWB.out).1
      have n0 := (CX.out (wm.alloc (.cells #[.string ⟨ynm.toArray⟩, .int .i64 yk, .int .i64 ymn, .int .i64 ymx, .int .i64 ylo, .int .i64 yhi, .string ⟨yrf.toArray⟩, .bool yst] 72)) HWB.out).2.2.1
      have z6 := cell_at (o := 6) (heap_newD wm (.cells #[.string ⟨ynm.toArray⟩, .int .i64 yk, .int .i64 ymn, .int .i64 ymx, .int .i64 ylo, .int .i64 yhi, .string ⟨yrf.toArray⟩, .bool yst] 72)) rfl
      have z7 := cell_at (o := 7) (heap_newD wm (.cells #[.string ⟨ynm.toArray⟩, .int .i64 yk, .int .i64 ymn, .int .i64 ymx, .int .i64 ylo, .int .i64 yhi, .string ⟨yrf.toArray⟩, .bool yst] 72)) rfl
      cases yst
      case false =>
        have HG := Lib.hid (HN.out rfl)
        clear HY HN
        go_wp2_with fail
        go_quiet (fail)
        go_wp2_with fail
        go_roundw
        case rel => exact ⟨k + 1, by omega, by go_num, v, rfl, HG.out, below_drewN HWB.out _⟩
        case measure => simp [intOf]; omega
      by_cases hrf : yrf = nm
      case neg =>
        have HG := Lib.hid (HN.out (by unfold pullB; simpa using hrf))
        have hne : (yrf == nm) = false := by simpa using hrf
        have hnn : (yrf != nm) = true := by simpa using hrf
        clear HY HN hrf
        go_wp2_with fail
        go_quiet (fail)
        go_wp2_with fail
        go_roundw
        case rel => exact ⟨k + 1, by omega, by go_num, v, rfl, HG.out, below_drewN HWB.out _⟩
        case measure => simp [intOf]; omega
      have HG := Lib.hid (HY.out (by unfold pullB; simpa using hrf))
      clear HY HN
      subst hrf
      have hnn : (yrf != yrf) = false := by simp
      go_wp2_with fail
      go_quiet (fail)
      go_wp2_with fail
      clear x0 x1 k0 n0 z6 z7 c0 c1 c2 c3 c4 c5 c6 c7
      go_loopw [9, 13] (fun n q wr => ∃ m : Nat, m ≤ rows.length ∧ q = .int .i64 m ∧ ∃ u : Nat, n = .int .i64 u ∧ Hid (u = v + setsN rows k ⟨4, id, []⟩ m ∧ Below wo.heap.size wo wr)) (fun _ q _ => rows.length - (intOf q).toNat)
      case atStart => exact ⟨0, Nat.zero_le _, rfl, v, rfl, rfl, by first | exact below_drewN HWB.out _ | exact HWB.out⟩
      case round =>
        obtain ⟨m, hm, rfl, u, rfl, HU⟩ := hrel
        have huk : u ≤ 12012012 := by
          have h1 := setsN_le rows k ⟨4, id, []⟩ m
          rw [HU.out.1]; omega
        have y0 := (CX.out wr HU.out.2).2.1
        have q0 := (CX.out wr HU.out.2).2.2.2.1
        by_cases hml : m < rows.length
        case neg =>
          have hmd : decide ((m : Int) < (rows.length : Int)) = false := by simp; omega
          have HG2 := Lib.hid (HG.out u (by rw [HU.out.1, show m = rows.length by omega]))
          have HU2 := Lib.hid HU.out.2
          clear HU
          go_wp2_with fail
          go_roundw
          case rel => exact ⟨k + 1, by omega, by go_num, u, rfl, HG2.out, HU2.out⟩
          case measure => simp [intOf]; omega
        have hmm : (m : Int) < (rows.length : Int) := by omega
        have hcl : k < rows[m].cells.length := by have := HCL.out m hml; omega
        have hcj : (k : Int) < (rows[m].cells.length : Int) := by omega
        obtain ⟨rb, roff, rfl, -, hr⟩ := (HRR.out _ HU.out.2).things m hml
        obtain ⟨u1, d1, r1⟩ := hr 1 (by omega)
        replace r1 : Rd wr B (Ls 1 cAtomS rows[m].cells) u1 := r1
        obtain ⟨ea, eq, rfl⟩ := r1.lsSlice
        obtain ⟨eb, eoff, rfl, -, hs⟩ := r1.things k hcl
        obtain ⟨u2, d2, r2⟩ := hs 0 (by omega)
        replace r2 : Rd wr B (dAtomS rows[m].cells[k]) u2 := r2
        obtain ⟨va, vq, rfl⟩ := r2.lsSlice
        rw [Nat.mul_one, Nat.add_zero] at d2
        have HLE : Hid ((dAtomS rows[m].cells[k]).le maxLen) := (Ls_le.1 ((Ls_le.1 HRO.out).2.2 m hml 1 (by omega))).2.2 k hcl 0 (by omega)
        have CT := Lib.hid (hasS rows[m].cells[k] ⟨4, id, []⟩ va vq B wr (le_atoms HLE.out).1 r2.ats)
        have HS2 : Hid (v + setsN rows k ⟨4, id, []⟩ (m + 1) = u + (if hasB rows[m].cells[k] ⟨4, id, []⟩ = true then 1 else 0)) := by
          show v + setsN rows k ⟨4, id, []⟩ (m + 1) = _
          rw [setsN_succ, cellAtN_at hml hcl, HU.out.1]; omega
        clear hr hs r1 r2 HLE
        generalize rows[m].cells[k] = cell at *
        clear hcl
        generalize rows[m].cells.length = nc at *
        go_wp2_with fail
        refine CT.out.mono ?_
        rintro e w4 ⟨rfl, hB⟩
        have HU4 : Hid (Below wo.heap.size wo w4) := HU.out.2.trans (hB.mono HU.out.2.size)
        clear y0 q0 d1 d2 hB
        have hws : IntKind.i64.wrap ((u : Int) + 1) = (u : Int) + 1 := by rw [IntKind.wrap_i64]; omega
        have hws0 : IntKind.i64.wrap ((u : Int) + 0) = (u : Int) := by rw [IntKind.wrap_i64]; omega
        cases he : hasB cell ⟨4, id, []⟩
        case false =>
          have HZ : Hid (u = v + setsN rows k ⟨4, id, []⟩ (m + 1)) := by show _ = _; rw [HS2.out, he]; simp
          go_wp2_with fail
          refine (bitS false _).mono ?_
          rintro e w5 ⟨rfl, rfl⟩
          clear HS2 CT he
          go_wp2_with fail
          go_roundw
          case rel => exact ⟨m + 1, by omega, by go_num, u, by first | rfl | (simp; done) | (simp [hws0]; done) | go_num, HZ.out, HU4.out⟩
          case measure => simp [intOf]; omega
        have HZ : Hid (u + 1 = v + setsN rows k ⟨4, id, []⟩ (m + 1)) := by show _ = _; rw [HS2.out, he]; simp
        go_wp2_with fail
        refine (bitS true _).mono ?_
        rintro e w5 ⟨rfl, rfl⟩
        clear HS2 CT he
        go_wp2_with fail
        go_roundw
        case rel => exact ⟨m + 1, by omega, by go_num, u + 1, by first | rfl | go_num, HZ.out, HU4.out⟩
        case measure => simp [intOf]; omega
end Go.Proofs.YtngbhifafdbpkaaGreat
namespace Go.Proofs.YtngbhifafdbpkaaGreat
open Go.RowKit
set_option linter.unusedSimpArgs false
theorem step_append_is {P : Program} {ops : Array Oper} {o : Oper} {a : Act} {w : World} {K : Act → World → Prop} {Q : Exit → Act → World → Prop} {E : Prop} (hgd : o.guard = none) (s x : Operand) (t : TypeId)
    (ho : o.op = .call { callee := .builtin .append, args := #[s, x], argTypes := #[t, t] }) (v y : Value) (hs : a.eval s = v) (hx : a.eval x = y) (v' : Value) (w' : World) (hr : (Builtin.append_ #[t, t] o.type #[v, y]).run P w = .ok v' w')
    (hk : K (a.put o.dst v') w') : if Region.wanted o (yielded ops a.tmps) = true then Oper.wp P o a w K Q else E := by
  rw [if_pos (by simp [Region.wanted, hgd])]
  unfold Oper.wp execOp
  simp only [ho, resolve, invoke, builtin, Sem.run_bind, Sem.run_pure, Result.andThen_ok, List.map_toArray, List.map_cons, List.map_nil, hs, hx, hr]
  exact hk
theorem infoAs : ∃ i, Tryz.prog.info? 81 = some i ∧ i.zero = some (.slice none 0 0) ∧ i.size = 1 ∧ i.bytes = 24 := by
  have h : (Tryz.prog.info? 81).map (fun i => (i.zero, i.size, i.bytes)) = some (some (.slice none 0 0), 1, 24) := by kernel_rfl
  obtain ⟨i, hi, hzz⟩ := Option.map_eq_some_iff.1 h
  simp only [Prod.mk.injEq] at hzz
  exact ⟨i, hi, hzz⟩
end Go.Proofs.YtngbhifafdbpkaaGreat
