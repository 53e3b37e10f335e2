import Derived.Test.YtngbhifafdbpkaaGreatZba
import Derived.BigQuiet
namespace Go.Proofs.YtngbhifafdbpkaaGreat
open Go.RowKit
set_option linter.unusedSimpArgs false
theorem row_of5 {t : Tb} {id : Int} {l : List (List At)} (h : rowB t id l = true) : RowP t id l := by unfold rowB at h; exact @of_decide_eq_true _ (Classical.propDecidable _) h
set_option maxRecDepth 100000 in
set_option maxHeartbeats 6400000 in
theorem strongCountI (l : List Tb) (sa : Option Addr) (sc : Nat) (A : Nat → Prop) (x : StV) (xa : Option Addr) (xc : Nat) (B : Nat → Prop) (tb : Nat) (htb : tb < l.length) (id : Int) (w : World) (hlo : (dTableS l).le maxLen) (ho : (dRowSS x.tables).le maxLen) (hl4 : l.length ≤ 1000) (hc6 : ∀ i (h : i < l.length), l[i].cols.length ≤ 1000) (hf : FormP l x) (hT : Rd w A (dTableS l) (.slice sa l.length sc)) (hR : Rd w B (dRowSS x.tables) (.slice xa x.tables.length xc)) :
    Calls Tryz.prog 101 #[.agg #[.slice sa l.length sc], .agg #[.slice xa x.tables.length xc, .int .i64 x.next], .int .i64 tb, .int .i64 id] w fun e w' => e = .returned (.int .i64 (strongN l x.tables l[tb].nm ⟨4, id, []⟩ l.length)) ∧ Below w.heap.size w w' := by
  have HL : Hid (∀ W, Below w.heap.size w W → Rd W B (Ls 1 cRowS x.tables) (.slice xa x.tables.length xc)) := fun W h => Rd.later hR h
  obtain ⟨Ad, hA⟩ := hT.tabs
  have HS : Hid (∀ W, Below w.heap.size w W → Tabs W A sa l Ad) := fun W h => hA.later h
  have HO := Lib.hid (And.intro (le_tables hlo) ho)
  have HF := Lib.hid hf
  have HC6 := Lib.hid hc6
  have HSL : Hid (∀ k, strongN l x.tables l[tb].nm ⟨4, id, []⟩ k ≤ k * (1000 * 12)) := fun k => strongN_le _ _ hc6 (fun i h => (hf.2.2 i (by have := hf.1; omega) h).1) k
  have htj : (tb : Int) < (l.length : Int) := by omega
  have hb := boxE 37 32 w #[.slice sa l.length sc] #[.slice xa x.tables.length xc, .int .i64 x.next]
  have x0 := cell_at (o := 0) hb.a rfl
  have HB := Lib.hid hb
  clear hlo ho hT hR hA hf hc6 hb
  go_enter Tryz.func101, Tryz.ntmps101
  go_wp2_with fail
  clear x0
  go_loopw [9, 17] (fun n i wr => ∃ k : Nat, k ≤ l.length ∧ i = .int .i64 k ∧ ∃ s : Nat, n = .int .i64 s ∧ Hid (s = strongN l x.tables l[tb].nm ⟨4, id, []⟩ k ∧ BoxE 37 32 w wr #[.slice sa l.length sc] #[.slice xa x.tables.length xc, .int .i64 x.next])) (fun _ i _ => l.length - (intOf i).toNat)
  case atStart => exact ⟨0, Nat.zero_le _, rfl, 0, rfl, rfl, HB.out⟩
  case round =>
    obtain ⟨i, hi, rfl, s, rfl, HW⟩ := hrel
    generalize wr = wo at *
    have hsk : s ≤ 12000000 := by have := HSL.out i; rw [← HW.out.1] at this; omega
    by_cases hlt : i < l.length
    case neg =>
      have hki : decide ((i : Int) < (l.length : Int)) = false := by simp; omega
      have HE : Hid ((s : Int) = (strongN l x.tables l[tb].nm ⟨4, id, []⟩ l.length : Nat)) := by
        show (s : Int) = _
        rw [HW.out.1, show i = l.length by omega]
      go_wp2_with fail
      go_ret
      exact ⟨ret_i HE.out, HW.out.2.bel⟩
    have hlt' : i < x.tables.length := by have := HF.out.1; omega
    have hki : (i : Int) < (l.length : Int) := by omega
    have hkj : (i : Int) < (x.tables.length : Int) := by omega
    obtain ⟨b, off, rfl, -, hc⟩ := (HS.out _ HW.out.2.bel).at i hlt
    obtain ⟨t0, t1, t2, t3⟩ := hc i hlt
    have n0 := (hc tb htb).1
    obtain ⟨xb, xoff, rfl, -, hd⟩ := (HL.out _ HW.out.2.bel).things i hlt'
    obtain ⟨u0, q0, r0⟩ := hd 0 (by omega)
    replace r0 : Rd wo B (dRowS x.tables[i]) u0 := r0
    obtain ⟨ra, rq, rfl⟩ := r0.lsSlice
    rw [Nat.mul_one, Nat.add_zero] at q0
    have HRP := Lib.hid (HF.out.2.2 i hlt hlt')
    have HRO : Hid ((dRowS x.tables[i]).le maxLen) := (Ls_le.1 HO.out.2).2.2 i hlt' 0 (by omega)
    have HH : Hid (∀ W, Below w.heap.size w W → l[i].Has W A (Ad i).ca (Ad i).ua) := fun W h => (HS.out _ h).has i hlt
    have hzl := HC6.out i hlt
    have HNX : Hid (∀ v, v = s + colsN l[i].cols x.tables[i] l[tb].nm ⟨4, id, []⟩ l[i].cols.length → v = strongN l x.tables l[tb].nm ⟨4, id, []⟩ (i + 1)) := fun v h => by rw [strongN_succ hlt hlt', ← HW.out.1]; exact h
    have CX : Hid (∀ W, Below wo.heap.size wo W → W.cell? ⟨w.heap.size, 0, none⟩ = some (.slice (some ⟨b, off, none⟩) l.length sc) ∧ W.cell? ⟨w.heap.size + 1, 0, none⟩ = some (.slice (some ⟨xb, xoff, none⟩) x.tables.length xc) ∧ W.cell? ⟨b, off + tb * 4, none⟩ = some (.string ⟨l[tb].nm.toArray⟩) ∧ W.cell? ⟨xb, xoff + i, none⟩ = some (.slice ra x.tables[i].length rq)) := fun W h => ⟨cell_at (o := 0) (HW.out.2.later h).a rfl, cell_at (o := 0) (HW.out.2.later h).b rfl, (h.cell (p := ⟨b, off + tb * 4, none⟩) (World.block_lt_of_cell? _ _ n0)).trans n0, (h.cell (p := ⟨xb, xoff + i, none⟩) (World.block_lt_of_cell? _ _ q0)).trans q0⟩
    have SW : Hid (∀ k, k < l[i].cols.length → ∀ W, Below wo.heap.size wo W → Calls Tryz.prog 123 #[.slice ra x.tables[i].length rq, .int .i64 k, .agg #[.int .i64 4, .int .i64 id, .string ⟨#[]⟩]] W fun e w' => e = .returned (.int .i64 (setsN x.tables[i] k ⟨4, id, []⟩ x.tables[i].length)) ∧ Below W.heap.size W w') := fun k hk W h => setsWithI x.tables[i] ra rq B k ⟨4, id, []⟩ W HRO.out (by have := HRP.out.1; omega) (fun m hm => by have := (row_of5 (HRP.out.2.2 m hm).2).len; omega) (r0.later h)
    have HR12 := Lib.hid HRP.out.1
    clear hc hd n0 q0 r0 HRP HRO
    generalize x.tables[i] = rows at *
    generalize l[tb].nm = nm at *
    generalize Ad i = ad at *
    obtain ⟨ca, cc, ua, uc⟩ := ad
    simp only at t1 t2 HH
    have hx0 := (CX.out _ (Below.refl _ _)).1
    generalize l[i] = z at *
    go_wp2_with fail
    clear t0 t1 t2 t3 hx0
    go_loopw [9, 25] (fun n q wr => ∃ k : Nat, k ≤ z.cols.length ∧ q = .int .i64 k ∧ ∃ v : Nat, n = .int .i64 v ∧ Hid (v = s + colsN z.cols rows nm ⟨4, id, []⟩ k ∧ Below wo.heap.size wo wr)) (fun _ q _ => z.cols.length - (intOf q).toNat)
    case atStart => exact ⟨0, Nat.zero_le _, rfl, s, rfl, rfl, below_allocD _ _⟩
    case round =>
      obtain ⟨k, hk, rfl, v, rfl, HV⟩ := hrel
      have hvk : v ≤ 12012000 := by
        have h1 := colsN_le z.cols rows nm ⟨4, id, []⟩ k
        have h2 := Nat.mul_le_mul (show k ≤ 1000 by omega) HR12.out
        rw [HV.out.1]; omega
      by_cases hkl : k < z.cols.length
      case neg =>
        have hkd : decide ((k : Int) < (z.cols.length : Int)) = false := by simp; omega
        have HG := Lib.hid (HNX.out v (by rw [HV.out.1, show k = z.cols.length by omega]))
        have HV2 := Lib.hid (HW.out.2.later HV.out.2)
        clear HV HW
        go_wp2_with fail
        go_roundw
        case rel => exact ⟨i + 1, by omega, by go_num, v, rfl, HG.out, HV2.out⟩
        case measure => simp [intOf]; omega
      have hkk : (k : Int) < (z.cols.length : Int) := by omega
      obtain ⟨bc, oc, rfl, -, hcc⟩ := (HH.out _ (HW.out.2.later HV.out.2).bel).1.at k hkl
      obtain ⟨c0, c1, c2, c3, c4, c5, c6, c7⟩ := hcc k hkl
      have HY : Hid (pullB z.cols[k] nm = true → v + setsN rows k ⟨4, id, []⟩ rows.length = s + colsN z.cols rows nm ⟨4, id, []⟩ (k + 1)) := fun h => by rw [colsN_yes hkl h, HV.out.1]; omega
      have HN : Hid (pullB z.cols[k] nm = false → v = s + colsN z.cols rows nm ⟨4, id, []⟩ (k + 1)) := fun h => by rw [colsN_no hkl h]; exact HV.out.1
      have SK := Lib.hid (SW.out k hkl)
      have HVB := Lib.hid HV.out.2
      clear HV hcc
      generalize z.cols[k] = y at *
      obtain ⟨ynm, yk, ymn, ymx, ylo, yhi, yrf, yst⟩ := y
      dsimp only at c0 c1 c2 c3 c4 c5 c6 c7
      have HWB : Hid (Below wo.heap.size wo (wr.alloc (.cells #[.string ⟨ynm.toArray⟩, .int .i64 yk, .int .i64 ymn, .int .i64 ymx, .int .i64 ylo, .int .i64 yhi, .string ⟨yrf.toArray⟩, .bool yst] 72))) := HVB.out.trans ((below_allocD _ _).mono HVB.out.size)
      have x0 := (CX.out (wr.alloc (.cells #[.string ⟨ynm.toArray⟩, .int .i64 yk, .int .i64 ymn, .int .i64 ymx, .int .i64 ylo, .int .i64 yhi, .string ⟨yrf.toArray⟩, .bool yst] 72)) HWB.out).1
      have y0 := (CX.out (wr.alloc (.cells #[.string ⟨ynm.toArray⟩, .int .i64 yk, .int .i64 ymn, .int .i64 ymx, .int .i64 ylo, .int .i64 yhi, .string ⟨yrf.toArray⟩, .bool yst] 72)) HWB.out).2.1
      have n0 := (CX.out (wr.alloc (.cells #[.string ⟨ynm.toArray⟩, .int .i64 yk, .int .i64 ymn, .int .i64 ymx, .int .i64 ylo, .int .i64 yhi, .string ⟨yrf.toArray⟩, .bool yst] 72)) HWB.out).2.2.1
      have q0 := (CX.out (wr.alloc (.cells #[.string ⟨ynm.toArray⟩, .int .i64 yk, .int .i64 ymn, .int .i64 ymx, .int .i64 ylo, .int .i64 yhi, .string ⟨yrf.toArray⟩, .bool yst] 72)) HWB.out).2.2.2
      have z6 := cell_at (o := 6) (heap_newD wr (.cells #[.string ⟨ynm.toArray⟩, .int .i64 yk, .int .i64 ymn, .int .i64 ymx, .int .i64 ylo, .int .i64 yhi, .string ⟨yrf.toArray⟩, .bool yst] 72)) rfl
      have z7 := cell_at (o := 7) (heap_newD wr (.cells #[.string ⟨ynm.toArray⟩, .int .i64 yk, .int .i64 ymn, .int .i64 ymx, .int .i64 ylo, .int .i64 yhi, .string ⟨yrf.toArray⟩, .bool yst] 72)) rfl
      cases yst
      case false =>
        have HG := Lib.hid (HN.out rfl)
        clear HY HN SK
        go_wp2_with fail
        go_quiet (fail)
        go_wp2_with fail
        go_roundw
        case rel => exact ⟨k + 1, by omega, by go_num, v, rfl, HG.out, below_drewN HWB.out _⟩
        case measure => simp [intOf]; omega
      by_cases hrf : yrf = nm
      case neg =>
        have HG := Lib.hid (HN.out (by unfold pullB; simpa using hrf))
        have hne : (yrf == nm) = false := by simpa using hrf
        clear HY HN SK hrf
        go_wp2_with fail
        go_quiet (fail)
        go_wp2_with fail
        go_roundw
        case rel => exact ⟨k + 1, by omega, by go_num, v, rfl, HG.out, below_drewN HWB.out _⟩
        case measure => simp [intOf]; omega
      have HG := Lib.hid (HY.out (by unfold pullB; simpa using hrf))
      have hsl := setsN_le rows k ⟨4, id, []⟩ rows.length
      have hsm : setsN rows k ⟨4, id, []⟩ rows.length ≤ 12 := Nat.le_trans hsl HR12.out
      clear HY HN hsl
      subst hrf
      generalize setsN rows k ⟨4, id, []⟩ rows.length = m at *
      have hws : IntKind.i64.wrap ((v : Int) + (m : Int)) = (v : Int) + (m : Int) := by rw [IntKind.wrap_i64]; omega
      go_wp2_with fail
      go_quiet (fail)
      go_wp2_with fail
      refine (SK.out _ (by first | exact below_drewN HWB.out _ | exact HWB.out.drew | exact HWB.out)).mono ?_
      rintro e w3 ⟨rfl, hB⟩
      have HW3 : Hid (Below wo.heap.size wo w3) := by
        first
        | exact (below_drewN HWB.out _).trans (hB.mono (below_drewN HWB.out _).size)
        | exact HWB.out.trans (hB.mono HWB.out.size)
      clear x0 y0 n0 q0 z6 z7 hB
      go_wp2_with fail
      go_roundw
      case rel => exact ⟨k + 1, by omega, by go_num, v + m, by go_num, HG.out, HW3.out⟩
      case measure => simp [intOf]; omega
end Go.Proofs.YtngbhifafdbpkaaGreat
