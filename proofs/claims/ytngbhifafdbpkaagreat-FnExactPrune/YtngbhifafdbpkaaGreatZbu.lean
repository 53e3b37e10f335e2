import Derived.Test.YtngbhifafdbpkaaGreatZbq
import Derived.Test.YtngbhifafdbpkaaGreatZbe
import Derived.Test.YtngbhifafdbpkaaGreatZbk
import Derived.Test.YtngbhifafdbpkaaGreatZbg
import Derived.Deep.LoopGhost
import Derived.Deep.CutRange
import Derived.Test.YtngbhifafdbpkaaGreatZTk
namespace Go.Proofs.YtngbhifafdbpkaaGreat
open Go.RowKit
set_option linter.unusedSimpArgs false
theorem tab_ofP {t : Tb} (h : tabB t = true) : TabP t := by unfold tabB at h; exact @of_decide_eq_true _ (Classical.propDecidable _) h
theorem flt_le9 {p : At → Bool} {s F : List At} (h : F = s.filter p) : F.length ≤ s.length := by rw [h]; exact List.length_filter_le _ _
structure Bx3 (w W : World) (o1 o2 o3 : Obj) : Prop where
  a : W.heap[w.heap.size]? = some o1
  b : W.heap[w.heap.size + 1]? = some o2
  c : W.heap[w.heap.size + 1 + 1]? = some o3
  bel : Below w.heap.size w W
theorem bx3 (w : World) (o1 o2 o3 : Obj) : Bx3 w (((w.alloc o1).alloc o2).alloc o3) o1 o2 o3 := by
  have e2 := heap_newD (w.alloc o1) o2
  have e3 := heap_newD ((w.alloc o1).alloc o2) o3
  rw [size_allocD] at e2
  rw [size_allocD, size_allocD] at e3
  exact ⟨heap_keptD (heap_keptD (heap_newD _ _) (below_allocD _ _)) (below_allocD _ _), heap_keptD e2 (below_allocD _ _), e3, (((Below.refl _ _).alloc (Nat.le_refl _) _).alloc (by simp) _).alloc (by simp; omega) _⟩
theorem Bx3.later {w W W' : World} {o1 o2 o3 : Obj} (h : Bx3 w W o1 o2 o3) (hB : Below W.heap.size W W') : Bx3 w W' o1 o2 o3 := ⟨heap_keptD h.a hB, heap_keptD h.b hB, heap_keptD h.c hB, h.bel.trans (hB.mono h.bel.size)⟩
structure PrS (w W : World) (sv : Value) (n : Int) (Y : List (List RowV)) (ra : Option Addr) (rc : Nat) : Prop where
  a : W.heap[w.heap.size]? = some (.cells #[sv] 37)
  b : W.heap[w.heap.size + 1]? = some (.cells #[.slice ra Y.length rc, .int .i64 n] 32)
  c : W.heap[w.heap.size + 1 + 1]? = some (.cells #[.slice none 0 0, .int .i64 0] 32)
  d : Own W (dRowSS Y) (fun d => w.heap.size + 1 + 1 < d ∧ d < W.heap.size) (.slice ra Y.length rc)
  bel : Below w.heap.size w W
theorem PrS.later {w W W' : World} {sv : Value} {n : Int} {Y : List (List RowV)} {ra : Option Addr} {rc : Nat} (h : PrS w W sv n Y ra rc) (hB : Below W.heap.size W W') : PrS w W' sv n Y ra rc :=
  ⟨heap_keptD h.a hB, heap_keptD h.b hB, heap_keptD h.c hB, (h.d.later hB).mono (fun _ hd => ⟨hd.1, Nat.lt_of_lt_of_le hd.2 hB.size⟩), h.bel.trans (hB.mono h.bel.size)⟩
theorem PrS.drew {w W : World} {sv : Value} {n : Int} {Y : List (List RowV)} {ra : Option Addr} {rc : Nat} (h : PrS w W sv n Y ra rc) : PrS w W.drew sv n Y ra rc := ⟨h.a, h.b, h.c, h.d.later (Below.refl _ _).drew, h.bel.drew⟩
theorem PrS.put {w W : World} {sv : Value} {n : Int} {v0 : Value} {Y' : List (List RowV)} {ra' : Option Addr} {rc' : Nat} (a : W.heap[w.heap.size]? = some (.cells #[sv] 37)) (b : W.heap[w.heap.size + 1]? = some (.cells #[v0, .int .i64 n] 32)) (c : W.heap[w.heap.size + 1 + 1]? = some (.cells #[.slice none 0 0, .int .i64 0] 32)) (bel : Below w.heap.size w W) (d : Own W (dRowSS Y') (fun d => w.heap.size + 1 + 1 < d ∧ d < W.heap.size) (.slice ra' Y'.length rc')) : PrS w ((W.setCell ⟨w.heap.size + 1, 0, none⟩ (.slice ra' Y'.length rc')).setCell ⟨w.heap.size + 1, 1, none⟩ (.int .i64 n)) sv n Y' ra' rc' := by
  have hk : ∀ b, b ≠ w.heap.size + 1 → ((W.setCell ⟨w.heap.size + 1, 0, none⟩ (.slice ra' Y'.length rc')).setCell ⟨w.heap.size + 1, 1, none⟩ (.int .i64 n)).heap[b]? = W.heap[b]? := fun b hb => by
    rw [Below.heap_setCell _ _ _ _ (by show b ≠ w.heap.size + 1; exact hb), Below.heap_setCell _ _ _ _ (by show b ≠ w.heap.size + 1; exact hb)]
  refine ⟨(hk _ (by omega)).trans a, by rw [heap_set 1 _ (heap_set 0 _ b)]; rfl, (hk _ (by omega)).trans c, ?_, (bel.setCell (by show w.heap.size ≤ w.heap.size + 1; omega) _).setCell (by show w.heap.size ≤ w.heap.size + 1; omega) _⟩
  exact (d.frm (F := (· = w.heap.size + 1)) ((frm_set _ _ _ _).trans (frm_set _ _ _ _)) (fun x hx e => by have h1 := hx.1; have e' : x = w.heap.size + 1 := e; omega)).mono (fun x hx => ⟨hx.1, by simpa using hx.2⟩)
theorem PrS.cell {w W W1 : World} {sv : Value} {n : Int} {Y Y' : List (List RowV)} {ra : Option Addr} {rc : Nat} (h : PrS w W sv n Y ra rc) (hB : Below W.heap.size W W1) {cb o : Nat} {v : Value} (hcb : w.heap.size + 1 + 1 < cb) (hl : Y'.length = Y.length) (hO : Own (W1.setCell ⟨cb, o, none⟩ v) (dRowSS Y') (fun d => (w.heap.size + 1 + 1 < d ∧ d < W.heap.size) ∨ (W.heap.size ≤ d ∧ d < W1.heap.size)) (.slice ra Y.length rc)) : PrS w (W1.setCell ⟨cb, o, none⟩ v) sv n Y' ra rc := by
  have hk : ∀ b x, b ≠ cb → W.heap[b]? = some x → (W1.setCell ⟨cb, o, none⟩ v).heap[b]? = some x := fun b x hb hx => by
    rw [Below.heap_setCell _ _ _ _ (by show b ≠ cb; exact hb)]; exact heap_keptD hx hB
  have hz := (Array.getElem?_eq_some_iff.1 h.c).1
  refine ⟨hk _ _ (by omega) h.a, by rw [hl]; exact hk _ _ (by omega) h.b, hk _ _ (by omega) h.c, ?_, (h.bel.trans (hB.mono h.bel.size)).setCell (by show w.heap.size ≤ cb; omega) _⟩
  rw [hl]
  refine hO.mono (fun d hd => ?_)
  have hs : (W1.setCell ⟨cb, o, none⟩ v).heap.size = W1.heap.size := by simp [World.setCell]
  have := hB.size
  rcases hd with hd | hd <;> exact ⟨by omega, by omega⟩
structure PrI (w W : World) (sv : Value) (n : Int) (l : List Tb) (X : List (List RowV)) (R : Nat) (b : Bool) (ok : Nat → Nat → Prop) (Y : List (List RowV)) (ra : Option Addr) (rc : Nat) : Prop where
  s : PrS w W sv n Y ra rc
  r : Reach l X Y
  t : totT Y + (if b = true then 1 else 0) ≤ R
  o : b = false → ∀ i k, ok i k → okR l Y i k
theorem PrI.later {w W W' : World} {sv : Value} {n : Int} {l : List Tb} {X : List (List RowV)} {R : Nat} {b : Bool} {ok : Nat → Nat → Prop} {Y : List (List RowV)} {ra : Option Addr} {rc : Nat} (h : PrI w W sv n l X R b ok Y ra rc) (hB : Below W.heap.size W W') : PrI w W' sv n l X R b ok Y ra rc := ⟨h.s.later hB, h.r, h.t, h.o⟩
theorem PrI.ok {w W : World} {sv : Value} {n : Int} {l : List Tb} {X : List (List RowV)} {R : Nat} {b : Bool} {ok ok' : Nat → Nat → Prop} {Y : List (List RowV)} {ra : Option Addr} {rc : Nat} (h : PrI w W sv n l X R b ok Y ra rc) (ho : b = false → ∀ i k, ok' i k → ok i k ∨ okR l Y i k) : PrI w W sv n l X R b ok' Y ra rc :=
  ⟨h.s, h.r, h.t, fun hb i k hk => (ho hb i k hk).elim (fun h1 => h.o hb i k h1) id⟩
set_option maxRecDepth 100000 in
set_option maxHeartbeats 25600000 in
theorem pruneS (l : List Tb) (sa : Option Addr) (sc : Nat) (A : Nat → Prop) (x : StV) (xa : Option Addr) (xc : Nat) (B : Nat → Prop) (w : World) (hlo : (dTableS l).le maxLen) (ho : (dRowSS x.tables).le 1048576) (hs : SchP l) (hf : FormP l x) (hT : Rd w A (dTableS l) (.slice sa l.length sc)) (hR : Rd w B (dRowSS x.tables) (.slice xa x.tables.length xc)) :
    Calls Tryz.prog 19 #[.agg #[.slice sa l.length sc], .agg #[.slice xa x.tables.length xc, .int .i64 x.next]] w fun e w' => ∃ ra rc, e = .returned (.agg #[.slice ra x.tables.length rc, .int .i64 x.next]) ∧ Own w' (dRowSS (strike l (keepT (gset l x.tables) x.tables))) (fun d => w.heap.size ≤ d ∧ d < w'.heap.size) (.slice ra x.tables.length rc) ∧ Below w.heap.size w w' := by
  have hlen := hf.1
  have hl4 : l.length ≤ 4 := hs.len.2
  have hc6 : ∀ i (h : i < l.length), l[i].cols.length ≤ 1000 := fun i h => by have := (tab_ofP (hs.tab i h)).len.2; omega
  have OW : Hid (∀ W, Below w.heap.size w W → Calls Tryz.prog 36 #[.agg #[.slice xa x.tables.length xc, .int .i64 x.next]] W _) := fun W h => ownO x xa xc B W ho (hR.later h)
  have HTT : Hid (∀ W, Below w.heap.size w W → Rd W A (Ls 4 dTable l) (.slice sa l.length sc)) := fun W h => Rd.later hT h
  have ST : Hid (∀ Y, Reach l x.tables Y → ∀ i (hi : i < l.length) (id : Int) (ra : Option Addr) (rc : Nat) (W : World) (G : Nat → Prop), Below w.heap.size w W → Rd W G (dRowSS Y) (.slice ra Y.length rc) → Calls Tryz.prog 37 #[.agg #[.slice sa l.length sc], .agg #[.slice ra Y.length rc, .int .i64 x.next], .int .i64 i, .int .i64 id] W fun e w' => e = .returned (.int .i64 (strongN l Y l[i].nm ⟨4, id, []⟩ l.length)) ∧ Below W.heap.size W w') := fun Y hY i hi id ra rc W G h hd => strongS l sa sc A ⟨Y, x.next⟩ ra rc G i hi id W hlo (D.le.mono (by unfold maxLen; omega) _ (Reach.le hY ho)) (by omega) hc6 (Reach.form hY hf) (hT.later h) hd
  have DR : Hid (∀ Y, Reach l x.tables Y → ∀ i k (hi : i < Y.length) (hk : k < Y[i].length) (ra : Option Addr) (rc : Nat) (W : World) (G : Nat → Prop), Rd W G (dRowSS Y) (.slice ra Y.length rc) → Calls Tryz.prog 38 #[.agg #[.slice ra Y.length rc, .int .i64 x.next], .int .i64 i, .int .i64 k] W _) := fun Y hY i k hi hk ra rc W G hd => ldropO ⟨Y, x.next⟩ i k hi hk ra rc G W (Reach.le hY ho) hd
  have FD : Hid (∀ (s : List UInt8) (W : World), Below w.heap.size w W → Calls Tryz.prog 34 #[.agg #[.slice sa l.length sc], .string ⟨s.toArray⟩] W fun e w' => e = .returned (.int .i64 (tplC l s)) ∧ Below W.heap.size W w') := fun s W h => findTS l s sa sc A W hlo (hT.later h)
  have HSC : Hid (SchP l) := hs
  have HOL : Hid ((dRowSS x.tables).le 1048576) := ho
  have HF : Hid (FormP l ⟨x.tables, x.next⟩) := hf
  have HL := Lib.hid hlen
  have HXL : Hid (∀ Y, Reach l x.tables Y → ∀ i (h : i < Y.length), Y[i].length ≤ 12) := fun Y hY i h => by
    have h1 := (hY.form (n := x.next) hf).1
    exact ((hY.form (n := x.next) hf).2.2 i (by have h2 : Y.length = l.length := h1; omega) h).1
  have HB0 := Lib.hid (bx3 w (.cells #[(.slice sa l.length sc)] 37) (.cells #[.slice xa x.tables.length xc, .int .i64 x.next] 32) (.cells #[.slice none 0 0, .int .i64 0] 32))
  clear hT hR hf hs hc6 hlo ho hlen
  have y0 := cell_at (o := 0) HB0.out.b rfl
  have y1 := cell_at (o := 1) HB0.out.b rfl
  go_enter Tryz.func19, Tryz.ntmps19
  go_wp2_with fail
  refine (OW.out _ HB0.out.bel).mono ?_
  rintro e w1 ⟨es, ra, rc, rfl, hel, hog, -, hB⟩
  have hb := HB0.out.later hB
  have y0' := cell_at (o := 0) hb.b rfl
  have y1' := cell_at (o := 1) hb.b rfl
  have f0 := frozen_at 0 hb.b
  have f1 := frozen_at 1 hb.b
  have h2 := (Array.getElem?_eq_some_iff.1 HB0.out.c).1
  have hown : Own w1 (dRowSS x.tables) (fun d => w.heap.size + 1 + 1 < d ∧ d < w1.heap.size) (.slice ra x.tables.length rc) := by
    have h1 := hog.own (by omega)
    rw [hel] at h1
    exact h1.mono (fun d hd => ⟨by have := hd.1; omega, hd.2⟩)
  have HP0 := Lib.hid (PrS.put hb.a hb.b hb.c hb.bel hown)
  clear y0 y1 hel hog hB hb h2 hown
  obtain ⟨X, hX⟩ : ∃ X, X = x.tables := ⟨_, rfl⟩
  go_wp2_with fail
  clear y0' y1' f0 f1
  have HXX : Hid (X = x.tables) := hX
  rw [← hX] at ST DR HF HL HXL HP0 HOL ⊢
  clear hX
  go_loopg [5] (2 * totT X + 1) (fun g v wr => ∃ (b : Bool) (Y : List (List RowV)) (ra : Option Addr) (rc R : Nat), v = .bool b ∧ 2 * R + (if b = true then 1 else 0) ≤ g ∧ totT Y ≤ R ∧ Hid (PrS w wr (.slice sa l.length sc) x.next Y ra rc ∧ Reach l X Y ∧ (b = false → ∀ i k, i < l.length → okR l Y i k)))
  case atStart => exact ⟨true, X, _, _, totT X, rfl, by simp, Nat.le_refl _, HP0.out, reach_first _ _, fun h => absurd h (by decide)⟩
  case round =>
    obtain ⟨b, Y0, ra, rc, R, rfl, hg, hR, HW⟩ := hrel
    cases b
    case false =>
      have HX3 : X.length = l.length := HL.out
      have hYe : Y0.length = l.length := by have := HW.out.2.1.len; omega
      have HEN : Hid (Y0 = keepT (gset l X) X) := HW.out.2.1.end HX3 (fun i k hi => HW.out.2.2 rfl i k hi)
      have HFY : Hid (FormP l ⟨Y0, x.next⟩) := HW.out.2.1.form HF.out
      have HOY : Hid ((dRowSS Y0).le 1048576) := HW.out.2.1.le HOL.out
      have HYL := Lib.hid hYe
      have HS0 : Hid (PrS w wr (.slice sa l.length sc) x.next (midT l Y0 0 0 0) ra rc) := by
        rw [mid_first hYe]; exact HW.out.1
      have HC6 : Hid (∀ i (hi : i < l.length), l[i].cols.length ≤ 6) := fun i hi => (tab_ofP (HSC.out.tab i hi)).len.2
      have HRW : Hid (∀ i (hi : i < l.length) (hx : i < Y0.length), Y0[i].length ≤ 12 ∧ ∀ k (hk : k < Y0[i].length), Y0[i][k].cells.length = l[i].cols.length) := fun i hi hx => ⟨(HFY.out.2.2 i hi hx).1, fun k hk => (row_ofU ((HFY.out.2.2 i hi hx).2.2 k hk).2).len⟩
      clear HW hg hR ST DR HF HXL HX3 hYe HP0 HB0
      go_wp2_with fail
      go_loopw [8] (fun iv wr => ∃ (i : Nat) (ra : Option Addr) (rc : Nat), i ≤ l.length ∧ iv = .int .i64 i ∧ Hid (PrS w wr (.slice sa l.length sc) x.next (midT l Y0 i 0 0) ra rc)) (fun iv _ => l.length - (intOf iv).toNat)
      case atStart => exact ⟨0, ra, rc, Nat.zero_le _, rfl, HS0.out⟩
      case round =>
        clear HS0
        obtain ⟨i, ra, rc, hi, rfl, HV⟩ := hrel
        have hml : (midT l Y0 i 0 0).length = l.length := by rw [midT_len]; exact HYL.out
        have y0 := cell_at (o := 0) HV.out.b rfl
        rw [hml] at y0
        by_cases hil : i < l.length
        case neg =>
          have hid : decide ((i : Int) < (l.length : Int)) = false := by simp; omega
          have hie : i = l.length := by omega
          have HE : Hid (PrS w wr (.slice sa l.length sc) x.next (strike l Y0) ra rc) := by
            have e9 : strike l Y0 = midT l Y0 i 0 0 := by rw [← mid_end HYL.out, ← hie]
            rw [e9]; exact HV.out
          have y1 := cell_at (o := 1) HV.out.b rfl
          have z0 := cell_at (o := 0) HV.out.c rfl
          have z1 := cell_at (o := 1) HV.out.c rfl
          have g0 := frozen_at 0 HV.out.c
          have g1 := frozen_at 1 HV.out.c
          clear HV hie hml
          go_wp2_with fail
          refine bodyPost_ret (v := .agg #[.slice ra l.length rc, .int .i64 x.next]) (by simp [results, Tryz.results19, go_sem, *]) rfl ?_
          have hfr : Frm (· = w.heap.size + 1 + 1) wr ((wr.setCell ⟨w.heap.size + 1 + 1, 0, none⟩ (.slice ra l.length rc)).setCell ⟨w.heap.size + 1 + 1, 1, none⟩ (.int .i64 x.next)) := (frm_set _ _ _ _).trans (frm_set _ _ _ _)
          refine ⟨ra, rc, by rw [← show X = x.tables from HXX.out, show X.length = l.length from HL.out], ?_, (HE.out.bel.setCell (by simp <;> omega) _).setCell (by simp <;> omega) _⟩
          have hle : (strike l Y0).length = l.length := by unfold strike; rw [List.length_mapIdx]; exact HYL.out
          have hr := HE.out.d
          rw [hle] at hr
          rw [← show X = x.tables from HXX.out, ← show Y0 = keepT (gset l X) X from HEN.out]
          rw [show X.length = l.length from HL.out]
          exact (hr.frm hfr (fun b hb e => by have h1 := hb.1; have e' : b = w.heap.size + 1 + 1 := e; omega)).mono (fun b hb => ⟨by have := hb.1; omega, by simpa using hb.2⟩)
        have hi1 : (i : Int) < (l.length : Int) := by omega
        obtain ⟨tq, tf, ca, cc, ua, uc, hsa, hbi⟩ := tblAt (HTT.out w (Below.refl _ _)) hil
        subst hsa
        have TBI : Hid (∀ W, Below w.heap.size w W → W.cell? ⟨tq, tf + i * 4 + 1, none⟩ = some (.slice ca l[i].cols.length cc) ∧ Rd W A (dColumnS l[i].cols) (.slice ca l[i].cols.length cc)) := fun W h => ⟨(hbi W h).2.1, (hbi W h).2.2.2.2.1⟩
        have HIL := Lib.hid hil
        have hcl6 := HC6.out i hil
        clear hbi
        go_wp2_with fail
        clear y0 hml
        go_loopw [9] (fun mv wr => ∃ (m : Nat) (ra : Option Addr) (rc : Nat), m ≤ l[i].cols.length ∧ mv = .int .i64 m ∧ Hid (PrS w wr (.slice (some ⟨tq, tf, none⟩) l.length sc) x.next (midT l Y0 i m 0) ra rc)) (fun mv _ => l[i].cols.length - (intOf mv).toNat)
        case atStart => exact ⟨0, ra, rc, Nat.zero_le _, rfl, HV.out⟩
        case round =>
          clear HV
          obtain ⟨m, ra, rc, hm, rfl, HV⟩ := hrel
          have x0 := cell_at (o := 0) HV.out.a rfl
          have t1 := (TBI.out _ HV.out.bel).1
          by_cases hml : m < l[i].cols.length
          case neg =>
            have hmd : decide ((m : Int) < (l[i].cols.length : Int)) = false := by simp; omega
            have hme : l[i].cols.length = m := by omega
            have HN : Hid (PrS w wr (.slice (some ⟨tq, tf, none⟩) l.length sc) x.next (midT l Y0 (i + 1) 0 0) ra rc) := by
              rw [← mid_tab HYL.out HIL.out hme]; exact HV.out
            clear HV hme
            go_wp2_with fail
            go_roundw
            case rel => exact ⟨i + 1, ra, rc, by omega, by go_num, HN.out⟩
            case measure => simp [intOf]; omega
          have hm1 : (m : Int) < (l[i].cols.length : Int) := by omega
          obtain ⟨kb, ko, hca, hco⟩ := colsAt (TBI.out w (Below.refl _ _)).2 hml
          subst hca
          generalize wr = wm at *
          obtain ⟨c0, c1, c2, c3, c4, c5, c6, c7⟩ := hco _ HV.out.bel
          have HEX : Hid (l[i].cols[m].k = 4 → ∃ j, ∃ hj : j < l.length, l[j].nm = l[i].cols[m].rf) := fun h => ref_exU HSC.out HIL.out hml h
          have HSK : Hid (weakB l[i].cols[m] = false → midT l Y0 i m 0 = midT l Y0 i (m + 1) 0) := fun h => mid_skip HYL.out HIL.out hml h
          have HMS : Hid (∀ (hx : i < Y0.length) k (hk : k < Y0[i].length) (hc : m < Y0[i][k].cells.length), ∃ (h1 : i < (midT l Y0 i m k).length) (h2 : k < (midT l Y0 i m k)[i].length) (h3 : m < (midT l Y0 i m k)[i][k].cells.length), (midT l Y0 i m k)[i].length = Y0[i].length ∧ (midT l Y0 i m k)[i][k].cells[m] = Y0[i][k].cells[m] ∧ (weakB l[i].cols[m] = true → (midT l Y0 i m k).set i ((midT l Y0 i m k)[i].set k ⟨(midT l Y0 i m k)[i][k].id, (midT l Y0 i m k)[i][k].cells.set m (Y0[i][k].cells[m].filter (thB Y0 (tplC l l[i].cols[m].rf)))⟩) = midT l Y0 i m (k + 1))) := fun hx k hk hc => mid_step HYL.out HIL.out hx hk hml hc
          clear hco
          generalize l[i].cols[m] = y at *
          obtain ⟨ynm, yk, ymn, ymx, ylo, yhi, yrf, yst⟩ := y
          dsimp only at c0 c1 c2 c3 c4 c5 c6 c7 HEX
          by_cases h4 : yk = 4
          case neg =>
            have HBA : Hid (Below wm.heap.size wm (wm.alloc (.cells #[.string ⟨ynm.toArray⟩, .int .i64 yk, .int .i64 ymn, .int .i64 ymx, .int .i64 ylo, .int .i64 yhi, .string ⟨yrf.toArray⟩, .bool yst] 72))) := below_allocD _ _
            have z1 := cell_at (o := 1) (heap_newD wm (.cells #[.string ⟨ynm.toArray⟩, .int .i64 yk, .int .i64 ymn, .int .i64 ymx, .int .i64 ylo, .int .i64 yhi, .string ⟨yrf.toArray⟩, .bool yst] 72)) rfl
            have hne : (yk == 4) = false := by simpa using h4
            have hw := HSK.out (by unfold weakB; simp [hne])
            have HN : Hid (PrS w (wm.alloc (.cells #[.string ⟨ynm.toArray⟩, .int .i64 yk, .int .i64 ymn, .int .i64 ymx, .int .i64 ylo, .int .i64 yhi, .string ⟨yrf.toArray⟩, .bool yst] 72)) (.slice (some ⟨tq, tf, none⟩) l.length sc) x.next (midT l Y0 i (m + 1) 0) ra rc) := by
              rw [← hw]; exact HV.out.later HBA.out
            clear HEX HSK HMS hw HV HBA
            go_wp2_with fail
            go_roundw
            case rel => exact ⟨m + 1, ra, rc, by omega, by go_num, HN.out⟩
            case measure => simp [intOf]; omega
          subst h4
          by_cases hst : yst = true
          case pos =>
            subst hst
            have HBA : Hid (Below wm.heap.size wm (wm.alloc (.cells #[.string ⟨ynm.toArray⟩, .int .i64 4, .int .i64 ymn, .int .i64 ymx, .int .i64 ylo, .int .i64 yhi, .string ⟨yrf.toArray⟩, .bool true] 72))) := below_allocD _ _
            have z1 := cell_at (o := 1) (heap_newD wm (.cells #[.string ⟨ynm.toArray⟩, .int .i64 4, .int .i64 ymn, .int .i64 ymx, .int .i64 ylo, .int .i64 yhi, .string ⟨yrf.toArray⟩, .bool true] 72)) rfl
            have z7 := cell_at (o := 7) (heap_newD wm (.cells #[.string ⟨ynm.toArray⟩, .int .i64 4, .int .i64 ymn, .int .i64 ymx, .int .i64 ylo, .int .i64 yhi, .string ⟨yrf.toArray⟩, .bool true] 72)) rfl
            have hw := HSK.out (by unfold weakB; simp)
            have HN : Hid (PrS w (wm.alloc (.cells #[.string ⟨ynm.toArray⟩, .int .i64 4, .int .i64 ymn, .int .i64 ymx, .int .i64 ylo, .int .i64 yhi, .string ⟨yrf.toArray⟩, .bool true] 72)) (.slice (some ⟨tq, tf, none⟩) l.length sc) x.next (midT l Y0 i (m + 1) 0) ra rc) := by
              rw [← hw]; exact HV.out.later HBA.out
            clear HEX HSK HMS hw HV HBA
            go_wp2_with fail
            go_roundw
            case rel => exact ⟨m + 1, ra, rc, by omega, by go_num, HN.out⟩
            case measure => simp [intOf]; omega
          obtain rfl : yst = false := by simpa using hst
          have HWB : Hid (weakB ⟨ynm, 4, ymn, ymx, ylo, yhi, yrf, false⟩ = true) := rfl
          obtain ⟨j, hjl, hjn⟩ := HEX.out rfl
          have hjx : j < Y0.length := by have := HYL.out; omega
          have hj1 : (j : Int) < (l.length : Int) := by omega
          obtain ⟨hjt, hth⟩ := weak_tpl (X := Y0) HSC.out hjl hjx hjn
          have HTH := Lib.hid hth
          obtain ⟨hjm, hjr⟩ := mid_rows (i := i) (m := m) (k := 0) HYL.out hjx
          have HRD : Hid (Rd wm (fun d => w.heap.size + 1 + 1 < d ∧ d < wm.heap.size) (Ls 1 cRowS (midT l Y0 i m 0)) (.slice ra (midT l Y0 i m 0).length rc)) := HV.out.d.rd'
          obtain ⟨qb, qo, rfl, -, hc⟩ := HRD.out.things j hjm
          obtain ⟨u0, t0, r0⟩ := hc 0 (by omega)
          replace r0 : Rd wm _ (dRowS (midT l Y0 i m 0)[j]) u0 := r0
          obtain ⟨ja, jq, rfl⟩ := r0.lsSlice
          rw [hjr, Nat.mul_one, Nat.add_zero] at t0
          have HBA : Hid (Below wm.heap.size wm (wm.alloc (.cells #[.string ⟨ynm.toArray⟩, .int .i64 4, .int .i64 ymn, .int .i64 ymx, .int .i64 ylo, .int .i64 yhi, .string ⟨yrf.toArray⟩, .bool false] 72))) := below_allocD _ _
          have z1 := cell_at (o := 1) (heap_newD wm (.cells #[.string ⟨ynm.toArray⟩, .int .i64 4, .int .i64 ymn, .int .i64 ymx, .int .i64 ylo, .int .i64 yhi, .string ⟨yrf.toArray⟩, .bool false] 72)) rfl
          have z7 := cell_at (o := 7) (heap_newD wm (.cells #[.string ⟨ynm.toArray⟩, .int .i64 4, .int .i64 ymn, .int .i64 ymx, .int .i64 ylo, .int .i64 yhi, .string ⟨yrf.toArray⟩, .bool false] 72)) rfl
          have hYm : (midT l Y0 i m 0).length = l.length := by rw [midT_len]; exact HYL.out
          have CX : Hid (∀ W, Below (wm.alloc (.cells #[.string ⟨ynm.toArray⟩, .int .i64 4, .int .i64 ymn, .int .i64 ymx, .int .i64 ylo, .int .i64 yhi, .string ⟨yrf.toArray⟩, .bool false] 72)).heap.size (wm.alloc (.cells #[.string ⟨ynm.toArray⟩, .int .i64 4, .int .i64 ymn, .int .i64 ymx, .int .i64 ylo, .int .i64 yhi, .string ⟨yrf.toArray⟩, .bool false] 72)) W → W.cell? ⟨w.heap.size, 0, none⟩ = some (.slice (some ⟨tq, tf, none⟩) l.length sc) ∧ W.cell? ⟨w.heap.size + 1, 0, none⟩ = some (.slice (some ⟨qb, qo, none⟩) l.length rc) ∧ W.cell? ⟨wm.heap.size, 6, none⟩ = some (.string ⟨yrf.toArray⟩) ∧ W.cell? ⟨qb, qo + j, none⟩ = some (.slice ja Y0[j].length jq)) := fun W h => by
            have hb : Below wm.heap.size wm W := HBA.out.trans (h.mono HBA.out.size)
            have h1 := cell_at (o := 0) (HV.out.later hb).b rfl
            rw [hYm] at h1
            exact ⟨cell_at (o := 0) (HV.out.later hb).a rfl, h1, cell_keptS (cell_at (o := 6) (heap_newD wm _) rfl) h, cell_keptS t0 hb⟩
          have HVN : Hid (∀ W, Below (wm.alloc (.cells #[.string ⟨ynm.toArray⟩, .int .i64 4, .int .i64 ymn, .int .i64 ymx, .int .i64 ylo, .int .i64 yhi, .string ⟨yrf.toArray⟩, .bool false] 72)).heap.size (wm.alloc (.cells #[.string ⟨ynm.toArray⟩, .int .i64 4, .int .i64 ymn, .int .i64 ymx, .int .i64 ylo, .int .i64 yhi, .string ⟨yrf.toArray⟩, .bool false] 72)) W → PrS w W (.slice (some ⟨tq, tf, none⟩) l.length sc) x.next (midT l Y0 i m 0) (some ⟨qb, qo, none⟩) rc ∧ W.cell? ⟨qb, qo + j, none⟩ = some (.slice ja Y0[j].length jq)) := fun W h => ⟨HV.out.later (HBA.out.trans (h.mono HBA.out.size)), (CX.out W h).2.2.2⟩
          have FJ : Hid (∀ W, Below (wm.alloc (.cells #[.string ⟨ynm.toArray⟩, .int .i64 4, .int .i64 ymn, .int .i64 ymx, .int .i64 ylo, .int .i64 yhi, .string ⟨yrf.toArray⟩, .bool false] 72)).heap.size (wm.alloc (.cells #[.string ⟨ynm.toArray⟩, .int .i64 4, .int .i64 ymn, .int .i64 ymx, .int .i64 ylo, .int .i64 yhi, .string ⟨yrf.toArray⟩, .bool false] 72)) W → Calls Tryz.prog 34 #[.agg #[.slice (some ⟨tq, tf, none⟩) l.length sc], .string ⟨yrf.toArray⟩] W fun e w' => e = .returned (.int .i64 j) ∧ Below W.heap.size W w') := fun W h => by
            have h1 := FD.out yrf W (HVN.out W h).1.bel
            rw [hjt] at h1; exact h1
          have HJ : Hid (j < l.length ∧ tplC l yrf = j) := ⟨hjl, hjt⟩
          clear HEX HSK hc r0 HRD hYm hjr hjm hth hjn hjt HV t0
          go_wp2_with fail
          clear x0 t1 c0 c1 c2 c3 c4 c5 c6 c7 z1 z7
          refine wp_region_held_drew (S := (fun W => W.cell? ⟨w.heap.size, 0, none⟩ = some (.slice (some ⟨tq, tf, none⟩) l.length sc) ∧ W.cell? ⟨w.heap.size + 1, 0, none⟩ = some (.slice (some ⟨qb, qo, none⟩) l.length rc) ∧ W.cell? ⟨wm.heap.size, 6, none⟩ = some (.string ⟨yrf.toArray⟩) ∧ W.cell? ⟨qb, qo + j, none⟩ = some (.slice ja Y0[j].length jq))) (by kernel_rfl) ?_ (fun hHeld => ?_)
          · (first | exact CX.out _ (Below.refl _ _) | exact CX.out _ (Below.refl _ _).drew | exact CX.out _ BW.out)
          refine tkB (i := 0) ?_
          refine tkB (i := 1) ?_
          refine tkB (i := 2) ?_
          refine tkB (i := 3) ?_
          refine tkB (i := 4) ?_
          refine tkR (i := 5) (fun K hK => ?_)
          go_simp
          (go_at_call 34; refine (FJ.out _ (Below.refl _ _).drew).mono ?_; rintro e w1 ⟨rfl, hB⟩; have BW : Hid (Below (wm.alloc (.cells #[.string ⟨ynm.toArray⟩, .int .i64 4, .int .i64 ymn, .int .i64 ymx, .int .i64 ylo, .int .i64 yhi, .string ⟨yrf.toArray⟩, .bool false] 72)).heap.size (wm.alloc (.cells #[.string ⟨ynm.toArray⟩, .int .i64 4, .int .i64 ymn, .int .i64 ymx, .int .i64 ylo, .int .i64 yhi, .string ⟨yrf.toArray⟩, .bool false] 72)) w1) := (Below.refl _ _).drew.trans hB; clear hB)
          refine hK.out _ _ ?_ (fun hHeld => ?_)
          · (first | exact CX.out _ (Below.refl _ _) | exact CX.out _ (Below.refl _ _).drew | exact CX.out _ BW.out)
          clear hK K
          try simp only [Act.put, tkS]
          refine tkB (i := 6) ?_
          refine tkB (i := 7) ?_
          refine tkB (i := 8) ?_
          refine wpAnyH_done (by kernel_rfl) ?_ _
          have HV1 := Lib.hid (HVN.out _ BW.out)
          clear HVN CX FJ HBA
          have hiY : i < Y0.length := by have := HYL.out; omega
          have HRI := Lib.hid (HRW.out i HIL.out hiY)
          have hrl := HRI.out.1
          go_wp2_with fail
          go_loopw [12] (fun kv wr => ∃ k : Nat, k ≤ Y0[i].length ∧ kv = .int .i64 k ∧ Hid (PrS w wr (.slice (some ⟨tq, tf, none⟩) l.length sc) x.next (midT l Y0 i m k) (some ⟨qb, qo, none⟩) rc ∧ wr.cell? ⟨qb, qo + j, none⟩ = some (.slice ja Y0[j].length jq))) (fun kv _ => Y0[i].length - (intOf kv).toNat)
          case atStart => exact ⟨0, Nat.zero_le _, rfl, HV1.out⟩
          case round =>
            clear HV1
            obtain ⟨k, hk, rfl, HU⟩ := hrel
            generalize wr = wn at *
            have y0 := cell_at (o := 0) HU.out.1.b rfl
            rw [midT_len, show Y0.length = l.length from HYL.out] at y0
            by_cases hkl : k < Y0[i].length
            case neg =>
              have hkd : decide ((k : Int) < (Y0[i].length : Int)) = false := by simp; omega
              obtain ⟨him, hir⟩ := mid_rows (i := i) (m := m) (k := k) HYL.out hiY
              obtain ⟨qb2, qo2, e2, -, hc⟩ := Rd.things (d := cRowS) (n := 1) HU.out.1.d.rd' i him
              simp only [Option.some.injEq, Addr.mk.injEq, and_true] at e2; obtain ⟨rfl, rfl⟩ := e2
              obtain ⟨u0, t0, r0⟩ := hc 0 (by omega)
              replace r0 : Rd wn _ (dRowS (midT l Y0 i m k)[i]) u0 := r0
              obtain ⟨ea, ec, rfl⟩ := r0.lsSlice
              rw [hir, Nat.mul_one, Nat.add_zero] at t0
              have HN : Hid (PrS w wn (.slice (some ⟨tq, tf, none⟩) l.length sc) x.next (midT l Y0 i (m + 1) 0) (some ⟨qb, qo, none⟩) rc) := by
                rw [← mid_col HYL.out hiY (by omega : Y0[i].length ≤ k)]; exact HU.out.1
              clear hc r0 hir him HU HMS
              go_wp2_with fail
              go_roundw
              case rel => exact ⟨m + 1, _, rc, by omega, by go_num, HN.out⟩
              case measure => simp [intOf]; omega
            have hk1 : (k : Int) < (Y0[i].length : Int) := by omega
            have hcr : m < Y0[i][k].cells.length := by rw [HRI.out.2 k hkl]; exact hml
            obtain ⟨h1, h2, h3, e1, e2, hst⟩ := HMS.out hiY k hkl hcr
            obtain ⟨rb, ro, rcap, cb, co, ccap, la, lc, z0, z1, z2, z3, hrd, hBc, hne, hup⟩ := own_cell HU.out.1.d (fun d hd => hd.2) h1 h2 h3
            rw [e1] at z0
            rw [e2] at z2 hrd
            have hcl : m < (midT l Y0 i m k)[i][k].cells.length := h3
            have hcl1 : (m : Int) < ((midT l Y0 i m k)[i][k].cells.length : Int) := by omega
            replace hst := hst HWB.out
            have HLS : Hid ((dAtomS Y0[i][k].cells[m]).le 1048576) := (Ls_le.1 ((Ls_le.1 ((Ls_le.1 HOY.out).2.2 i hiY 0 (by omega) : (dRowS Y0[i]).le 1048576)).2.2 k hkl 1 (by omega) : (dAtomSS Y0[i][k].cells).le 1048576)).2.2 m hcr 0 (by omega)
            have hsl : Y0[i][k].cells[m].length ≤ 1048576 := (Ls_le.1 HLS.out).2.1
            obtain ⟨F, hF⟩ : ∃ F, F = Y0[i][k].cells[m].filter (thB Y0 (tplC l yrf)) := ⟨_, rfl⟩
            have HF9 := Lib.hid hF
            have HUP : Hid (∀ (W1 : World) (a' : Option Addr) (c' : Nat), Below wn.heap.size wn W1 → Own W1 (dAtomS F) (fun d => wn.heap.size ≤ d ∧ d < W1.heap.size) (.slice a' F.length c') → PrS w (W1.setCell ⟨cb, co + m, none⟩ (.slice a' F.length c')) (.slice (some ⟨tq, tf, none⟩) l.length sc) x.next (midT l Y0 i m (k + 1)) (some ⟨qb, qo, none⟩) rc ∧ (W1.setCell ⟨cb, co + m, none⟩ (.slice a' F.length c')).cell? ⟨qb, qo + j, none⟩ = some (.slice ja Y0[j].length jq)) := fun W1 a' c' hB hO => by
              have h9 := hup W1 F a' c' hB hO
              rw [← hF] at hst
              rw [hst] at h9
              refine ⟨HU.out.1.cell hB hBc.1 (by rw [midT_len, midT_len]) h9, ?_⟩
              have hql : qb < wn.heap.size := World.block_lt_of_cell? wn ⟨qb, qo + j, none⟩ HU.out.2
              have hw1 : W1.cell? ⟨qb, qo + j, none⟩ = some (.slice ja Y0[j].length jq) := (hB.cell (p := ⟨qb, qo + j, none⟩) hql).trans HU.out.2
              simp only [World.cell?] at hw1 ⊢
              rw [Below.heap_setCell _ _ _ _ (by show qb ≠ cb; exact fun e => hne e.symm)]; exact hw1
            have CW : Hid (∀ W, Below wn.heap.size wn W → W.cell? ⟨w.heap.size + 1, 0, none⟩ = some (.slice (some ⟨qb, qo, none⟩) l.length rc) ∧ W.cell? ⟨qb, qo + i, none⟩ = some (.slice (some ⟨rb, ro, none⟩) Y0[i].length rcap) ∧ W.cell? ⟨rb, ro + k * 2 + 1, none⟩ = some (.slice (some ⟨cb, co, none⟩) (midT l Y0 i m k)[i][k].cells.length ccap) ∧ W.cell? ⟨cb, co + m, none⟩ = some (.slice la Y0[i][k].cells[m].length lc) ∧ W.frozen? ⟨cb, co + m, none⟩ = false) := fun W h => ⟨cell_keptS y0 h, cell_keptS z0 h, cell_keptS z1 h, cell_keptS z2 h, by
              have hl := World.block_lt_of_cell? wn ⟨cb, co + m, none⟩ z2
              have h9 := h.block cb hl
              rw [← z3]; simp only [World.frozen?, h9]⟩
            have HDA : Hid (∀ W, Below wn.heap.size wn W → Rd W (fun d => w.heap.size + 1 + 1 < d ∧ d < wn.heap.size) (dAtomS Y0[i][k].cells[m]) (.slice la Y0[i][k].cells[m].length lc)) := fun W h => hrd.later h
            obtain ⟨qb2, qo2, e5, -, hc⟩ := Rd.things (d := cRowS) (n := 1) HU.out.1.d.rd' j (by rw [midT_len]; exact hjx)
            simp only [Option.some.injEq, Addr.mk.injEq, and_true] at e5; obtain ⟨rfl, rfl⟩ := e5
            obtain ⟨u0, t0, r0⟩ := hc 0 (by omega)
            rw [Nat.mul_one, Nat.add_zero, HU.out.2] at t0
            obtain rfl := Option.some.inj t0
            replace r0 : Rd wn _ (dRowS ((midT l Y0 i m k)[j]'(by rw [midT_len]; exact hjx))) _ := r0
            obtain ⟨hjm, hjr⟩ := mid_rows (i := i) (m := m) (k := k) HYL.out hjx
            have PL : Hid (∀ (z : Int) (W : World), Below wn.heap.size wn W → Calls Tryz.prog 39 #[.slice ja Y0[j].length jq, .int .i64 z] W fun e w' => e = .returned (.int .i64 (rplI Y0[j] z)) ∧ Below W.heap.size W w') := fun z W h => by
              have h9 := rplS (midT l Y0 i m k)[j] ja jq z _ W (by rw [hjr]; exact Nat.le_trans (HRW.out j HJ.out.1 hjx).1 (by unfold maxLen; omega)) (by rw [hjr]; exact r0.later h)
              rw [hjr, mid_there HYL.out hjx, getD_tab hjx] at h9; exact h9
            have HFA : Hid (∀ n (hn : n < Y0[i][k].cells[m].length), thB Y0 (tplC l yrf) Y0[i][k].cells[m][n] = true → F.getD ((Y0[i][k].cells[m].take n).filter (thB Y0 (tplC l yrf))).length ⟨0, 0, []⟩ = Y0[i][k].cells[m][n] ∧ ((Y0[i][k].cells[m].take n).filter (thB Y0 (tplC l yrf))).length < F.length) := fun n hn hp => by
              obtain ⟨hc, he⟩ := flt_at hn hp
              rw [hF]; exact ⟨(getD_tab hc).trans he, hc⟩
            have HFL : Hid (F = Y0[i][k].cells[m].filter (thB Y0 (tplC l yrf))) := hF
            clear hc r0 hrd hup hst z0 z1 z2 z3 hjr hjm e1 e2 hF HF9 t0 y0 HMS
            generalize Y0[i][k].cells[m] = s at *
            generalize (midT l Y0 i m k)[i][k].cells.length = cl at *
            clear h1 h2 h3
            have CW0 := CW.out _ (Below.refl _ _)
            obtain ⟨y0, z0, z1, z2, z3⟩ := CW0
            have HBN : Hid (Below wn.heap.size wn (wn.alloc (.cells #[] 84))) := below_allocD _ _
            obtain ⟨a0, b0, d0, f0, g0⟩ := CW.out _ HBN.out
            have HO0 : Hid (∃ es : List OgE, es.length = 0 ∧ OG wn.heap.size (wn.alloc (.cells #[] 84)) 84 3 (lsF dAtom F) es (.slice (some ⟨wn.heap.size, 0, none⟩) 0 0)) := ⟨[], rfl, OG.start _ (Nat.le_refl _) (heap_newD _ _)⟩
            go_wp2_with fail
            clear y0 z0 z1 z2 z3 a0 b0 d0 f0 g0
            go_loopw [13, 15] (fun lv nv wr => ∃ n : Nat, n ≤ s.length ∧ nv = .int .i64 n ∧ ∃ (cn : Nat) (va : Option Addr) (vc : Nat), lv = .slice va cn vc ∧ Hid (cn = ((s.take n).filter (thB Y0 (tplC l yrf))).length ∧ (∃ es : List OgE, es.length = cn ∧ OG wn.heap.size wr 84 3 (lsF dAtom F) es (.slice va cn vc)) ∧ Below wn.heap.size wn wr)) (fun _ nv _ => s.length - (intOf nv).toNat)
            case atStart => exact ⟨0, Nat.zero_le _, rfl, 0, _, _, rfl, by simp, HO0.out, HBN.out⟩
            case round =>
              clear HO0 HBN
              obtain ⟨n, hn, rfl, cn, va, vc, rfl, HG⟩ := hrel
              by_cases hnl : n < s.length
              case neg =>
                have hnd : decide ((n : Int) < (s.length : Int)) = false := by simp; omega
                have hcn : cn = F.length := by rw [HG.out.1, flt_full s (by omega), HFL.out]
                subst hcn
                obtain ⟨y0, z0, z1, z2, z3⟩ := CW.out _ HG.out.2.2
                have HN := Lib.hid (HUP.out wr va vc HG.out.2.2 (by obtain ⟨es, he, ho⟩ := HG.out.2.1; have h9 := ho.own (by omega); rw [he] at h9; exact h9))
                clear HG CW HUP HFA HFL PL HDA
                go_wp2_with fail
                go_roundw
                case rel => exact ⟨k + 1, by omega, by go_num, HN.out⟩
                case measure => simp [intOf]; omega
              have hn1 : (n : Int) < (s.length : Int) := by omega
              obtain ⟨ab, ao, hda, hat⟩ := atomsAt (HDA.out _ HG.out.2.2) hnl
              subst hda
              obtain ⟨a0, a1, a2⟩ := hat _ (Below.refl _ _)
              have HAT := Lib.hid hat
              have HP1 := Lib.hid (PL.out s[n].n wr HG.out.2.2)
              have HNY : Hid (thB Y0 (tplC l yrf) s[n] = true → F.getD cn ⟨0, 0, []⟩ = s[n] ∧ cn < F.length ∧ cn + 1 = ((s.take (n + 1)).filter (thB Y0 (tplC l yrf))).length) := fun h => by
                have h9 := HFA.out n hnl h; rw [← HG.out.1] at h9; exact ⟨h9.1, h9.2, by rw [flt_yes hnl h, HG.out.1]⟩
              have HNN : Hid (thB Y0 (tplC l yrf) s[n] = false → cn = ((s.take (n + 1)).filter (thB Y0 (tplC l yrf))).length) := fun h => by rw [flt_no hnl h]; exact HG.out.1
              have hTn := HTH.out s[n]
              generalize thB Y0 (tplC l yrf) s[n] = tb at *
              generalize s[n] = y at *
              obtain ⟨yk2, yn2, yt2⟩ := y
              dsimp only at a0 a1 a2 hTn HP1 HAT
              clear hat
              go_wp2_with fail
              refine HP1.out.mono ?_
              rintro e w2 ⟨rfl, hB⟩
              have HB2 := Lib.hid hB
              have HB3 : Hid (Below wn.heap.size wn w2) := HG.out.2.2.trans (hB.mono HG.out.2.2.size)
              clear hB HP1 a0 a1 a2
              cases tb
              case false =>
                have hd : decide (0 ≤ rplI Y0[j] yn2) = false := hTn.symm
                have hcn := HNN.out rfl
                have HN : Hid (cn = ((s.take (n + 1)).filter (thB Y0 (tplC l yrf))).length ∧ (∃ es : List OgE, es.length = cn ∧ OG wn.heap.size w2 84 3 (lsF dAtom F) es (.slice va cn vc)) ∧ Below wn.heap.size wn w2) := ⟨hcn, by obtain ⟨es, he, ho⟩ := HG.out.2.1; exact ⟨es, he, ho.later HB2.out⟩, HB3.out⟩
                clear hTn hcn HNY HNN HG
                go_wp2_with fail
                go_roundw
                case rel => exact ⟨n + 1, by omega, by go_num, cn, va, vc, rfl, HN.out⟩
                case measure => simp [intOf]; omega
              case true =>
                have hd : decide (0 ≤ rplI Y0[j] yn2) = true := hTn.symm
                obtain ⟨hy1, hy2, hy3⟩ := HNY.out rfl
                obtain ⟨a0, a1, a2⟩ := HAT.out _ HB2.out
                obtain ⟨es, he, ho⟩ := HG.out.2.1
                have ho2 := ho.later HB2.out
                obtain ⟨W2, hW2⟩ : ∃ W2, W2 = w2.alloc (.cells #[.int .i64 yk2, .int .i64 yn2, .string ⟨yt2.toArray⟩] 84) := ⟨_, rfl⟩
                have bW2 : Below w2.heap.size w2 W2 := by rw [hW2]; exact below_allocD _ _
                have hn9 : W2.heap[w2.heap.size]? = some (.cells #[.int .i64 yk2, .int .i64 yn2, .string ⟨yt2.toArray⟩] 84) := by rw [hW2]; exact heap_newD _ _
                obtain ⟨iA, hi9, hz9, hs9, hby9⟩ := infoAtD
                obtain ⟨a', c', W4, hr10, hsg, -, hbl, -, -⟩ := ho2.push (P := Tryz.prog) (by omega) bW2 81 81 iA (.agg #[.int .i64 0, .int .i64 0, .string ⟨#[]⟩]) 32 Tryz.underlying81 hi9 hz9 hs9 hby9 rfl ⟨fun j => if j = 0 then .int .i64 yk2 else if j = 1 then .int .i64 yn2 else .string ⟨yt2.toArray⟩, fun _ => w2.heap.size⟩ ⟨w2.heap.size, 0, none⟩ 1 (fun j hj => by
                    rw [Addr.add_mid, Nat.zero_add]
                    refine cell_at (o := j) hn9 ?_
                    rcases (by omega : j = 0 ∨ j = 1 ∨ j = 2) with rfl | rfl | rfl <;> rfl) (fun j hj => by
                    rcases (by omega : j = 0 ∨ j = 1 ∨ j = 2) with rfl | rfl | rfl <;> rfl) (Nat.le_refl _) (fun _ _ _ _ => Nat.le_refl _) (by show w2.heap.size ≤ W2.heap.size; exact bW2.size) (fun j hj => by
                    rw [he, lsF_at hy2, show F[cn] = ⟨yk2, yn2, yt2⟩ from (getD_tab hy2).symm.trans hy1]
                    rcases (by omega : j = 0 ∨ j = 1 ∨ j = 2) with rfl | rfl | rfl <;> rfl) HB3.out.size (by have := flt_le9 HFL.out; unfold maxLen; omega) (by have := flt_le9 HFL.out; omega)
                rw [he] at hr10 hsg
                have HN : Hid (cn + 1 = ((s.take (n + 1)).filter (thB Y0 (tplC l yrf))).length ∧ (∃ es : List OgE, es.length = cn + 1 ∧ OG wn.heap.size W4 84 3 (lsF dAtom F) es (.slice a' (cn + 1) c')) ∧ Below wn.heap.size wn W4) := ⟨hy3, ⟨_, by rw [List.length_append, he]; rfl, hsg⟩, HB3.out.trans hbl⟩
                have RUN := Lib.hid hr10
                rw [hW2] at RUN
                clear hTn hy1 hy2 hy3 HNY HNN HG ho ho2 hr10 hsg hbl bW2 hn9 hW2 hi9 hz9 hs9 hby9 he
                go_wp2_with (at_builtin; go_must (refine wpList_append_is rfl (.tmp 144) (.tmp 149) 81 rfl _ _ rfl rfl _ _ RUN.out ?_))
                go_roundw
                case rel => exact ⟨n + 1, by omega, by go_num, cn + 1, a', c', rfl, HN.out⟩
                case measure => simp [intOf]; omega
    simp at hg
    go_wp2_with fail
    have HI0 : Hid (PrI w wr (.slice sa l.length sc) x.next l X (totT Y0) false (fun i k => i < 0) Y0 ra rc) := ⟨HW.out.1, HW.out.2.1, by simp, fun _ i k h => absurd h (by omega)⟩
    clear HW
    go_loopg [5, 6] l.length (fun g2 v iv wr => ∃ (i : Nat) (b : Bool) (Y : List (List RowV)) (ra : Option Addr) (rc : Nat), i + g2 = l.length ∧ iv = .int .i64 i ∧ v = .bool b ∧ Hid (PrI w wr (.slice sa l.length sc) x.next l X (totT Y0) b (fun i2 _ => i2 < i) Y ra rc))
    case atStart => exact ⟨0, false, Y0, ra, rc, by omega, rfl, rfl, HI0.out⟩
    case round =>
      obtain ⟨i, b, Y, ra, rc, hi2, rfl, rfl, HV⟩ := hrel
      have hYl : Y.length = l.length := by have h1 := HV.out.r.len; have h2 : X.length = l.length := HL.out; omega
      have y0 := cell_at (o := 0) HV.out.s.b rfl
      by_cases hil : i < l.length
      case neg =>
        have hid : decide ((i : Int) < (Y.length : Int)) = false := by simp; omega
        have hit : ¬ (i : Int) < (Y.length : Int) := by omega
        have HE : Hid (PrS w wr (.slice sa l.length sc) x.next Y ra rc ∧ Reach l X Y ∧ (b = false → ∀ i k, i < l.length → okR l Y i k)) := ⟨HV.out.s, HV.out.r, fun hb i2 k2 h2 => HV.out.o hb i2 k2 (by omega)⟩
        have ht := HV.out.t
        clear HV hYl
        go_wp2_with fail
        go_roundg (2 * totT Y + (if b = true then 1 else 0))
        case measure => cases b <;> simp at ht ⊢ <;> omega
        case rel => exact ⟨b, Y, ra, rc, totT Y, rfl, Nat.le_refl _, Nat.le_refl _, HE.out⟩
      have hid : (i : Int) < (Y.length : Int) := by omega
      have hiY : i < Y.length := by omega
      go_wp2_with fail
      have HI1 : Hid (PrI w wr (.slice sa l.length sc) x.next l X (totT Y0) b (fun i2 k2 => i2 < i ∨ (i2 = i ∧ k2 < 0)) Y ra rc) := HV.out.ok (fun _ i2 k2 h => by rcases h with h | ⟨-, h⟩; exact .inl h; omega)
      have hgd : (Y.getD i []).length = Y[i].length := by rw [getD_tab hiY]
      clear y0 HV hYl
      have HIL := Lib.hid hil
      go_loopg [5, 7] (Y.getD i []).length (fun g3 v kv wr => ∃ (k : Nat) (b : Bool) (Y : List (List RowV)) (ra : Option Addr) (rc : Nat), k + g3 = (Y.getD i []).length ∧ kv = .int .i64 k ∧ v = .bool b ∧ Hid (PrI w wr (.slice sa l.length sc) x.next l X (totT Y0) b (fun i2 k2 => i2 < i ∨ (i2 = i ∧ k2 < k)) Y ra rc))
      case atStart => exact ⟨0, b, Y, ra, rc, by omega, rfl, rfl, HI1.out⟩
      case round =>
        clear HI1 hgd hid hiY
        obtain ⟨k, b, Y, ra, rc, hk2, rfl, rfl, HV⟩ := hrel
        have hYl : Y.length = l.length := by have h1 := HV.out.r.len; have h2 : X.length = l.length := HL.out; omega
        have hiY : i < Y.length := by omega
        rw [getD_tab hiY] at hk2
        have y0 := cell_at (o := 0) HV.out.s.b rfl
        have y1 := cell_at (o := 1) HV.out.s.b rfl
        have HRD : Hid (Rd wr (fun d => w.heap.size + 1 + 1 < d ∧ d < wr.heap.size) (Ls 1 cRowS Y) (.slice ra Y.length rc)) := HV.out.s.d.rd'
        obtain ⟨qb, qo, rfl, -, hc⟩ := HRD.out.things i hiY
        obtain ⟨u0, t0, r0⟩ := hc 0 (by omega)
        replace r0 : Rd wr _ (dRowS Y[i]) u0 := r0
        obtain ⟨ea, ec, rfl⟩ := r0.lsSlice
        rw [Nat.mul_one, Nat.add_zero] at t0
        have hid : (i : Int) < (Y.length : Int) := by omega
        by_cases hkl : k < Y[i].length
        case neg =>
          have hkd : decide ((k : Int) < (Y[i].length : Int)) = false := by simp; omega
          have HE : Hid (PrI w wr (.slice sa l.length sc) x.next l X (totT Y0) b (fun i2 _ => i2 < i + 1) Y (some ⟨qb, qo, none⟩) rc) := HV.out.ok (fun _ i2 k2 h => by
            by_cases e : i2 = i
            · subst e
              by_cases e2 : k2 < Y[i2].length
              · exact .inl (.inr ⟨rfl, by omega⟩)
              · exact .inr (fun t r _ hr => by rw [getD_tab hiY, List.getElem?_eq_none (by omega)] at hr; cases hr)
            · exact .inl (.inl (by omega)))
          generalize Y[i].length = n1 at *
          clear hc r0 HV hYl hiY HRD
          go_wp2_with fail
          go_roundg (l.length - (i + 1))
          case measure => omega
          case rel => exact ⟨i + 1, b, Y, _, rc, by omega, by go_num, rfl, HE.out⟩
        have hkd : (k : Int) < (Y[i].length : Int) := by omega
        obtain ⟨eb, eo, rfl, -, hc2⟩ := r0.things k hkl
        obtain ⟨u1, t1, r1⟩ := hc2 0 (by omega)
        obtain rfl : u1 = .int .i64 Y[i][k].id := r1
        rw [Nat.add_zero] at t1
        obtain ⟨tq, tf, hsv, -, tc⟩ := (HTT.out _ HV.out.s.bel).things i HIL.out
        subst hsv
        obtain ⟨u3, t3, q3⟩ := tc 3 (by omega)
        obtain rfl : u3 = .bool l[i].rt := q3
        have x0 := cell_at (o := 0) HV.out.s.a rfl
        have hil2 : (i : Int) < (l.length : Int) := by have := HIL.out; omega
        have CE : Hid (∀ W, Below wr.heap.size wr W → W.cell? ⟨w.heap.size, 0, none⟩ = some (.slice (some ⟨tq, tf, none⟩) l.length sc) ∧ W.cell? ⟨tq, tf + i * 4 + 3, none⟩ = some (.bool l[i].rt) ∧ W.cell? ⟨w.heap.size + 1, 0, none⟩ = some (.slice (some ⟨qb, qo, none⟩) Y.length rc) ∧ W.cell? ⟨w.heap.size + 1, 1, none⟩ = some (.int .i64 x.next) ∧ W.cell? ⟨qb, qo + i, none⟩ = some (.slice (some ⟨eb, eo, none⟩) Y[i].length ec) ∧ W.cell? ⟨eb, eo + k * 2, none⟩ = some (.int .i64 Y[i][k].id)) := fun W h => ⟨cell_at (o := 0) (HV.out.s.later h).a rfl, (h.cell (p := ⟨tq, tf + i * 4 + 3, none⟩) (World.block_lt_of_cell? _ _ t3)).trans t3, cell_at (o := 0) (HV.out.s.later h).b rfl, cell_at (o := 1) (HV.out.s.later h).b rfl, (h.cell (p := ⟨qb, qo + i, none⟩) (World.block_lt_of_cell? _ _ t0)).trans t0, (h.cell (p := ⟨eb, eo + k * 2, none⟩) (World.block_lt_of_cell? _ _ t1)).trans t1⟩
        have STK := Lib.hid (fun (W : World) (h : Below wr.heap.size wr W) => ST.out Y HV.out.r i HIL.out Y[i][k].id _ rc W _ (HV.out.s.bel.trans (h.mono HV.out.s.bel.size)) (HRD.out.later h))
        have DRK := Lib.hid (fun (W : World) (h : Below wr.heap.size wr W) => DR.out Y HV.out.r i k hiY hkl _ rc W _ (HRD.out.later h))
        have HYES : Hid ((l[i].rt = true ∨ strongN l Y l[i].nm ⟨4, Y[i][k].id, []⟩ l.length ≠ 0) → ∀ W, Below wr.heap.size wr W → PrI w W (.slice (some ⟨tq, tf, none⟩) l.length sc) x.next l X (totT Y0) b (fun i2 k2 => i2 < i ∨ (i2 = i ∧ k2 < k + 1)) Y (some ⟨qb, qo, none⟩) rc) := fun hy W h => (HV.out.later h).ok (fun _ i2 k2 hh => by
          by_cases e : i2 = i ∧ k2 = k
          · obtain ⟨rfl, rfl⟩ := e
            refine .inr (fun t r ht hr => ?_)
            rw [List.getElem?_eq_getElem HIL.out] at ht
            rw [getD_tab hiY, List.getElem?_eq_getElem hkl] at hr
            cases ht; cases hr; exact hy
          · exact .inl (by omega))
        have HNO : Hid (l[i].rt = false → strongN l Y l[i].nm ⟨4, Y[i][k].id, []⟩ l.length = 0 → Reach l X (Y.set i (Y[i].eraseIdx k)) ∧ totT (Y.set i (Y[i].eraseIdx k)) + 1 = totT Y ∧ ((Y.set i (Y[i].eraseIdx k)).getD i []).length + 1 = Y[i].length) := fun h1 h2 => by
          have h3 := List.length_eraseIdx_of_lt hkl
          have h4 := tot_set (l' := Y[i].eraseIdx k) hiY
          refine ⟨HV.out.r.drop HF.out HIL.out hiY hkl h1 h2, by omega, ?_⟩
          rw [getD_tab (by rw [List.length_set]; exact hiY), List.getElem_set_self]; omega
        have hng : Y[i].length ≤ 12 := HXL.out Y HV.out.r i hiY
        have HPS := Lib.hid HV.out.s
        have htt := HV.out.t
        have HYL := Lib.hid hYl
        clear hc hc2 tc t0 t1 t3 r0 HRD
        generalize strongN l Y l[i].nm ⟨4, Y[i][k].id, []⟩ l.length = sn at *
        generalize Y[i][k].id = rid at *
        generalize hYi : Y.set i (Y[i].eraseIdx k) = Y2 at *
        have HGN : Hid ((Y.getD i []).length = Y[i].length) := by show _ = _; rw [getD_tab hiY]
        generalize Y[i].length = n1 at *
        generalize l[i].rt = rt at *
        clear HV hYl
        cases hrt : rt
        case true =>
          rw [hrt] at CE HYES
          have HN := Lib.hid (HYES.out (.inl rfl))
          clear hrt HYES HNO STK DRK x0 y0 y1
          have CE0 := CE.out _ (Below.refl _ _)
          obtain ⟨c0, c1, c2, c3, c4, c5⟩ := CE0
          go_wp2_with fail
          refine wp_region_held_drew (S := (fun W => W.cell? ⟨w.heap.size, 0, none⟩ = some (.slice (some ⟨tq, tf, none⟩) l.length sc) ∧ W.cell? ⟨tq, tf + i * 4 + 3, none⟩ = some (.bool true) ∧ W.cell? ⟨w.heap.size + 1, 0, none⟩ = some (.slice (some ⟨qb, qo, none⟩) Y.length rc) ∧ W.cell? ⟨w.heap.size + 1, 1, none⟩ = some (.int .i64 x.next) ∧ W.cell? ⟨qb, qo + i, none⟩ = some (.slice (some ⟨eb, eo, none⟩) n1 ec) ∧ W.cell? ⟨eb, eo + k * 2, none⟩ = some (.int .i64 rid))) (by kernel_rfl) ?_ (fun hHeld => ?_)
          · (exact CE.out _ (by first | exact BW1.out | exact (Below.refl _ _).drew))
          refine tkB (i := 0) ?_
          refine tkB (i := 1) ?_
          refine tkB (i := 2) ?_
          refine tkB (i := 3) ?_
          refine tkB (i := 4) ?_
          refine tkB (i := 5) ?_
          refine tkB (i := 6) ?_
          refine tkB (i := 7) ?_
          refine tkV (i := 8) ?_
          refine tkV (i := 9) ?_
          refine tkV (i := 10) ?_
          refine tkV (i := 11) ?_
          refine tkV (i := 12) ?_
          refine tkV (i := 13) ?_
          refine tkV (i := 14) ?_
          refine tkV (i := 15) ?_
          refine tkV (i := 16) ?_
          refine tkV (i := 17) ?_
          refine tkV (i := 18) ?_
          refine tkV (i := 19) ?_
          refine tkV (i := 20) ?_
          refine tkV (i := 21) ?_
          refine tkB (i := 22) ?_
          refine wpAnyH_done (by kernel_rfl) ?_ _
          have HN9 := Lib.hid (HN.out _ (Below.refl _ _).drew)
          clear c0 c1 c2 c3 c4 c5 HN
          go_wp2_with fail
          go_roundg (n1 - (k + 1))
          case measure => omega
          case rel => exact ⟨k + 1, b, Y, _, rc, by have := HGN.out; omega, by go_num, rfl, HN9.out⟩
        case false =>
          rw [hrt] at CE HYES HNO
          have CE0 := CE.out _ (Below.refl _ _)
          obtain ⟨c0, c1, c2, c3, c4, c5⟩ := CE0
          by_cases hs0 : sn = 0
          case neg =>
            have e0 : ((sn : Int) == 0) = false := by simp; omega
            have HN := Lib.hid (HYES.out (.inr hs0))
            clear hrt hs0 HYES HNO DRK x0 y0 y1
            go_wp2_with fail
            refine wp_region_held_drew (S := (fun W => W.cell? ⟨w.heap.size, 0, none⟩ = some (.slice (some ⟨tq, tf, none⟩) l.length sc) ∧ W.cell? ⟨tq, tf + i * 4 + 3, none⟩ = some (.bool false) ∧ W.cell? ⟨w.heap.size + 1, 0, none⟩ = some (.slice (some ⟨qb, qo, none⟩) Y.length rc) ∧ W.cell? ⟨w.heap.size + 1, 1, none⟩ = some (.int .i64 x.next) ∧ W.cell? ⟨qb, qo + i, none⟩ = some (.slice (some ⟨eb, eo, none⟩) n1 ec) ∧ W.cell? ⟨eb, eo + k * 2, none⟩ = some (.int .i64 rid))) (by kernel_rfl) ?_ (fun hHeld => ?_)
            · (exact CE.out _ (by first | exact BW1.out | exact (Below.refl _ _).drew))
            refine tkB (i := 0) ?_
            refine tkB (i := 1) ?_
            refine tkB (i := 2) ?_
            refine tkB (i := 3) ?_
            refine tkB (i := 4) ?_
            refine tkB (i := 5) ?_
            refine tkB (i := 6) ?_
            refine tkB (i := 7) ?_
            refine tkB (i := 8) ?_
            refine tkB (i := 9) ?_
            refine tkB (i := 10) ?_
            refine tkB (i := 11) ?_
            refine tkB (i := 12) ?_
            refine tkB (i := 13) ?_
            refine tkB (i := 14) ?_
            refine tkB (i := 15) ?_
            refine tkB (i := 16) ?_
            refine tkB (i := 17) ?_
            refine tkB (i := 18) ?_
            refine tkB (i := 19) ?_
            refine tkR (i := 20) (fun K hK => ?_)
            go_simp
            (go_at_call 37; refine (STK.out _ (Below.refl _ _).drew).mono ?_; rintro e w5 ⟨rfl, hb⟩; have BW1 : Hid (Below wr.heap.size wr w5) := (Below.refl _ _).drew.trans hb; clear hb)
            refine hK.out _ _ ?_ (fun hHeld => ?_)
            · (exact CE.out _ (by first | exact BW1.out | exact (Below.refl _ _).drew))
            clear hK K
            try simp only [Act.put, tkS]
            refine tkB (i := 21) ?_
            refine tkB (i := 22) ?_
            refine wpAnyH_done (by kernel_rfl) ?_ _
            have HN9 := Lib.hid (HN.out _ BW1.out)
            clear c0 c1 c2 c3 c4 c5 HN e0
            go_wp2_with fail
            go_roundg (n1 - (k + 1))
            case measure => omega
            case rel => exact ⟨k + 1, b, Y, _, rc, by have := HGN.out; omega, by go_num, rfl, HN9.out⟩
          subst hs0
          obtain ⟨hre, hto, hle⟩ := HNO.out rfl rfl
          have HRE := Lib.hid hre
          clear hrt HYES HNO x0 y0 y1 hre
          go_wp2_with fail
          refine wp_region_held_drew (S := (fun W => W.cell? ⟨w.heap.size, 0, none⟩ = some (.slice (some ⟨tq, tf, none⟩) l.length sc) ∧ W.cell? ⟨tq, tf + i * 4 + 3, none⟩ = some (.bool false) ∧ W.cell? ⟨w.heap.size + 1, 0, none⟩ = some (.slice (some ⟨qb, qo, none⟩) Y.length rc) ∧ W.cell? ⟨w.heap.size + 1, 1, none⟩ = some (.int .i64 x.next) ∧ W.cell? ⟨qb, qo + i, none⟩ = some (.slice (some ⟨eb, eo, none⟩) n1 ec) ∧ W.cell? ⟨eb, eo + k * 2, none⟩ = some (.int .i64 rid))) (by kernel_rfl) ?_ (fun hHeld => ?_)
          · (exact CE.out _ (by first | exact BW1.out | exact (Below.refl _ _).drew))
          refine tkB (i := 0) ?_
          refine tkB (i := 1) ?_
          refine tkB (i := 2) ?_
          refine tkB (i := 3) ?_
          refine tkB (i := 4) ?_
          refine tkB (i := 5) ?_
          refine tkB (i := 6) ?_
          refine tkB (i := 7) ?_
          refine tkB (i := 8) ?_
          refine tkB (i := 9) ?_
          refine tkB (i := 10) ?_
          refine tkB (i := 11) ?_
          refine tkB (i := 12) ?_
          refine tkB (i := 13) ?_
          refine tkB (i := 14) ?_
          refine tkB (i := 15) ?_
          refine tkB (i := 16) ?_
          refine tkB (i := 17) ?_
          refine tkB (i := 18) ?_
          refine tkB (i := 19) ?_
          refine tkR (i := 20) (fun K hK => ?_)
          go_simp
          (go_at_call 37; refine (STK.out _ (Below.refl _ _).drew).mono ?_; rintro e w5 ⟨rfl, hb⟩; have BW1 : Hid (Below wr.heap.size wr w5) := (Below.refl _ _).drew.trans hb; clear hb)
          refine hK.out _ _ ?_ (fun hHeld => ?_)
          · (exact CE.out _ (by first | exact BW1.out | exact (Below.refl _ _).drew))
          clear hK K
          try simp only [Act.put, tkS]
          refine tkB (i := 21) ?_
          refine tkB (i := 22) ?_
          refine wpAnyH_done (by kernel_rfl) ?_ _
          have hb5 := HPS.out.later BW1.out
          clear c0 c1 c2 c3 c4 c5
          have y0 := cell_at (o := 0) hb5.b rfl
          have y1 := cell_at (o := 1) hb5.b rfl
          clear hb5
          go_wp2_with fail
          refine (DRK.out _ BW1.out).mono ?_
          rintro e w6 ⟨pa, pc, rfl, hown, hB⟩
          have hb6 := (HPS.out.later BW1.out).later hB
          clear y0 y1
          have y0 := cell_at (o := 0) hb6.b rfl
          have y1 := cell_at (o := 1) hb6.b rfl
          have f0 := frozen_at 0 hb6.b
          have f1 := frozen_at 1 hb6.b
          have hlt5 := (Array.getElem?_eq_some_iff.1 (HPS.out.later BW1.out).c).1
          have hY2 : Y2.length = Y.length := by rw [← hYi, List.length_set]
          have HN9 : Hid (PrI w ((w6.setCell ⟨w.heap.size + 1, 0, none⟩ (.slice pa Y.length pc)).setCell ⟨w.heap.size + 1, 1, none⟩ (.int .i64 x.next)) (.slice (some ⟨tq, tf, none⟩) l.length sc) x.next l X (totT Y0) true (fun i2 k2 => i2 < i ∨ (i2 = i ∧ k2 < k)) Y2 pa pc) := by
            have hown2 : Own w6 (dRowSS Y2) (fun d => w.heap.size + 1 + 1 < d ∧ d < w6.heap.size) (.slice pa Y2.length pc) := Own.mono hown (fun d hd => ⟨by have := hd.1; omega, hd.2⟩)
            have h9 := PrS.put hb6.a hb6.b hb6.c hb6.bel hown2
            rw [hY2] at h9
            exact ⟨h9, HRE.out, by cases b <;> simp at htt ⊢ <;> omega, fun h => absurd h (by decide)⟩
          clear hown hB hb6 hlt5 hYi htt
          have hw1 : IntKind.i64.wrap ((k : Int) - 1) = (k : Int) - 1 := by rw [IntKind.wrap_i64]; omega
          have hw2 : IntKind.i64.wrap ((k : Int) - 1 + 1) = (k : Int) := by rw [IntKind.wrap_i64]; omega
          go_wp2_with fail
          go_roundg (n1 - (k + 1))
          case measure => omega
          case rel => exact ⟨k, true, Y2, pa, pc, by omega, by first | rfl | (congr 1) | go_num, rfl, HN9.out⟩
end Go.Proofs.YtngbhifafdbpkaaGreat
