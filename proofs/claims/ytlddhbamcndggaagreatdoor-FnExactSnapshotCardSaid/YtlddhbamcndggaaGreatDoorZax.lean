import Derived.Test.YtlddhbamcndggaaGreatDoorZas
import Derived.Test.YtlddhbamcndggaaGreatDoorZaw
import Derived.Deep.RegionHeld3
import Derived.Test.YtlddhbamcndggaaGreatDoorZTk
namespace Go.Proofs.YtlddhbamcndggaaGreatDoor
open Go.RowKit
set_option linter.unusedSimpArgs false
noncomputable def cellOf (t : Tb) (r : RowV) (s : List UInt8) : List At := if placeC t.cols s < 0 then [⟨4, r.id, []⟩] else r.cells.getD (placeC t.cols s).toNat []
noncomputable def matchC (t : Tb) (r : RowV) (c : CondV) : Bool := matchP c.fn (cellOf t r c.col) c.val
structure Asks (t : Tb) (r : RowV) (c : CondV) : Prop where
 len : r.cells.length = t.cols.length
 ord : (c.fn = 1 ∨ c.fn = 2 ∨ c.fn = 7 ∨ c.fn = 8) ∨ ((c.fn = 3 ∨ c.fn = 4 ∨ c.fn = 5 ∨ c.fn = 6) ∧ c.val.length = 1 ∧ (cellOf t r c.col).length ≤ 1)
theorem cell_id {t : Tb} {r : RowV} {s : List UInt8} (hp : placeC t.cols s = -1) : cellOf t r s = [⟨4, r.id, []⟩] := by unfold cellOf; rw [hp, if_pos (by omega)]
theorem cell_col {t : Tb} {r : RowV} {s : List UInt8} {k : Nat} (hk : k < r.cells.length) (hp : placeC t.cols s = (k : Int)) : cellOf t r s = r.cells[k] := by
 unfold cellOf; rw [hp, if_neg (by omega), Int.toNat_natCast, List.getD_eq_getElem?_getD, List.getElem?_eq_getElem hk]; rfl
theorem fit_len {x : Cl} {l : List At} (h : fitC x l = 0) : (l.length : Int) ≤ x.mx := by
 unfold fitC at h
 split at h
 ·
  omega
 ·
  split at h
  ·
   omega
  ·
   rename_i h2
   have h3 : inB x.mn l.length x.mx = true := by simpa using h2
   unfold inB at h3
   have := of_decide_eq_true h3
   omega
theorem row_of {t : Tb} {id : Int} {l : List (List At)} (h : rowB t id l = true) : RowP t id l := by
 unfold rowB at h; exact @of_decide_eq_true _ (Classical.propDecidable _) h
theorem asks_of {t : Tb} {r : RowV} {c : CondV} (hr : rowB t r.id r.cells = true) (hc : condB c = true) (h0 : condC t c = 0) : Asks t r c := by
 have hR := row_of hr
 refine ⟨hR.len, ?_⟩
 unfold condB at hc
 simp only [Bool.and_eq_true] at hc
 have h1 : 1 ≤ c.fn ∧ c.fn ≤ 8 := by have := hc.1; unfold inB at this; exact of_decide_eq_true this
 by_cases hf : 3 ≤ c.fn ∧ c.fn ≤ 6
 ·
  refine .inr ⟨by omega, ?_⟩
  have hb : inB 3 c.fn 6 = true := by unfold inB; exact decide_eq_true hf
  have key : ∀ kd mx : Int, condK kd mx c = 0 → kd = 1 ∧ mx = 1 ∧ c.val.length = 1 := fun kd mx h => by
   unfold condK at h
   split at h
   ·
    omega
   ·
    split at h
    ·
     omega
    ·
     rename_i h2
     by_cases e1 : kd = 1
     ·
      by_cases e2 : mx = 1
      ·
       by_cases e3 : c.val.length = 1
       ·
        exact ⟨e1, e2, e3⟩
       ·
        exact absurd ⟨hb, .inr (.inr e3)⟩ h2
      ·
       exact absurd ⟨hb, .inr (.inl e2)⟩ h2
     ·
      exact absurd ⟨hb, .inl e1⟩ h2
  rcases place_cases t.cols c.col with hp | ⟨k, hk, hp⟩
  ·
   by_cases hn : c.col = idN
   ·
    rw [cond_id hp hn] at h0
    have := (key _ _ h0).1
    omega
   ·
    rw [cond_none hp hn] at h0
    omega
  ·
   rw [cond_at hk hp] at h0
   obtain ⟨-, e2, e3⟩ := key _ _ h0
   have hk' : k < r.cells.length := by rw [hR.len]; exact hk
   refine ⟨e3, ?_⟩
   rw [cell_col hk' hp]
   have := fit_len (hR.fit k hk' hk).2
   omega
 ·
  exact .inl (by omega)
theorem cell_le {t : Tb} {r : RowV} {s : List UInt8} (hr : (dAtomSS r.cells).le maxLen) (hid : iOK r.id) (hlen : r.cells.length = t.cols.length) : (dAtomS (cellOf t r s)).le maxLen := by
 rcases place_cases t.cols s with hp | ⟨k, hk, hp⟩
 ·
  rw [cell_id hp]
  refine Ls_le.2 ⟨by omega, by simp [maxLen], fun i hi j hj => ?_⟩
  have hi' : i = 0 := by simpa using hi
  subst hi'
  rcases (by omega : j = 0 ∨ j = 1 ∨ j = 2) with rfl | rfl | rfl
  ·
   show (Lit.int .i64 4).wf = true; rfl
  ·
   exact hid
  ·
   show (0 : Nat) ≤ maxLen; omega
 ·
  have hk2 : k < r.cells.length := by omega
  rw [cell_col hk2 hp]
  exact (Ls_le.1 hr).2.2 k hk2 0 (by omega)
structure BoxF (ty ty' ty'' : TypeId) (w W : World) (cs ds es : Array Value) : Prop where
 a : W.heap[w.heap.size]? = some (.cells cs ty)
 b : W.heap[w.heap.size + 1]? = some (.cells ds ty')
 c : W.heap[w.heap.size + 1 + 1]? = some (.cells es ty'')
 bel : Below w.heap.size w W
theorem boxF (ty ty' ty'' : TypeId) (w : World) (cs ds es : Array Value) : BoxF ty ty' ty'' w (((w.alloc (.cells cs ty)).alloc (.cells ds ty')).alloc (.cells es ty'')) cs ds es := by
 have h := boxE ty ty' w cs ds
 have e := heap_newD ((w.alloc (.cells cs ty)).alloc (.cells ds ty')) (.cells es ty'')
 rw [size_allocD, size_allocD] at e
 exact ⟨heap_keptD h.a (below_allocD _ _), heap_keptD h.b (below_allocD _ _), e, h.bel.trans ((below_allocD _ _).mono h.bel.size)⟩
theorem BoxF.later {ty ty' ty'' : TypeId} {w W W' : World} {cs ds es : Array Value} (h : BoxF ty ty' ty'' w W cs ds es) (hB : Below W.heap.size W W') : BoxF ty ty' ty'' w W' cs ds es := ⟨heap_keptD h.a hB, heap_keptD h.b hB, heap_keptD h.c hB, h.bel.trans (hB.mono h.bel.size)⟩
theorem rd_one (W : World) (x : At) (ty : TypeId) : Rd (W.alloc (.cells #[.int .i64 x.k, .int .i64 x.n, .string ⟨x.t.toArray⟩] ty)) (fun _ => True) (dAtomS [x]) (.slice (some ⟨W.heap.size, 0, none⟩) 1 1) := by
 refine ⟨_, _, rfl, .inr ⟨W.heap.size, 0, rfl, trivial, by omega, fun i j hi hj => ?_⟩⟩
 have hi' : i = 0 := by simpa using hi
 subst hi'
 rw [Nat.zero_mul, Nat.add_zero, Nat.zero_add]
 rcases (by omega : j = 0 ∨ j = 1 ∨ j = 2) with rfl | rfl | rfl
 ·
  exact ⟨_, cell_at (o := 0) (heap_newD _ _) rfl, rfl⟩
 ·
  exact ⟨_, cell_at (o := 1) (heap_newD _ _) rfl, rfl⟩
 ·
  exact ⟨_, cell_at (o := 2) (heap_newD _ _) rfl, rfl⟩
def CellAns (w : World) (l : List At) (e : Ending) (w' : World) : Prop := ∃ (a : Option Addr) (q : Nat), e = .returned (.slice a l.length q) ∧ Rd w' (fun _ => True) (dAtomS l) (.slice a l.length q) ∧ Below w.heap.size w w'
theorem CellAns.new {w W : World} {l : List At} {x : At} {ty : TypeId} (HE : Hid (l = [x])) (hB : Below w.heap.size w W) : CellAns w l (.returned (.slice (some ⟨W.heap.size, 0, none⟩) 1 1)) (W.alloc (.cells #[.int .i64 x.k, .int .i64 x.n, .string ⟨x.t.toArray⟩] ty)) := by
 have h := HE.out
 subst h
 exact ⟨_, _, rfl, rd_one _ _ _, hB.alloc hB.size _⟩
set_option maxRecDepth 100000 in
set_option maxHeartbeats 3200000 in
theorem cellS (t : Tb) (r : RowV) (s : List UInt8) (ca : Option Addr) (cc : Nat) (ua : Option Addr) (uc : Nat) (ra : Option Addr) (rc : Nat) (A B : Nat → Prop) (w : World) (ho : t.ok) (hlen : r.cells.length = t.cols.length) (hT : t.Has w A ca ua) (hR : Rd w B (dAtomSS r.cells) (.slice ra r.cells.length rc)) :
  Calls Tryz.prog 136 #[.agg #[.string ⟨t.nm.toArray⟩, .slice ca t.cols.length cc, .slice ua t.uq.length uc, .bool t.rt], .agg #[.int .i64 r.id, .slice ra r.cells.length rc], .string ⟨s.toArray⟩] w (CellAns w (cellOf t r s)) := by
 have PL : Hid (∀ W, BoxE 75 81 w W #[.string ⟨t.nm.toArray⟩, .slice ca t.cols.length cc, .slice ua t.uq.length uc, .bool t.rt] #[.int .i64 r.id, .slice ra r.cells.length rc] → Calls Tryz.prog 60 #[.agg #[.string ⟨t.nm.toArray⟩, .slice ca t.cols.length cc, .slice ua t.uq.length uc, .bool t.rt], .string ⟨s.toArray⟩] W fun e w' => e = .returned (.int .i64 (placeC t.cols s)) ∧ BoxE 75 81 w w' #[.string ⟨t.nm.toArray⟩, .slice ca t.cols.length cc, .slice ua t.uq.length uc, .bool t.rt] #[.int .i64 r.id, .slice ra r.cells.length rc]) := fun W h => (placeS t s ca cc ua uc A W ho.2.1 (hT.later h.bel)).mono (fun e w' ⟨he, hB⟩ => ⟨he, h.later hB⟩)
 have HR : Hid (∀ W, Below w.heap.size w W → Rd W B (Ls 1 cAtomS r.cells) (.slice ra r.cells.length rc)) := fun W h => Rd.later hR h
 have hb := boxE 75 81 w #[.string ⟨t.nm.toArray⟩, .slice ca t.cols.length cc, .slice ua t.uq.length uc, .bool t.rt] #[.int .i64 r.id, .slice ra r.cells.length rc]
 have hcl := ho.2.1
 unfold maxLen at hcl
 have x0 := cell_at (o := 0) hb.a rfl
 have x1 := cell_at (o := 1) hb.a rfl
 have x2 := cell_at (o := 2) hb.a rfl
 have x3 := cell_at (o := 3) hb.a rfl
 have y0 := cell_at (o := 0) hb.b rfl
 have y1 := cell_at (o := 1) hb.b rfl
 have HB := Lib.hid hb
 clear ho hT hR hb
 rcases place_cases t.cols s with hp | ⟨k, hk, hp⟩
 ·
  have HE := Lib.hid (cell_id (r := r) hp)
  rw [hp] at PL
  clear hp HR hlen
  go_enter Tryz.func136, Tryz.ntmps136
  go_wp2_with fail
  refine (PL.out _ HB.out).mono ?_
  rintro e w1 ⟨rfl, hb⟩
  clear x0 x1 x2 x3 y0 y1
  have y0 := cell_at (o := 0) hb.b rfl
  have y1 := cell_at (o := 1) hb.b rfl
  have HB1 := Lib.hid hb.bel
  clear hb
  go_wp2_with fail
  go_ret
  exact CellAns.new (x := ⟨4, r.id, []⟩) HE HB1.out
 ·
  have hk2 : k < r.cells.length := by omega
  have HE := Lib.hid (cell_col hk2 hp)
  have hk1 : (k : Int) < (r.cells.length : Int) := by omega
  have hk0 : decide ((k : Int) < (0 : Int)) = false := decide_eq_false (by omega)
  rw [hp] at PL
  clear hp hlen
  go_enter Tryz.func136, Tryz.ntmps136
  go_wp2_with fail
  refine (PL.out _ HB.out).mono ?_
  rintro e w1 ⟨rfl, hb⟩
  clear x0 x1 x2 x3 y0 y1
  have y0 := cell_at (o := 0) hb.b rfl
  have y1 := cell_at (o := 1) hb.b rfl
  have HB1 := Lib.hid hb.bel
  obtain ⟨b, off, rfl, -, hc⟩ := (HR.out _ hb.bel).things k hk2
  obtain ⟨u0, c0, r0⟩ := hc 0 (by omega)
  replace r0 : Rd w1 B (dAtomS r.cells[k]) u0 := r0
  obtain ⟨va, vq, rfl⟩ := r0.lsSlice
  rw [Nat.mul_one, Nat.add_zero] at c0
  have HR0 := Lib.hid r0.any
  clear hc r0
  generalize r.cells[k] = x at *
  clear hb
  go_wp2_with fail
  go_ret
  exact ⟨va, vq, by rw [HE.out]; rfl, by rw [HE.out]; exact HR0.out, HB1.out⟩
set_option maxRecDepth 100000 in
set_option maxHeartbeats 6400000 in
theorem matchS (t : Tb) (r : RowV) (c : CondV) (ca : Option Addr) (cc : Nat) (ua : Option Addr) (uc : Nat) (ra : Option Addr) (rc : Nat) (va : Option Addr) (vc : Nat) (A B C : Nat → Prop) (w : World) (ho : t.ok) (hl : (dAtomS c.val).le 1048576) (hr : (dAtomSS r.cells).le maxLen) (hid : iOK r.id) (hq : Asks t r c) (hT : t.Has w A ca ua) (hR : Rd w B (dAtomSS r.cells) (.slice ra r.cells.length rc)) (hV : Rd w C (dAtomS c.val) (.slice va c.val.length vc)) :
  Calls Tryz.prog 135 #[.agg #[.string ⟨t.nm.toArray⟩, .slice ca t.cols.length cc, .slice ua t.uq.length uc, .bool t.rt], .agg #[.int .i64 r.id, .slice ra r.cells.length rc], .agg #[.string ⟨c.col.toArray⟩, .int .i64 c.fn, .slice va c.val.length vc]] w fun e w' => e = .returned (.bool (matchC t r c)) ∧ Below w.heap.size w w' := by
 have hlm : (dAtomS c.val).le maxLen := D.le.mono (by unfold maxLen; omega) _ hl
 have hcel : (dAtomS (cellOf t r c.col)).le maxLen := cell_le hr hid hq.len
 have CE : Hid (∀ W, BoxF 75 81 119 w W #[.string ⟨t.nm.toArray⟩, .slice ca t.cols.length cc, .slice ua t.uq.length uc, .bool t.rt] #[.int .i64 r.id, .slice ra r.cells.length rc] #[.string ⟨c.col.toArray⟩, .int .i64 c.fn, .slice va c.val.length vc] → Calls Tryz.prog 136 #[.agg #[.string ⟨t.nm.toArray⟩, .slice ca t.cols.length cc, .slice ua t.uq.length uc, .bool t.rt], .agg #[.int .i64 r.id, .slice ra r.cells.length rc], .string ⟨c.col.toArray⟩] W (CellAns W (cellOf t r c.col))) := fun W h => cellS t r c.col ca cc ua uc ra rc A B W ho hq.len (hT.later h.bel) (hR.later h.bel)
 have HV : Hid (∀ W, Below w.heap.size w W → Rd W C (dAtomS c.val) (.slice va c.val.length vc)) := fun W h => hV.later h
 have HM : Hid (matchC t r c = matchP c.fn (cellOf t r c.col) c.val) := rfl
 have hb := boxF 75 81 119 w #[.string ⟨t.nm.toArray⟩, .slice ca t.cols.length cc, .slice ua t.uq.length uc, .bool t.rt] #[.int .i64 r.id, .slice ra r.cells.length rc] #[.string ⟨c.col.toArray⟩, .int .i64 c.fn, .slice va c.val.length vc]
 have HQ := Lib.hid hq.ord
 have HL := Lib.hid (And.intro hl (And.intro hlm hcel))
 have hl1 : c.val.length ≤ 1048576 := (Ls_le.1 hl).2.1
 have x0 := cell_at (o := 0) hb.a rfl
 have x1 := cell_at (o := 1) hb.a rfl
 have x2 := cell_at (o := 2) hb.a rfl
 have x3 := cell_at (o := 3) hb.a rfl
 have y0 := cell_at (o := 0) hb.b rfl
 have y1 := cell_at (o := 1) hb.b rfl
 have z0 := cell_at (o := 0) hb.c rfl
 have z1 := cell_at (o := 1) hb.c rfl
 have z2 := cell_at (o := 2) hb.c rfl
 have HB := Lib.hid hb
 clear ho hl hlm hcel hr hid hq hT hR hV hb
 generalize cellOf t r c.col = l at *
 rcases HQ.out with (hf | hf | hf | hf) | ⟨hf4, hv1, hc1⟩
 ·
  skip
  have f1 : (c.fn == 1) = true := by simpa using hf
  have HE : Hid (matchC t r c = eqB l c.val) := by show matchC t r c = _; rw [HM.out]; simp [matchP, hf]
  clear hf HQ HM
  go_enter Tryz.func135, Tryz.ntmps135
  go_wp2_with fail
  refine (CE.out _ HB.out).mono ?_
  rintro e w1 ⟨la, lq, rfl, hrd, hB⟩
  have HB1 := Lib.hid (HB.out.later hB)
  have HRD := Lib.hid hrd
  clear x0 x1 x2 x3 y0 y1 z0 z1 z2 hrd hB
  have z0 := cell_at (o := 0) HB1.out.c rfl
  have z1 := cell_at (o := 1) HB1.out.c rfl
  have z2 := cell_at (o := 2) HB1.out.c rfl
  go_wp2_with fail
  refine (same03S l c.val la lq va vc _ _ _ HL.out.2.2 HL.out.2.1 HRD.out (HV.out _ HB1.out.bel)).mono ?_
  rintro e w2 ⟨rfl, hB2⟩
  have HB2 := Lib.hid (HB1.out.bel.trans (hB2.mono HB1.out.bel.size))
  clear hB2
  go_wp2_with fail
  go_ret
  exact ⟨ret_b HE.out.symm, HB2.out⟩
 ·
  skip
  have f1 : (c.fn == 1) = false := by simp [hf]
  have f2 : (c.fn == 2) = true := by simpa using hf
  have HE : Hid (matchC t r c = !eqB l c.val) := by show matchC t r c = _; rw [HM.out]; simp [matchP, hf]
  clear hf HQ HM
  go_enter Tryz.func135, Tryz.ntmps135
  go_wp2_with fail
  refine (CE.out _ HB.out).mono ?_
  rintro e w1 ⟨la, lq, rfl, hrd, hB⟩
  have HB1 := Lib.hid (HB.out.later hB)
  have HRD := Lib.hid hrd
  clear x0 x1 x2 x3 y0 y1 z0 z1 z2 hrd hB
  have z0 := cell_at (o := 0) HB1.out.c rfl
  have z1 := cell_at (o := 1) HB1.out.c rfl
  have z2 := cell_at (o := 2) HB1.out.c rfl
  go_wp2_with fail
  refine (same03S l c.val la lq va vc _ _ _ HL.out.2.2 HL.out.2.1 HRD.out (HV.out _ HB1.out.bel)).mono ?_
  rintro e w2 ⟨rfl, hB2⟩
  have HB2 := Lib.hid (HB1.out.bel.trans (hB2.mono HB1.out.bel.size))
  clear hB2
  go_wp2_with fail
  go_ret
  exact ⟨ret_b HE.out.symm, HB2.out⟩
 ·
  skip
  have f1 : (c.fn == 1) = false := by simp [hf]
  have f2 : (c.fn == 2) = false := by simp [hf]
  have f7 : (c.fn == 7) = true := by simpa using hf
  have HE : Hid (matchC t r c = allB l c.val) := by show matchC t r c = _; rw [HM.out]; simp [matchP, hf]
  clear hf HQ HM
  go_enter Tryz.func135, Tryz.ntmps135
  go_wp2_with fail
  refine (CE.out _ HB.out).mono ?_
  rintro e w1 ⟨la, lq, rfl, hrd, hB⟩
  have HB1 := Lib.hid (HB.out.later hB)
  have HRD := Lib.hid hrd
  clear x0 x1 x2 x3 y0 y1 z0 z1 z2 hrd hB
  have z0 := cell_at (o := 0) HB1.out.c rfl
  have z1 := cell_at (o := 1) HB1.out.c rfl
  have z2 := cell_at (o := 2) HB1.out.c rfl
  go_wp2_with fail
  refine (minusS c.val l va la vc lq w1.heap.size w1 hl1 (le_atoms HL.out.2.2).1 (Nat.le_refl _) (HV.out _ HB1.out.bel).lt.ats HRD.out.lt.ats).mono ?_
  rintro e w2 ⟨ma, mc, rfl, -, hB2⟩
  have HB2 := Lib.hid (HB1.out.bel.trans (hB2.mono HB1.out.bel.size))
  have HMA := Lib.hid (minus_all l c.val)
  clear hB2
  go_wp2_with fail
  go_ret
  exact ⟨ret_b (by rw [HE.out, ← HMA.out, Bool.eq_iff_iff, beq_iff_eq, decide_eq_true_eq]; omega), HB2.out⟩
 ·
  skip
  have f1 : (c.fn == 1) = false := by simp [hf]
  have f2 : (c.fn == 2) = false := by simp [hf]
  have f7 : (c.fn == 7) = false := by simp [hf]
  have f8 : (c.fn == 8) = true := by simpa using hf
  have HE : Hid (matchC t r c = noneB l c.val) := by show matchC t r c = _; rw [HM.out]; simp [matchP, hf]
  clear hf HQ HM
  go_enter Tryz.func135, Tryz.ntmps135
  go_wp2_with fail
  refine (CE.out _ HB.out).mono ?_
  rintro e w1 ⟨la, lq, rfl, hrd, hB⟩
  have HB1 := Lib.hid (HB.out.later hB)
  have HRD := Lib.hid hrd
  clear x0 x1 x2 x3 y0 y1 z0 z1 z2 hrd hB
  have z0 := cell_at (o := 0) HB1.out.c rfl
  have z1 := cell_at (o := 1) HB1.out.c rfl
  have z2 := cell_at (o := 2) HB1.out.c rfl
  have CX : Hid (∀ W, Below w1.heap.size w1 W → W.cell? ⟨w.heap.size + 1 + 1, 2, none⟩ = some (.slice va c.val.length vc)) := fun W h => cell_at (o := 2) (HB1.out.later h).c rfl
  go_wp2_with fail
  refine wp_region_held_drew (S := (fun W => W.cell? ⟨w.heap.size + 1 + 1, 2, none⟩ = some (.slice va c.val.length vc))) (by kernel_rfl) ?_ (fun hHeld => ?_)
  ·
   (first | exact CX.out _ (Below.refl _ _) | exact CX.out _ (Below.refl _ _).drew | exact CX.out _ BW.out)
  refine tkB (i := 0) ?_
  refine tkB (i := 1) ?_
  refine tkB (i := 2) ?_
  refine tkB (i := 5) ?_
  refine tkB (i := 6) ?_
  refine tkB (i := 7) ?_
  refine tkR (i := 3) (fun K hK => ?_)
  go_simp
  go_at_call 163
  refine (minusS c.val l va la vc lq w1.heap.size w1.drew hl1 (le_atoms HL.out.2.2).1 (Nat.le_refl _) ((HV.out _ HB1.out.bel).later (Below.refl _ _).drew).lt.ats (HRD.out.later (Below.refl _ _).drew).lt.ats).mono ?_
  rintro e w2 ⟨ma, mc, rfl, -, hB2⟩
  have BW : Hid (Below w1.heap.size w1 w2) := (Below.refl _ _).drew.trans hB2
  clear hB2
  refine hK.out _ _ ?_ (fun hHeld => ?_)
  ·
   (first | exact CX.out _ (Below.refl _ _) | exact CX.out _ (Below.refl _ _).drew | exact CX.out _ BW.out)
  clear hK K
  try simp only [Act.put, tkS]
  refine tkB (i := 4) ?_
  refine tkB (i := 8) ?_
  refine tkB (i := 9) ?_
  refine wpAnyH_done (by kernel_rfl) ?_ _
  have HMA := Lib.hid (minus_none l c.val)
  go_wp2_with fail
  go_ret
  exact ⟨ret_b (by rw [HE.out, ← HMA.out, Bool.eq_iff_iff, beq_iff_eq, decide_eq_true_eq]; omega), HB1.out.bel.trans (BW.out.mono HB1.out.bel.size)⟩
 ·
  have hf : ¬ c.fn = 1 ∧ ¬ c.fn = 2 ∧ ¬ c.fn = 7 ∧ ¬ c.fn = 8 := by omega
  have f1 : (c.fn == 1) = false := by simpa using hf.1
  have f2 : (c.fn == 2) = false := by simpa using hf.2.1
  have f7 : (c.fn == 7) = false := by simpa using hf.2.2.1
  have f8 : (c.fn == 8) = false := by simpa using hf.2.2.2
  have HE : Hid (matchC t r c = ncmpB c.fn l c.val) := by show matchC t r c = _; rw [HM.out]; simp [matchP, hf]
  clear hf HQ HM
  by_cases h0 : l.length = 0
  ·
   obtain rfl := List.length_eq_zero_iff.1 h0
   have HR : Hid (ncmpB c.fn [] c.val = false) := by show ncmpB _ _ _ = _; cases c.val <;> rfl
   clear h0 hv1 hc1 hf4
   go_enter Tryz.func135, Tryz.ntmps135
   go_wp2_with fail
   refine (CE.out _ HB.out).mono ?_
   rintro e w1 ⟨la, lq, rfl, hrd, hB⟩
   have HB1 := Lib.hid (HB.out.later hB)
   have HRD := Lib.hid hrd
   clear x0 x1 x2 x3 y0 y1 z0 z1 z2 hrd hB
   have z0 := cell_at (o := 0) HB1.out.c rfl
   have z1 := cell_at (o := 1) HB1.out.c rfl
   have z2 := cell_at (o := 2) HB1.out.c rfl
   simp only [List.length_nil, Int.natCast_zero]
   go_wp2_with fail
   go_ret
   exact ⟨ret_b (by rw [HE.out, HR.out]), HB1.out.bel⟩
  have h1 : l.length = 1 := by omega
  have hz : ((l.length : Int) == 0) = false := by rw [h1]; rfl
  have hl0 : (0 : Int) < (l.length : Int) := by omega
  have hv0 : (0 : Int) < (c.val.length : Int) := by omega
  have HLN := Lib.hid (And.intro h1 hv1)
  clear h0 h1 hv1 hc1
  rcases hf4 with hf | hf | hf | hf
  ·
   skip
   have f3 : (c.fn == 3) = true := by simpa using hf
   have HF := Lib.hid hf
   clear hf
   go_enter Tryz.func135, Tryz.ntmps135
   go_wp2_with fail
   refine (CE.out _ HB.out).mono ?_
   rintro e w1 ⟨la, lq, rfl, hrd, hB⟩
   have HB1 := Lib.hid (HB.out.later hB)
   have HRD := Lib.hid hrd
   clear x0 x1 x2 x3 y0 y1 z0 z1 z2 hrd hB
   have z0 := cell_at (o := 0) HB1.out.c rfl
   have z1 := cell_at (o := 1) HB1.out.c rfl
   have z2 := cell_at (o := 2) HB1.out.c rfl
   obtain ⟨b1, off1, m, xm, hlx, hm, rfl, c1⟩ := HRD.out.ats.num HLN.out.1
   obtain ⟨b2, off2, n, xn, hvx, hn, rfl, c2⟩ := (HV.out _ HB1.out.bel).ats.num HLN.out.2
   have HG : Hid (ncmpB c.fn l c.val = decide (m < n)) := by show ncmpB _ _ _ = _; rw [hlx, hvx, HF.out, ← hm, ← hn]; simp [ncmpB, cmpB]
   clear hlx hvx hm hn
   go_wp2_with fail
   go_ret
   exact ⟨ret_b (by rw [HE.out, HG.out]), HB1.out.bel⟩
  ·
   skip
   have f3 : (c.fn == 3) = false := by simp [hf]
   have f4 : (c.fn == 4) = true := by simpa using hf
   have HF := Lib.hid hf
   clear hf
   go_enter Tryz.func135, Tryz.ntmps135
   go_wp2_with fail
   refine (CE.out _ HB.out).mono ?_
   rintro e w1 ⟨la, lq, rfl, hrd, hB⟩
   have HB1 := Lib.hid (HB.out.later hB)
   have HRD := Lib.hid hrd
   clear x0 x1 x2 x3 y0 y1 z0 z1 z2 hrd hB
   have z0 := cell_at (o := 0) HB1.out.c rfl
   have z1 := cell_at (o := 1) HB1.out.c rfl
   have z2 := cell_at (o := 2) HB1.out.c rfl
   obtain ⟨b1, off1, m, xm, hlx, hm, rfl, c1⟩ := HRD.out.ats.num HLN.out.1
   obtain ⟨b2, off2, n, xn, hvx, hn, rfl, c2⟩ := (HV.out _ HB1.out.bel).ats.num HLN.out.2
   have HG : Hid (ncmpB c.fn l c.val = decide (m ≤ n)) := by show ncmpB _ _ _ = _; rw [hlx, hvx, HF.out, ← hm, ← hn]; simp [ncmpB, cmpB]
   clear hlx hvx hm hn
   go_wp2_with fail
   go_ret
   exact ⟨ret_b (by rw [HE.out, HG.out]), HB1.out.bel⟩
  ·
   skip
   have f3 : (c.fn == 3) = false := by simp [hf]
   have f4 : (c.fn == 4) = false := by simp [hf]
   have f5 : (c.fn == 5) = true := by simpa using hf
   have HF := Lib.hid hf
   clear hf
   go_enter Tryz.func135, Tryz.ntmps135
   go_wp2_with fail
   refine (CE.out _ HB.out).mono ?_
   rintro e w1 ⟨la, lq, rfl, hrd, hB⟩
   have HB1 := Lib.hid (HB.out.later hB)
   have HRD := Lib.hid hrd
   clear x0 x1 x2 x3 y0 y1 z0 z1 z2 hrd hB
   have z0 := cell_at (o := 0) HB1.out.c rfl
   have z1 := cell_at (o := 1) HB1.out.c rfl
   have z2 := cell_at (o := 2) HB1.out.c rfl
   obtain ⟨b1, off1, m, xm, hlx, hm, rfl, c1⟩ := HRD.out.ats.num HLN.out.1
   obtain ⟨b2, off2, n, xn, hvx, hn, rfl, c2⟩ := (HV.out _ HB1.out.bel).ats.num HLN.out.2
   have HG : Hid (ncmpB c.fn l c.val = decide (n < m)) := by show ncmpB _ _ _ = _; rw [hlx, hvx, HF.out, ← hm, ← hn]; simp [ncmpB, cmpB]
   clear hlx hvx hm hn
   go_wp2_with fail
   go_ret
   exact ⟨ret_b (by rw [HE.out, HG.out]), HB1.out.bel⟩
  ·
   skip
   have f3 : (c.fn == 3) = false := by simp [hf]
   have f4 : (c.fn == 4) = false := by simp [hf]
   have f5 : (c.fn == 5) = false := by simp [hf]
   have HF := Lib.hid hf
   clear hf
   go_enter Tryz.func135, Tryz.ntmps135
   go_wp2_with fail
   refine (CE.out _ HB.out).mono ?_
   rintro e w1 ⟨la, lq, rfl, hrd, hB⟩
   have HB1 := Lib.hid (HB.out.later hB)
   have HRD := Lib.hid hrd
   clear x0 x1 x2 x3 y0 y1 z0 z1 z2 hrd hB
   have z0 := cell_at (o := 0) HB1.out.c rfl
   have z1 := cell_at (o := 1) HB1.out.c rfl
   have z2 := cell_at (o := 2) HB1.out.c rfl
   obtain ⟨b1, off1, m, xm, hlx, hm, rfl, c1⟩ := HRD.out.ats.num HLN.out.1
   obtain ⟨b2, off2, n, xn, hvx, hn, rfl, c2⟩ := (HV.out _ HB1.out.bel).ats.num HLN.out.2
   have HG : Hid (ncmpB c.fn l c.val = decide (n ≤ m)) := by show ncmpB _ _ _ = _; rw [hlx, hvx, HF.out, ← hm, ← hn]; simp [ncmpB, cmpB]
   clear hlx hvx hm hn
   go_wp2_with fail
   go_ret
   exact ⟨ret_b (by rw [HE.out, HG.out]), HB1.out.bel⟩
end Go.Proofs.YtlddhbamcndggaaGreatDoor
