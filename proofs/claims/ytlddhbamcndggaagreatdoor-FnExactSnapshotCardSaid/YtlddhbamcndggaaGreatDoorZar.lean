import Derived.Test.YtlddhbamcndggaaGreatDoorZaq
namespace Go.Proofs.YtlddhbamcndggaaGreatDoor
open Go.RowKit
set_option linter.unusedSimpArgs false
def idC : Cl := ⟨[95, 117, 117, 105, 100], 4, 0, 1, 0, 0, [], false⟩
noncomputable def askX (t : Tb) (s : List UInt8) : Cl := if placeC t.cols s < 0 then (if s = idN then idC else clZ) else t.cols.getD (placeC t.cols s).toNat clZ
noncomputable def askT (t : Tb) (s : List UInt8) : Bool := !(decide (placeC t.cols s < 0) && decide (s ≠ idN))
theorem ask_none {t : Tb} {s : List UInt8} (hp : placeC t.cols s = -1) (hn : s ≠ idN) : askX t s = clZ ∧ askT t s = false := by
 unfold askX askT; rw [hp]; exact ⟨by rw [if_pos (by omega), if_neg hn], by simp [hn]⟩
theorem ask_id {t : Tb} {s : List UInt8} (hp : placeC t.cols s = -1) (hn : s = idN) : askX t s = idC ∧ askT t s = true := by
 unfold askX askT; rw [hp]; exact ⟨by rw [if_pos (by omega), if_pos hn], by simp [hn]⟩
theorem ask_at {t : Tb} {s : List UInt8} {k : Nat} (hk : k < t.cols.length) (hp : placeC t.cols s = (k : Int)) : askX t s = t.cols[k] ∧ askT t s = true := by
 unfold askX askT; rw [hp]; exact ⟨by rw [if_neg (by omega), Int.toNat_natCast, List.getD_eq_getElem?_getD, List.getElem?_eq_getElem hk]; rfl, by rw [decide_eq_false (by omega)]; rfl⟩
theorem cond_ask (t : Tb) (c : CondV) : condC t c = if askT t c.col = true then condK (askX t c.col).k (askX t c.col).mx c else 11 := by
 rcases place_cases t.cols c.col with hp | ⟨k, hk, hp⟩
 ·
  by_cases hn : c.col = idN
  ·
   obtain ⟨h1, h2⟩ := ask_id hp hn
   rw [cond_id hp hn, h1, h2, if_pos rfl]; rfl
  ·
   obtain ⟨h1, h2⟩ := ask_none hp hn
   rw [cond_none hp hn, h2, if_neg (by simp)]
 ·
  obtain ⟨h1, h2⟩ := ask_at hk hp
  rw [cond_at hk hp, h1, h2, if_pos rfl]
theorem below8 {w W : World} (b : Nat) (h : Below w.heap.size w W) (hb : w.heap.size ≤ b) (v0 v1 v2 v3 v4 v5 v6 v7 : Value) : Below w.heap.size w ((((((((W.setCell ⟨b, 0, none⟩ v0).setCell ⟨b, 1, none⟩ v1).setCell ⟨b, 2, none⟩ v2).setCell ⟨b, 3, none⟩ v3).setCell ⟨b, 4, none⟩ v4).setCell ⟨b, 5, none⟩ v5).setCell ⟨b, 6, none⟩ v6).setCell ⟨b, 7, none⟩ v7) :=
 (((((((h.setCell hb _).setCell hb _).setCell hb _).setCell hb _).setCell hb _).setCell hb _).setCell hb _).setCell hb _
set_option maxRecDepth 100000 in
set_option maxHeartbeats 6400000 in
theorem askedI (t : Tb) (s : List UInt8) (ca : Option Addr) (cc : Nat) (ua : Option Addr) (uc : Nat) (B : Nat → Prop) (w : World) (ho : t.ok) (hT : t.Has w B ca ua) :
  Calls Tryz.prog 117 #[.agg #[.string ⟨t.nm.toArray⟩, .slice ca t.cols.length cc, .slice ua t.uq.length uc, .bool t.rt], .string ⟨s.toArray⟩] w fun e w' => e = .returned (.tuple #[.agg #[.string ⟨(askX t s).nm.toArray⟩, .int .i64 (askX t s).k, .int .i64 (askX t s).mn, .int .i64 (askX t s).mx, .int .i64 (askX t s).lo, .int .i64 (askX t s).hi, .string ⟨(askX t s).rf.toArray⟩, .bool (askX t s).st], .bool (askT t s)]) ∧ Below w.heap.size w w' := by
 have PL : Hid (∀ W, BoxE 75 107 w W #[.string ⟨t.nm.toArray⟩, .slice ca t.cols.length cc, .slice ua t.uq.length uc, .bool t.rt] #[.string ⟨#[]⟩, .int .i64 0, .int .i64 0, .int .i64 0, .int .i64 0, .int .i64 0, .string ⟨#[]⟩, .bool false] → Calls Tryz.prog 116 #[.agg #[.string ⟨t.nm.toArray⟩, .slice ca t.cols.length cc, .slice ua t.uq.length uc, .bool t.rt], .string ⟨s.toArray⟩] W fun e w' => e = .returned (.int .i64 (placeC t.cols s)) ∧ BoxE 75 107 w w' #[.string ⟨t.nm.toArray⟩, .slice ca t.cols.length cc, .slice ua t.uq.length uc, .bool t.rt] #[.string ⟨#[]⟩, .int .i64 0, .int .i64 0, .int .i64 0, .int .i64 0, .int .i64 0, .string ⟨#[]⟩, .bool false]) := fun W h => (placeI t s ca cc ua uc B W ho.2.1 (hT.later h.bel)).mono (fun e w' ⟨he, hB⟩ => ⟨he, h.later hB⟩)
 have CL : Hid (∀ W, Below w.heap.size w W → Cols W B ca t.cols) := fun W h => hT.1.later h
 have hb := boxE 75 107 w #[.string ⟨t.nm.toArray⟩, .slice ca t.cols.length cc, .slice ua t.uq.length uc, .bool t.rt] #[.string ⟨#[]⟩, .int .i64 0, .int .i64 0, .int .i64 0, .int .i64 0, .int .i64 0, .string ⟨#[]⟩, .bool false]
 have x0 := cell_at (o := 0) hb.a rfl
 have x1 := cell_at (o := 1) hb.a rfl
 have x2 := cell_at (o := 2) hb.a rfl
 have x3 := cell_at (o := 3) hb.a rfl
 have HB := Lib.hid hb
 have hcl := ho.2.1
 unfold maxLen at hcl
 clear ho hT hb
 rcases place_cases t.cols s with hp | ⟨k, hk, hp⟩
 ·
  by_cases hn : s = idN
  case neg =>
   have HE := Lib.hid (ask_none hp hn)
   have hn1 : (s == [95, 117, 117, 105, 100]) = false := by simpa [idN] using hn
   rw [hp] at PL
   clear hp hn
   go_enter Tryz.func117, Tryz.ntmps117
   go_wp2_with fail
   refine (PL.out _ HB.out).mono ?_
   rintro e w1 ⟨rfl, hb⟩
   clear x0 x1 x2 x3
   have x1 := cell_at (o := 1) hb.a rfl
   have r0 := cell_at (o := 0) hb.b rfl
   have g0 := frozen_at 0 hb.b
   have r1 := cell_at (o := 1) hb.b rfl
   have g1 := frozen_at 1 hb.b
   have r2 := cell_at (o := 2) hb.b rfl
   have g2 := frozen_at 2 hb.b
   have r3 := cell_at (o := 3) hb.b rfl
   have g3 := frozen_at 3 hb.b
   have r4 := cell_at (o := 4) hb.b rfl
   have g4 := frozen_at 4 hb.b
   have r5 := cell_at (o := 5) hb.b rfl
   have g5 := frozen_at 5 hb.b
   have r6 := cell_at (o := 6) hb.b rfl
   have g6 := frozen_at 6 hb.b
   have r7 := cell_at (o := 7) hb.b rfl
   have g7 := frozen_at 7 hb.b
   have HB1 := Lib.hid hb.bel
   clear hb
   go_wp2_with fail
   refine bodyPost_ret (v := .tuple #[.agg #[.string ⟨clZ.nm.toArray⟩, .int .i64 clZ.k, .int .i64 clZ.mn, .int .i64 clZ.mx, .int .i64 clZ.lo, .int .i64 clZ.hi, .string ⟨clZ.rf.toArray⟩, .bool clZ.st], .bool false]) (by simp [results, Tryz.results117, go_sem, idC, clZ, *]) rfl ?_
   exact ⟨by rw [HE.out.1, HE.out.2], below8 _ HB1.out (by omega) _ _ _ _ _ _ _ _⟩
  have HE := Lib.hid (ask_id hp hn)
  have hn1 : (s == [95, 117, 117, 105, 100]) = true := by simpa [idN] using hn
  rw [hp] at PL
  clear hp hn
  go_enter Tryz.func117, Tryz.ntmps117
  go_wp2_with fail
  refine (PL.out _ HB.out).mono ?_
  rintro e w1 ⟨rfl, hb⟩
  clear x0 x1 x2 x3
  have x1 := cell_at (o := 1) hb.a rfl
  have r0 := cell_at (o := 0) hb.b rfl
  have g0 := frozen_at 0 hb.b
  have r1 := cell_at (o := 1) hb.b rfl
  have g1 := frozen_at 1 hb.b
  have r2 := cell_at (o := 2) hb.b rfl
  have g2 := frozen_at 2 hb.b
  have r3 := cell_at (o := 3) hb.b rfl
  have g3 := frozen_at 3 hb.b
  have r4 := cell_at (o := 4) hb.b rfl
  have g4 := frozen_at 4 hb.b
  have r5 := cell_at (o := 5) hb.b rfl
  have g5 := frozen_at 5 hb.b
  have r6 := cell_at (o := 6) hb.b rfl
  have g6 := frozen_at 6 hb.b
  have r7 := cell_at (o := 7) hb.b rfl
  have g7 := frozen_at 7 hb.b
  have HB1 := Lib.hid hb.bel
  clear hb
  go_wp2_with fail
  refine bodyPost_ret (v := .tuple #[.agg #[.string ⟨idC.nm.toArray⟩, .int .i64 idC.k, .int .i64 idC.mn, .int .i64 idC.mx, .int .i64 idC.lo, .int .i64 idC.hi, .string ⟨idC.rf.toArray⟩, .bool idC.st], .bool true]) (by simp [results, Tryz.results117, go_sem, idC, clZ, *]) rfl ?_
  exact ⟨by rw [HE.out.1, HE.out.2], below8 _ HB1.out (by omega) _ _ _ _ _ _ _ _⟩
 ·
  have HE := Lib.hid (ask_at hk hp)
  have hk1 : (k : Int) < (t.cols.length : Int) := by omega
  have hk0 : decide ((0 : Int) ≤ (k : Int)) = true := decide_eq_true (by omega)
  obtain ⟨b1, off1, rfl, -, -⟩ := (CL.out _ (Below.refl _ _)).at k hk
  rw [hp] at PL
  clear hp
  go_enter Tryz.func117, Tryz.ntmps117
  go_wp2_with fail
  refine (PL.out _ HB.out).mono ?_
  rintro e w1 ⟨rfl, hb⟩
  clear x0 x1 x2 x3
  have x1 := cell_at (o := 1) hb.a rfl
  have r0 := cell_at (o := 0) hb.b rfl
  have g0 := frozen_at 0 hb.b
  have r1 := cell_at (o := 1) hb.b rfl
  have g1 := frozen_at 1 hb.b
  have r2 := cell_at (o := 2) hb.b rfl
  have g2 := frozen_at 2 hb.b
  have r3 := cell_at (o := 3) hb.b rfl
  have g3 := frozen_at 3 hb.b
  have r4 := cell_at (o := 4) hb.b rfl
  have g4 := frozen_at 4 hb.b
  have r5 := cell_at (o := 5) hb.b rfl
  have g5 := frozen_at 5 hb.b
  have r6 := cell_at (o := 6) hb.b rfl
  have g6 := frozen_at 6 hb.b
  have r7 := cell_at (o := 7) hb.b rfl
  have g7 := frozen_at 7 hb.b
  obtain ⟨b2, off2, e2, -, hc2⟩ := (CL.out _ hb.bel).at k hk
  simp only [Option.some.injEq, Addr.mk.injEq, and_true] at e2
  obtain ⟨rfl, rfl⟩ := e2
  obtain ⟨c0, c1, c2, c3, c4, c5, c6, c7⟩ := hc2 k hk
  clear hc2
  have HB1 := Lib.hid hb.bel
  clear hb
  generalize t.cols[k] = x at *
  go_wp2_with fail
  refine bodyPost_ret (v := .tuple #[.agg #[.string ⟨x.nm.toArray⟩, .int .i64 x.k, .int .i64 x.mn, .int .i64 x.mx, .int .i64 x.lo, .int .i64 x.hi, .string ⟨x.rf.toArray⟩, .bool x.st], .bool true]) (by simp [results, Tryz.results117, go_sem, idC, clZ, *]) rfl ?_
  exact ⟨by rw [HE.out.1, HE.out.2], below8 _ HB1.out (by omega) _ _ _ _ _ _ _ _⟩
set_option maxRecDepth 100000 in
set_option maxHeartbeats 6400000 in
theorem condCodeI (t : Tb) (c : CondV) (ca : Option Addr) (cc : Nat) (ua : Option Addr) (uc : Nat) (va : Option Addr) (vc : Nat) (B : Nat → Prop) (S : Nat) (w : World) (ho : t.ok) (hl : c.val.length ≤ maxLen) (hT : t.Has w B ca ua) (hw : S ≤ w.heap.size) (hA : Ats w (· < S) va c.val) :
  Calls Tryz.prog 78 #[.agg #[.string ⟨t.nm.toArray⟩, .slice ca t.cols.length cc, .slice ua t.uq.length uc, .bool t.rt], .agg #[.string ⟨c.col.toArray⟩, .int .i64 c.fn, .slice va c.val.length vc]] w fun e w' => e = .returned (.int .i64 (condC t c)) ∧ Below w.heap.size w w' := by
 have AC : Hid (∀ W, BoxE 75 119 w W #[.string ⟨t.nm.toArray⟩, .slice ca t.cols.length cc, .slice ua t.uq.length uc, .bool t.rt] #[.string ⟨c.col.toArray⟩, .int .i64 c.fn, .slice va c.val.length vc] → Calls Tryz.prog 117 #[.agg #[.string ⟨t.nm.toArray⟩, .slice ca t.cols.length cc, .slice ua t.uq.length uc, .bool t.rt], .string ⟨c.col.toArray⟩] W fun e w' => e = .returned (.tuple #[.agg #[.string ⟨(askX t c.col).nm.toArray⟩, .int .i64 (askX t c.col).k, .int .i64 (askX t c.col).mn, .int .i64 (askX t c.col).mx, .int .i64 (askX t c.col).lo, .int .i64 (askX t c.col).hi, .string ⟨(askX t c.col).rf.toArray⟩, .bool (askX t c.col).st], .bool (askT t c.col)]) ∧ BoxE 75 119 w w' #[.string ⟨t.nm.toArray⟩, .slice ca t.cols.length cc, .slice ua t.uq.length uc, .bool t.rt] #[.string ⟨c.col.toArray⟩, .int .i64 c.fn, .slice va c.val.length vc]) := fun W h => (askedI t c.col ca cc ua uc B W ho (hT.later h.bel)).mono (fun e w' ⟨he, hB⟩ => ⟨he, h.later hB⟩)
 have HH := Lib.hid hA.head
 have HW := Lib.hid hw
 have hb := boxE 75 119 w #[.string ⟨t.nm.toArray⟩, .slice ca t.cols.length cc, .slice ua t.uq.length uc, .bool t.rt] #[.string ⟨c.col.toArray⟩, .int .i64 c.fn, .slice va c.val.length vc]
 have x0 := cell_at (o := 0) hb.a rfl
 have x1 := cell_at (o := 1) hb.a rfl
 have x2 := cell_at (o := 2) hb.a rfl
 have x3 := cell_at (o := 3) hb.a rfl
 have y0 := cell_at (o := 0) hb.b rfl
 have y1 := cell_at (o := 1) hb.b rfl
 have y2 := cell_at (o := 2) hb.b rfl
 have HB := Lib.hid hb
 have OR := Lib.hid (fun W => orderI c va vc W)
 have HE := Lib.hid (cond_ask t c)
 unfold maxLen at hl
 clear ho hT hw hA hb
 generalize askX t c.col = x at *
 cases ht : askT t c.col
 case false =>
  have HC : Hid (condC t c = 11) := by show condC t c = 11; rw [HE.out, ht, if_neg (by simp)]
  rw [ht] at AC
  clear ht HE HH OR
  go_enter Tryz.func78, Tryz.ntmps78
  go_wp2_with fail
  refine (AC.out _ HB.out).mono ?_
  rintro e w1 ⟨rfl, hb⟩
  clear x0 x1 x2 x3 y0 y1 y2
  have hb2 := hb.later (below_allocD w1 (.cells #[.string ⟨x.nm.toArray⟩, .int .i64 x.k, .int .i64 x.mn, .int .i64 x.mx, .int .i64 x.lo, .int .i64 x.hi, .string ⟨x.rf.toArray⟩, .bool x.st] 107))
  have y0 := cell_at (o := 0) hb2.b rfl
  have y1 := cell_at (o := 1) hb2.b rfl
  have y2 := cell_at (o := 2) hb2.b rfl
  have z1 := cell_at (o := 1) (heap_newD w1 (.cells #[.string ⟨x.nm.toArray⟩, .int .i64 x.k, .int .i64 x.mn, .int .i64 x.mx, .int .i64 x.lo, .int .i64 x.hi, .string ⟨x.rf.toArray⟩, .bool x.st] 107)) rfl
  have z3 := cell_at (o := 3) (heap_newD w1 (.cells #[.string ⟨x.nm.toArray⟩, .int .i64 x.k, .int .i64 x.mn, .int .i64 x.mx, .int .i64 x.lo, .int .i64 x.hi, .string ⟨x.rf.toArray⟩, .bool x.st] 107)) rfl
  have HB1 := Lib.hid hb2
  clear hb hb2
  go_wp2_with fail
  go_ret
  exact ⟨ret_i HC.out.symm, HB1.out.bel⟩
 have HE2 : Hid (condC t c = condK x.k x.mx c) := by show condC t c = _; rw [HE.out, ht, if_pos rfl]
 rw [ht] at AC
 clear ht HE
 rcases HH.out with h0 | ⟨b, off, q, h0, rfl, hkn, hf⟩
 ·
  have hd : decide (0 < c.val.length) = false := decide_eq_false (by omega)
  have H0 := Lib.hid h0
  clear h0
  have HK := Lib.hid (kindNo_nil (kd := x.k) H0.out)
  cases hF : inB 3 c.fn 6
  case false =>
   have HC : Hid (condC t c = 0) := HE2.out.trans (condK_ok HK.out hF)
   rw [hF] at OR
   clear hF HE2
   go_enter Tryz.func78, Tryz.ntmps78
   go_wp2_with fail
   refine (AC.out _ HB.out).mono ?_
   rintro e w1 ⟨rfl, hb⟩
   clear x0 x1 x2 x3 y0 y1 y2
   have hb2 := hb.later (below_allocD w1 (.cells #[.string ⟨x.nm.toArray⟩, .int .i64 x.k, .int .i64 x.mn, .int .i64 x.mx, .int .i64 x.lo, .int .i64 x.hi, .string ⟨x.rf.toArray⟩, .bool x.st] 107))
   have y0 := cell_at (o := 0) hb2.b rfl
   have y1 := cell_at (o := 1) hb2.b rfl
   have y2 := cell_at (o := 2) hb2.b rfl
   have z1 := cell_at (o := 1) (heap_newD w1 (.cells #[.string ⟨x.nm.toArray⟩, .int .i64 x.k, .int .i64 x.mn, .int .i64 x.mx, .int .i64 x.lo, .int .i64 x.hi, .string ⟨x.rf.toArray⟩, .bool x.st] 107)) rfl
   have z3 := cell_at (o := 3) (heap_newD w1 (.cells #[.string ⟨x.nm.toArray⟩, .int .i64 x.k, .int .i64 x.mn, .int .i64 x.mx, .int .i64 x.lo, .int .i64 x.hi, .string ⟨x.rf.toArray⟩, .bool x.st] 107)) rfl
   have HB1 := Lib.hid hb2
   clear hb hb2
   go_wp2_with fail
   go_quiet (fail)
   go_wp2_with fail
   refine (OR.out _).mono ?_
   rintro e w3 ⟨rfl, hB⟩
   have hB3 : Below (w1.alloc (.cells #[.string ⟨x.nm.toArray⟩, .int .i64 x.k, .int .i64 x.mn, .int .i64 x.mx, .int .i64 x.lo, .int .i64 x.hi, .string ⟨x.rf.toArray⟩, .bool x.st] 107)).heap.size (w1.alloc (.cells #[.string ⟨x.nm.toArray⟩, .int .i64 x.k, .int .i64 x.mn, .int .i64 x.mx, .int .i64 x.lo, .int .i64 x.hi, .string ⟨x.rf.toArray⟩, .bool x.st] 107)) w3 := by first | exact hB | exact (Below.refl _ _).drew.trans hB | exact (below_drewN (Below.refl _ _) _).trans hB
   have hb3 := HB1.out.later hB3
   clear y0 y1 y2 z1 z3
   have y2 := cell_at (o := 2) hb3.b rfl
   have z1 := cell_at (o := 1) (heap_keptD (heap_newD w1 (.cells #[.string ⟨x.nm.toArray⟩, .int .i64 x.k, .int .i64 x.mn, .int .i64 x.mx, .int .i64 x.lo, .int .i64 x.hi, .string ⟨x.rf.toArray⟩, .bool x.st] 107)) hB3) rfl
   have z3 := cell_at (o := 3) (heap_keptD (heap_newD w1 (.cells #[.string ⟨x.nm.toArray⟩, .int .i64 x.k, .int .i64 x.mn, .int .i64 x.mx, .int .i64 x.lo, .int .i64 x.hi, .string ⟨x.rf.toArray⟩, .bool x.st] 107)) hB3) rfl
   have HB3 := Lib.hid hb3.bel
   clear hB hB3 hb3
   go_wp2_with fail
   go_ret
   exact ⟨ret_i HC.out.symm, HB3.out⟩
  by_cases h1 : x.k = 1
  case neg =>
   have HC : Hid (condC t c = 9) := HE2.out.trans (condK_no HK.out hF (.inl h1))
   have g1 : (x.k != 1) = true := by simpa using h1
   clear h1
   rw [hF] at OR
   clear hF HE2
   go_enter Tryz.func78, Tryz.ntmps78
   go_wp2_with fail
   refine (AC.out _ HB.out).mono ?_
   rintro e w1 ⟨rfl, hb⟩
   clear x0 x1 x2 x3 y0 y1 y2
   have hb2 := hb.later (below_allocD w1 (.cells #[.string ⟨x.nm.toArray⟩, .int .i64 x.k, .int .i64 x.mn, .int .i64 x.mx, .int .i64 x.lo, .int .i64 x.hi, .string ⟨x.rf.toArray⟩, .bool x.st] 107))
   have y0 := cell_at (o := 0) hb2.b rfl
   have y1 := cell_at (o := 1) hb2.b rfl
   have y2 := cell_at (o := 2) hb2.b rfl
   have z1 := cell_at (o := 1) (heap_newD w1 (.cells #[.string ⟨x.nm.toArray⟩, .int .i64 x.k, .int .i64 x.mn, .int .i64 x.mx, .int .i64 x.lo, .int .i64 x.hi, .string ⟨x.rf.toArray⟩, .bool x.st] 107)) rfl
   have z3 := cell_at (o := 3) (heap_newD w1 (.cells #[.string ⟨x.nm.toArray⟩, .int .i64 x.k, .int .i64 x.mn, .int .i64 x.mx, .int .i64 x.lo, .int .i64 x.hi, .string ⟨x.rf.toArray⟩, .bool x.st] 107)) rfl
   have HB1 := Lib.hid hb2
   clear hb hb2
   go_wp2_with fail
   go_quiet (fail)
   go_wp2_with fail
   refine (OR.out _).mono ?_
   rintro e w3 ⟨rfl, hB⟩
   have hB3 : Below (w1.alloc (.cells #[.string ⟨x.nm.toArray⟩, .int .i64 x.k, .int .i64 x.mn, .int .i64 x.mx, .int .i64 x.lo, .int .i64 x.hi, .string ⟨x.rf.toArray⟩, .bool x.st] 107)).heap.size (w1.alloc (.cells #[.string ⟨x.nm.toArray⟩, .int .i64 x.k, .int .i64 x.mn, .int .i64 x.mx, .int .i64 x.lo, .int .i64 x.hi, .string ⟨x.rf.toArray⟩, .bool x.st] 107)) w3 := by first | exact hB | exact (Below.refl _ _).drew.trans hB | exact (below_drewN (Below.refl _ _) _).trans hB
   have hb3 := HB1.out.later hB3
   clear y0 y1 y2 z1 z3
   have y2 := cell_at (o := 2) hb3.b rfl
   have z1 := cell_at (o := 1) (heap_keptD (heap_newD w1 (.cells #[.string ⟨x.nm.toArray⟩, .int .i64 x.k, .int .i64 x.mn, .int .i64 x.mx, .int .i64 x.lo, .int .i64 x.hi, .string ⟨x.rf.toArray⟩, .bool x.st] 107)) hB3) rfl
   have z3 := cell_at (o := 3) (heap_keptD (heap_newD w1 (.cells #[.string ⟨x.nm.toArray⟩, .int .i64 x.k, .int .i64 x.mn, .int .i64 x.mx, .int .i64 x.lo, .int .i64 x.hi, .string ⟨x.rf.toArray⟩, .bool x.st] 107)) hB3) rfl
   have HB3 := Lib.hid hb3.bel
   clear hB hB3 hb3
   go_wp2_with fail
   go_ret
   exact ⟨ret_i HC.out.symm, HB3.out⟩
  have g1 : (x.k != 1) = false := by simpa using h1
  by_cases h2 : x.mx = 1
  case neg =>
   have HC : Hid (condC t c = 9) := HE2.out.trans (condK_no HK.out hF (.inr (.inl h2)))
   have g2 : (x.mx != 1) = true := by simpa using h2
   clear h1 h2
   rw [hF] at OR
   clear hF HE2
   go_enter Tryz.func78, Tryz.ntmps78
   go_wp2_with fail
   refine (AC.out _ HB.out).mono ?_
   rintro e w1 ⟨rfl, hb⟩
   clear x0 x1 x2 x3 y0 y1 y2
   have hb2 := hb.later (below_allocD w1 (.cells #[.string ⟨x.nm.toArray⟩, .int .i64 x.k, .int .i64 x.mn, .int .i64 x.mx, .int .i64 x.lo, .int .i64 x.hi, .string ⟨x.rf.toArray⟩, .bool x.st] 107))
   have y0 := cell_at (o := 0) hb2.b rfl
   have y1 := cell_at (o := 1) hb2.b rfl
   have y2 := cell_at (o := 2) hb2.b rfl
   have z1 := cell_at (o := 1) (heap_newD w1 (.cells #[.string ⟨x.nm.toArray⟩, .int .i64 x.k, .int .i64 x.mn, .int .i64 x.mx, .int .i64 x.lo, .int .i64 x.hi, .string ⟨x.rf.toArray⟩, .bool x.st] 107)) rfl
   have z3 := cell_at (o := 3) (heap_newD w1 (.cells #[.string ⟨x.nm.toArray⟩, .int .i64 x.k, .int .i64 x.mn, .int .i64 x.mx, .int .i64 x.lo, .int .i64 x.hi, .string ⟨x.rf.toArray⟩, .bool x.st] 107)) rfl
   have HB1 := Lib.hid hb2
   clear hb hb2
   go_wp2_with fail
   go_quiet (fail)
   go_wp2_with fail
   refine (OR.out _).mono ?_
   rintro e w3 ⟨rfl, hB⟩
   have hB3 : Below (w1.alloc (.cells #[.string ⟨x.nm.toArray⟩, .int .i64 x.k, .int .i64 x.mn, .int .i64 x.mx, .int .i64 x.lo, .int .i64 x.hi, .string ⟨x.rf.toArray⟩, .bool x.st] 107)).heap.size (w1.alloc (.cells #[.string ⟨x.nm.toArray⟩, .int .i64 x.k, .int .i64 x.mn, .int .i64 x.mx, .int .i64 x.lo, .int .i64 x.hi, .string ⟨x.rf.toArray⟩, .bool x.st] 107)) w3 := by first | exact hB | exact (Below.refl _ _).drew.trans hB | exact (below_drewN (Below.refl _ _) _).trans hB
   have hb3 := HB1.out.later hB3
   clear y0 y1 y2 z1 z3
   have y2 := cell_at (o := 2) hb3.b rfl
   have z1 := cell_at (o := 1) (heap_keptD (heap_newD w1 (.cells #[.string ⟨x.nm.toArray⟩, .int .i64 x.k, .int .i64 x.mn, .int .i64 x.mx, .int .i64 x.lo, .int .i64 x.hi, .string ⟨x.rf.toArray⟩, .bool x.st] 107)) hB3) rfl
   have z3 := cell_at (o := 3) (heap_keptD (heap_newD w1 (.cells #[.string ⟨x.nm.toArray⟩, .int .i64 x.k, .int .i64 x.mn, .int .i64 x.mx, .int .i64 x.lo, .int .i64 x.hi, .string ⟨x.rf.toArray⟩, .bool x.st] 107)) hB3) rfl
   have HB3 := Lib.hid hb3.bel
   clear hB hB3 hb3
   go_wp2_with fail
   go_ret
   exact ⟨ret_i HC.out.symm, HB3.out⟩
  have g2 : (x.mx != 1) = false := by simpa using h2
  have h3 : ¬ c.val.length = 1 := by have := H0.out; omega
  have HC : Hid (condC t c = 9) := HE2.out.trans (condK_no HK.out hF (.inr (.inr h3)))
  have g3 : ((c.val.length : Int) != 1) = true := by simpa [bne_iff_ne] using (by omega : ¬ (c.val.length : Int) = 1)
  clear h1 h2 h3
  rw [hF] at OR
  clear hF HE2
  go_enter Tryz.func78, Tryz.ntmps78
  go_wp2_with fail
  refine (AC.out _ HB.out).mono ?_
  rintro e w1 ⟨rfl, hb⟩
  clear x0 x1 x2 x3 y0 y1 y2
  have hb2 := hb.later (below_allocD w1 (.cells #[.string ⟨x.nm.toArray⟩, .int .i64 x.k, .int .i64 x.mn, .int .i64 x.mx, .int .i64 x.lo, .int .i64 x.hi, .string ⟨x.rf.toArray⟩, .bool x.st] 107))
  have y0 := cell_at (o := 0) hb2.b rfl
  have y1 := cell_at (o := 1) hb2.b rfl
  have y2 := cell_at (o := 2) hb2.b rfl
  have z1 := cell_at (o := 1) (heap_newD w1 (.cells #[.string ⟨x.nm.toArray⟩, .int .i64 x.k, .int .i64 x.mn, .int .i64 x.mx, .int .i64 x.lo, .int .i64 x.hi, .string ⟨x.rf.toArray⟩, .bool x.st] 107)) rfl
  have z3 := cell_at (o := 3) (heap_newD w1 (.cells #[.string ⟨x.nm.toArray⟩, .int .i64 x.k, .int .i64 x.mn, .int .i64 x.mx, .int .i64 x.lo, .int .i64 x.hi, .string ⟨x.rf.toArray⟩, .bool x.st] 107)) rfl
  have HB1 := Lib.hid hb2
  clear hb hb2
  go_wp2_with fail
  go_quiet (fail)
  go_wp2_with fail
  refine (OR.out _).mono ?_
  rintro e w3 ⟨rfl, hB⟩
  have hB3 : Below (w1.alloc (.cells #[.string ⟨x.nm.toArray⟩, .int .i64 x.k, .int .i64 x.mn, .int .i64 x.mx, .int .i64 x.lo, .int .i64 x.hi, .string ⟨x.rf.toArray⟩, .bool x.st] 107)).heap.size (w1.alloc (.cells #[.string ⟨x.nm.toArray⟩, .int .i64 x.k, .int .i64 x.mn, .int .i64 x.mx, .int .i64 x.lo, .int .i64 x.hi, .string ⟨x.rf.toArray⟩, .bool x.st] 107)) w3 := by first | exact hB | exact (Below.refl _ _).drew.trans hB | exact (below_drewN (Below.refl _ _) _).trans hB
  have hb3 := HB1.out.later hB3
  clear y0 y1 y2 z1 z3
  have y2 := cell_at (o := 2) hb3.b rfl
  have z1 := cell_at (o := 1) (heap_keptD (heap_newD w1 (.cells #[.string ⟨x.nm.toArray⟩, .int .i64 x.k, .int .i64 x.mn, .int .i64 x.mx, .int .i64 x.lo, .int .i64 x.hi, .string ⟨x.rf.toArray⟩, .bool x.st] 107)) hB3) rfl
  have z3 := cell_at (o := 3) (heap_keptD (heap_newD w1 (.cells #[.string ⟨x.nm.toArray⟩, .int .i64 x.k, .int .i64 x.mn, .int .i64 x.mx, .int .i64 x.lo, .int .i64 x.hi, .string ⟨x.rf.toArray⟩, .bool x.st] 107)) hB3) rfl
  have HB3 := Lib.hid hb3.bel
  clear hB hB3 hb3
  go_wp2_with fail
  go_ret
  exact ⟨ret_i HC.out.symm, HB3.out⟩
 ·
  have HF := Lib.hid hf
  have hd : decide (0 < c.val.length) = true := decide_eq_true (by omega)
  have hd0 : (0 : Int) < (c.val.length : Int) := by omega
  have hkn1 := hkn x.k
  clear hf hkn
  cases hq : (q != x.k)
  case true =>
   have HC : Hid (condC t c = 9) := HE2.out.trans (condK_kind (by rw [hkn1, hq]))
   clear HE2 hkn1 OR
   go_enter Tryz.func78, Tryz.ntmps78
   go_wp2_with fail
   refine (AC.out _ HB.out).mono ?_
   rintro e w1 ⟨rfl, hb⟩
   clear x0 x1 x2 x3 y0 y1 y2
   have hb2 := hb.later (below_allocD w1 (.cells #[.string ⟨x.nm.toArray⟩, .int .i64 x.k, .int .i64 x.mn, .int .i64 x.mx, .int .i64 x.lo, .int .i64 x.hi, .string ⟨x.rf.toArray⟩, .bool x.st] 107))
   have y0 := cell_at (o := 0) hb2.b rfl
   have y1 := cell_at (o := 1) hb2.b rfl
   have y2 := cell_at (o := 2) hb2.b rfl
   have z1 := cell_at (o := 1) (heap_newD w1 (.cells #[.string ⟨x.nm.toArray⟩, .int .i64 x.k, .int .i64 x.mn, .int .i64 x.mx, .int .i64 x.lo, .int .i64 x.hi, .string ⟨x.rf.toArray⟩, .bool x.st] 107)) rfl
   have z3 := cell_at (o := 3) (heap_newD w1 (.cells #[.string ⟨x.nm.toArray⟩, .int .i64 x.k, .int .i64 x.mn, .int .i64 x.mx, .int .i64 x.lo, .int .i64 x.hi, .string ⟨x.rf.toArray⟩, .bool x.st] 107)) rfl
   have f0 := HF.out _ (hb2.bel.mono HW.out)
   have HB1 := Lib.hid hb2
   clear hb hb2
   go_wp2_with fail
   go_quiet (fail)
   go_wp2_with fail
   go_ret
   exact ⟨ret_i HC.out.symm, by first | exact HB1.out.bel | exact HB1.out.bel.drew | exact below_drewN HB1.out.bel _⟩
  have HK := Lib.hid (hkn1.trans hq)
  cases hF : inB 3 c.fn 6
  case false =>
   have HC : Hid (condC t c = 0) := HE2.out.trans (condK_ok HK.out hF)
   rw [hF] at OR
   clear hF HE2
   go_enter Tryz.func78, Tryz.ntmps78
   go_wp2_with fail
   refine (AC.out _ HB.out).mono ?_
   rintro e w1 ⟨rfl, hb⟩
   clear x0 x1 x2 x3 y0 y1 y2
   have hb2 := hb.later (below_allocD w1 (.cells #[.string ⟨x.nm.toArray⟩, .int .i64 x.k, .int .i64 x.mn, .int .i64 x.mx, .int .i64 x.lo, .int .i64 x.hi, .string ⟨x.rf.toArray⟩, .bool x.st] 107))
   have y0 := cell_at (o := 0) hb2.b rfl
   have y1 := cell_at (o := 1) hb2.b rfl
   have y2 := cell_at (o := 2) hb2.b rfl
   have z1 := cell_at (o := 1) (heap_newD w1 (.cells #[.string ⟨x.nm.toArray⟩, .int .i64 x.k, .int .i64 x.mn, .int .i64 x.mx, .int .i64 x.lo, .int .i64 x.hi, .string ⟨x.rf.toArray⟩, .bool x.st] 107)) rfl
   have z3 := cell_at (o := 3) (heap_newD w1 (.cells #[.string ⟨x.nm.toArray⟩, .int .i64 x.k, .int .i64 x.mn, .int .i64 x.mx, .int .i64 x.lo, .int .i64 x.hi, .string ⟨x.rf.toArray⟩, .bool x.st] 107)) rfl
   have f0 := HF.out _ (hb2.bel.mono HW.out)
   have HB1 := Lib.hid hb2
   clear hb hb2
   go_wp2_with fail
   go_quiet (fail)
   go_wp2_with fail
   refine (OR.out _).mono ?_
   rintro e w3 ⟨rfl, hB⟩
   have hB3 : Below (w1.alloc (.cells #[.string ⟨x.nm.toArray⟩, .int .i64 x.k, .int .i64 x.mn, .int .i64 x.mx, .int .i64 x.lo, .int .i64 x.hi, .string ⟨x.rf.toArray⟩, .bool x.st] 107)).heap.size (w1.alloc (.cells #[.string ⟨x.nm.toArray⟩, .int .i64 x.k, .int .i64 x.mn, .int .i64 x.mx, .int .i64 x.lo, .int .i64 x.hi, .string ⟨x.rf.toArray⟩, .bool x.st] 107)) w3 := by first | exact hB | exact (Below.refl _ _).drew.trans hB | exact (below_drewN (Below.refl _ _) _).trans hB
   have hb3 := HB1.out.later hB3
   clear y0 y1 y2 z1 z3 f0
   have y2 := cell_at (o := 2) hb3.b rfl
   have z1 := cell_at (o := 1) (heap_keptD (heap_newD w1 (.cells #[.string ⟨x.nm.toArray⟩, .int .i64 x.k, .int .i64 x.mn, .int .i64 x.mx, .int .i64 x.lo, .int .i64 x.hi, .string ⟨x.rf.toArray⟩, .bool x.st] 107)) hB3) rfl
   have z3 := cell_at (o := 3) (heap_keptD (heap_newD w1 (.cells #[.string ⟨x.nm.toArray⟩, .int .i64 x.k, .int .i64 x.mn, .int .i64 x.mx, .int .i64 x.lo, .int .i64 x.hi, .string ⟨x.rf.toArray⟩, .bool x.st] 107)) hB3) rfl
   have HB3 := Lib.hid hb3.bel
   clear hB hB3 hb3
   go_wp2_with fail
   go_ret
   exact ⟨ret_i HC.out.symm, HB3.out⟩
  by_cases h1 : x.k = 1
  case neg =>
   have HC : Hid (condC t c = 9) := HE2.out.trans (condK_no HK.out hF (.inl h1))
   have g1 : (x.k != 1) = true := by simpa using h1
   clear h1
   rw [hF] at OR
   clear hF HE2
   go_enter Tryz.func78, Tryz.ntmps78
   go_wp2_with fail
   refine (AC.out _ HB.out).mono ?_
   rintro e w1 ⟨rfl, hb⟩
   clear x0 x1 x2 x3 y0 y1 y2
   have hb2 := hb.later (below_allocD w1 (.cells #[.string ⟨x.nm.toArray⟩, .int .i64 x.k, .int .i64 x.mn, .int .i64 x.mx, .int .i64 x.lo, .int .i64 x.hi, .string ⟨x.rf.toArray⟩, .bool x.st] 107))
   have y0 := cell_at (o := 0) hb2.b rfl
   have y1 := cell_at (o := 1) hb2.b rfl
   have y2 := cell_at (o := 2) hb2.b rfl
   have z1 := cell_at (o := 1) (heap_newD w1 (.cells #[.string ⟨x.nm.toArray⟩, .int .i64 x.k, .int .i64 x.mn, .int .i64 x.mx, .int .i64 x.lo, .int .i64 x.hi, .string ⟨x.rf.toArray⟩, .bool x.st] 107)) rfl
   have z3 := cell_at (o := 3) (heap_newD w1 (.cells #[.string ⟨x.nm.toArray⟩, .int .i64 x.k, .int .i64 x.mn, .int .i64 x.mx, .int .i64 x.lo, .int .i64 x.hi, .string ⟨x.rf.toArray⟩, .bool x.st] 107)) rfl
   have f0 := HF.out _ (hb2.bel.mono HW.out)
   have HB1 := Lib.hid hb2
   clear hb hb2
   go_wp2_with fail
   go_quiet (fail)
   go_wp2_with fail
   refine (OR.out _).mono ?_
   rintro e w3 ⟨rfl, hB⟩
   have hB3 : Below (w1.alloc (.cells #[.string ⟨x.nm.toArray⟩, .int .i64 x.k, .int .i64 x.mn, .int .i64 x.mx, .int .i64 x.lo, .int .i64 x.hi, .string ⟨x.rf.toArray⟩, .bool x.st] 107)).heap.size (w1.alloc (.cells #[.string ⟨x.nm.toArray⟩, .int .i64 x.k, .int .i64 x.mn, .int .i64 x.mx, .int .i64 x.lo, .int .i64 x.hi, .string ⟨x.rf.toArray⟩, .bool x.st] 107)) w3 := by first | exact hB | exact (Below.refl _ _).drew.trans hB | exact (below_drewN (Below.refl _ _) _).trans hB
   have hb3 := HB1.out.later hB3
   clear y0 y1 y2 z1 z3 f0
   have y2 := cell_at (o := 2) hb3.b rfl
   have z1 := cell_at (o := 1) (heap_keptD (heap_newD w1 (.cells #[.string ⟨x.nm.toArray⟩, .int .i64 x.k, .int .i64 x.mn, .int .i64 x.mx, .int .i64 x.lo, .int .i64 x.hi, .string ⟨x.rf.toArray⟩, .bool x.st] 107)) hB3) rfl
   have z3 := cell_at (o := 3) (heap_keptD (heap_newD w1 (.cells #[.string ⟨x.nm.toArray⟩, .int .i64 x.k, .int .i64 x.mn, .int .i64 x.mx, .int .i64 x.lo, .int .i64 x.hi, .string ⟨x.rf.toArray⟩, .bool x.st] 107)) hB3) rfl
   have HB3 := Lib.hid hb3.bel
   clear hB hB3 hb3
   go_wp2_with fail
   go_ret
   exact ⟨ret_i HC.out.symm, HB3.out⟩
  have g1 : (x.k != 1) = false := by simpa using h1
  by_cases h2 : x.mx = 1
  case neg =>
   have HC : Hid (condC t c = 9) := HE2.out.trans (condK_no HK.out hF (.inr (.inl h2)))
   have g2 : (x.mx != 1) = true := by simpa using h2
   clear h1 h2
   rw [hF] at OR
   clear hF HE2
   go_enter Tryz.func78, Tryz.ntmps78
   go_wp2_with fail
   refine (AC.out _ HB.out).mono ?_
   rintro e w1 ⟨rfl, hb⟩
   clear x0 x1 x2 x3 y0 y1 y2
   have hb2 := hb.later (below_allocD w1 (.cells #[.string ⟨x.nm.toArray⟩, .int .i64 x.k, .int .i64 x.mn, .int .i64 x.mx, .int .i64 x.lo, .int .i64 x.hi, .string ⟨x.rf.toArray⟩, .bool x.st] 107))
   have y0 := cell_at (o := 0) hb2.b rfl
   have y1 := cell_at (o := 1) hb2.b rfl
   have y2 := cell_at (o := 2) hb2.b rfl
   have z1 := cell_at (o := 1) (heap_newD w1 (.cells #[.string ⟨x.nm.toArray⟩, .int .i64 x.k, .int .i64 x.mn, .int .i64 x.mx, .int .i64 x.lo, .int .i64 x.hi, .string ⟨x.rf.toArray⟩, .bool x.st] 107)) rfl
   have z3 := cell_at (o := 3) (heap_newD w1 (.cells #[.string ⟨x.nm.toArray⟩, .int .i64 x.k, .int .i64 x.mn, .int .i64 x.mx, .int .i64 x.lo, .int .i64 x.hi, .string ⟨x.rf.toArray⟩, .bool x.st] 107)) rfl
   have f0 := HF.out _ (hb2.bel.mono HW.out)
   have HB1 := Lib.hid hb2
   clear hb hb2
   go_wp2_with fail
   go_quiet (fail)
   go_wp2_with fail
   refine (OR.out _).mono ?_
   rintro e w3 ⟨rfl, hB⟩
   have hB3 : Below (w1.alloc (.cells #[.string ⟨x.nm.toArray⟩, .int .i64 x.k, .int .i64 x.mn, .int .i64 x.mx, .int .i64 x.lo, .int .i64 x.hi, .string ⟨x.rf.toArray⟩, .bool x.st] 107)).heap.size (w1.alloc (.cells #[.string ⟨x.nm.toArray⟩, .int .i64 x.k, .int .i64 x.mn, .int .i64 x.mx, .int .i64 x.lo, .int .i64 x.hi, .string ⟨x.rf.toArray⟩, .bool x.st] 107)) w3 := by first | exact hB | exact (Below.refl _ _).drew.trans hB | exact (below_drewN (Below.refl _ _) _).trans hB
   have hb3 := HB1.out.later hB3
   clear y0 y1 y2 z1 z3 f0
   have y2 := cell_at (o := 2) hb3.b rfl
   have z1 := cell_at (o := 1) (heap_keptD (heap_newD w1 (.cells #[.string ⟨x.nm.toArray⟩, .int .i64 x.k, .int .i64 x.mn, .int .i64 x.mx, .int .i64 x.lo, .int .i64 x.hi, .string ⟨x.rf.toArray⟩, .bool x.st] 107)) hB3) rfl
   have z3 := cell_at (o := 3) (heap_keptD (heap_newD w1 (.cells #[.string ⟨x.nm.toArray⟩, .int .i64 x.k, .int .i64 x.mn, .int .i64 x.mx, .int .i64 x.lo, .int .i64 x.hi, .string ⟨x.rf.toArray⟩, .bool x.st] 107)) hB3) rfl
   have HB3 := Lib.hid hb3.bel
   clear hB hB3 hb3
   go_wp2_with fail
   go_ret
   exact ⟨ret_i HC.out.symm, HB3.out⟩
  have g2 : (x.mx != 1) = false := by simpa using h2
  by_cases h3 : c.val.length = 1
  case pos =>
   have HC : Hid (condC t c = 0) := HE2.out.trans (condK_yes HK.out h1 h2 h3)
   have g3 : ((c.val.length : Int) != 1) = false := by rw [h3]; rfl
   clear h1 h2 h3
   rw [hF] at OR
   clear hF HE2
   go_enter Tryz.func78, Tryz.ntmps78
   go_wp2_with fail
   refine (AC.out _ HB.out).mono ?_
   rintro e w1 ⟨rfl, hb⟩
   clear x0 x1 x2 x3 y0 y1 y2
   have hb2 := hb.later (below_allocD w1 (.cells #[.string ⟨x.nm.toArray⟩, .int .i64 x.k, .int .i64 x.mn, .int .i64 x.mx, .int .i64 x.lo, .int .i64 x.hi, .string ⟨x.rf.toArray⟩, .bool x.st] 107))
   have y0 := cell_at (o := 0) hb2.b rfl
   have y1 := cell_at (o := 1) hb2.b rfl
   have y2 := cell_at (o := 2) hb2.b rfl
   have z1 := cell_at (o := 1) (heap_newD w1 (.cells #[.string ⟨x.nm.toArray⟩, .int .i64 x.k, .int .i64 x.mn, .int .i64 x.mx, .int .i64 x.lo, .int .i64 x.hi, .string ⟨x.rf.toArray⟩, .bool x.st] 107)) rfl
   have z3 := cell_at (o := 3) (heap_newD w1 (.cells #[.string ⟨x.nm.toArray⟩, .int .i64 x.k, .int .i64 x.mn, .int .i64 x.mx, .int .i64 x.lo, .int .i64 x.hi, .string ⟨x.rf.toArray⟩, .bool x.st] 107)) rfl
   have f0 := HF.out _ (hb2.bel.mono HW.out)
   have HB1 := Lib.hid hb2
   clear hb hb2
   go_wp2_with fail
   go_quiet (fail)
   go_wp2_with fail
   refine (OR.out _).mono ?_
   rintro e w3 ⟨rfl, hB⟩
   have hB3 : Below (w1.alloc (.cells #[.string ⟨x.nm.toArray⟩, .int .i64 x.k, .int .i64 x.mn, .int .i64 x.mx, .int .i64 x.lo, .int .i64 x.hi, .string ⟨x.rf.toArray⟩, .bool x.st] 107)).heap.size (w1.alloc (.cells #[.string ⟨x.nm.toArray⟩, .int .i64 x.k, .int .i64 x.mn, .int .i64 x.mx, .int .i64 x.lo, .int .i64 x.hi, .string ⟨x.rf.toArray⟩, .bool x.st] 107)) w3 := by first | exact hB | exact (Below.refl _ _).drew.trans hB | exact (below_drewN (Below.refl _ _) _).trans hB
   have hb3 := HB1.out.later hB3
   clear y0 y1 y2 z1 z3 f0
   have y2 := cell_at (o := 2) hb3.b rfl
   have z1 := cell_at (o := 1) (heap_keptD (heap_newD w1 (.cells #[.string ⟨x.nm.toArray⟩, .int .i64 x.k, .int .i64 x.mn, .int .i64 x.mx, .int .i64 x.lo, .int .i64 x.hi, .string ⟨x.rf.toArray⟩, .bool x.st] 107)) hB3) rfl
   have z3 := cell_at (o := 3) (heap_keptD (heap_newD w1 (.cells #[.string ⟨x.nm.toArray⟩, .int .i64 x.k, .int .i64 x.mn, .int .i64 x.mx, .int .i64 x.lo, .int .i64 x.hi, .string ⟨x.rf.toArray⟩, .bool x.st] 107)) hB3) rfl
   have HB3 := Lib.hid hb3.bel
   clear hB hB3 hb3
   go_wp2_with fail
   go_ret
   exact ⟨ret_i HC.out.symm, HB3.out⟩
  have HC : Hid (condC t c = 9) := HE2.out.trans (condK_no HK.out hF (.inr (.inr h3)))
  have g3 : ((c.val.length : Int) != 1) = true := by simpa [bne_iff_ne] using (by omega : ¬ (c.val.length : Int) = 1)
  clear h1 h2 h3
  rw [hF] at OR
  clear hF HE2
  go_enter Tryz.func78, Tryz.ntmps78
  go_wp2_with fail
  refine (AC.out _ HB.out).mono ?_
  rintro e w1 ⟨rfl, hb⟩
  clear x0 x1 x2 x3 y0 y1 y2
  have hb2 := hb.later (below_allocD w1 (.cells #[.string ⟨x.nm.toArray⟩, .int .i64 x.k, .int .i64 x.mn, .int .i64 x.mx, .int .i64 x.lo, .int .i64 x.hi, .string ⟨x.rf.toArray⟩, .bool x.st] 107))
  have y0 := cell_at (o := 0) hb2.b rfl
  have y1 := cell_at (o := 1) hb2.b rfl
  have y2 := cell_at (o := 2) hb2.b rfl
  have z1 := cell_at (o := 1) (heap_newD w1 (.cells #[.string ⟨x.nm.toArray⟩, .int .i64 x.k, .int .i64 x.mn, .int .i64 x.mx, .int .i64 x.lo, .int .i64 x.hi, .string ⟨x.rf.toArray⟩, .bool x.st] 107)) rfl
  have z3 := cell_at (o := 3) (heap_newD w1 (.cells #[.string ⟨x.nm.toArray⟩, .int .i64 x.k, .int .i64 x.mn, .int .i64 x.mx, .int .i64 x.lo, .int .i64 x.hi, .string ⟨x.rf.toArray⟩, .bool x.st] 107)) rfl
  have f0 := HF.out _ (hb2.bel.mono HW.out)
  have HB1 := Lib.hid hb2
  clear hb hb2
  go_wp2_with fail
  go_quiet (fail)
  go_wp2_with fail
  refine (OR.out _).mono ?_
  rintro e w3 ⟨rfl, hB⟩
  have hB3 : Below (w1.alloc (.cells #[.string ⟨x.nm.toArray⟩, .int .i64 x.k, .int .i64 x.mn, .int .i64 x.mx, .int .i64 x.lo, .int .i64 x.hi, .string ⟨x.rf.toArray⟩, .bool x.st] 107)).heap.size (w1.alloc (.cells #[.string ⟨x.nm.toArray⟩, .int .i64 x.k, .int .i64 x.mn, .int .i64 x.mx, .int .i64 x.lo, .int .i64 x.hi, .string ⟨x.rf.toArray⟩, .bool x.st] 107)) w3 := by first | exact hB | exact (Below.refl _ _).drew.trans hB | exact (below_drewN (Below.refl _ _) _).trans hB
  have hb3 := HB1.out.later hB3
  clear y0 y1 y2 z1 z3 f0
  have y2 := cell_at (o := 2) hb3.b rfl
  have z1 := cell_at (o := 1) (heap_keptD (heap_newD w1 (.cells #[.string ⟨x.nm.toArray⟩, .int .i64 x.k, .int .i64 x.mn, .int .i64 x.mx, .int .i64 x.lo, .int .i64 x.hi, .string ⟨x.rf.toArray⟩, .bool x.st] 107)) hB3) rfl
  have z3 := cell_at (o := 3) (heap_keptD (heap_newD w1 (.cells #[.string ⟨x.nm.toArray⟩, .int .i64 x.k, .int .i64 x.mn, .int .i64 x.mx, .int .i64 x.lo, .int .i64 x.hi, .string ⟨x.rf.toArray⟩, .bool x.st] 107)) hB3) rfl
  have HB3 := Lib.hid hb3.bel
  clear hB hB3 hb3
  go_wp2_with fail
  go_ret
  exact ⟨ret_i HC.out.symm, HB3.out⟩
end Go.Proofs.YtlddhbamcndggaaGreatDoor
