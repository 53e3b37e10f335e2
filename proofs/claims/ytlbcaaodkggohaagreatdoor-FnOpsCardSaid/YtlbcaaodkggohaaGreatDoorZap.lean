import Derived.Test.YtlbcaaodkggohaaGreatDoorZak
import Derived.Test.YtlbcaaodkggohaaGreatDoorZao
namespace Go.Proofs.YtlbcaaodkggohaaGreatDoor
open Go.RowKit
set_option linter.unusedSimpArgs false
structure MutV where
 col : List UInt8
 fn : Int
 val : List At
def dMut (x : MutV) : Nat → D
 | 0 => .s x.col
 | 1 => .i x.fn
 | _ => dAtomS x.val
def dMutS (l : List MutV) : D := Ls 3 dMut l
def mutB (c : MutV) : Bool := inB 1 c.fn 7 && (datumB c.val && decide (c.col.length ≤ 40))
def mutK (kd : Int) (c : MutV) : Int := if kindNo kd c.val = true then 9 else if c.fn ≤ 5 ∧ (kd ≠ 1 ∨ c.val.length ≠ 1) then 9 else 0
noncomputable def mutC (t : Tb) (c : MutV) : Int := if placeC t.cols c.col < 0 then 11 else match t.cols[(placeC t.cols c.col).toNat]? with
 | none => 11
 | some x => mutK x.k c
theorem mut_none {t : Tb} {c : MutV} (hp : placeC t.cols c.col = -1) : mutC t c = 11 := by
 unfold mutC; rw [hp, if_pos (by omega)]
theorem mut_at {t : Tb} {c : MutV} {k : Nat} (hk : k < t.cols.length) (hp : placeC t.cols c.col = (k : Int)) : mutC t c = mutK t.cols[k].k c := by
 unfold mutC; rw [hp, if_neg (by omega), Int.toNat_natCast, List.getElem?_eq_getElem hk]
theorem mutK_kind {kd : Int} {c : MutV} (h : kindNo kd c.val = true) : mutK kd c = 9 := by unfold mutK; rw [if_pos h]
theorem mutK_ok {kd : Int} {c : MutV} (h : kindNo kd c.val = false) (hf : ¬ c.fn ≤ 5) : mutK kd c = 0 := by
 unfold mutK; rw [if_neg (by simp [h]), if_neg (by simp [hf])]
theorem mutK_no {kd : Int} {c : MutV} (h : kindNo kd c.val = false) (hf : c.fn ≤ 5) (ho : kd ≠ 1 ∨ c.val.length ≠ 1) : mutK kd c = 9 := by
 unfold mutK; rw [if_neg (by simp [h]), if_pos ⟨hf, ho⟩]
theorem mutK_yes {kd : Int} {c : MutV} (h : kindNo kd c.val = false) (h1 : kd = 1) (h3 : c.val.length = 1) : mutK kd c = 0 := by
 unfold mutK; rw [if_neg (by simp [h]), if_neg (by intro h'; rcases h'.2 with h' | h' <;> contradiction)]
set_option maxRecDepth 100000 in
set_option maxHeartbeats 1600000 in
theorem mutOKs (c : MutV) (va : Option Addr) (vc : Nat) (S : Nat) (w : World) (hn : c.col.length ≤ maxLen) (hl : c.val.length ≤ maxLen) (hx : ∀ x ∈ c.val, x.t.length ≤ maxLen) (hw : S ≤ w.heap.size) (hA : Ats w (· < S) va c.val) :
  Calls Tryz.prog 86 #[.agg #[.string ⟨c.col.toArray⟩, .int .i64 c.fn, .slice va c.val.length vc]] w fun e w' => e = .returned (.bool (mutB c)) ∧ Below w.heap.size w w' := by
 have DA : Hid (∀ W, BoxD 114 w W #[.string ⟨c.col.toArray⟩, .int .i64 c.fn, .slice va c.val.length vc] → Calls Tryz.prog 87 #[.slice va c.val.length vc] W fun e w' => e = .returned (.bool (datumB c.val)) ∧ BoxD 114 w w' #[.string ⟨c.col.toArray⟩, .int .i64 c.fn, .slice va c.val.length vc]) := fun W h => (datumOKs c.val va vc S W hl hx (Nat.le_trans hw h.2.size) (hA.below (h.2.mono hw))).mono (fun e w' ⟨he, hB⟩ => ⟨he, h.later hB⟩)
 have hb := boxD 114 w #[.string ⟨c.col.toArray⟩, .int .i64 c.fn, .slice va c.val.length vc]; obtain ⟨x0, x1, x2⟩ := ck3 0 1 2 hb.1; have HB := Lib.hid hb; have HD : Hid (mutB c = (inB 1 c.fn 7 && (datumB c.val && decide (c.col.length ≤ 40)))) := rfl; have IN := fun W => inS c.fn 1 7 W
 have HI := Lib.hid IN; unfold maxLen at hn hl; clear hx hw hA hb IN
 cases hf : inB 1 c.fn 7
 case false =>
  rw [hf] at HI HD; clear hf; (go_enter Tryz.func86, Tryz.ntmps86); (go_wp2_with fail); refine (HI.out _).mono ?_; rintro e w1 ⟨rfl, rfl⟩; (go_wp2_with fail); go_ret; exact ⟨ret_b (by rw [HD.out]; rfl), HB.out.2⟩
 rw [hf] at HI HD; clear hf
 cases hd : datumB c.val
 case false =>
  rw [hd] at DA HD; clear hd; (go_enter Tryz.func86, Tryz.ntmps86); (go_wp2_with fail); refine (HI.out _).mono ?_; rintro e w1 ⟨rfl, rfl⟩; (go_wp2_with fail); refine (DA.out _ HB.out).mono ?_; rintro e w2 ⟨rfl, hb2⟩; have HB2 := Lib.hid hb2; clear hb2 x0 x1 x2; (go_wp2_with fail); go_ret; exact ⟨ret_b (by rw [HD.out]; rfl), HB2.out.2⟩
 rw [hd] at DA HD; clear hd; (go_enter Tryz.func86, Tryz.ntmps86); (go_wp2_with fail); refine (HI.out _).mono ?_; rintro e w1 ⟨rfl, rfl⟩; (go_wp2_with fail); refine (DA.out _ HB.out).mono ?_; rintro e w2 ⟨rfl, hb2⟩; have HB2 := Lib.hid hb2; clear x0 x1 x2; have x0 := cell_at (o := 0) hb2.1 rfl; clear hb2; (go_wp2_with fail); go_ret; exact ⟨ret_b (by rw [HD.out]; simp; omega), HB2.out.2⟩
set_option maxRecDepth 100000 in
set_option maxHeartbeats 1600000 in
theorem mutOKi (c : MutV) (va : Option Addr) (vc : Nat) (S : Nat) (w : World) (hn : c.col.length ≤ maxLen) (hl : c.val.length ≤ maxLen) (hx : ∀ x ∈ c.val, x.t.length ≤ maxLen) (hw : S ≤ w.heap.size) (hA : Ats w (· < S) va c.val) :
  Calls Tryz.prog 62 #[.agg #[.string ⟨c.col.toArray⟩, .int .i64 c.fn, .slice va c.val.length vc]] w fun e w' => e = .returned (.bool (mutB c)) ∧ Below w.heap.size w w' := by
 have DA : Hid (∀ W, BoxD 114 w W #[.string ⟨c.col.toArray⟩, .int .i64 c.fn, .slice va c.val.length vc] → Calls Tryz.prog 65 #[.slice va c.val.length vc] W fun e w' => e = .returned (.bool (datumB c.val)) ∧ BoxD 114 w w' #[.string ⟨c.col.toArray⟩, .int .i64 c.fn, .slice va c.val.length vc]) := fun W h => (datumOKi c.val va vc S W hl hx (Nat.le_trans hw h.2.size) (hA.below (h.2.mono hw))).mono (fun e w' ⟨he, hB⟩ => ⟨he, h.later hB⟩)
 have hb := boxD 114 w #[.string ⟨c.col.toArray⟩, .int .i64 c.fn, .slice va c.val.length vc]; obtain ⟨x0, x1, x2⟩ := ck3 0 1 2 hb.1; have HB := Lib.hid hb; have HD : Hid (mutB c = (inB 1 c.fn 7 && (datumB c.val && decide (c.col.length ≤ 40)))) := rfl; unfold maxLen at hn hl; clear hx hw hA hb
 by_cases h1 : 1 ≤ c.fn
 case neg =>
  have HR : Hid (mutB c = false) := by show mutB c = false; rw [HD.out]; unfold inB; rw [decide_eq_false (by omega)]; rfl
  have g1 : decide (1 ≤ c.fn) = false := decide_eq_false h1; clear h1; (go_enter Tryz.func62, Tryz.ntmps62); (go_wp2_with fail); go_ret; exact ⟨ret_b HR.out.symm, HB.out.2⟩
 have g1 : decide (1 ≤ c.fn) = true := decide_eq_true h1
 by_cases h2 : c.fn ≤ 7
 case neg =>
  have HR : Hid (mutB c = false) := by show mutB c = false; rw [HD.out]; unfold inB; rw [decide_eq_false (by omega)]; rfl
  have g2 : decide (c.fn ≤ 7) = false := decide_eq_false h2; clear h1 h2; (go_enter Tryz.func62, Tryz.ntmps62); (go_wp2_with fail); go_ret; exact ⟨ret_b HR.out.symm, HB.out.2⟩
 have g2 : decide (c.fn ≤ 7) = true := decide_eq_true h2; have HD' : Hid (mutB c = (datumB c.val && decide (c.col.length ≤ 40))) := by show mutB c = _; rw [HD.out]; unfold inB; rw [decide_eq_true ⟨h1, h2⟩]; rfl
 clear h1 h2 HD
 by_cases h3 : c.col.length ≤ 40
 case neg =>
  have HR : Hid (mutB c = false) := by show mutB c = false; rw [HD'.out, decide_eq_false h3, Bool.and_false]
  have g3 : decide ((c.col.length : Int) ≤ 40) = false := decide_eq_false (by omega); clear h3; (go_enter Tryz.func62, Tryz.ntmps62); (go_wp2_with fail); go_ret; exact ⟨ret_b HR.out.symm, HB.out.2⟩
 have g3 : decide ((c.col.length : Int) ≤ 40) = true := decide_eq_true (by omega); have HR : Hid (mutB c = datumB c.val) := by show mutB c = _; rw [HD'.out, decide_eq_true h3, Bool.and_true]
 clear h3 HD'; (go_enter Tryz.func62, Tryz.ntmps62); (go_wp2_with fail); refine (DA.out _ HB.out).mono ?_; rintro e w2 ⟨rfl, hb2⟩; have HB2 := Lib.hid hb2; clear hb2 x0 x1 x2; (go_wp2_with fail); go_ret; exact ⟨ret_b HR.out.symm, HB2.out.2⟩
set_option maxRecDepth 100000 in
set_option maxHeartbeats 1600000 in
theorem numsI (c : MutV) (va : Option Addr) (vc : Nat) (w : World) :
  Calls Tryz.prog 103 #[.agg #[.string ⟨c.col.toArray⟩, .int .i64 c.fn, .slice va c.val.length vc]] w fun e w' => e = .returned (.bool (inB 1 c.fn 5)) ∧ Below w.heap.size w w' := by
 have hb := boxD 114 w #[.string ⟨c.col.toArray⟩, .int .i64 c.fn, .slice va c.val.length vc]; have x1 := cell_at (o := 1) hb.1 rfl; have HB := Lib.hid hb; clear hb
 by_cases h1 : 1 ≤ c.fn
 case neg =>
  have HR : Hid (inB 1 c.fn 5 = false) := by show inB _ _ _ = false; unfold inB; rw [decide_eq_false (by omega)]
  have g1 : decide (1 ≤ c.fn) = false := decide_eq_false h1; clear h1; (go_enter Tryz.func103, Tryz.ntmps103); (go_wp2_with fail); go_ret; exact ⟨ret_b HR.out.symm, HB.out.2⟩
 have g1 : decide (1 ≤ c.fn) = true := decide_eq_true h1
 have HR : Hid (inB 1 c.fn 5 = decide (c.fn ≤ 5)) := by
  show inB _ _ _ = _
  unfold inB; rw [Bool.eq_iff_iff]; simp; intro _; exact h1
 clear h1; (go_enter Tryz.func103, Tryz.ntmps103); (go_wp2_with fail); go_ret; exact ⟨ret_b HR.out.symm, HB.out.2⟩
set_option maxRecDepth 100000 in
set_option maxHeartbeats 6400000 in
theorem mutCodeS (t : Tb) (c : MutV) (ca : Option Addr) (cc : Nat) (ua : Option Addr) (uc : Nat) (va : Option Addr) (vc : Nat) (B : Nat → Prop) (S : Nat) (w : World) (ho : t.ok) (hl : c.val.length ≤ maxLen) (hT : t.Has w B ca ua) (hw : S ≤ w.heap.size) (hA : Ats w (· < S) va c.val) :
  Calls Tryz.prog 91 #[.agg #[.string ⟨t.nm.toArray⟩, .slice ca t.cols.length cc, .slice ua t.uq.length uc, .bool t.rt], .agg #[.string ⟨c.col.toArray⟩, .int .i64 c.fn, .slice va c.val.length vc]] w fun e w' => e = .returned (.int .i64 (mutC t c)) ∧ Below w.heap.size w w' := by
 have PL : Hid (∀ W, BoxE 48 114 w W #[.string ⟨t.nm.toArray⟩, .slice ca t.cols.length cc, .slice ua t.uq.length uc, .bool t.rt] #[.string ⟨c.col.toArray⟩, .int .i64 c.fn, .slice va c.val.length vc] → Calls Tryz.prog 52 #[.agg #[.string ⟨t.nm.toArray⟩, .slice ca t.cols.length cc, .slice ua t.uq.length uc, .bool t.rt], .string ⟨c.col.toArray⟩] W fun e w' => e = .returned (.int .i64 (placeC t.cols c.col)) ∧ BoxE 48 114 w w' #[.string ⟨t.nm.toArray⟩, .slice ca t.cols.length cc, .slice ua t.uq.length uc, .bool t.rt] #[.string ⟨c.col.toArray⟩, .int .i64 c.fn, .slice va c.val.length vc]) := fun W h => (placeS t c.col ca cc ua uc B W ho.2.1 (hT.later h.bel)).mono (fun e w' ⟨he, hB⟩ => ⟨he, h.later hB⟩)
 have CL : Hid (∀ W, Below w.heap.size w W → Cols W B ca t.cols) := fun W h => hT.1.later h
 have HH := Lib.hid hA.head; have HW := Lib.hid hw; have hb := boxE 48 114 w #[.string ⟨t.nm.toArray⟩, .slice ca t.cols.length cc, .slice ua t.uq.length uc, .bool t.rt] #[.string ⟨c.col.toArray⟩, .int .i64 c.fn, .slice va c.val.length vc]; obtain ⟨x0, x1, x2, x3⟩ := ck4 0 1 2 3 hb.a; obtain ⟨y0, y1, y2⟩ := ck3 0 1 2 hb.b; have HB := Lib.hid hb; have hcl := ho.2.1; unfold maxLen at hl hcl; clear ho hT hw hA hb; rcases place_cases t.cols c.col with hp | ⟨k, hk, hp⟩
 ·
  have HC : Hid (mutC t c = 11) := mut_none hp; rw [hp] at PL; clear hp HH; (go_enter Tryz.func91, Tryz.ntmps91); (go_wp2_with fail); refine (PL.out _ HB.out).mono ?_; rintro e w1 ⟨rfl, hb⟩; clear x0 x1 x2 x3 y0 y1 y2; have x1 := cell_at (o := 1) hb.a rfl; obtain ⟨y0, y1, y2⟩ := ck3 0 1 2 hb.b; have HB1 := Lib.hid hb.bel; clear hb; (go_wp2_with fail); go_ret; exact ⟨ret_i HC.out.symm, HB1.out⟩
 have HE := Lib.hid (mut_at hk hp); have hk1 : (k : Int) < (t.cols.length : Int) := by omega
 have hk0 : decide ((0 : Int) ≤ (k : Int)) = true := decide_eq_true (by omega); have hk2 : decide ((k : Int) < 0) = false := decide_eq_false (by omega); obtain ⟨b1, off1, rfl, -, -⟩ := (CL.out _ (Below.refl _ _)).at k hk; rw [hp] at PL; clear hp; rcases HH.out with h0 | ⟨b, off, q, h0, rfl, hkn, hf⟩
 ·
  have hd : decide (0 < c.val.length) = false := decide_eq_false (by omega); have H0 := Lib.hid h0; clear h0; have HK := Lib.hid (kindNo_nil (kd := t.cols[k].k) H0.out)
  by_cases hF : c.fn ≤ 5
  case neg =>
   have HC : Hid (mutC t c = 0) := HE.out.trans (mutK_ok HK.out hF); have gF : decide (c.fn ≤ 5) = false := decide_eq_false hF; clear hF HE; (go_enter Tryz.func91, Tryz.ntmps91); (go_wp2_with fail); refine (PL.out _ HB.out).mono ?_; rintro e w1 ⟨rfl, hb⟩; clear x0 x1 x2 x3 y0 y1 y2; have x1 := cell_at (o := 1) hb.a rfl; obtain ⟨y0, y1, y2⟩ := ck3 0 1 2 hb.b; obtain ⟨b2, off2, e2, -, hc2⟩ := (CL.out _ hb.bel).at k hk; simp only [Option.some.injEq, Addr.mk.injEq, and_true] at e2; obtain ⟨rfl, rfl⟩ := e2; have c1 := (hc2 k hk).2.1; clear hc2; have HB1 := Lib.hid hb.bel; clear hb; generalize t.cols[k] = x at *; (go_wp2_with fail); go_ret; exact ⟨ret_i HC.out.symm, HB1.out⟩
  have gF : decide (c.fn ≤ 5) = true := decide_eq_true hF
  by_cases h1 : t.cols[k].k = 1
  case neg =>
   have HC : Hid (mutC t c = 9) := HE.out.trans (mutK_no HK.out hF (.inl h1)); have g1 : (t.cols[k].k != 1) = true := by simpa using h1
   clear h1; clear hF HE; (go_enter Tryz.func91, Tryz.ntmps91); (go_wp2_with fail); refine (PL.out _ HB.out).mono ?_; rintro e w1 ⟨rfl, hb⟩; clear x0 x1 x2 x3 y0 y1 y2; have x1 := cell_at (o := 1) hb.a rfl; obtain ⟨y0, y1, y2⟩ := ck3 0 1 2 hb.b; obtain ⟨b2, off2, e2, -, hc2⟩ := (CL.out _ hb.bel).at k hk; simp only [Option.some.injEq, Addr.mk.injEq, and_true] at e2; obtain ⟨rfl, rfl⟩ := e2; have c1 := (hc2 k hk).2.1; clear hc2; have HB1 := Lib.hid hb.bel; clear hb; generalize t.cols[k] = x at *; (go_wp2_with fail); go_ret; exact ⟨ret_i HC.out.symm, HB1.out⟩
  have g1 : (t.cols[k].k != 1) = false := by simpa using h1
  have h3 : ¬ c.val.length = 1 := by have := H0.out; omega
  have HC : Hid (mutC t c = 9) := HE.out.trans (mutK_no HK.out hF (.inr h3)); have g3 : ((c.val.length : Int) != 1) = true := by simpa [bne_iff_ne] using (by omega : ¬ (c.val.length : Int) = 1)
  clear h1 h3; clear hF HE; (go_enter Tryz.func91, Tryz.ntmps91); (go_wp2_with fail); refine (PL.out _ HB.out).mono ?_; rintro e w1 ⟨rfl, hb⟩; clear x0 x1 x2 x3 y0 y1 y2; have x1 := cell_at (o := 1) hb.a rfl; obtain ⟨y0, y1, y2⟩ := ck3 0 1 2 hb.b; obtain ⟨b2, off2, e2, -, hc2⟩ := (CL.out _ hb.bel).at k hk; simp only [Option.some.injEq, Addr.mk.injEq, and_true] at e2; obtain ⟨rfl, rfl⟩ := e2; have c1 := (hc2 k hk).2.1; clear hc2; have HB1 := Lib.hid hb.bel; clear hb; generalize t.cols[k] = x at *; (go_wp2_with fail); go_ret; exact ⟨ret_i HC.out.symm, HB1.out⟩
 ·
  have HF := Lib.hid hf; have hd : decide (0 < c.val.length) = true := decide_eq_true (by omega); have hd0 : (0 : Int) < (c.val.length : Int) := by omega
  have hkn1 := hkn (t.cols[k].k); clear hf hkn
  cases hq : (q != t.cols[k].k)
  case true =>
   have HC : Hid (mutC t c = 9) := HE.out.trans (mutK_kind (by rw [hkn1, hq])); clear HE hkn1; (go_enter Tryz.func91, Tryz.ntmps91); (go_wp2_with fail); refine (PL.out _ HB.out).mono ?_; rintro e w1 ⟨rfl, hb⟩; clear x0 x1 x2 x3 y0 y1 y2; have x1 := cell_at (o := 1) hb.a rfl; obtain ⟨y0, y1, y2⟩ := ck3 0 1 2 hb.b; obtain ⟨b2, off2, e2, -, hc2⟩ := (CL.out _ hb.bel).at k hk; simp only [Option.some.injEq, Addr.mk.injEq, and_true] at e2; obtain ⟨rfl, rfl⟩ := e2; have c1 := (hc2 k hk).2.1; clear hc2; have f0 := HF.out _ (hb.bel.mono HW.out); have HB1 := Lib.hid hb.bel; clear hb; generalize t.cols[k] = x at *; (go_wp2_with fail); go_ret; exact ⟨ret_i HC.out.symm, HB1.out⟩
  have HK := Lib.hid (hkn1.trans hq)
  by_cases hF : c.fn ≤ 5
  case neg =>
   have HC : Hid (mutC t c = 0) := HE.out.trans (mutK_ok HK.out hF); have gF : decide (c.fn ≤ 5) = false := decide_eq_false hF; clear hF HE; (go_enter Tryz.func91, Tryz.ntmps91); (go_wp2_with fail); refine (PL.out _ HB.out).mono ?_; rintro e w1 ⟨rfl, hb⟩; clear x0 x1 x2 x3 y0 y1 y2; have x1 := cell_at (o := 1) hb.a rfl; obtain ⟨y0, y1, y2⟩ := ck3 0 1 2 hb.b; obtain ⟨b2, off2, e2, -, hc2⟩ := (CL.out _ hb.bel).at k hk; simp only [Option.some.injEq, Addr.mk.injEq, and_true] at e2; obtain ⟨rfl, rfl⟩ := e2; have c1 := (hc2 k hk).2.1; clear hc2; have f0 := HF.out _ (hb.bel.mono HW.out); have HB1 := Lib.hid hb.bel; clear hb; generalize t.cols[k] = x at *; (go_wp2_with fail); go_ret; exact ⟨ret_i HC.out.symm, HB1.out⟩
  have gF : decide (c.fn ≤ 5) = true := decide_eq_true hF
  by_cases h1 : t.cols[k].k = 1
  case neg =>
   have HC : Hid (mutC t c = 9) := HE.out.trans (mutK_no HK.out hF (.inl h1)); have g1 : (t.cols[k].k != 1) = true := by simpa using h1
   clear h1; clear hF HE; (go_enter Tryz.func91, Tryz.ntmps91); (go_wp2_with fail); refine (PL.out _ HB.out).mono ?_; rintro e w1 ⟨rfl, hb⟩; clear x0 x1 x2 x3 y0 y1 y2; have x1 := cell_at (o := 1) hb.a rfl; obtain ⟨y0, y1, y2⟩ := ck3 0 1 2 hb.b; obtain ⟨b2, off2, e2, -, hc2⟩ := (CL.out _ hb.bel).at k hk; simp only [Option.some.injEq, Addr.mk.injEq, and_true] at e2; obtain ⟨rfl, rfl⟩ := e2; have c1 := (hc2 k hk).2.1; clear hc2; have f0 := HF.out _ (hb.bel.mono HW.out); have HB1 := Lib.hid hb.bel; clear hb; generalize t.cols[k] = x at *; (go_wp2_with fail); go_ret; exact ⟨ret_i HC.out.symm, HB1.out⟩
  have g1 : (t.cols[k].k != 1) = false := by simpa using h1
  by_cases h3 : c.val.length = 1
  case pos =>
   have HC : Hid (mutC t c = 0) := HE.out.trans (mutK_yes HK.out h1 h3); have g3 : ((c.val.length : Int) != 1) = false := by rw [h3]; rfl
   clear h1 h3; clear hF HE; (go_enter Tryz.func91, Tryz.ntmps91); (go_wp2_with fail); refine (PL.out _ HB.out).mono ?_; rintro e w1 ⟨rfl, hb⟩; clear x0 x1 x2 x3 y0 y1 y2; have x1 := cell_at (o := 1) hb.a rfl; obtain ⟨y0, y1, y2⟩ := ck3 0 1 2 hb.b; obtain ⟨b2, off2, e2, -, hc2⟩ := (CL.out _ hb.bel).at k hk; simp only [Option.some.injEq, Addr.mk.injEq, and_true] at e2; obtain ⟨rfl, rfl⟩ := e2; have c1 := (hc2 k hk).2.1; clear hc2; have f0 := HF.out _ (hb.bel.mono HW.out); have HB1 := Lib.hid hb.bel; clear hb; generalize t.cols[k] = x at *; (go_wp2_with fail); go_ret; exact ⟨ret_i HC.out.symm, HB1.out⟩
  have HC : Hid (mutC t c = 9) := HE.out.trans (mutK_no HK.out hF (.inr h3)); have g3 : ((c.val.length : Int) != 1) = true := by simpa [bne_iff_ne] using (by omega : ¬ (c.val.length : Int) = 1)
  clear h1 h3; clear hF HE; (go_enter Tryz.func91, Tryz.ntmps91); (go_wp2_with fail); refine (PL.out _ HB.out).mono ?_; rintro e w1 ⟨rfl, hb⟩; clear x0 x1 x2 x3 y0 y1 y2; have x1 := cell_at (o := 1) hb.a rfl; obtain ⟨y0, y1, y2⟩ := ck3 0 1 2 hb.b; obtain ⟨b2, off2, e2, -, hc2⟩ := (CL.out _ hb.bel).at k hk; simp only [Option.some.injEq, Addr.mk.injEq, and_true] at e2; obtain ⟨rfl, rfl⟩ := e2; have c1 := (hc2 k hk).2.1; clear hc2; have f0 := HF.out _ (hb.bel.mono HW.out); have HB1 := Lib.hid hb.bel; clear hb; generalize t.cols[k] = x at *; (go_wp2_with fail); go_ret; exact ⟨ret_i HC.out.symm, HB1.out⟩
end Go.Proofs.YtlbcaaodkggohaaGreatDoor
