import Derived.Test.YtlbcaaodkggohaaGreatDoorZak
import Derived.Test.YtlbcaaodkggohaaGreatDoorZao
import Derived.Test.YtlbcaaodkggohaaGreatDoorZap
namespace Go.Proofs.YtlbcaaodkggohaaGreatDoor
open Go.RowKit
set_option linter.unusedSimpArgs false
structure OpV where
 kd : Int
 tb : List UInt8
 nm : List UInt8
 wh : List CondV
 row : List SetV
 mu : List MutV
 cs : List (List UInt8)
 un : Bool
def dOp (x : OpV) : Nat → D
 | 0 => .i x.kd
 | 1 => .s x.tb
 | 2 => .s x.nm
 | 3 => dCondS x.wh
 | 4 => dSetS x.row
 | 5 => dMutS x.mu
 | 6 => dStringS x.cs
 | _ => .b x.un
set_option maxRecDepth 100000 in
set_option maxHeartbeats 6400000 in
theorem condCodeS (t : Tb) (c : CondV) (ca : Option Addr) (cc : Nat) (ua : Option Addr) (uc : Nat) (va : Option Addr) (vc : Nat) (B : Nat → Prop) (S : Nat) (w : World) (ho : t.ok) (hl : c.val.length ≤ maxLen) (hT : t.Has w B ca ua) (hw : S ≤ w.heap.size) (hA : Ats w (· < S) va c.val) :
  Calls Tryz.prog 90 #[.agg #[.string ⟨t.nm.toArray⟩, .slice ca t.cols.length cc, .slice ua t.uq.length uc, .bool t.rt], .agg #[.string ⟨c.col.toArray⟩, .int .i64 c.fn, .slice va c.val.length vc]] w fun e w' => e = .returned (.int .i64 (condC t c)) ∧ Below w.heap.size w w' := by
 have PL : Hid (∀ W, BoxE 48 111 w W #[.string ⟨t.nm.toArray⟩, .slice ca t.cols.length cc, .slice ua t.uq.length uc, .bool t.rt] #[.string ⟨c.col.toArray⟩, .int .i64 c.fn, .slice va c.val.length vc] → Calls Tryz.prog 52 #[.agg #[.string ⟨t.nm.toArray⟩, .slice ca t.cols.length cc, .slice ua t.uq.length uc, .bool t.rt], .string ⟨c.col.toArray⟩] W fun e w' => e = .returned (.int .i64 (placeC t.cols c.col)) ∧ BoxE 48 111 w w' #[.string ⟨t.nm.toArray⟩, .slice ca t.cols.length cc, .slice ua t.uq.length uc, .bool t.rt] #[.string ⟨c.col.toArray⟩, .int .i64 c.fn, .slice va c.val.length vc]) := fun W h => (placeS t c.col ca cc ua uc B W ho.2.1 (hT.later h.bel)).mono (fun e w' ⟨he, hB⟩ => ⟨he, h.later hB⟩)
 have CL : Hid (∀ W, Below w.heap.size w W → Cols W B ca t.cols) := fun W h => hT.1.later h
 have HH := Lib.hid hA.head; have HW := Lib.hid hw; have hb := boxE 48 111 w #[.string ⟨t.nm.toArray⟩, .slice ca t.cols.length cc, .slice ua t.uq.length uc, .bool t.rt] #[.string ⟨c.col.toArray⟩, .int .i64 c.fn, .slice va c.val.length vc]; obtain ⟨x0, x1, x2, x3⟩ := ck4 0 1 2 3 hb.a; obtain ⟨y0, y1, y2⟩ := ck3 0 1 2 hb.b; have HB := Lib.hid hb; have IN := Lib.hid (fun W => inS c.fn 3 6 W); have hcl := ho.2.1; unfold maxLen at hl hcl; clear ho hT hw hA hb; rcases place_cases t.cols c.col with hp | ⟨k, hk, hp⟩
 ·
  by_cases hn : c.col = idN
  case neg =>
   have HC : Hid (condC t c = 11) := cond_none hp hn; have hn1 : (c.col == [95, 117, 117, 105, 100]) = false := by simpa [idN] using hn
   rw [hp] at PL; clear hp hn HH; (go_enter Tryz.func90, Tryz.ntmps90); (go_wp2_with fail); refine (PL.out _ HB.out).mono ?_; rintro e w1 ⟨rfl, hb⟩; clear x0 x1 x2 x3 y0 y1 y2; have x1 := cell_at (o := 1) hb.a rfl; obtain ⟨y0, y1, y2⟩ := ck3 0 1 2 hb.b; have HB1 := Lib.hid hb.bel; clear hb; (go_wp2_with fail); go_ret; exact ⟨ret_i HC.out.symm, HB1.out⟩
  have HE := Lib.hid (cond_id hp hn); have hn1 : (c.col == [95, 117, 117, 105, 100]) = true := by simpa [idN] using hn
  rw [hp] at PL; clear hp hn; rcases HH.out with h0 | ⟨b, off, q, h0, rfl, hkn, hf⟩
  ·
   have hd : decide (0 < c.val.length) = false := decide_eq_false (by omega); have H0 := Lib.hid h0; clear h0; have HK := Lib.hid (kindNo_nil (kd := 4) H0.out)
   cases hF : inB 3 c.fn 6
   case false =>
    have HC : Hid (condC t c = 0) := HE.out.trans (condK_ok HK.out hF); rw [hF] at IN; clear hF HE; (go_enter Tryz.func90, Tryz.ntmps90); (go_wp2_with fail); refine (PL.out _ HB.out).mono ?_; rintro e w1 ⟨rfl, hb⟩; clear x0 x1 x2 x3 y0 y1 y2; have x1 := cell_at (o := 1) hb.a rfl; obtain ⟨y0, y1, y2⟩ := ck3 0 1 2 hb.b; have HB1 := Lib.hid hb.bel; clear hb; (go_wp2_with fail); refine (IN.out _).mono ?_; rintro e w2 ⟨rfl, rfl⟩; (go_wp2_with fail); go_ret; exact ⟨ret_i HC.out.symm, HB1.out⟩
   have HC : Hid (condC t c = 9) := HE.out.trans (condK_no HK.out hF (.inl (by omega))); rw [hF] at IN; clear hF HE; (go_enter Tryz.func90, Tryz.ntmps90); (go_wp2_with fail); refine (PL.out _ HB.out).mono ?_; rintro e w1 ⟨rfl, hb⟩; clear x0 x1 x2 x3 y0 y1 y2; have x1 := cell_at (o := 1) hb.a rfl; obtain ⟨y0, y1, y2⟩ := ck3 0 1 2 hb.b; have HB1 := Lib.hid hb.bel; clear hb; (go_wp2_with fail); refine (IN.out _).mono ?_; rintro e w2 ⟨rfl, rfl⟩; (go_wp2_with fail); go_ret; exact ⟨ret_i HC.out.symm, HB1.out⟩
  ·
   have HF := Lib.hid hf; have hd : decide (0 < c.val.length) = true := decide_eq_true (by omega); have hd0 : (0 : Int) < (c.val.length : Int) := by omega
   clear hf; have hkn1 := hkn (4); clear hkn
   cases hq : (q != 4)
   case true =>
    have HC : Hid (condC t c = 9) := HE.out.trans (condK_kind (by rw [hkn1, hq])); clear HE hkn1 IN; (go_enter Tryz.func90, Tryz.ntmps90); (go_wp2_with fail); refine (PL.out _ HB.out).mono ?_; rintro e w1 ⟨rfl, hb⟩; clear x0 x1 x2 x3 y0 y1 y2; have x1 := cell_at (o := 1) hb.a rfl; obtain ⟨y0, y1, y2⟩ := ck3 0 1 2 hb.b; have f0 := HF.out _ (hb.bel.mono HW.out); have HB1 := Lib.hid hb.bel; clear hb; (go_wp2_with fail); go_ret; exact ⟨ret_i HC.out.symm, HB1.out⟩
   have HK := Lib.hid (hkn1.trans hq)
   cases hF : inB 3 c.fn 6
   case false =>
    have HC : Hid (condC t c = 0) := HE.out.trans (condK_ok HK.out hF); rw [hF] at IN; clear hF HE; (go_enter Tryz.func90, Tryz.ntmps90); (go_wp2_with fail); refine (PL.out _ HB.out).mono ?_; rintro e w1 ⟨rfl, hb⟩; clear x0 x1 x2 x3 y0 y1 y2; have x1 := cell_at (o := 1) hb.a rfl; obtain ⟨y0, y1, y2⟩ := ck3 0 1 2 hb.b; have f0 := HF.out _ (hb.bel.mono HW.out); have HB1 := Lib.hid hb.bel; clear hb; (go_wp2_with fail); refine (IN.out _).mono ?_; rintro e w2 ⟨rfl, rfl⟩; (go_wp2_with fail); go_ret; exact ⟨ret_i HC.out.symm, HB1.out⟩
   have HC : Hid (condC t c = 9) := HE.out.trans (condK_no HK.out hF (.inl (by omega))); rw [hF] at IN; clear hF HE; (go_enter Tryz.func90, Tryz.ntmps90); (go_wp2_with fail); refine (PL.out _ HB.out).mono ?_; rintro e w1 ⟨rfl, hb⟩; clear x0 x1 x2 x3 y0 y1 y2; have x1 := cell_at (o := 1) hb.a rfl; obtain ⟨y0, y1, y2⟩ := ck3 0 1 2 hb.b; have f0 := HF.out _ (hb.bel.mono HW.out); have HB1 := Lib.hid hb.bel; clear hb; (go_wp2_with fail); refine (IN.out _).mono ?_; rintro e w2 ⟨rfl, rfl⟩; (go_wp2_with fail); go_ret; exact ⟨ret_i HC.out.symm, HB1.out⟩
 ·
  skip
  have HE := Lib.hid (cond_at hk hp); have hk1 : (k : Int) < (t.cols.length : Int) := by omega
  have hk0 : decide ((0 : Int) ≤ (k : Int)) = true := decide_eq_true (by omega); obtain ⟨b1, off1, rfl, -, -⟩ := (CL.out _ (Below.refl _ _)).at k hk; rw [hp] at PL; clear hp; rcases HH.out with h0 | ⟨b, off, q, h0, rfl, hkn, hf⟩
  ·
   have hd : decide (0 < c.val.length) = false := decide_eq_false (by omega); have H0 := Lib.hid h0; clear h0; have HK := Lib.hid (kindNo_nil (kd := t.cols[k].k) H0.out)
   cases hF : inB 3 c.fn 6
   case false =>
    have HC : Hid (condC t c = 0) := HE.out.trans (condK_ok HK.out hF); rw [hF] at IN; clear hF HE; (go_enter Tryz.func90, Tryz.ntmps90); (go_wp2_with fail); refine (PL.out _ HB.out).mono ?_; rintro e w1 ⟨rfl, hb⟩; clear x0 x1 x2 x3 y0 y1 y2; have x1 := cell_at (o := 1) hb.a rfl; obtain ⟨y0, y1, y2⟩ := ck3 0 1 2 hb.b; obtain ⟨b2, off2, e2, -, hc2⟩ := (CL.out _ hb.bel).at k hk; simp only [Option.some.injEq, Addr.mk.injEq, and_true] at e2; obtain ⟨rfl, rfl⟩ := e2; have c1 := (hc2 k hk).2.1; have c3 := (hc2 k hk).2.2.2.1; clear hc2; have HB1 := Lib.hid hb.bel; clear hb; generalize t.cols[k] = x at *; (go_wp2_with fail); refine (IN.out _).mono ?_; rintro e w2 ⟨rfl, rfl⟩; (go_wp2_with fail); go_ret; exact ⟨ret_i HC.out.symm, HB1.out⟩
   by_cases h1 : t.cols[k].k = 1
   case neg =>
    have HC : Hid (condC t c = 9) := HE.out.trans (condK_no HK.out hF (.inl h1)); have g1 : (t.cols[k].k != 1) = true := by simpa using h1
    clear h1; rw [hF] at IN; clear hF HE; (go_enter Tryz.func90, Tryz.ntmps90); (go_wp2_with fail); refine (PL.out _ HB.out).mono ?_; rintro e w1 ⟨rfl, hb⟩; clear x0 x1 x2 x3 y0 y1 y2; have x1 := cell_at (o := 1) hb.a rfl; obtain ⟨y0, y1, y2⟩ := ck3 0 1 2 hb.b; obtain ⟨b2, off2, e2, -, hc2⟩ := (CL.out _ hb.bel).at k hk; simp only [Option.some.injEq, Addr.mk.injEq, and_true] at e2; obtain ⟨rfl, rfl⟩ := e2; have c1 := (hc2 k hk).2.1; have c3 := (hc2 k hk).2.2.2.1; clear hc2; have HB1 := Lib.hid hb.bel; clear hb; generalize t.cols[k] = x at *; (go_wp2_with fail); refine (IN.out _).mono ?_; rintro e w2 ⟨rfl, rfl⟩; (go_wp2_with fail); go_ret; exact ⟨ret_i HC.out.symm, HB1.out⟩
   have g1 : (t.cols[k].k != 1) = false := by simpa using h1
   by_cases h2 : t.cols[k].mx = 1
   case neg =>
    have HC : Hid (condC t c = 9) := HE.out.trans (condK_no HK.out hF (.inr (.inl h2))); have g2 : (t.cols[k].mx != 1) = true := by simpa using h2
    clear h1 h2; rw [hF] at IN; clear hF HE; (go_enter Tryz.func90, Tryz.ntmps90); (go_wp2_with fail); refine (PL.out _ HB.out).mono ?_; rintro e w1 ⟨rfl, hb⟩; clear x0 x1 x2 x3 y0 y1 y2; have x1 := cell_at (o := 1) hb.a rfl; obtain ⟨y0, y1, y2⟩ := ck3 0 1 2 hb.b; obtain ⟨b2, off2, e2, -, hc2⟩ := (CL.out _ hb.bel).at k hk; simp only [Option.some.injEq, Addr.mk.injEq, and_true] at e2; obtain ⟨rfl, rfl⟩ := e2; have c1 := (hc2 k hk).2.1; have c3 := (hc2 k hk).2.2.2.1; clear hc2; have HB1 := Lib.hid hb.bel; clear hb; generalize t.cols[k] = x at *; (go_wp2_with fail); refine (IN.out _).mono ?_; rintro e w2 ⟨rfl, rfl⟩; (go_wp2_with fail); go_ret; exact ⟨ret_i HC.out.symm, HB1.out⟩
   have g2 : (t.cols[k].mx != 1) = false := by simpa using h2
   have h3 : ¬ c.val.length = 1 := by have := H0.out; omega
   have HC : Hid (condC t c = 9) := HE.out.trans (condK_no HK.out hF (.inr (.inr h3))); have g3 : ((c.val.length : Int) != 1) = true := by simpa [bne_iff_ne] using (by omega : ¬ (c.val.length : Int) = 1)
   clear h1 h2 h3; rw [hF] at IN; clear hF HE; (go_enter Tryz.func90, Tryz.ntmps90); (go_wp2_with fail); refine (PL.out _ HB.out).mono ?_; rintro e w1 ⟨rfl, hb⟩; clear x0 x1 x2 x3 y0 y1 y2; have x1 := cell_at (o := 1) hb.a rfl; obtain ⟨y0, y1, y2⟩ := ck3 0 1 2 hb.b; obtain ⟨b2, off2, e2, -, hc2⟩ := (CL.out _ hb.bel).at k hk; simp only [Option.some.injEq, Addr.mk.injEq, and_true] at e2; obtain ⟨rfl, rfl⟩ := e2; have c1 := (hc2 k hk).2.1; have c3 := (hc2 k hk).2.2.2.1; clear hc2; have HB1 := Lib.hid hb.bel; clear hb; generalize t.cols[k] = x at *; (go_wp2_with fail); refine (IN.out _).mono ?_; rintro e w2 ⟨rfl, rfl⟩; (go_wp2_with fail); go_ret; exact ⟨ret_i HC.out.symm, HB1.out⟩
  ·
   have HF := Lib.hid hf; have hd : decide (0 < c.val.length) = true := decide_eq_true (by omega); have hd0 : (0 : Int) < (c.val.length : Int) := by omega
   clear hf; have hkn1 := hkn (t.cols[k].k); clear hkn
   cases hq : (q != t.cols[k].k)
   case true =>
    have HC : Hid (condC t c = 9) := HE.out.trans (condK_kind (by rw [hkn1, hq])); clear HE hkn1 IN; (go_enter Tryz.func90, Tryz.ntmps90); (go_wp2_with fail); refine (PL.out _ HB.out).mono ?_; rintro e w1 ⟨rfl, hb⟩; clear x0 x1 x2 x3 y0 y1 y2; have x1 := cell_at (o := 1) hb.a rfl; obtain ⟨y0, y1, y2⟩ := ck3 0 1 2 hb.b; obtain ⟨b2, off2, e2, -, hc2⟩ := (CL.out _ hb.bel).at k hk; simp only [Option.some.injEq, Addr.mk.injEq, and_true] at e2; obtain ⟨rfl, rfl⟩ := e2; have c1 := (hc2 k hk).2.1; have c3 := (hc2 k hk).2.2.2.1; clear hc2; have f0 := HF.out _ (hb.bel.mono HW.out); have HB1 := Lib.hid hb.bel; clear hb; generalize t.cols[k] = x at *; (go_wp2_with fail); go_ret; exact ⟨ret_i HC.out.symm, HB1.out⟩
   have HK := Lib.hid (hkn1.trans hq)
   cases hF : inB 3 c.fn 6
   case false =>
    have HC : Hid (condC t c = 0) := HE.out.trans (condK_ok HK.out hF); rw [hF] at IN; clear hF HE; (go_enter Tryz.func90, Tryz.ntmps90); (go_wp2_with fail); refine (PL.out _ HB.out).mono ?_; rintro e w1 ⟨rfl, hb⟩; clear x0 x1 x2 x3 y0 y1 y2; have x1 := cell_at (o := 1) hb.a rfl; obtain ⟨y0, y1, y2⟩ := ck3 0 1 2 hb.b; obtain ⟨b2, off2, e2, -, hc2⟩ := (CL.out _ hb.bel).at k hk; simp only [Option.some.injEq, Addr.mk.injEq, and_true] at e2; obtain ⟨rfl, rfl⟩ := e2; have c1 := (hc2 k hk).2.1; have c3 := (hc2 k hk).2.2.2.1; clear hc2; have f0 := HF.out _ (hb.bel.mono HW.out); have HB1 := Lib.hid hb.bel; clear hb; generalize t.cols[k] = x at *; (go_wp2_with fail); refine (IN.out _).mono ?_; rintro e w2 ⟨rfl, rfl⟩; (go_wp2_with fail); go_ret; exact ⟨ret_i HC.out.symm, HB1.out⟩
   by_cases h1 : t.cols[k].k = 1
   case neg =>
    have HC : Hid (condC t c = 9) := HE.out.trans (condK_no HK.out hF (.inl h1)); have g1 : (t.cols[k].k != 1) = true := by simpa using h1
    clear h1; rw [hF] at IN; clear hF HE; (go_enter Tryz.func90, Tryz.ntmps90); (go_wp2_with fail); refine (PL.out _ HB.out).mono ?_; rintro e w1 ⟨rfl, hb⟩; clear x0 x1 x2 x3 y0 y1 y2; have x1 := cell_at (o := 1) hb.a rfl; obtain ⟨y0, y1, y2⟩ := ck3 0 1 2 hb.b; obtain ⟨b2, off2, e2, -, hc2⟩ := (CL.out _ hb.bel).at k hk; simp only [Option.some.injEq, Addr.mk.injEq, and_true] at e2; obtain ⟨rfl, rfl⟩ := e2; have c1 := (hc2 k hk).2.1; have c3 := (hc2 k hk).2.2.2.1; clear hc2; have f0 := HF.out _ (hb.bel.mono HW.out); have HB1 := Lib.hid hb.bel; clear hb; generalize t.cols[k] = x at *; (go_wp2_with fail); refine (IN.out _).mono ?_; rintro e w2 ⟨rfl, rfl⟩; (go_wp2_with fail); go_ret; exact ⟨ret_i HC.out.symm, HB1.out⟩
   have g1 : (t.cols[k].k != 1) = false := by simpa using h1
   by_cases h2 : t.cols[k].mx = 1
   case neg =>
    have HC : Hid (condC t c = 9) := HE.out.trans (condK_no HK.out hF (.inr (.inl h2))); have g2 : (t.cols[k].mx != 1) = true := by simpa using h2
    clear h1 h2; rw [hF] at IN; clear hF HE; (go_enter Tryz.func90, Tryz.ntmps90); (go_wp2_with fail); refine (PL.out _ HB.out).mono ?_; rintro e w1 ⟨rfl, hb⟩; clear x0 x1 x2 x3 y0 y1 y2; have x1 := cell_at (o := 1) hb.a rfl; obtain ⟨y0, y1, y2⟩ := ck3 0 1 2 hb.b; obtain ⟨b2, off2, e2, -, hc2⟩ := (CL.out _ hb.bel).at k hk; simp only [Option.some.injEq, Addr.mk.injEq, and_true] at e2; obtain ⟨rfl, rfl⟩ := e2; have c1 := (hc2 k hk).2.1; have c3 := (hc2 k hk).2.2.2.1; clear hc2; have f0 := HF.out _ (hb.bel.mono HW.out); have HB1 := Lib.hid hb.bel; clear hb; generalize t.cols[k] = x at *; (go_wp2_with fail); refine (IN.out _).mono ?_; rintro e w2 ⟨rfl, rfl⟩; (go_wp2_with fail); go_ret; exact ⟨ret_i HC.out.symm, HB1.out⟩
   have g2 : (t.cols[k].mx != 1) = false := by simpa using h2
   by_cases h3 : c.val.length = 1
   case pos =>
    have HC : Hid (condC t c = 0) := HE.out.trans (condK_yes HK.out h1 h2 h3); have g3 : ((c.val.length : Int) != 1) = false := by rw [h3]; rfl
    clear h1 h2 h3; rw [hF] at IN; clear hF HE; (go_enter Tryz.func90, Tryz.ntmps90); (go_wp2_with fail); refine (PL.out _ HB.out).mono ?_; rintro e w1 ⟨rfl, hb⟩; clear x0 x1 x2 x3 y0 y1 y2; have x1 := cell_at (o := 1) hb.a rfl; obtain ⟨y0, y1, y2⟩ := ck3 0 1 2 hb.b; obtain ⟨b2, off2, e2, -, hc2⟩ := (CL.out _ hb.bel).at k hk; simp only [Option.some.injEq, Addr.mk.injEq, and_true] at e2; obtain ⟨rfl, rfl⟩ := e2; have c1 := (hc2 k hk).2.1; have c3 := (hc2 k hk).2.2.2.1; clear hc2; have f0 := HF.out _ (hb.bel.mono HW.out); have HB1 := Lib.hid hb.bel; clear hb; generalize t.cols[k] = x at *; (go_wp2_with fail); refine (IN.out _).mono ?_; rintro e w2 ⟨rfl, rfl⟩; (go_wp2_with fail); go_ret; exact ⟨ret_i HC.out.symm, HB1.out⟩
   have HC : Hid (condC t c = 9) := HE.out.trans (condK_no HK.out hF (.inr (.inr h3))); have g3 : ((c.val.length : Int) != 1) = true := by simpa [bne_iff_ne] using (by omega : ¬ (c.val.length : Int) = 1)
   clear h1 h2 h3; rw [hF] at IN; clear hF HE; (go_enter Tryz.func90, Tryz.ntmps90); (go_wp2_with fail); refine (PL.out _ HB.out).mono ?_; rintro e w1 ⟨rfl, hb⟩; clear x0 x1 x2 x3 y0 y1 y2; have x1 := cell_at (o := 1) hb.a rfl; obtain ⟨y0, y1, y2⟩ := ck3 0 1 2 hb.b; obtain ⟨b2, off2, e2, -, hc2⟩ := (CL.out _ hb.bel).at k hk; simp only [Option.some.injEq, Addr.mk.injEq, and_true] at e2; obtain ⟨rfl, rfl⟩ := e2; have c1 := (hc2 k hk).2.1; have c3 := (hc2 k hk).2.2.2.1; clear hc2; have f0 := HF.out _ (hb.bel.mono HW.out); have HB1 := Lib.hid hb.bel; clear hb; generalize t.cols[k] = x at *; (go_wp2_with fail); refine (IN.out _).mono ?_; rintro e w2 ⟨rfl, rfl⟩; (go_wp2_with fail); go_ret; exact ⟨ret_i HC.out.symm, HB1.out⟩
end Go.Proofs.YtlbcaaodkggohaaGreatDoor
