import Derived.Test.YtajhjjpanjpfoaaZbg
import Derived.Test.YtajhjjpanjpfoaaZau
import Derived.Deep.CutRange
import Derived.Deep.QuietTactic
import Derived.Test.YtajhjjpanjpfoaaZaj
import Derived.WalkSpells
import Derived.WalkLawsBesides
import Derived.Test.YtajhjjpanjpfoaaZbe
import Derived.Deep.RegionHeld3
namespace Go.Proofs.Ytajhjjpanjpfoaa
open Go.RowKit
set_option linter.unusedSimpArgs false
def idC : Cl := ⟨[95, 117, 117, 105, 100], 4, 0, 1, 0, 0, [], false⟩
noncomputable def askX (t : Tb) (s : List UInt8) : Cl := if placeC t.cols s < 0 then (if s = idN then idC else clZ) else t.cols.getD (placeC t.cols s).toNat clZ
noncomputable def askT (t : Tb) (s : List UInt8) : Bool := !(decide (placeC t.cols s < 0) && decide (s ≠ idN))
theorem ask_none {t : Tb} {s : List UInt8} (hp : placeC t.cols s = -1) (hn : s ≠ idN) : askX t s = clZ ∧ askT t s = false := by
  unfold askX askT; rw [hp]; exact ⟨by rw [if_pos (by omega), if_neg hn], by simp [hn]⟩
theorem ask_id {t : Tb} {s : List UInt8} (hp : placeC t.cols s = -1) (hn : s = idN) : askX t s = idC ∧ askT t s = true := by
  unfold askX askT; rw [hp]; exact ⟨by rw [if_pos (by omega), if_pos hn], by simp [hn]⟩
theorem ask_at {t : Tb} {s : List UInt8} {k : Nat} (hk : k < t.cols.length) (hp : placeC t.cols s = (k : Int)) : askX t s = t.cols[k] ∧ askT t s = true := by
  unfold askX askT; rw [hp]; exact ⟨by rw [if_neg (by omega), Int.toNat_natCast, List.getD_eq_getElem?_getD, List.getElem?_eq_getElem hk]; rfl, by rw [decide_eq_false (by omega)]; rfl⟩
theorem below8 {w W : World} (b : Nat) (h : Below w.heap.size w W) (hb : w.heap.size ≤ b) (v0 v1 v2 v3 v4 v5 v6 v7 : Value) : Below w.heap.size w ((((((((W.setCell ⟨b, 0, none⟩ v0).setCell ⟨b, 1, none⟩ v1).setCell ⟨b, 2, none⟩ v2).setCell ⟨b, 3, none⟩ v3).setCell ⟨b, 4, none⟩ v4).setCell ⟨b, 5, none⟩ v5).setCell ⟨b, 6, none⟩ v6).setCell ⟨b, 7, none⟩ v7) :=
  (((((((h.setCell hb _).setCell hb _).setCell hb _).setCell hb _).setCell hb _).setCell hb _).setCell hb _).setCell hb _
set_option maxRecDepth 100000 in
set_option maxHeartbeats 6400000 in
theorem askedI (t : Tb) (s : List UInt8) (ca : Option Addr) (cc : Nat) (ua : Option Addr) (uc : Nat) (B : Nat → Prop) (w : World) (ho : t.ok) (hT : t.Has w B ca ua) :
    Calls Try.prog 51 #[.agg #[.string ⟨t.nm.toArray⟩, .slice ca t.cols.length cc, .slice ua t.uq.length uc, .bool t.rt], .string ⟨s.toArray⟩] w fun e w' => e = .returned (.tuple #[.agg #[.string ⟨(askX t s).nm.toArray⟩, .int .i64 (askX t s).k, .int .i64 (askX t s).mn, .int .i64 (askX t s).mx, .int .i64 (askX t s).lo, .int .i64 (askX t s).hi, .string ⟨(askX t s).rf.toArray⟩, .bool (askX t s).st], .bool (askT t s)]) ∧ Below w.heap.size w w' := by
  have PL : Hid (∀ W, BoxE 27 47 w W #[.string ⟨t.nm.toArray⟩, .slice ca t.cols.length cc, .slice ua t.uq.length uc, .bool t.rt] #[.string ⟨#[]⟩, .int .i64 0, .int .i64 0, .int .i64 0, .int .i64 0, .int .i64 0, .string ⟨#[]⟩, .bool false] → Calls Try.prog 23 #[.agg #[.string ⟨t.nm.toArray⟩, .slice ca t.cols.length cc, .slice ua t.uq.length uc, .bool t.rt], .string ⟨s.toArray⟩] W fun e w' => e = .returned (.int .i64 (placeC t.cols s)) ∧ BoxE 27 47 w w' #[.string ⟨t.nm.toArray⟩, .slice ca t.cols.length cc, .slice ua t.uq.length uc, .bool t.rt] #[.string ⟨#[]⟩, .int .i64 0, .int .i64 0, .int .i64 0, .int .i64 0, .int .i64 0, .string ⟨#[]⟩, .bool false]) := fun W h => (placeI t s ca cc ua uc B W ho.2.1 (hT.later h.bel)).mono (fun e w' ⟨he, hB⟩ => ⟨he, h.later hB⟩)
  have CL : Hid (∀ W, Below w.heap.size w W → Cols W B ca t.cols) := fun W h => hT.1.later h
  have hb := boxE 27 47 w #[.string ⟨t.nm.toArray⟩, .slice ca t.cols.length cc, .slice ua t.uq.length uc, .bool t.rt] #[.string ⟨#[]⟩, .int .i64 0, .int .i64 0, .int .i64 0, .int .i64 0, .int .i64 0, .string ⟨#[]⟩, .bool false]
  have x0 := cell_at (o := 0) hb.a rfl
  have x1 := cell_at (o := 1) hb.a rfl
  have x2 := cell_at (o := 2) hb.a rfl
  have x3 := cell_at (o := 3) hb.a rfl
  have HB := Lib.hid hb
  have hcl := ho.2.1
  unfold maxLen at hcl
  clear ho hT hb
  rcases place_cases t.cols s with hp | ⟨k, hk, hp⟩
  · by_cases hn : s = idN
    case neg =>
      have HE := Lib.hid (ask_none hp hn)
      have hn1 : (s == [95, 117, 117, 105, 100]) = false := by simpa [idN] using hn
      rw [hp] at PL
      clear hp hn
      go_enter Try.func51, Try.ntmps51
      go_wp2_with fail
      refine (PL.out _ HB.out).mono ?_
      rintro e w1 ⟨rfl, hb⟩
      clear x0 x1 x2 x3
      have x1 := cell_at (o := 1) hb.a rfl
      have r0 := cell_at (o := 0) hb.b rfl
      have g0 := frozen_at 0 hb.b
      have r1 := cell_at (o := 1) hb.b rfl
      have g1 := frozen_at 1 hb.b
      have r2 := cell_at (o := 2) hb.b rfl
      have g2 := frozen_at 2 hb.b
      have r3 := cell_at (o := 3) hb.b rfl
      have g3 := frozen_at 3 hb.b
      have r4 := cell_at (o := 4) hb.b rfl
      have g4 := frozen_at 4 hb.b
      have r5 := cell_at (o := 5) hb.b rfl
      have g5 := frozen_at 5 hb.b
      have r6 := cell_at (o := 6) hb.b rfl
      have g6 := frozen_at 6 hb.b
      have r7 := cell_at (o := 7) hb.b rfl
      have g7 := frozen_at 7 hb.b
      have HB1 := Lib.hid hb.bel
      clear hb
      go_wp2_with fail
      refine bodyPost_ret (v := .tuple #[.agg #[.string ⟨clZ.nm.toArray⟩, .int .i64 clZ.k, .int .i64 clZ.mn, .int .i64 clZ.mx, .int .i64 clZ.lo, .int .i64 clZ.hi, .string ⟨clZ.rf.toArray⟩, .bool clZ.st], .bool false]) (by simp [results, Try.results51, go_sem, idC, clZ, *]) rfl ?_
      exact ⟨by rw [HE.out.1, HE.out.2], below8 _ HB1.out (by omega) _ _ _ _ _ _ _ _⟩
    have HE := Lib.hid (ask_id hp hn)
    have hn1 : (s == [95, 117, 117, 105, 100]) = true := by simpa [idN] using hn
    rw [hp] at PL
    clear hp hn
    go_enter Try.func51, Try.ntmps51
    go_wp2_with fail
    refine (PL.out _ HB.out).mono ?_
    rintro e w1 ⟨rfl, hb⟩
    clear x0 x1 x2 x3
    have x1 := cell_at (o := 1) hb.a rfl
    have r0 := cell_at (o := 0) hb.b rfl
    have g0 := frozen_at 0 hb.b
    have r1 := cell_at (o := 1) hb.b rfl
    have g1 := frozen_at 1 hb.b
    have r2 := cell_at (o := 2) hb.b rfl
    have g2 := frozen_at 2 hb.b
    have r3 := cell_at (o := 3) hb.b rfl
    have g3 := frozen_at 3 hb.b
    have r4 := cell_at (o := 4) hb.b rfl
    have g4 := frozen_at 4 hb.b
    have r5 := cell_at (o := 5) hb.b rfl
    have g5 := frozen_at 5 hb.b
    have r6 := cell_at (o := 6) hb.b rfl
    have g6 := frozen_at 6 hb.b
    have r7 := cell_at (o := 7) hb.b rfl
    have g7 := frozen_at 7 hb.b
    have HB1 := Lib.hid hb.bel
    clear hb
    go_wp2_with fail
    refine bodyPost_ret (v := .tuple #[.agg #[.string ⟨idC.nm.toArray⟩, .int .i64 idC.k, .int .i64 idC.mn, .int .i64 idC.mx, .int .i64 idC.lo, .int .i64 idC.hi, .string ⟨idC.rf.toArray⟩, .bool idC.st], .bool true]) (by simp [results, Try.results51, go_sem, idC, clZ, *]) rfl ?_
    exact ⟨by rw [HE.out.1, HE.out.2], below8 _ HB1.out (by omega) _ _ _ _ _ _ _ _⟩
  · have HE := Lib.hid (ask_at hk hp)
    have hk1 : (k : Int) < (t.cols.length : Int) := by omega
    have hk0 : decide ((0 : Int) ≤ (k : Int)) = true := decide_eq_true (by omega)
    obtain ⟨b1, off1, rfl, -, -⟩ := (CL.out _ (Below.refl _ _)).at k hk
    rw [hp] at PL
    clear hp
    go_enter Try.func51, Try.ntmps51
    go_wp2_with fail
    refine (PL.out _ HB.out).mono ?_
    rintro e w1 ⟨rfl, hb⟩
    clear x0 x1 x2 x3
    have x1 := cell_at (o := 1) hb.a rfl
    have r0 := cell_at (o := 0) hb.b rfl
    have g0 := frozen_at 0 hb.b
    have r1 := cell_at (o := 1) hb.b rfl
    have g1 := frozen_at 1 hb.b
    have r2 := cell_at (o := 2) hb.b rfl
    have g2 := frozen_at 2 hb.b
    have r3 := cell_at (o := 3) hb.b rfl
    have g3 := frozen_at 3 hb.b
    have r4 := cell_at (o := 4) hb.b rfl
    have g4 := frozen_at 4 hb.b
    have r5 := cell_at (o := 5) hb.b rfl
    have g5 := frozen_at 5 hb.b
    have r6 := cell_at (o := 6) hb.b rfl
    have g6 := frozen_at 6 hb.b
    have r7 := cell_at (o := 7) hb.b rfl
    have g7 := frozen_at 7 hb.b
    obtain ⟨b2, off2, e2, -, hc2⟩ := (CL.out _ hb.bel).at k hk
    simp only [Option.some.injEq, Addr.mk.injEq, and_true] at e2
    obtain ⟨rfl, rfl⟩ := e2
    obtain ⟨c0, c1, c2, c3, c4, c5, c6, c7⟩ := hc2 k hk
    clear hc2
    have HB1 := Lib.hid hb.bel
    clear hb
    generalize t.cols[k] = x at *
    go_wp2_with fail
    refine bodyPost_ret (v := .tuple #[.agg #[.string ⟨x.nm.toArray⟩, .int .i64 x.k, .int .i64 x.mn, .int .i64 x.mx, .int .i64 x.lo, .int .i64 x.hi, .string ⟨x.rf.toArray⟩, .bool x.st], .bool true]) (by simp [results, Try.results51, go_sem, idC, clZ, *]) rfl ?_
    exact ⟨by rw [HE.out.1, HE.out.2], below8 _ HB1.out (by omega) _ _ _ _ _ _ _ _⟩
end Go.Proofs.Ytajhjjpanjpfoaa
namespace Go.Proofs.Ytajhjjpanjpfoaa
open Go.RowKit
set_option linter.unusedSimpArgs false
noncomputable def cellOf (t : Tb) (r : RowV) (s : List UInt8) : List At := if placeC t.cols s < 0 then [⟨4, r.id, []⟩] else r.cells.getD (placeC t.cols s).toNat []
theorem cell_id {t : Tb} {r : RowV} {s : List UInt8} (hp : placeC t.cols s = -1) : cellOf t r s = [⟨4, r.id, []⟩] := by unfold cellOf; rw [hp, if_pos (by omega)]
theorem cell_col {t : Tb} {r : RowV} {s : List UInt8} {k : Nat} (hk : k < r.cells.length) (hp : placeC t.cols s = (k : Int)) : cellOf t r s = r.cells[k] := by
  unfold cellOf; rw [hp, if_neg (by omega), Int.toNat_natCast, List.getD_eq_getElem?_getD, List.getElem?_eq_getElem hk]; rfl
theorem row_of {t : Tb} {id : Int} {l : List (List At)} (h : rowB t id l = true) : RowP t id l := by
  unfold rowB at h; exact @of_decide_eq_true _ (Classical.propDecidable _) h
end Go.Proofs.Ytajhjjpanjpfoaa
