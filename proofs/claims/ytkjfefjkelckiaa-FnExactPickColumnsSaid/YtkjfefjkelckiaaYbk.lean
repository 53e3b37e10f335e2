import Derived.Test.YtkjfefjkelckiaaYah
import Derived.Deep.CutRange
import Derived.Deep.QuietTactic
import Derived.Test.YtkjfefjkelckiaaYaq
import Derived.ArgAppend
import Derived.OwnWalk
import Derived.Test.YtkjfefjkelckiaaYav
import Derived.Test.YtkjfefjkelckiaaYbj
import Derived.WalkSpells
import Derived.WalkLawsBesides
import Derived.Test.YtkjfefjkelckiaaYbf
import Derived.Deep.RegionHeld3
namespace Go.Proofs.Ytkjfefjkelckiaa
open Go.RowKit
set_option linter.unusedSimpArgs false
noncomputable def cellOf (t : Tb) (r : RowV) (s : List UInt8) : List At := if placeC t.cols s < 0 then [⟨4, r.id, []⟩] else r.cells.getD (placeC t.cols s).toNat []
theorem cell_id {t : Tb} {r : RowV} {s : List UInt8} (hp : placeC t.cols s = -1) : cellOf t r s = [⟨4, r.id, []⟩] := by unfold cellOf; rw [hp, if_pos (by omega)]
theorem cell_col {t : Tb} {r : RowV} {s : List UInt8} {k : Nat} (hk : k < r.cells.length) (hp : placeC t.cols s = (k : Int)) : cellOf t r s = r.cells[k] := by
  unfold cellOf; rw [hp, if_neg (by omega), Int.toNat_natCast, List.getD_eq_getElem?_getD, List.getElem?_eq_getElem hk]; rfl
theorem row_of {t : Tb} {id : Int} {l : List (List At)} (h : rowB t id l = true) : RowP t id l := by
  unfold rowB at h; exact @of_decide_eq_true _ (Classical.propDecidable _) h
theorem rd_one (W : World) (x : At) (ty : TypeId) : Rd (W.alloc (.cells #[.int .i64 x.k, .int .i64 x.n, .string ⟨x.t.toArray⟩] ty)) (fun _ => True) (dAtomS [x]) (.slice (some ⟨W.heap.size, 0, none⟩) 1 1) := by
  refine ⟨_, _, rfl, .inr ⟨W.heap.size, 0, rfl, trivial, by omega, fun i j hi hj => ?_⟩⟩
  have hi' : i = 0 := by simpa using hi
  subst hi'
  rw [Nat.zero_mul, Nat.add_zero, Nat.zero_add]
  rcases (by omega : j = 0 ∨ j = 1 ∨ j = 2) with rfl | rfl | rfl
  · exact ⟨_, cell_at (o := 0) (heap_newD _ _) rfl, rfl⟩
  · exact ⟨_, cell_at (o := 1) (heap_newD _ _) rfl, rfl⟩
  · exact ⟨_, cell_at (o := 2) (heap_newD _ _) rfl, rfl⟩
def CellAns (w : World) (l : List At) (e : Ending) (w' : World) : Prop := ∃ (a : Option Addr) (q : Nat), e = .returned (.slice a l.length q) ∧ Rd w' (fun _ => True) (dAtomS l) (.slice a l.length q) ∧ Below w.heap.size w w'
theorem CellAns.new {w W : World} {l : List At} {x : At} {ty : TypeId} (HE : Hid (l = [x])) (hB : Below w.heap.size w W) : CellAns w l (.returned (.slice (some ⟨W.heap.size, 0, none⟩) 1 1)) (W.alloc (.cells #[.int .i64 x.k, .int .i64 x.n, .string ⟨x.t.toArray⟩] ty)) := by
  have h := HE.out
  subst h
  exact ⟨_, _, rfl, rd_one _ _ _, hB.alloc hB.size _⟩
set_option maxRecDepth 100000 in
set_option maxHeartbeats 3200000 in
theorem cellS (t : Tb) (r : RowV) (s : List UInt8) (ca : Option Addr) (cc : Nat) (ua : Option Addr) (uc : Nat) (ra : Option Addr) (rc : Nat) (A B : Nat → Prop) (w : World) (ho : t.ok) (hlen : r.cells.length = t.cols.length) (hT : t.Has w A ca ua) (hR : Rd w B (dAtomSS r.cells) (.slice ra r.cells.length rc)) :
    Calls Try.prog 95 #[.agg #[.string ⟨t.nm.toArray⟩, .slice ca t.cols.length cc, .slice ua t.uq.length uc, .bool t.rt], .agg #[.int .i64 r.id, .slice ra r.cells.length rc], .string ⟨s.toArray⟩] w (CellAns w (cellOf t r s)) := by
  have PL : Hid (∀ W, BoxE 55 50 w W #[.string ⟨t.nm.toArray⟩, .slice ca t.cols.length cc, .slice ua t.uq.length uc, .bool t.rt] #[.int .i64 r.id, .slice ra r.cells.length rc] → Calls Try.prog 48 #[.agg #[.string ⟨t.nm.toArray⟩, .slice ca t.cols.length cc, .slice ua t.uq.length uc, .bool t.rt], .string ⟨s.toArray⟩] W fun e w' => e = .returned (.int .i64 (placeC t.cols s)) ∧ BoxE 55 50 w w' #[.string ⟨t.nm.toArray⟩, .slice ca t.cols.length cc, .slice ua t.uq.length uc, .bool t.rt] #[.int .i64 r.id, .slice ra r.cells.length rc]) := fun W h => (placeS t s ca cc ua uc A W ho.2.1 (hT.later h.bel)).mono (fun e w' ⟨he, hB⟩ => ⟨he, h.later hB⟩)
  have HR : Hid (∀ W, Below w.heap.size w W → Rd W B (Ls 1 cAtomS r.cells) (.slice ra r.cells.length rc)) := fun W h => Rd.later hR h
  have hb := boxE 55 50 w #[.string ⟨t.nm.toArray⟩, .slice ca t.cols.length cc, .slice ua t.uq.length uc, .bool t.rt] #[.int .i64 r.id, .slice ra r.cells.length rc]
  have hcl := ho.2.1
  unfold maxLen at hcl
  have x0 := cell_at (o := 0) hb.a rfl
  have x1 := cell_at (o := 1) hb.a rfl
  have x2 := cell_at (o := 2) hb.a rfl
  have x3 := cell_at (o := 3) hb.a rfl
  have y0 := cell_at (o := 0) hb.b rfl
  have y1 := cell_at (o := 1) hb.b rfl
  have HB := Lib.hid hb
  clear ho hT hR hb
  rcases place_cases t.cols s with hp | ⟨k, hk, hp⟩
  · have HE := Lib.hid (cell_id (r := r) hp)
    rw [hp] at PL
    clear hp HR hlen
    go_enter Try.func95, Try.ntmps95
    go_wp2_with fail
    refine (PL.out _ HB.out).mono ?_
    rintro e w1 ⟨rfl, hb⟩
    clear x0 x1 x2 x3 y0 y1
    have y0 := cell_at (o := 0) hb.b rfl
    have y1 := cell_at (o := 1) hb.b rfl
    have HB1 := Lib.hid hb.bel
    clear hb
    go_wp2_with fail
    go_ret
    exact CellAns.new (x := ⟨4, r.id, []⟩) HE HB1.out
  · have hk2 : k < r.cells.length := by omega
    have HE := Lib.hid (cell_col hk2 hp)
    have hk1 : (k : Int) < (r.cells.length : Int) := by omega
    have hk0 : decide ((k : Int) < (0 : Int)) = false := decide_eq_false (by omega)
    rw [hp] at PL
    clear hp hlen
    go_enter Try.func95, Try.ntmps95
    go_wp2_with fail
    refine (PL.out _ HB.out).mono ?_
    rintro e w1 ⟨rfl, hb⟩
    clear x0 x1 x2 x3 y0 y1
    have y0 := cell_at (o := 0) hb.b rfl
    have y1 := cell_at (o := 1) hb.b rfl
    have HB1 := Lib.hid hb.bel
    obtain ⟨b, off, rfl, -, hc⟩ := (HR.out _ hb.bel).things k hk2
    obtain ⟨u0, c0, r0⟩ := hc 0 (by omega)
    replace r0 : Rd w1 B (dAtomS r.cells[k]) u0 := r0
    obtain ⟨va, vq, rfl⟩ := r0.lsSlice
    rw [Nat.mul_one, Nat.add_zero] at c0
    have HR0 := Lib.hid r0.any
    clear hc r0
    generalize r.cells[k] = x at *
    clear hb
    go_wp2_with fail
    go_ret
    exact ⟨va, vq, by rw [HE.out]; rfl, by rw [HE.out]; exact HR0.out, HB1.out⟩
end Go.Proofs.Ytkjfefjkelckiaa
