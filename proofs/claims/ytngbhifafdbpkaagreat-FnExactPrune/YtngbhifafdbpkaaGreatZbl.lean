import Derived.Test.YtngbhifafdbpkaaGreatZap
import Derived.Test.YtngbhifafdbpkaaGreatZal
import Derived.Test.YtngbhifafdbpkaaGreatZan
import Derived.Test.YtngbhifafdbpkaaGreatZas
import Derived.Test.YtngbhifafdbpkaaGreatZax
import Derived.Test.YtngbhifafdbpkaaGreatZay
import Derived.Deep.CutRange
import Derived.Deep.QuietTactic
import Derived.Test.YtngbhifafdbpkaaGreatZba
import Derived.Maps.OwnSet
import Derived.Maps.OwnOps
import Derived.Maps.Views
import Derived.Deep.RegionHeld3
import Derived.Test.YtngbhifafdbpkaaGreatZTk
namespace Go.Proofs.YtngbhifafdbpkaaGreat
open Go.RowKit
set_option linter.unusedSimpArgs false
theorem cell_keptS {w w' : World} {b o : Nat} {v : Value} (h : w.cell? ⟨b, o, none⟩ = some v) (hB : Below w.heap.size w w') : w'.cell? ⟨b, o, none⟩ = some v := (hB.cell (p := ⟨b, o, none⟩) (World.block_lt_of_cell? _ _ h)).trans h
theorem tabsAt {w : World} {B : Nat → Prop} {l : List (List RowV)} {xa : Option Addr} {xc i : Nat} (h : Rd w B (dRowSS l) (.slice xa l.length xc)) (hi : i < l.length) : ∃ xb xo ra rq, xa = some ⟨xb, xo, none⟩ ∧ ∀ W, Below w.heap.size w W → W.cell? ⟨xb, xo + i, none⟩ = some (.slice ra l[i].length rq) ∧ Rd W B (dRowS l[i]) (.slice ra l[i].length rq) := by
  obtain ⟨b, off, rfl, -, hd⟩ := Rd.things (d := cRowS) (n := 1) h i hi
  obtain ⟨u, q0, r0⟩ := hd 0 (by omega)
  replace r0 : Rd w B (dRowS l[i]) u := r0
  obtain ⟨ra, rq, rfl⟩ := r0.lsSlice
  rw [Nat.mul_one, Nat.add_zero] at q0
  exact ⟨b, off, ra, rq, rfl, fun W hB => ⟨cell_keptS q0 hB, r0.later hB⟩⟩
theorem rowsAt {w : World} {B : Nat → Prop} {l : List RowV} {ra : Option Addr} {rq k : Nat} (h : Rd w B (dRowS l) (.slice ra l.length rq)) (hk : k < l.length) : ∃ rb ro ca cq, ra = some ⟨rb, ro, none⟩ ∧ ∀ W, Below w.heap.size w W → W.cell? ⟨rb, ro + k * 2, none⟩ = some (.int .i64 l[k].id) ∧ W.cell? ⟨rb, ro + k * 2 + 1, none⟩ = some (.slice ca l[k].cells.length cq) ∧ Rd W B (dAtomSS l[k].cells) (.slice ca l[k].cells.length cq) := by
  obtain ⟨b, off, rfl, -, hd⟩ := Rd.things (d := dRow) (n := 2) h k hk
  obtain ⟨u0, q0, r0⟩ := hd 0 (by omega)
  obtain rfl : u0 = .int .i64 l[k].id := r0
  rw [Nat.add_zero] at q0
  obtain ⟨u1, q1, r1⟩ := hd 1 (by omega)
  replace r1 : Rd w B (dAtomSS l[k].cells) u1 := r1
  obtain ⟨ca, cq, rfl⟩ := r1.lsSlice
  exact ⟨b, off, ca, cq, rfl, fun W hB => ⟨cell_keptS q0 hB, cell_keptS q1 hB, r1.later hB⟩⟩
theorem tblAt {w : World} {A : Nat → Prop} {l : List Tb} {sa : Option Addr} {sc i : Nat} (h : Rd w A (dTableS l) (.slice sa l.length sc)) (hi : i < l.length) : ∃ tq tf ca cc ua uc, sa = some ⟨tq, tf, none⟩ ∧ ∀ W, Below w.heap.size w W → W.cell? ⟨tq, tf + i * 4, none⟩ = some (.string ⟨l[i].nm.toArray⟩) ∧ W.cell? ⟨tq, tf + i * 4 + 1, none⟩ = some (.slice ca l[i].cols.length cc) ∧ W.cell? ⟨tq, tf + i * 4 + 2, none⟩ = some (.slice ua l[i].uq.length uc) ∧ W.cell? ⟨tq, tf + i * 4 + 3, none⟩ = some (.bool l[i].rt) ∧ Rd W A (dColumnS l[i].cols) (.slice ca l[i].cols.length cc) ∧ Rd W A (dIntS l[i].uq) (.slice ua l[i].uq.length uc) := by
  obtain ⟨b, off, rfl, -, hd⟩ := Rd.things (d := dTable) (n := 4) h i hi
  obtain ⟨u0, q0, r0⟩ := hd 0 (by omega)
  obtain rfl : u0 = .string ⟨l[i].nm.toArray⟩ := r0
  rw [Nat.add_zero] at q0
  obtain ⟨u1, q1, r1⟩ := hd 1 (by omega)
  replace r1 : Rd w A (dColumnS l[i].cols) u1 := r1
  obtain ⟨ca, cc, rfl⟩ := r1.lsSlice
  obtain ⟨u2, q2, r2⟩ := hd 2 (by omega)
  replace r2 : Rd w A (dIntS l[i].uq) u2 := r2
  obtain ⟨ua, uc, rfl⟩ := r2.lsSlice
  obtain ⟨u3, q3, r3⟩ := hd 3 (by omega)
  obtain rfl : u3 = .bool l[i].rt := r3
  exact ⟨b, off, ca, cc, ua, uc, rfl, fun W hB => ⟨cell_keptS q0 hB, cell_keptS q1 hB, cell_keptS q2 hB, cell_keptS q3 hB, r1.later hB, r2.later hB⟩⟩
end Go.Proofs.YtngbhifafdbpkaaGreat
namespace Go.Proofs.YtngbhifafdbpkaaGreat
open Go.RowKit
set_option linter.unusedSimpArgs false
theorem sch_ofU {l : List Tb} (h : schB l = true) : SchP l := by unfold schB at h; exact @of_decide_eq_true _ (Classical.propDecidable _) h
theorem tab_ofU {t : Tb} (h : tabB t = true) : TabP t := by unfold tabB at h; exact @of_decide_eq_true _ (Classical.propDecidable _) h
theorem row_ofU {t : Tb} {id : Int} {l : List (List At)} (h : rowB t id l = true) : RowP t id l := by unfold rowB at h; exact @of_decide_eq_true _ (Classical.propDecidable _) h
end Go.Proofs.YtngbhifafdbpkaaGreat
namespace Go.Proofs.YtngbhifafdbpkaaGreat
open Go.RowKit Go.Maps
set_option linter.unusedSimpArgs false
def ptrR : Value → Option (DataW Value × List MemPlace) := fun v => some (.held v, [])
theorem intK : Keyed Tryz.prog 3 := int_keyed Tryz.underlying3
def ptrOf (l : List RowV) (rb roff : Nat) : Nat → Int → Value
  | 0, _ => .pointer none
  | k + 1, id => if (l.getD k rowZ).id = id then .pointer (some ⟨rb, roff + k * 2, none⟩) else ptrOf l rb roff k id
theorem ptr_none {l : List RowV} {rb roff : Nat} {id : Int} : ∀ {k : Nat}, k ≤ l.length → (∀ m (h : m < l.length), l[m].id ≠ id) → ptrOf l rb roff k id = .pointer none
  | 0, _, _ => rfl
  | k + 1, hk, hn => by
    rw [ptrOf, getD_tab (by omega), if_neg (hn k (by omega))]
    exact ptr_none (by omega) hn
def ShM (D : DataW Value) (l : List RowV) (rb roff k : Nat) : Prop := ∀ id : Int, D.atKey (.int .i64 id) (.held (.pointer none)) = .held (ptrOf l rb roff k id)
theorem ShM.put {D : DataW Value} {l : List RowV} {rb roff k : Nat} (h : ShM D l rb roff k) (hD : IsMap D) (hk : k < l.length) : ShM (D.put (.int .i64 l[k].id) (.held (.pointer (some ⟨rb, roff + k * 2, none⟩)))) l rb roff (k + 1) := fun id => by
  rw [ptrOf, getD_tab hk]
  by_cases e : l[k].id = id
  · subst e
    rw [if_pos rfl, atKey_put_same hD (by simp [WideAt.IsKeyLit])]
  · rw [if_neg e, atKey_put_other (by simpa using fun h => e h.symm), h id]
theorem run_makeMapR (n : Int) (w : World) : (Instr.makeMap 95 (some (.int .i64 n))).run Tryz.prog w = .ok (.map (some w.heap.size)) (w.alloc (.map #[] 0)) := by
  simp [Instr.makeMap, run_underlying Tryz.underlying95, asInt, asIntOf, Result.andThen]
def ShAns (l : List RowV) (rb roff : Nat) (w : World) (e : Ending) (w' : World) : Prop := ∃ m D, e = .returned (.map (some m)) ∧ w'.ownsMap Tryz.prog 3 ptrR m l.length D ∧ ShM D l rb roff l.length ∧ w.heap.size ≤ m ∧ Below w.heap.size w w'
set_option maxRecDepth 100000 in
set_option maxHeartbeats 3200000 in
theorem shelveI (l : List RowV) (a : Option Addr) (c rb roff : Nat) (B : Nat → Prop) (w : World) (ha : 0 < l.length → a = some ⟨rb, roff, none⟩) (ho : (dRowS l).le maxLen) (hS : Rd w B (dRowS l) (.slice a l.length c)) :
    Calls Tryz.prog 49 #[.slice a l.length c] w (ShAns l rb roff w) := by
  have hl : l.length ≤ maxLen := (Ls_le.1 ho).2.1
  unfold maxLen at hl
  have HI : Hid (∀ i (h : i < l.length), iOK l[i].id) := fun i h => (Ls_le.1 ho).2.2 i h 0 (by omega)
  have HS : Hid (∀ W, Below w.heap.size w W → Rd W (· < w.heap.size) (Ls 2 dRow l) (.slice a l.length c)) := fun W h => Rd.same (fun b hb => h.block b hb) (fun _ h => h) _ _ hS.lt
  have HA := Lib.hid ha
  have hmm := run_makeMapR (l.length : Int)
  have H0 : Hid (Below w.heap.size w (w.alloc (.map #[] 0)) ∧ ∃ D, IsMap D ∧ (w.alloc (.map #[] 0)).ownsMap Tryz.prog 3 ptrR w.heap.size 0 D ∧ ShM D l rb roff 0) := ⟨below_allocD _ _, _, isMap_empty, World.ownsMap_made (H := Value) w Tryz.prog 3 ptrR, fun id => rfl⟩
  clear ho hS ha
  go_enter Tryz.func49, Tryz.ntmps49
  go_wp2_with fail
  clear hmm
  go_loopw [10] (fun i wr => ∃ k : Nat, k ≤ l.length ∧ i = .int .i64 k ∧ Hid (Below w.heap.size w wr ∧ ∃ D, IsMap D ∧ wr.ownsMap Tryz.prog 3 ptrR w.heap.size k D ∧ ShM D l rb roff k)) (fun i _ => l.length - (intOf i).toNat)
  case atStart => exact ⟨0, Nat.zero_le _, rfl, H0.out⟩
  case round =>
    obtain ⟨k, hk, rfl, HW⟩ := hrel
    obtain ⟨hb, D, hD, hown, hP⟩ := HW.out
    by_cases hlt : k < l.length
    case neg =>
      have hk' : k = l.length := by omega
      subst hk'
      have hkd : decide ((l.length : Int) < (l.length : Int)) = false := by simp
      have HX := Lib.hid hb
      have HOW := Lib.hid (And.intro hown hP)
      clear HW hb hown hP hD
      go_wp2_with fail
      go_ret
      exact ⟨_, D, rfl, HOW.out.1, HOW.out.2, Nat.le_refl _, HX.out⟩
    have hki : (k : Int) < (l.length : Int) := by omega
    obtain rfl := HA.out (by omega)
    have CE : Hid (∀ W, Below w.heap.size w W → W.cell? ⟨rb, roff + k * 2, none⟩ = some (.int .i64 l[k].id)) := fun W h => by
      obtain ⟨u, e, r⟩ := (HS.out W h).spotT hlt (j := 0) (by omega)
      obtain rfl : u = .int .i64 l[k].id := r
      exact e
    have hkey : keyOf Tryz.prog 3 (.int .i64 l[k].id) = some (.int .i64 l[k].id) := keyOf_int_mk Tryz.underlying3 (HI.out k hlt)
    obtain ⟨w1, hrun, hown1, hgr1⟩ := World.ownsMap.update (w := wr.drew) (t := 95) (val := .pointer (some ⟨rb, roff + k * 2, none⟩)) hown.drew intK Tryz.underlying95 (by unfold maxLen; omega) hkey rfl
    have HB := Lib.hid hb
    have HB1 : Hid (Below w.heap.size w w1) := hb.drew.grown hgr1 hb.size (fun q hq => by cases hq; exact Nat.le_refl _)
    have HN := Lib.hid (And.intro (hD.put (.int .i64 l[k].id) (.held (.pointer (some ⟨rb, roff + k * 2, none⟩)))) (And.intro hown1 (hP.put hD hlt)))
    clear HW hb hown hP hD hown1 hgr1 hkey
    generalize l[k].id = y at *
    go_wp2_with fail
    refine wp_region_held_drew (S := (fun W => W.cell? ⟨rb, roff + k * 2, none⟩ = some (.int .i64 y))) (by kernel_rfl) ?_ (fun hHeld => ?_)
    · (first | exact CE.out _ HB.out | exact CE.out _ HB.out.drew | exact CE.out _ HB1.out)
    refine tkB (i := 0) ?_
    refine tkB (i := 1) ?_
    refine tkB (i := 2) ?_
    refine tkB (i := 3) ?_
    refine tkB (i := 4) ?_
    refine tkB (i := 5) ?_
    refine tkB (i := 6) ?_
    refine tkB (i := 7) ?_
    refine tkB (i := 8) ?_
    refine tkR (i := 9) (fun K hK => ?_)
    go_simp
    skip
    refine hK.out _ _ ?_ (fun hHeld => ?_)
    · (first | exact CE.out _ HB.out | exact CE.out _ HB.out.drew | exact CE.out _ HB1.out)
    clear hK K
    try simp only [Act.put, tkS]
    refine wpAnyH_done (by kernel_rfl) ?_ _
    go_wp2_with fail
    go_roundw
    case rel => exact ⟨k + 1, by omega, by go_num, HB1.out, _, HN.out.1, HN.out.2.1, HN.out.2.2⟩
    case measure => simp [intOf]; omega
end Go.Proofs.YtngbhifafdbpkaaGreat
