import Derived.Test.YtlbcaaodkggohaaGreatDoorZbi
import Derived.Test.YtlbcaaodkggohaaGreatDoorZak
import Derived.Test.YtlbcaaodkggohaaGreatDoorZas
import Derived.Test.YtlbcaaodkggohaaGreatDoorZah
import Derived.Deep.RegionHeld3
import Derived.Test.YtlbcaaodkggohaaGreatDoorZaj
import Derived.Test.YtlbcaaodkggohaaGreatDoorZab
import Derived.Test.YtlbcaaodkggohaaGreatDoorZal
import Derived.Test.YtlbcaaodkggohaaGreatDoorZam
import Derived.Test.YtlbcaaodkggohaaGreatDoorZad
import Derived.Test.YtlbcaaodkggohaaGreatDoorZae
import Derived.Test.YtlbcaaodkggohaaGreatDoorZan
import Derived.Test.YtlbcaaodkggohaaGreatDoorZao
import Derived.Deep.CutRange
import Derived.Deep.QuietTactic
import Derived.Test.YtlbcaaodkggohaaGreatDoorZbb
import Derived.WalkSpells
import Derived.WalkLawsBesides
import Derived.Test.YtlbcaaodkggohaaGreatDoorZbc
import Derived.Deep.LoopGhost
import Derived.WalkMore
import Derived.Test.YtlbcaaodkggohaaGreatDoorZTk
namespace Go.Proofs.YtlbcaaodkggohaaGreatDoor
open Go.RowKit
set_option linter.unusedSimpArgs false
set_option maxRecDepth 100000 in
set_option maxHeartbeats 3200000 in
theorem findTI (l : List Tb) (s : List UInt8) (sa : Option Addr) (sc : Nat) (A : Nat → Prop) (w : World) (hlo : (dTableS l).le maxLen) (hT : Rd w A (dTableS l) (.slice sa l.length sc)) :
  Calls Tryz.prog 78 #[.agg #[.slice sa l.length sc], .string ⟨s.toArray⟩] w fun e w' => e = .returned (.int .i64 (tplC l s)) ∧ Below w.heap.size w w' := by
 have hll : l.length ≤ maxLen := (Ls_le.1 hlo).2.1; unfold maxLen at hll; have HT : Hid (∀ W, Below w.heap.size w W → Rd W A (Ls 4 dTable l) (.slice sa l.length sc)) := fun W h => Rd.later hT h
 have HX := Lib.hid (boxD 25 w #[.slice sa l.length sc]); clear hlo hT; (go_enter Tryz.func78, Tryz.ntmps78); have x0 := cell_at (o := 0) HX.out.1 rfl; (go_wp2_with fail); clear x0; go_loopw [9] (fun i wr => ∃ k : Nat, k ≤ l.length ∧ i = .int .i64 k ∧ Hid ((∀ m (h : m < l.length), m < k → l[m].nm ≠ s) ∧ BoxD 25 w wr #[.slice sa l.length sc])) (fun i _ => l.length - (intOf i).toNat)
 case atStart => exact ⟨0, Nat.zero_le _, rfl, fun m _ h => absurd h (by omega), HX.out⟩
 case round =>
  obtain ⟨k, hk, rfl, HW⟩ := hrel; have x0 := cell_at (o := 0) HW.out.2.1 rfl
  by_cases hlt : k < l.length
  ·
   have hki : (k : Int) < (l.length : Int) := by omega
   obtain ⟨b, off, rfl, -, hc⟩ := (HT.out _ HW.out.2.2).things k hlt; obtain ⟨u0, c0, r0⟩ := hc 0 (by omega); obtain rfl : u0 = .string ⟨l[k].nm.toArray⟩ := r0; rw [Nat.add_zero] at c0; clear hc
   by_cases he : l[k].nm = s
   ·
    have HP : Hid (tplC l s = k) := tpl_at hlt he (fun j h hj => HW.out.1 j h hj); rw [he] at c0; clear he; (go_wp2_with fail); go_ret; exact ⟨ret_i HP.out.symm, HW.out.2.2⟩
   ·
    have HN : Hid (∀ m (h : m < l.length), m < k + 1 → l[m].nm ≠ s) := fun m h hm => by
     by_cases e : m = k
     ·
      subst e; exact he
     ·
      exact HW.out.1 m h (by omega)
    have hne : (l[k].nm == s) = false := by simpa using he
    clear he; generalize l[k] = x at *; (go_wp2_with fail); go_roundw
    case rel => exact ⟨k + 1, by omega, by go_num, HN.out, HW.out.2⟩
    case measure => simp [intOf]; omega
  ·
   have HP : Hid (tplC l s = -1) := tpl_none (fun m h => HW.out.1 m h (by omega)); have hki : decide ((k : Int) < (l.length : Int)) = false := by simp; omega
   (go_wp2_with fail); go_ret; exact ⟨ret_i HP.out.symm, HW.out.2.2⟩
def tabN (l : List Tb) (s : List UInt8) : Tb := if tplC l s < 0 then tbZ else l.getD (tplC l s).toNat tbZ
def tabK (l : List Tb) (s : List UInt8) : Int := if tplC l s < 0 then 10 else 0
theorem tabN_none {l : List Tb} {s : List UInt8} (h : tplC l s = -1) : tabN l s = tbZ ∧ tabK l s = 10 := ⟨by unfold tabN; rw [h, if_pos (by omega)], by unfold tabK; rw [h, if_pos (by omega)]⟩
theorem tabN_at {l : List Tb} {s : List UInt8} {k : Nat} (hk : k < l.length) (h : tplC l s = k) : tabN l s = l[k] ∧ tabK l s = 0 := ⟨by
 unfold tabN; rw [h, if_neg (by omega), Int.toNat_natCast, List.getD_eq_getElem?_getD, List.getElem?_eq_getElem hk]; rfl, by unfold tabK; rw [h, if_neg (by omega)]⟩
theorem tbZ_has {w : World} {A : Nat → Prop} : tbZ.Has w A none none := Rd.hasT (uc := 0) (cc := 0) (Rd.lsNil (α := Cl) (n := 8) (d := dColumn) none 0) (Rd.lsNil (α := Int) (n := 1) (d := cInt) none 0)
theorem tbZ_ok : tbZ.ok := le_table (Nat.zero_le _) (Ls_le.2 ⟨by omega, Nat.zero_le _, fun i hi => absurd hi (by simp [tbZ])⟩) (Ls_le.2 ⟨by omega, Nat.zero_le _, fun i hi => absurd hi (by simp [tbZ])⟩)
theorem tabN_ok {l : List Tb} {s : List UInt8} (h : (dTableS l).le maxLen) : (tabN l s).ok := by
  rcases tpl_rng s l with e | ⟨k, hk, e, -⟩
  · rw [(tabN_none e).1]; exact tbZ_ok
  · rw [(tabN_at hk e).1]; exact le_table ((Ls_le.1 h).2.2 k hk 0 (by omega)) ((Ls_le.1 h).2.2 k hk 1 (by omega)) ((Ls_le.1 h).2.2 k hk 2 (by omega))
theorem below4 {w W : World} (b : Nat) (h : Below w.heap.size w W) (hb : w.heap.size ≤ b) (v0 v1 v2 v3 : Value) : Below w.heap.size w ((((W.setCell ⟨b, 0, none⟩ v0).setCell ⟨b, 1, none⟩ v1).setCell ⟨b, 2, none⟩ v2).setCell ⟨b, 3, none⟩ v3) :=
 (((h.setCell hb _).setCell hb _).setCell hb _).setCell hb _
def TcAns (l : List Tb) (s : List UInt8) (A : Nat → Prop) (w0 w : World) (e : Ending) (w' : World) : Prop := ∃ ca cc ua uc, e = .returned (.tuple #[.agg #[.string ⟨(tabN l s).nm.toArray⟩, .slice ca (tabN l s).cols.length cc, .slice ua (tabN l s).uq.length uc, .bool (tabN l s).rt], .int .i64 (tabK l s)]) ∧ (tabN l s).Has w0 A ca ua ∧ Below w.heap.size w w'
set_option maxRecDepth 100000 in
set_option maxHeartbeats 3200000 in
theorem tabCalledI (l : List Tb) (s : List UInt8) (sa : Option Addr) (sc : Nat) (A : Nat → Prop) (w0 w : World) (hB0 : Below w0.heap.size w0 w) (hlo : (dTableS l).le maxLen) (hT : Rd w0 A (dTableS l) (.slice sa l.length sc)) :
  Calls Tryz.prog 34 #[.agg #[.slice sa l.length sc], .string ⟨s.toArray⟩] w (TcAns l s A w0 w) := by
 have PL : Hid (∀ W, BoxE 25 48 w W #[.slice sa l.length sc] #[.string ⟨#[]⟩, .slice none 0 0, .slice none 0 0, .bool false] → Calls Tryz.prog 78 #[.agg #[.slice sa l.length sc], .string ⟨s.toArray⟩] W fun e w' => e = .returned (.int .i64 (tplC l s)) ∧ BoxE 25 48 w w' #[.slice sa l.length sc] #[.string ⟨#[]⟩, .slice none 0 0, .slice none 0 0, .bool false]) := fun W h => (findTI l s sa sc A W hlo (hT.later (hB0.trans (h.bel.mono hB0.size)))).mono (fun e w' ⟨he, hB⟩ => ⟨he, h.later hB⟩)
 have HT : Hid (Rd w0 A (Ls 4 dTable l) (.slice sa l.length sc)) := hT; have HB0 := Lib.hid hB0; have hll : l.length ≤ maxLen := (Ls_le.1 hlo).2.1; unfold maxLen at hll; have hb := boxE 25 48 w #[.slice sa l.length sc] #[.string ⟨#[]⟩, .slice none 0 0, .slice none 0 0, .bool false]; have x0 := cell_at (o := 0) hb.a rfl; have HB := Lib.hid hb; clear hlo hT hb hB0; rcases tpl_rng s l with hp | ⟨k, hk, hp, -⟩
 ·
  have HE := Lib.hid (tabN_none hp); have HZ : Hid (tbZ.Has w0 A none none) := tbZ_has; rw [hp] at PL; clear hp; (go_enter Tryz.func34, Tryz.ntmps34); (go_wp2_with fail); refine (PL.out _ HB.out).mono ?_; rintro e w1 ⟨rfl, hb⟩; clear x0; obtain ⟨r0, r1, r2, r3⟩ := ck4 0 1 2 3 hb.b; obtain ⟨g0, g1, g2, g3⟩ := fk4 0 1 2 3 hb.b; have HB1 := Lib.hid hb.bel; clear hb; (go_wp2_with fail); refine bodyPost_ret (v := .tuple #[.agg #[.string ⟨#[]⟩, .slice none 0 0, .slice none 0 0, .bool false], .int .i64 10]) (by simp [results, Tryz.results34, go_sem, *]) rfl ?_; exact ⟨none, 0, none, 0, by rw [HE.out.1, HE.out.2]; rfl, by rw [HE.out.1]; exact HZ.out, below4 _ HB1.out (by omega) _ _ _ _⟩
 have HE := Lib.hid (tabN_at hk hp); have hki : (k : Int) < (l.length : Int) := by omega
 rw [hp] at PL; clear hp; obtain ⟨tq, tf, rfl, -, tc⟩ := HT.out.things k hk; obtain ⟨u0, t0, q0⟩ := tc 0 (by omega); obtain rfl : u0 = .string ⟨l[k].nm.toArray⟩ := q0; rw [Nat.add_zero] at t0; obtain ⟨u1, t1, q1⟩ := tc 1 (by omega); replace q1 : Rd w0 A (dColumnS l[k].cols) u1 := q1; obtain ⟨ca, cc, rfl⟩ := q1.lsSlice; obtain ⟨u2, t2, q2⟩ := tc 2 (by omega); replace q2 : Rd w0 A (dIntS l[k].uq) u2 := q2; obtain ⟨ua, uc, rfl⟩ := q2.lsSlice; obtain ⟨u3, t3, q3⟩ := tc 3 (by omega); obtain rfl : u3 = .bool l[k].rt := q3; have HH : Hid (l[k].Has w0 A ca ua) := Rd.hasT q1 q2; have TCE : Hid (∀ W, Below w0.heap.size w0 W → W.cell? ⟨tq, tf + k * 4, none⟩ = some (.string ⟨l[k].nm.toArray⟩) ∧ W.cell? ⟨tq, tf + k * 4 + 1, none⟩ = some (.slice ca l[k].cols.length cc) ∧ W.cell? ⟨tq, tf + k * 4 + 2, none⟩ = some (.slice ua l[k].uq.length uc) ∧ W.cell? ⟨tq, tf + k * 4 + 3, none⟩ = some (.bool l[k].rt)) := fun W h => ⟨(h.cell (p := ⟨tq, tf + k * 4, none⟩) (World.block_lt_of_cell? _ _ t0)).trans t0, (h.cell (p := ⟨tq, tf + k * 4 + 1, none⟩) (World.block_lt_of_cell? _ _ t1)).trans t1, (h.cell (p := ⟨tq, tf + k * 4 + 2, none⟩) (World.block_lt_of_cell? _ _ t2)).trans t2, (h.cell (p := ⟨tq, tf + k * 4 + 3, none⟩) (World.block_lt_of_cell? _ _ t3)).trans t3⟩
 clear tc t0 t1 t2 t3 q1 q2 HT; generalize l[k] = t at *; (go_enter Tryz.func34, Tryz.ntmps34); (go_wp2_with fail); refine (PL.out _ HB.out).mono ?_; rintro e w1 ⟨rfl, hb⟩; clear x0; have x0 := cell_at (o := 0) hb.a rfl; obtain ⟨t0, t1, t2, t3⟩ := TCE.out _ (HB0.out.trans (hb.bel.mono HB0.out.size)); obtain ⟨r0, r1, r2, r3⟩ := ck4 0 1 2 3 hb.b; obtain ⟨g0, g1, g2, g3⟩ := fk4 0 1 2 3 hb.b; have HB1 := Lib.hid hb.bel; clear hb; (go_wp2_with fail); refine bodyPost_ret (v := .tuple #[.agg #[.string ⟨t.nm.toArray⟩, .slice ca t.cols.length cc, .slice ua t.uq.length uc, .bool t.rt], .int .i64 0]) (by simp [results, Tryz.results34, go_sem, *]) rfl ?_; exact ⟨ca, cc, ua, uc, by rw [HE.out.1, HE.out.2], by rw [HE.out.1]; exact HH.out, below4 _ HB1.out (by omega) _ _ _ _⟩
noncomputable def pkN (t : Tb) (names : List (List UInt8)) : Int := if names.all (askT t) = true then 0 else 11
theorem pkN_no {t : Tb} {l : List (List UInt8)} {k : Nat} (hk : k < l.length) (h : askT t l[k] = false) : pkN t l = 11 := by
 unfold pkN; rw [if_neg]; intro hn; have := List.all_eq_true.1 hn _ (List.getElem_mem hk); rw [h] at this; cases this
theorem pkN_yes {t : Tb} {l : List (List UInt8)} (h : ∀ k (hk : k < l.length), askT t l[k] = true) : pkN t l = 0 := by
 unfold pkN; rw [if_pos]; exact List.all_eq_true.2 (fun x hx => by obtain ⟨k, hk, rfl⟩ := List.mem_iff_getElem.1 hx; exact h k hk)
set_option maxRecDepth 100000 in
set_option maxHeartbeats 3200000 in
theorem columnCodeI (t : Tb) (s : List UInt8) (ca : Option Addr) (cc : Nat) (ua : Option Addr) (uc : Nat) (B : Nat → Prop) (w : World) (ho : t.ok) (hT : t.Has w B ca ua) :
  Calls Tryz.prog 39 #[.agg #[.string ⟨t.nm.toArray⟩, .slice ca t.cols.length cc, .slice ua t.uq.length uc, .bool t.rt], .string ⟨s.toArray⟩] w fun e w' => e = .returned (.int .i64 (if askT t s = true then 0 else 11)) ∧ Below w.heap.size w w' := by
 have AC : Hid (∀ W, BoxD 48 w W #[.string ⟨t.nm.toArray⟩, .slice ca t.cols.length cc, .slice ua t.uq.length uc, .bool t.rt] → Calls Tryz.prog 81 #[.agg #[.string ⟨t.nm.toArray⟩, .slice ca t.cols.length cc, .slice ua t.uq.length uc, .bool t.rt], .string ⟨s.toArray⟩] W fun e w' => e = .returned (.tuple #[.agg #[.string ⟨(askX t s).nm.toArray⟩, .int .i64 (askX t s).k, .int .i64 (askX t s).mn, .int .i64 (askX t s).mx, .int .i64 (askX t s).lo, .int .i64 (askX t s).hi, .string ⟨(askX t s).rf.toArray⟩, .bool (askX t s).st], .bool (askT t s)]) ∧ BoxD 48 w w' #[.string ⟨t.nm.toArray⟩, .slice ca t.cols.length cc, .slice ua t.uq.length uc, .bool t.rt]) := fun W h => (askedI t s ca cc ua uc B W ho (hT.later h.2)).mono (fun e w' ⟨he, hB⟩ => ⟨he, h.later hB⟩)
 have hb := boxD 48 w #[.string ⟨t.nm.toArray⟩, .slice ca t.cols.length cc, .slice ua t.uq.length uc, .bool t.rt]; obtain ⟨x0, x1, x2, x3⟩ := ck4 0 1 2 3 hb.1; have HB := Lib.hid hb; clear ho hT hb; generalize askX t s = x at *
 cases ha : askT t s
 all_goals
  rw [ha] at AC; clear ha; (go_enter Tryz.func39, Tryz.ntmps39); (go_wp2_with fail); refine (AC.out _ HB.out).mono ?_; rintro e w1 ⟨rfl, hb⟩; have HB1 := Lib.hid hb.2; clear hb x0 x1 x2 x3; (go_wp2_with fail); go_ret; exact ⟨rfl, HB1.out.alloc HB1.out.size _⟩
set_option maxRecDepth 100000 in
set_option maxHeartbeats 6400000 in
theorem firstNamesI (t : Tb) (ca : Option Addr) (cc : Nat) (ua : Option Addr) (uc : Nat) (A : Nat → Prop) (list : List (List UInt8)) (a : Option Addr) (c : Nat) (B : Nat → Prop) (w : World) (hto : t.ok) (ho : (dStringS list).le maxLen) (hT : t.Has w A ca ua) (hL : Rd w B (dStringS list) (.slice a list.length c)) :
  Calls Tryz.prog 38 #[.agg #[.string ⟨t.nm.toArray⟩, .slice ca t.cols.length cc, .slice ua t.uq.length uc, .bool t.rt], .slice a list.length c, .func (.func 39) #[] #[]] w fun e w' => e = .returned (.int .i64 (pkN t list)) ∧ Below w.heap.size w w' := by
 have HL : Hid (∀ W, Below w.heap.size w W → Rd W B (Ls 1 cString list) (.slice a list.length c)) := fun W h => Rd.later hL h
 have HT : Hid (t.ok ∧ ∀ W, Below w.heap.size w W → t.Has W A ca ua) := ⟨hto, fun W h => hT.later h⟩; have hll : list.length ≤ maxLen := (Ls_le.1 ho).2.1; unfold maxLen at hll; have HX := Lib.hid (boxD 48 w #[.string ⟨t.nm.toArray⟩, .slice ca t.cols.length cc, .slice ua t.uq.length uc, .bool t.rt]); clear ho hL hT hto; (go_enter Tryz.func38, Tryz.ntmps38); (go_wp2_with fail); go_loopw [11] (fun i wr => ∃ k : Nat, k ≤ list.length ∧ i = .int .i64 k ∧ Hid ((∀ m (h : m < list.length), m < k → askT t list[m] = true) ∧ BoxD 48 w wr #[.string ⟨t.nm.toArray⟩, .slice ca t.cols.length cc, .slice ua t.uq.length uc, .bool t.rt])) (fun i _ => list.length - (intOf i).toNat)
 case atStart => exact ⟨0, Nat.zero_le _, rfl, fun m _ h => absurd h (by omega), HX.out⟩
 case round =>
  obtain ⟨k, hk, rfl, HW⟩ := hrel
  by_cases hlt : k < list.length
  case neg =>
   have hki : decide ((k : Int) < (list.length : Int)) = false := by simp; omega
   have HR : Hid (pkN t list = 0) := pkN_yes (fun m h => HW.out.1 m h (by omega)); (go_wp2_with fail); go_ret; exact ⟨ret_i HR.out.symm, HW.out.2.2⟩
  have hki : (k : Int) < (list.length : Int) := by omega
  obtain ⟨b, off, rfl, -, hc⟩ := (HL.out _ HW.out.2.2).things k hlt; clear hc; have HNO : Hid (askT t list[k] = false → pkN t list = 11) := fun h => pkN_no hlt h
  have HNX : Hid (askT t list[k] = true → ∀ m (h : m < list.length), m < k + 1 → askT t list[m] = true) := fun he m h hm => by
   by_cases e : m = k
   ·
    subst e; exact he
   ·
    exact HW.out.1 m h (by omega)
  have CC : Hid (∀ W, Below wr.heap.size wr W → Calls Tryz.prog 39 #[.agg #[.string ⟨t.nm.toArray⟩, .slice ca t.cols.length cc, .slice ua t.uq.length uc, .bool t.rt], .string ⟨list[k].toArray⟩] W fun e w' => e = .returned (.int .i64 (if askT t list[k] = true then 0 else 11)) ∧ Below W.heap.size W w') := fun W h => columnCodeI t list[k] ca cc ua uc A W HT.out.1 (HT.out.2 W (HW.out.2.2.trans (h.mono HW.out.2.2.size)))
  have CX : Hid (∀ W, Below wr.heap.size wr W → W.cell? ⟨w.heap.size, 0, none⟩ = some (.string ⟨t.nm.toArray⟩) ∧ W.cell? ⟨w.heap.size, 1, none⟩ = some (.slice ca t.cols.length cc) ∧ W.cell? ⟨w.heap.size, 2, none⟩ = some (.slice ua t.uq.length uc) ∧ W.cell? ⟨w.heap.size, 3, none⟩ = some (.bool t.rt) ∧ W.cell? ⟨b, off + k, none⟩ = some (.string ⟨list[k].toArray⟩)) := fun W h => ⟨cell_at (o := 0) (HW.out.2.later h).1 rfl, cell_at (o := 1) (HW.out.2.later h).1 rfl, cell_at (o := 2) (HW.out.2.later h).1 rfl, cell_at (o := 3) (HW.out.2.later h).1 rfl, by
   obtain ⟨u, e, hr⟩ := (HL.out W (HW.out.2.later h).2).spotT hlt (j := 0) (by omega); obtain rfl : u = .string ⟨list[k].toArray⟩ := hr; rw [Nat.mul_one, Nat.add_zero] at e; exact e⟩
  generalize list[k] = x at *; (go_wp2_with fail); refine wp_region_held_drew (S := (fun W => W.cell? ⟨w.heap.size, 0, none⟩ = some (.string ⟨t.nm.toArray⟩) ∧ W.cell? ⟨w.heap.size, 1, none⟩ = some (.slice ca t.cols.length cc) ∧ W.cell? ⟨w.heap.size, 2, none⟩ = some (.slice ua t.uq.length uc) ∧ W.cell? ⟨w.heap.size, 3, none⟩ = some (.bool t.rt) ∧ W.cell? ⟨b, off + k, none⟩ = some (.string ⟨x.toArray⟩))) (by kernel_rfl) ?_ (fun hHeld => ?_)
  ·
   (first | exact CX.out _ (Below.refl _ _) | exact CX.out _ (Below.refl _ _).drew | exact CX.out _ BW.out)
  refine tkB (i := 0) ?_; refine tkB (i := 1) ?_; refine tkB (i := 2) ?_; refine tkB (i := 3) ?_; refine tkB (i := 4) ?_; refine tkB (i := 5) ?_; refine tkR (i := 6) (fun K hK => ?_); go_simp
  (go_at_call 39; refine (CC.out _ (Below.refl _ _).drew).mono ?_; rintro e w1 ⟨rfl, hB1⟩; have BW : Hid (Below wr.heap.size wr w1) := (Below.refl _ _).drew.trans hB1; clear hB1)
  refine hK.out _ _ ?_ (fun hHeld => ?_)
  ·
   (first | exact CX.out _ (Below.refl _ _) | exact CX.out _ (Below.refl _ _).drew | exact CX.out _ BW.out)
  clear hK K; (try simp only [Act.put, tkS]); refine tkB (i := 7) ?_; refine wpAnyH_done (by kernel_rfl) ?_ _; have HB1 := Lib.hid (HW.out.2.later BW.out)
  cases he : askT t x
  case false =>
   have HR := Lib.hid (HNO.out he); rw [if_neg (by decide)]; clear HNO HNX he CC; (go_wp2_with fail); go_ret; exact ⟨ret_i HR.out.symm, HB1.out.2⟩
  have HN := Lib.hid (HNX.out he); rw [if_pos rfl]; clear HNO HNX he CC; (go_wp2_with fail); go_roundw
  case rel => exact ⟨k + 1, by omega, by go_num, HN.out, HB1.out⟩
  case measure => simp [intOf]; omega
end Go.Proofs.YtlbcaaodkggohaaGreatDoor
