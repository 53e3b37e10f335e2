import Derived.Test.YtaepgahejelkaaaGreatZar
import Derived.Test.YtaepgahejelkaaaGreatZad
import Derived.Test.YtaepgahejelkaaaGreatZan
import Derived.Test.YtaepgahejelkaaaGreatZab
import Derived.ArgAppend
import Derived.Deep.RegionLaw
import Derived.Test.YtaepgahejelkaaaGreatZac
import Derived.Laws.Append
import Derived.Deep.RegionHeld3
import Derived.Test.YtaepgahejelkaaaGreatZaf
import Derived.Test.YtaepgahejelkaaaGreatZag
import Derived.Test.YtaepgahejelkaaaGreatZah
import Derived.Test.YtaepgahejelkaaaGreatZai
import Derived.Test.YtaepgahejelkaaaGreatZaj
import Derived.Test.YtaepgahejelkaaaGreatZak
import Derived.Test.YtaepgahejelkaaaGreatZam
import Derived.Deep.CutRange
import Derived.Deep.QuietTactic
import Derived.OwnWalk
import Derived.Test.YtaepgahejelkaaaGreatZap
import Derived.WalkSpells
import Derived.WalkLawsBesides
namespace Go.Proofs.YtaepgahejelkaaaGreat
open Go.RowKit
set_option linter.unusedSimpArgs false
def namesB (l : List (List UInt8)) : Bool := l.all nameB && decide (l.length ≤ 8)
def setB (x : SetV) : Bool := decide (x.col.length ≤ 40) && (datumB x.val && (namesB x.nms && (decide (x.nms.length = 0) || decide (x.val.length = 0))))
theorem names_no {l : List (List UInt8)} {k : Nat} (hk : k < l.length) (h : nameB l[k] = false) : namesB l = false := by
  unfold namesB
  rw [List.all_eq_false.2 ⟨_, List.getElem_mem hk, by simp [h]⟩]; rfl
theorem names_yes {l : List (List UInt8)} (h : ∀ k (hk : k < l.length), nameB l[k] = true) : namesB l = decide (l.length ≤ 8) := by
  unfold namesB
  rw [List.all_eq_true.2 (fun x hx => by obtain ⟨k, hk, rfl⟩ := List.mem_iff_getElem.1 hx; exact h k hk), Bool.true_and]
theorem le_text {l : List (List UInt8)} {K : Nat} (h : (dStringS l).le K) {k : Nat} (hk : k < l.length) : l[k].length ≤ K := (Ls_le.1 h).2.2 k hk 0 (by omega)
set_option maxRecDepth 100000 in
set_option maxHeartbeats 3200000 in
theorem namesS (l : List (List UInt8)) (a : Option Addr) (c : Nat) (B : Nat → Prop) (w : World) (ho : (dStringS l).le maxLen) (hL : Rd w B (dStringS l) (.slice a l.length c)) :
    Calls Tryz.prog 81 #[.slice a l.length c] w fun e w' => e = .returned (.bool (namesB l)) ∧ Below w.heap.size w w' := by
  have HL : Hid (∀ W, Below w.heap.size w W → Rd W B (Ls 1 cString l) (.slice a l.length c)) := fun W h => Rd.later hL h
  have HO := Lib.hid ho
  have hll : l.length ≤ maxLen := (Ls_le.1 ho).2.1
  unfold maxLen at hll
  clear ho hL
  go_enter Tryz.func81, Tryz.ntmps81
  go_wp2_with fail
  go_loopw [3] (fun i wr => ∃ k : Nat, k ≤ l.length ∧ i = .int .i64 k ∧ Hid ((∀ m (h : m < l.length), m < k → nameB l[m] = true) ∧ Below w.heap.size w wr)) (fun i _ => l.length - (intOf i).toNat)
  case atStart => exact ⟨0, Nat.zero_le _, rfl, fun m _ h => absurd h (by omega), Below.refl _ _⟩
  case round =>
    obtain ⟨k, hk, rfl, HW⟩ := hrel
    by_cases hlt : k < l.length
    case neg =>
      have hki : decide ((k : Int) < (l.length : Int)) = false := by simp; omega
      have HR : Hid (namesB l = decide (l.length ≤ 8)) := names_yes (fun m h => HW.out.1 m h (by omega))
      go_wp2_with fail
      go_ret
      exact ⟨ret_b (by rw [HR.out]; simp; omega), HW.out.2⟩
    have hki : (k : Int) < (l.length : Int) := by omega
    obtain ⟨b, off, rfl, -, hc⟩ := (HL.out _ HW.out.2).things k hlt
    obtain ⟨u0, c0, r0⟩ := hc 0 (by omega)
    obtain rfl : u0 = .string ⟨l[k].toArray⟩ := r0
    rw [Nat.mul_one, Nat.add_zero] at c0
    clear hc
    have CO := Lib.hid (nameS l[k] wr (le_text HO.out hlt))
    have HNO : Hid (nameB l[k] = false → namesB l = false) := fun h => names_no hlt h
    have HNX : Hid (nameB l[k] = true → ∀ m (h : m < l.length), m < k + 1 → nameB l[m] = true) := fun he m h hm => by
      by_cases e : m = k
      · subst e; exact he
      · exact HW.out.1 m h (by omega)
    generalize l[k] = x at *
    go_wp2_with fail
    refine CO.out.mono ?_
    rintro e w1 ⟨rfl, rfl⟩
    cases he : nameB x
    case false =>
      have HR := Lib.hid (HNO.out he)
      clear HNO HNX he CO
      go_wp2_with fail
      go_ret
      exact ⟨ret_b HR.out.symm, HW.out.2⟩
    have HN := Lib.hid (HNX.out he)
    clear HNO HNX he CO
    go_wp2_with fail
    go_roundw
    case rel => exact ⟨k + 1, by omega, by go_num, HN.out, HW.out.2⟩
    case measure => simp [intOf]; omega
set_option maxRecDepth 100000 in
set_option maxHeartbeats 6400000 in
theorem setS (x : SetV) (va : Option Addr) (vc : Nat) (na : Option Addr) (nc : Nat) (A B : Nat → Prop) (w : World) (hc : x.col.length ≤ maxLen) (hv : (dAtomS x.val).le maxLen) (hn : (dStringS x.nms).le maxLen) (hV : Rd w A (dAtomS x.val) (.slice va x.val.length vc)) (hN : Rd w B (dStringS x.nms) (.slice na x.nms.length nc)) :
    Calls Tryz.prog 43 #[.agg #[.string ⟨x.col.toArray⟩, .slice va x.val.length vc, .slice na x.nms.length nc]] w fun e w' => e = .returned (.bool (setB x)) ∧ Below w.heap.size w w' := by
  have DA : Hid (∀ W, BoxD 98 w W #[.string ⟨x.col.toArray⟩, .slice va x.val.length vc, .slice na x.nms.length nc] → Calls Tryz.prog 80 #[.slice va x.val.length vc] W fun e w' => e = .returned (.bool (datumB x.val)) ∧ BoxD 98 w w' #[.string ⟨x.col.toArray⟩, .slice va x.val.length vc, .slice na x.nms.length nc]) := fun W h => (datumOKs x.val va vc W.heap.size W (le_atoms hv).1 (le_atoms hv).2 (Nat.le_refl _) (hV.later h.2).lt.ats).mono (fun _ _ ⟨he, hB⟩ => ⟨he, h.later hB⟩)
  have NA : Hid (∀ W, BoxD 98 w W #[.string ⟨x.col.toArray⟩, .slice va x.val.length vc, .slice na x.nms.length nc] → Calls Tryz.prog 81 #[.slice na x.nms.length nc] W fun e w' => e = .returned (.bool (namesB x.nms)) ∧ BoxD 98 w w' #[.string ⟨x.col.toArray⟩, .slice va x.val.length vc, .slice na x.nms.length nc]) := fun W h => (namesS x.nms na nc B W hn (hN.later h.2)).mono (fun _ _ ⟨he, hB⟩ => ⟨he, h.later hB⟩)
  have hb := boxD 98 w #[.string ⟨x.col.toArray⟩, .slice va x.val.length vc, .slice na x.nms.length nc]
  have HB := Lib.hid hb
  have hvl : x.val.length ≤ maxLen := (Ls_le.1 hv).2.1
  have hnl : x.nms.length ≤ maxLen := (Ls_le.1 hn).2.1
  unfold maxLen at hc hvl hnl
  have y0 := cell_at (o := 0) hb.1 rfl
  have y1 := cell_at (o := 1) hb.1 rfl
  have y2 := cell_at (o := 2) hb.1 rfl
  clear hb hv hn hV hN
  by_cases h1 : x.col.length ≤ 40
  case neg =>
    have HR : Hid (setB x = false) := by show setB x = false; unfold setB; rw [decide_eq_false h1]; rfl
    have d1 : decide ((x.col.length : Int) ≤ 40) = false := decide_eq_false (by omega)
    clear h1
    go_enter Tryz.func43, Tryz.ntmps43
    go_wp2_with fail
    go_ret
    exact ⟨ret_b HR.out.symm, HB.out.2⟩
  have d1 : decide ((x.col.length : Int) ≤ 40) = true := decide_eq_true (by omega)
  have H1 := Lib.hid h1
  clear h1
  cases h2 : datumB x.val
  case false =>
    have HR : Hid (setB x = false) := by show setB x = false; unfold setB; rw [h2]; simp
    rw [h2] at DA
    clear h2
    go_enter Tryz.func43, Tryz.ntmps43
    go_wp2_with fail
    refine (DA.out _ HB.out).mono ?_
    rintro e w1 ⟨rfl, hb⟩
    have HB1 := Lib.hid hb
    clear y0 y1 y2
    have y0 := cell_at (o := 0) hb.1 rfl
    have y1 := cell_at (o := 1) hb.1 rfl
    have y2 := cell_at (o := 2) hb.1 rfl
    clear hb
    go_wp2_with fail
    go_ret
    exact ⟨ret_b HR.out.symm, HB1.out.2⟩
  rw [h2] at DA
  cases h3 : namesB x.nms
  case false =>
    have HR : Hid (setB x = false) := by show setB x = false; unfold setB; rw [h3]; simp
    rw [h3] at NA
    clear h2 h3
    go_enter Tryz.func43, Tryz.ntmps43
    go_wp2_with fail
    refine (DA.out _ HB.out).mono ?_
    rintro e w1 ⟨rfl, hb⟩
    have HB1 := Lib.hid hb
    clear y0 y1 y2
    have y0 := cell_at (o := 0) hb.1 rfl
    have y1 := cell_at (o := 1) hb.1 rfl
    have y2 := cell_at (o := 2) hb.1 rfl
    clear hb
    go_wp2_with fail
    refine (NA.out _ HB1.out).mono ?_
    rintro e w2 ⟨rfl, hb⟩
    have HB2 := Lib.hid hb
    clear y0 y1 y2
    have y0 := cell_at (o := 0) hb.1 rfl
    have y1 := cell_at (o := 1) hb.1 rfl
    have y2 := cell_at (o := 2) hb.1 rfl
    clear hb
    go_wp2_with fail
    go_ret
    exact ⟨ret_b HR.out.symm, HB2.out.2⟩
  rw [h3] at NA
  have HE : Hid (setB x = (decide (x.nms.length = 0) || decide (x.val.length = 0))) := by show setB x = _; unfold setB; rw [decide_eq_true H1.out, h2, h3]; rfl
  clear h2 h3
  by_cases h4 : x.nms.length = 0
  case pos =>
    have HR : Hid (setB x = true) := by show setB x = true; rw [HE.out, decide_eq_true h4]; rfl
    have e1 : ((x.nms.length : Int) == 0) = true := by simp [h4]
    have e2 : (x.nms.length == 0) = true := by simp [h4]
    clear h4 HE
    go_enter Tryz.func43, Tryz.ntmps43
    go_wp2_with fail
    refine (DA.out _ HB.out).mono ?_
    rintro e w1 ⟨rfl, hb⟩
    have HB1 := Lib.hid hb
    clear y0 y1 y2
    have y0 := cell_at (o := 0) hb.1 rfl
    have y1 := cell_at (o := 1) hb.1 rfl
    have y2 := cell_at (o := 2) hb.1 rfl
    clear hb
    go_wp2_with fail
    refine (NA.out _ HB1.out).mono ?_
    rintro e w2 ⟨rfl, hb⟩
    have HB2 := Lib.hid hb
    clear y0 y1 y2
    have y0 := cell_at (o := 0) hb.1 rfl
    have y1 := cell_at (o := 1) hb.1 rfl
    have y2 := cell_at (o := 2) hb.1 rfl
    clear hb
    go_wp2_with fail
    go_ret
    exact ⟨ret_b HR.out.symm, HB2.out.2⟩
  have e1 : ((x.nms.length : Int) == 0) = false := by rw [beq_eq_false_iff_ne]; omega
  have e2 : (x.nms.length == 0) = false := by rw [beq_eq_false_iff_ne]; omega
  have e0 : x.nms ≠ [] := fun e => h4 (by rw [e]; rfl)
  by_cases h5 : x.val.length = 0
  case pos =>
    have HR : Hid (setB x = true) := by show setB x = true; rw [HE.out, decide_eq_false h4, decide_eq_true h5]; rfl
    have e3 : ((x.val.length : Int) == 0) = true := by simp [h5]
    have e4 : (x.val.length == 0) = true := by simp [h5]
    clear h4 h5 HE
    go_enter Tryz.func43, Tryz.ntmps43
    go_wp2_with fail
    refine (DA.out _ HB.out).mono ?_
    rintro e w1 ⟨rfl, hb⟩
    have HB1 := Lib.hid hb
    clear y0 y1 y2
    have y0 := cell_at (o := 0) hb.1 rfl
    have y1 := cell_at (o := 1) hb.1 rfl
    have y2 := cell_at (o := 2) hb.1 rfl
    clear hb
    go_wp2_with fail
    refine (NA.out _ HB1.out).mono ?_
    rintro e w2 ⟨rfl, hb⟩
    have HB2 := Lib.hid hb
    clear y0 y1 y2
    have y0 := cell_at (o := 0) hb.1 rfl
    have y1 := cell_at (o := 1) hb.1 rfl
    have y2 := cell_at (o := 2) hb.1 rfl
    clear hb
    go_wp2_with fail
    go_ret
    exact ⟨ret_b HR.out.symm, HB2.out.2⟩
  case neg =>
    have HR : Hid (setB x = false) := by show setB x = false; rw [HE.out, decide_eq_false h4, decide_eq_false h5]; rfl
    have e3 : ((x.val.length : Int) == 0) = false := by rw [beq_eq_false_iff_ne]; omega
    have e4 : (x.val.length == 0) = false := by rw [beq_eq_false_iff_ne]; omega
    have e5 : x.val ≠ [] := fun e => h5 (by rw [e]; rfl)
    clear h4 h5 HE
    go_enter Tryz.func43, Tryz.ntmps43
    go_wp2_with fail
    refine (DA.out _ HB.out).mono ?_
    rintro e w1 ⟨rfl, hb⟩
    have HB1 := Lib.hid hb
    clear y0 y1 y2
    have y0 := cell_at (o := 0) hb.1 rfl
    have y1 := cell_at (o := 1) hb.1 rfl
    have y2 := cell_at (o := 2) hb.1 rfl
    clear hb
    go_wp2_with fail
    refine (NA.out _ HB1.out).mono ?_
    rintro e w2 ⟨rfl, hb⟩
    have HB2 := Lib.hid hb
    clear y0 y1 y2
    have y0 := cell_at (o := 0) hb.1 rfl
    have y1 := cell_at (o := 1) hb.1 rfl
    have y2 := cell_at (o := 2) hb.1 rfl
    clear hb
    go_wp2_with fail
    go_ret
    exact ⟨ret_b HR.out.symm, HB2.out.2⟩
end Go.Proofs.YtaepgahejelkaaaGreat
namespace Go.Proofs.YtaepgahejelkaaaGreat
open Go.RowKit
set_option linter.unusedSimpArgs false
noncomputable def pkN (t : Tb) (names : List (List UInt8)) : Int := if names.all (askT t) = true then 0 else 11
theorem pkN_no {t : Tb} {l : List (List UInt8)} {k : Nat} (hk : k < l.length) (h : askT t l[k] = false) : pkN t l = 11 := by
  unfold pkN; rw [if_neg]; intro hn
  have := List.all_eq_true.1 hn _ (List.getElem_mem hk)
  rw [h] at this; cases this
theorem pkN_yes {t : Tb} {l : List (List UInt8)} (h : ∀ k (hk : k < l.length), askT t l[k] = true) : pkN t l = 0 := by
  unfold pkN; rw [if_pos]
  exact List.all_eq_true.2 (fun x hx => by obtain ⟨k, hk, rfl⟩ := List.mem_iff_getElem.1 hx; exact h k hk)
end Go.Proofs.YtaepgahejelkaaaGreat
