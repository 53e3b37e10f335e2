import Derived.Test.YtlbcaaodkggohaaGreatDoorZaw
import Derived.Test.YtlbcaaodkggohaaGreatDoorZae
namespace Go.Proofs.YtlbcaaodkggohaaGreatDoor
open Go.RowKit
set_option linter.unusedSimpArgs false
theorem fewN_no {α : Type} {f : α → Bool} {l : List α} {M k : Nat} (hk : k < l.length) (h : f l[k] = false) : (l.all f && decide (l.length ≤ M)) = false := by
 rw [List.all_eq_false.2 ⟨_, List.getElem_mem hk, by simp [h]⟩]; rfl
theorem fewN_yes {α : Type} {f : α → Bool} {l : List α} {M : Nat} (h : ∀ k (hk : k < l.length), f l[k] = true) (hl : l.length ≤ M) : (l.all f && decide (l.length ≤ M)) = true := by
 rw [List.all_eq_true.2 (fun x hx => by obtain ⟨k, hk, rfl⟩ := List.mem_iff_getElem.1 hx; exact h k hk), decide_eq_true hl]; rfl
theorem fewN_long {α : Type} {f : α → Bool} {l : List α} {M : Nat} (h : M < l.length) : (l.all f && decide (l.length ≤ M)) = false := by rw [decide_eq_false (by omega), Bool.and_false]
def shortB (s : List UInt8) : Bool := decide (s.length ≤ 40)
set_option maxRecDepth 100000 in
theorem shortI (s : List UInt8) (w : World) (hs : s.length ≤ maxLen) : Calls Tryz.prog 56 #[.string ⟨s.toArray⟩] w fun e w' => e = .returned (.bool (shortB s)) ∧ w' = w := by
 unfold maxLen at hs
 by_cases h : s.length ≤ 40
 ·
  have d1 : decide ((s.length : Int) ≤ 40) = true := decide_eq_true (by omega); have HR : Hid (shortB s = true) := by show shortB s = true; unfold shortB; exact decide_eq_true h
  clear h; (go_enter Tryz.func56, Tryz.ntmps56); (go_wp2_with fail); go_ret; exact ⟨ret_b HR.out.symm, rfl⟩
 ·
  have d1 : decide ((s.length : Int) ≤ 40) = false := decide_eq_false (by omega); have HR : Hid (shortB s = false) := by show shortB s = false; unfold shortB; exact decide_eq_false h
  clear h; (go_enter Tryz.func56, Tryz.ntmps56); (go_wp2_with fail); go_ret; exact ⟨ret_b HR.out.symm, rfl⟩
set_option maxRecDepth 100000 in
set_option maxHeartbeats 6400000 in
theorem fewNamesI (list : List (List UInt8)) (a : Option Addr) (c : Nat) (B : Nat → Prop) (w : World) (ho : (dStringS list).le maxLen) (hL : Rd w B (dStringS list) (.slice a list.length c)) :
  Calls Tryz.prog 21 #[.slice a list.length c, .int .i64 8, .func (.func 22) #[] #[]] w fun e w' => e = .returned (.bool (list.all nameB && decide (list.length ≤ 8))) ∧ Below w.heap.size w w' := by
 have HL : Hid (∀ W, Below w.heap.size w W → Rd W B (dStringS list) (.slice a list.length c)) := fun W h => Rd.later hL h
 have HO := Lib.hid ho; have hll : list.length ≤ maxLen := (Ls_le.1 ho).2.1; unfold maxLen at hll; clear ho hL
 by_cases h8 : 8 < list.length
 case pos =>
  have HR := Lib.hid (fewN_long (f := nameB) h8); have hd : decide (8 < (list.length : Int)) = true := decide_eq_true (by omega); clear h8; (go_enter Tryz.func21, Tryz.ntmps21); (go_wp2_with fail); go_ret; exact ⟨ret_b HR.out.symm, Below.refl _ _⟩
 have hd : decide (8 < (list.length : Int)) = false := decide_eq_false (by omega); have H8 := Lib.hid h8; clear h8; (go_enter Tryz.func21, Tryz.ntmps21); (go_wp2_with fail); go_loopw [14] (fun i wr => ∃ k : Nat, k ≤ list.length ∧ i = .int .i64 k ∧ Hid ((∀ m (h : m < list.length), m < k → nameB list[m] = true) ∧ Below w.heap.size w wr)) (fun i _ => list.length - (intOf i).toNat)
 case atStart => exact ⟨0, Nat.zero_le _, rfl, fun m _ h => absurd h (by omega), Below.refl _ _⟩
 case round =>
  obtain ⟨k, hk, rfl, HW⟩ := hrel
  by_cases hlt : k < list.length
  case neg =>
   have hki : decide ((k : Int) < (list.length : Int)) = false := by simp; omega
   have HR := Lib.hid (fewN_yes (f := nameB) (M := 8) (fun m h => HW.out.1 m h (by omega)) (by have := H8.out; omega)); (go_wp2_with fail); go_ret; exact ⟨ret_b HR.out.symm, HW.out.2⟩
  have hki : (k : Int) < (list.length : Int) := by omega
  obtain ⟨b, off, rfl, -, hc⟩ := Rd.things (HL.out _ HW.out.2) k hlt; obtain ⟨u0, c0, r0⟩ := hc 0 (by omega); obtain rfl : u0 = .string ⟨list[k].toArray⟩ := r0; rw [Nat.mul_one, Nat.add_zero] at c0; clear hc; have CO := Lib.hid (nameI list[k] wr (le_text HO.out hlt)); have HNO : Hid (nameB list[k] = false → (list.all nameB && decide (list.length ≤ 8)) = false) := fun h => fewN_no hlt h
  have HNX : Hid (nameB list[k] = true → ∀ m (h : m < list.length), m < k + 1 → nameB list[m] = true) := fun he m h hm => by
   by_cases e : m = k
   ·
    subst e; exact he
   ·
    exact HW.out.1 m h (by omega)
  generalize list[k] = x at *; (go_wp2_with fail); refine CO.out.mono ?_; rintro e w1 ⟨rfl, rfl⟩
  cases he : nameB x
  case false =>
   have HR := Lib.hid (HNO.out he); clear HNO HNX he CO; (go_wp2_with fail); go_ret; exact ⟨ret_b HR.out.symm, HW.out.2⟩
  have HN := Lib.hid (HNX.out he); clear HNO HNX he CO; (go_wp2_with fail); go_roundw
  case rel => exact ⟨k + 1, by omega, by go_num, HN.out, HW.out.2⟩
  case measure => simp [intOf]; omega
set_option maxRecDepth 100000 in
set_option maxHeartbeats 6400000 in
theorem fewShortI (list : List (List UInt8)) (a : Option Addr) (c : Nat) (B : Nat → Prop) (w : World) (ho : (dStringS list).le maxLen) (hL : Rd w B (dStringS list) (.slice a list.length c)) :
  Calls Tryz.prog 21 #[.slice a list.length c, .int .i64 6, .func (.func 56) #[] #[]] w fun e w' => e = .returned (.bool (list.all shortB && decide (list.length ≤ 6))) ∧ Below w.heap.size w w' := by
 have HL : Hid (∀ W, Below w.heap.size w W → Rd W B (dStringS list) (.slice a list.length c)) := fun W h => Rd.later hL h
 have HO := Lib.hid ho; have hll : list.length ≤ maxLen := (Ls_le.1 ho).2.1; unfold maxLen at hll; clear ho hL
 by_cases h8 : 6 < list.length
 case pos =>
  have HR := Lib.hid (fewN_long (f := shortB) h8); have hd : decide (6 < (list.length : Int)) = true := decide_eq_true (by omega); clear h8; (go_enter Tryz.func21, Tryz.ntmps21); (go_wp2_with fail); go_ret; exact ⟨ret_b HR.out.symm, Below.refl _ _⟩
 have hd : decide (6 < (list.length : Int)) = false := decide_eq_false (by omega); have H8 := Lib.hid h8; clear h8; (go_enter Tryz.func21, Tryz.ntmps21); (go_wp2_with fail); go_loopw [14] (fun i wr => ∃ k : Nat, k ≤ list.length ∧ i = .int .i64 k ∧ Hid ((∀ m (h : m < list.length), m < k → shortB list[m] = true) ∧ Below w.heap.size w wr)) (fun i _ => list.length - (intOf i).toNat)
 case atStart => exact ⟨0, Nat.zero_le _, rfl, fun m _ h => absurd h (by omega), Below.refl _ _⟩
 case round =>
  obtain ⟨k, hk, rfl, HW⟩ := hrel
  by_cases hlt : k < list.length
  case neg =>
   have hki : decide ((k : Int) < (list.length : Int)) = false := by simp; omega
   have HR := Lib.hid (fewN_yes (f := shortB) (M := 6) (fun m h => HW.out.1 m h (by omega)) (by have := H8.out; omega)); (go_wp2_with fail); go_ret; exact ⟨ret_b HR.out.symm, HW.out.2⟩
  have hki : (k : Int) < (list.length : Int) := by omega
  obtain ⟨b, off, rfl, -, hc⟩ := Rd.things (HL.out _ HW.out.2) k hlt; obtain ⟨u0, c0, r0⟩ := hc 0 (by omega); obtain rfl : u0 = .string ⟨list[k].toArray⟩ := r0; rw [Nat.mul_one, Nat.add_zero] at c0; clear hc; have CO := Lib.hid (shortI list[k] wr (le_text HO.out hlt)); have HNO : Hid (shortB list[k] = false → (list.all shortB && decide (list.length ≤ 6)) = false) := fun h => fewN_no hlt h
  have HNX : Hid (shortB list[k] = true → ∀ m (h : m < list.length), m < k + 1 → shortB list[m] = true) := fun he m h hm => by
   by_cases e : m = k
   ·
    subst e; exact he
   ·
    exact HW.out.1 m h (by omega)
  generalize list[k] = x at *; (go_wp2_with fail); refine CO.out.mono ?_; rintro e w1 ⟨rfl, rfl⟩
  cases he : shortB x
  case false =>
   have HR := Lib.hid (HNO.out he); clear HNO HNX he CO; (go_wp2_with fail); go_ret; exact ⟨ret_b HR.out.symm, HW.out.2⟩
  have HN := Lib.hid (HNX.out he); clear HNO HNX he CO; (go_wp2_with fail); go_roundw
  case rel => exact ⟨k + 1, by omega, by go_num, HN.out, HW.out.2⟩
  case measure => simp [intOf]; omega
theorem le_set {list : List SetV} {K : Nat} (h : (dSetS list).le K) {k : Nat} (hk : k < list.length) : list[k].col.length ≤ K ∧ (dAtomS list[k].val).le K ∧ (dStringS list[k].nms).le K :=
 ⟨(Ls_le.1 h).2.2 k hk 0 (by omega), (Ls_le.1 h).2.2 k hk 1 (by omega), (Ls_le.1 h).2.2 k hk 2 (by omega)⟩
theorem setB_both {x : SetV} (h1 : 0 < x.val.length) (h2 : 0 < x.nms.length) : setB x = false := by
 unfold setB; rw [decide_eq_false (show ¬ x.nms.length = 0 by omega), decide_eq_false (show ¬ x.val.length = 0 by omega)]; simp
theorem setB_one {x : SetV} (h : ¬ (0 < x.val.length ∧ 0 < x.nms.length)) : setB x = (shortB x.col && (datumB x.val && namesB x.nms)) := by
 unfold setB shortB
 have : (decide (x.nms.length = 0) || decide (x.val.length = 0)) = true := by
  by_cases h1 : x.nms.length = 0
  ·
   simp [h1]
  ·
   simp only [Bool.or_eq_true, decide_eq_true_eq]; omega
 rw [this, Bool.and_true]
set_option maxRecDepth 100000 in
set_option maxHeartbeats 6400000 in
theorem setI (x : SetV) (va : Option Addr) (vc : Nat) (na : Option Addr) (nc : Nat) (A B : Nat → Prop) (w : World) (hc : x.col.length ≤ maxLen) (hv : (dAtomS x.val).le maxLen) (hn : (dStringS x.nms).le maxLen) (hV : Rd w A (dAtomS x.val) (.slice va x.val.length vc)) (hN : Rd w B (dStringS x.nms) (.slice na x.nms.length nc)) :
  Calls Tryz.prog 60 #[.agg #[.string ⟨x.col.toArray⟩, .slice va x.val.length vc, .slice na x.nms.length nc]] w fun e w' => e = .returned (.bool (setB x)) ∧ Below w.heap.size w w' := by
 have SA : Hid (∀ W, BoxD 76 w W #[.string ⟨x.col.toArray⟩, .slice va x.val.length vc, .slice na x.nms.length nc] → Calls Tryz.prog 56 #[.string ⟨x.col.toArray⟩] W fun e w' => e = .returned (.bool (shortB x.col)) ∧ BoxD 76 w w' #[.string ⟨x.col.toArray⟩, .slice va x.val.length vc, .slice na x.nms.length nc]) := fun W h => (shortI x.col W hc).mono (fun _ _ ⟨he, e⟩ => ⟨he, by rw [e]; exact h⟩)
 have DA : Hid (∀ W, BoxD 76 w W #[.string ⟨x.col.toArray⟩, .slice va x.val.length vc, .slice na x.nms.length nc] → Calls Tryz.prog 65 #[.slice va x.val.length vc] W fun e w' => e = .returned (.bool (datumB x.val)) ∧ BoxD 76 w w' #[.string ⟨x.col.toArray⟩, .slice va x.val.length vc, .slice na x.nms.length nc]) := fun W h => (datumOKi x.val va vc W.heap.size W (le_atoms hv).1 (le_atoms hv).2 (Nat.le_refl _) (hV.later h.2).lt.ats).mono (fun _ _ ⟨he, hB⟩ => ⟨he, h.later hB⟩)
 have NA : Hid (∀ W, BoxD 76 w W #[.string ⟨x.col.toArray⟩, .slice va x.val.length vc, .slice na x.nms.length nc] → Calls Tryz.prog 21 #[.slice na x.nms.length nc, .int .i64 8, .func (.func 22) #[] #[]] W fun e w' => e = .returned (.bool (namesB x.nms)) ∧ BoxD 76 w w' #[.string ⟨x.col.toArray⟩, .slice va x.val.length vc, .slice na x.nms.length nc]) := fun W h => (fewNamesI x.nms na nc B W hn (hN.later h.2)).mono (fun _ _ ⟨he, hB⟩ => ⟨he, h.later hB⟩)
 have hb := boxD 76 w #[.string ⟨x.col.toArray⟩, .slice va x.val.length vc, .slice na x.nms.length nc]; have HB := Lib.hid hb; have hvl : x.val.length ≤ maxLen := (Ls_le.1 hv).2.1; have hnl : x.nms.length ≤ maxLen := (Ls_le.1 hn).2.1; unfold maxLen at hc hvl hnl; obtain ⟨y0, y1, y2⟩ := ck3 0 1 2 hb.1; clear hb hv hn hV hN
 by_cases hv0 : 0 < x.val.length
 case neg =>
  have HE := Lib.hid (setB_one (x := x) (fun h => hv0 h.1)); have e1 : decide (0 < x.val.length) = false := decide_eq_false hv0; clear hv0
  cases h1 : shortB x.col
  case false =>
   have HR : Hid (setB x = false) := by show setB x = false; rw [HE.out, h1]; rfl
   rw [h1] at SA; clear h1; (go_enter Tryz.func60, Tryz.ntmps60); (go_wp2_with fail); refine (SA.out _ HB.out).mono ?_; rintro e w1 ⟨rfl, hb⟩; have HB1 := Lib.hid hb; clear y0 y1 y2; obtain ⟨y0, y1, y2⟩ := ck3 0 1 2 hb.1; clear hb; (go_wp2_with fail); go_ret; exact ⟨ret_b HR.out.symm, HB1.out.2⟩
  rw [h1] at SA
  cases h2 : datumB x.val
  case false =>
   have HR : Hid (setB x = false) := by show setB x = false; rw [HE.out, h1, h2]; rfl
   rw [h2] at DA; clear h1 h2; (go_enter Tryz.func60, Tryz.ntmps60); (go_wp2_with fail); refine (SA.out _ HB.out).mono ?_; rintro e w1 ⟨rfl, hb⟩; have HB1 := Lib.hid hb; clear y0 y1 y2; obtain ⟨y0, y1, y2⟩ := ck3 0 1 2 hb.1; clear hb; (go_wp2_with fail); refine (DA.out _ HB1.out).mono ?_; rintro e w2 ⟨rfl, hb⟩; have HB2 := Lib.hid hb; clear y0 y1 y2; obtain ⟨y0, y1, y2⟩ := ck3 0 1 2 hb.1; clear hb; (go_wp2_with fail); go_ret; exact ⟨ret_b HR.out.symm, HB2.out.2⟩
  rw [h2] at DA; have HR : Hid (setB x = namesB x.nms) := by show setB x = _; rw [HE.out, h1, h2]; rfl
  generalize namesB x.nms = nb at *; clear h1 h2 HE; (go_enter Tryz.func60, Tryz.ntmps60); (go_wp2_with fail); refine (SA.out _ HB.out).mono ?_; rintro e w1 ⟨rfl, hb⟩; have HB1 := Lib.hid hb; clear y0 y1 y2; obtain ⟨y0, y1, y2⟩ := ck3 0 1 2 hb.1; clear hb; (go_wp2_with fail); refine (DA.out _ HB1.out).mono ?_; rintro e w2 ⟨rfl, hb⟩; have HB2 := Lib.hid hb; clear y0 y1 y2; obtain ⟨y0, y1, y2⟩ := ck3 0 1 2 hb.1; clear hb; (go_wp2_with fail); refine (NA.out _ HB2.out).mono ?_; rintro e w3 ⟨rfl, hb⟩; have HB3 := Lib.hid hb; clear y0 y1 y2; obtain ⟨y0, y1, y2⟩ := ck3 0 1 2 hb.1; clear hb; (go_wp2_with fail); go_ret; exact ⟨ret_b HR.out.symm, HB3.out.2⟩
 have e1 : decide (0 < x.val.length) = true := decide_eq_true hv0
 by_cases hn0 : 0 < x.nms.length
 case pos =>
  have HR := Lib.hid (setB_both hv0 hn0); have e2 : decide (0 < x.nms.length) = true := decide_eq_true hn0; clear hv0 hn0; (go_enter Tryz.func60, Tryz.ntmps60); (go_wp2_with fail); go_ret; exact ⟨ret_b HR.out.symm, HB.out.2⟩
 have HE := Lib.hid (setB_one (x := x) (fun h => hn0 h.2)); have e2 : decide (0 < x.nms.length) = false := decide_eq_false hn0; clear hv0 hn0
 cases h1 : shortB x.col
 case false =>
  have HR : Hid (setB x = false) := by show setB x = false; rw [HE.out, h1]; rfl
  rw [h1] at SA; clear h1; (go_enter Tryz.func60, Tryz.ntmps60); (go_wp2_with fail); refine (SA.out _ HB.out).mono ?_; rintro e w1 ⟨rfl, hb⟩; have HB1 := Lib.hid hb; clear y0 y1 y2; obtain ⟨y0, y1, y2⟩ := ck3 0 1 2 hb.1; clear hb; (go_wp2_with fail); go_ret; exact ⟨ret_b HR.out.symm, HB1.out.2⟩
 rw [h1] at SA
 cases h2 : datumB x.val
 case false =>
  have HR : Hid (setB x = false) := by show setB x = false; rw [HE.out, h1, h2]; rfl
  rw [h2] at DA; clear h1 h2; (go_enter Tryz.func60, Tryz.ntmps60); (go_wp2_with fail); refine (SA.out _ HB.out).mono ?_; rintro e w1 ⟨rfl, hb⟩; have HB1 := Lib.hid hb; clear y0 y1 y2; obtain ⟨y0, y1, y2⟩ := ck3 0 1 2 hb.1; clear hb; (go_wp2_with fail); refine (DA.out _ HB1.out).mono ?_; rintro e w2 ⟨rfl, hb⟩; have HB2 := Lib.hid hb; clear y0 y1 y2; obtain ⟨y0, y1, y2⟩ := ck3 0 1 2 hb.1; clear hb; (go_wp2_with fail); go_ret; exact ⟨ret_b HR.out.symm, HB2.out.2⟩
 rw [h2] at DA; have HR : Hid (setB x = namesB x.nms) := by show setB x = _; rw [HE.out, h1, h2]; rfl
 generalize namesB x.nms = nb at *; clear h1 h2 HE; (go_enter Tryz.func60, Tryz.ntmps60); (go_wp2_with fail); refine (SA.out _ HB.out).mono ?_; rintro e w1 ⟨rfl, hb⟩; have HB1 := Lib.hid hb; clear y0 y1 y2; obtain ⟨y0, y1, y2⟩ := ck3 0 1 2 hb.1; clear hb; (go_wp2_with fail); refine (DA.out _ HB1.out).mono ?_; rintro e w2 ⟨rfl, hb⟩; have HB2 := Lib.hid hb; clear y0 y1 y2; obtain ⟨y0, y1, y2⟩ := ck3 0 1 2 hb.1; clear hb; (go_wp2_with fail); refine (NA.out _ HB2.out).mono ?_; rintro e w3 ⟨rfl, hb⟩; have HB3 := Lib.hid hb; clear y0 y1 y2; obtain ⟨y0, y1, y2⟩ := ck3 0 1 2 hb.1; clear hb; (go_wp2_with fail); go_ret; exact ⟨ret_b HR.out.symm, HB3.out.2⟩
set_option maxRecDepth 100000 in
set_option maxHeartbeats 6400000 in
theorem fewSetI (list : List SetV) (a : Option Addr) (c : Nat) (B : Nat → Prop) (w : World) (ho : (dSetS list).le maxLen) (hL : Rd w B (dSetS list) (.slice a list.length c)) :
  Calls Tryz.prog 59 #[.slice a list.length c, .int .i64 6, .func (.func 60) #[] #[]] w fun e w' => e = .returned (.bool (list.all setB && decide (list.length ≤ 6))) ∧ Below w.heap.size w w' := by
 have HL : Hid (∀ W, Below w.heap.size w W → Rd W B (dSetS list) (.slice a list.length c)) := fun W h => Rd.later hL h
 have HO := Lib.hid ho; have hll : list.length ≤ maxLen := (Ls_le.1 ho).2.1; unfold maxLen at hll; clear ho hL
 by_cases h8 : 6 < list.length
 case pos =>
  have HR := Lib.hid (fewN_long (f := setB) h8); have hd : decide (6 < (list.length : Int)) = true := decide_eq_true (by omega); clear h8; (go_enter Tryz.func59, Tryz.ntmps59); (go_wp2_with fail); go_ret; exact ⟨ret_b HR.out.symm, Below.refl _ _⟩
 have hd : decide (6 < (list.length : Int)) = false := decide_eq_false (by omega); have H8 := Lib.hid h8; clear h8; (go_enter Tryz.func59, Tryz.ntmps59); (go_wp2_with fail); go_loopw [14] (fun i wr => ∃ k : Nat, k ≤ list.length ∧ i = .int .i64 k ∧ Hid ((∀ m (h : m < list.length), m < k → setB list[m] = true) ∧ Below w.heap.size w wr)) (fun i _ => list.length - (intOf i).toNat)
 case atStart => exact ⟨0, Nat.zero_le _, rfl, fun m _ h => absurd h (by omega), Below.refl _ _⟩
 case round =>
  obtain ⟨k, hk, rfl, HW⟩ := hrel
  by_cases hlt : k < list.length
  case neg =>
   have hki : decide ((k : Int) < (list.length : Int)) = false := by simp; omega
   have HR := Lib.hid (fewN_yes (f := setB) (M := 6) (fun m h => HW.out.1 m h (by omega)) (by have := H8.out; omega)); (go_wp2_with fail); go_ret; exact ⟨ret_b HR.out.symm, HW.out.2⟩
  have hki : (k : Int) < (list.length : Int) := by omega
  obtain ⟨b, off, rfl, -, hc⟩ := Rd.things (HL.out _ HW.out.2) k hlt; obtain ⟨u0, c0, r0⟩ := hc 0 (by omega); obtain rfl : u0 = .string ⟨list[k].col.toArray⟩ := r0; rw [Nat.add_zero] at c0; obtain ⟨u1, c1, r1⟩ := hc 1 (by omega); replace r1 : Rd wr B (dAtomS list[k].val) u1 := r1; obtain ⟨va, vc, rfl⟩ := r1.lsSlice; obtain ⟨u2, c2, r2⟩ := hc 2 (by omega); replace r2 : Rd wr B (dStringS list[k].nms) u2 := r2; obtain ⟨na, nc, rfl⟩ := r2.lsSlice; clear hc; have CO := Lib.hid (setI list[k] va vc na nc B B wr (le_set HO.out hlt).1 (le_set HO.out hlt).2.1 (le_set HO.out hlt).2.2 r1 r2); have HNO : Hid (setB list[k] = false → (list.all setB && decide (list.length ≤ 6)) = false) := fun h => fewN_no hlt h
  have HNX : Hid (setB list[k] = true → ∀ m (h : m < list.length), m < k + 1 → setB list[m] = true) := fun he m h hm => by
   by_cases e : m = k
   ·
    subst e; exact he
   ·
    exact HW.out.1 m h (by omega)
  clear r1 r2; generalize list[k] = x at *; (go_wp2_with fail); refine CO.out.mono ?_; rintro e w1 ⟨rfl, hB1⟩; have HB1 := Lib.hid (HW.out.2.trans (hB1.mono HW.out.2.size)); clear hB1
  cases he : setB x
  case false =>
   have HR := Lib.hid (HNO.out he); clear HNO HNX he CO; (go_wp2_with fail); go_ret; exact ⟨ret_b HR.out.symm, HB1.out⟩
  have HN := Lib.hid (HNX.out he); clear HNO HNX he CO; (go_wp2_with fail); go_roundw
  case rel => exact ⟨k + 1, by omega, by go_num, HN.out, HB1.out⟩
  case measure => simp [intOf]; omega
end Go.Proofs.YtlbcaaodkggohaaGreatDoor
