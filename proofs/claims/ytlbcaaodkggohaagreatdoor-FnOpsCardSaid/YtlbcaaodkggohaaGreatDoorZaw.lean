import Derived.Test.YtlbcaaodkggohaaGreatDoorZak
import Derived.Test.YtlbcaaodkggohaaGreatDoorZai
import Derived.Test.YtlbcaaodkggohaaGreatDoorZao
import Derived.Test.YtlbcaaodkggohaaGreatDoorZas
import Derived.Deep.CutRange
import Derived.Deep.LoopGhost
namespace Go.Proofs.YtlbcaaodkggohaaGreatDoor
open Go.RowKit
set_option linter.unusedSimpArgs false
def namesB (l : List (List UInt8)) : Bool := l.all nameB && decide (l.length ≤ 8)
def setB (x : SetV) : Bool := decide (x.col.length ≤ 40) && (datumB x.val && (namesB x.nms && (decide (x.nms.length = 0) || decide (x.val.length = 0))))
theorem names_no {l : List (List UInt8)} {k : Nat} (hk : k < l.length) (h : nameB l[k] = false) : namesB l = false := by
 unfold namesB; rw [List.all_eq_false.2 ⟨_, List.getElem_mem hk, by simp [h]⟩]; rfl
theorem names_yes {l : List (List UInt8)} (h : ∀ k (hk : k < l.length), nameB l[k] = true) : namesB l = decide (l.length ≤ 8) := by
 unfold namesB; rw [List.all_eq_true.2 (fun x hx => by obtain ⟨k, hk, rfl⟩ := List.mem_iff_getElem.1 hx; exact h k hk), Bool.true_and]
theorem le_text {l : List (List UInt8)} {K : Nat} (h : (dStringS l).le K) {k : Nat} (hk : k < l.length) : l[k].length ≤ K := (Ls_le.1 h).2.2 k hk 0 (by omega)
set_option maxRecDepth 100000 in
set_option maxHeartbeats 3200000 in
theorem namesS (l : List (List UInt8)) (a : Option Addr) (c : Nat) (B : Nat → Prop) (w : World) (ho : (dStringS l).le maxLen) (hL : Rd w B (dStringS l) (.slice a l.length c)) :
  Calls Tryz.prog 88 #[.slice a l.length c] w fun e w' => e = .returned (.bool (namesB l)) ∧ Below w.heap.size w w' := by
 have HL : Hid (∀ W, Below w.heap.size w W → Rd W B (Ls 1 cString l) (.slice a l.length c)) := fun W h => Rd.later hL h
 have HO := Lib.hid ho; have hll : l.length ≤ maxLen := (Ls_le.1 ho).2.1; unfold maxLen at hll; clear ho hL; (go_enter Tryz.func88, Tryz.ntmps88); (go_wp2_with fail); go_loopw [3] (fun i wr => ∃ k : Nat, k ≤ l.length ∧ i = .int .i64 k ∧ Hid ((∀ m (h : m < l.length), m < k → nameB l[m] = true) ∧ Below w.heap.size w wr)) (fun i _ => l.length - (intOf i).toNat)
 case atStart => exact ⟨0, Nat.zero_le _, rfl, fun m _ h => absurd h (by omega), Below.refl _ _⟩
 case round =>
  obtain ⟨k, hk, rfl, HW⟩ := hrel
  by_cases hlt : k < l.length
  case neg =>
   have hki : decide ((k : Int) < (l.length : Int)) = false := by simp; omega
   have HR : Hid (namesB l = decide (l.length ≤ 8)) := names_yes (fun m h => HW.out.1 m h (by omega)); (go_wp2_with fail); go_ret; exact ⟨ret_b (by rw [HR.out]; simp; omega), HW.out.2⟩
  have hki : (k : Int) < (l.length : Int) := by omega
  obtain ⟨b, off, rfl, -, hc⟩ := (HL.out _ HW.out.2).things k hlt; obtain ⟨u0, c0, r0⟩ := hc 0 (by omega); obtain rfl : u0 = .string ⟨l[k].toArray⟩ := r0; rw [Nat.mul_one, Nat.add_zero] at c0; clear hc; have CO := Lib.hid (nameS l[k] wr (le_text HO.out hlt)); have HNO : Hid (nameB l[k] = false → namesB l = false) := fun h => names_no hlt h
  have HNX : Hid (nameB l[k] = true → ∀ m (h : m < l.length), m < k + 1 → nameB l[m] = true) := fun he m h hm => by
   by_cases e : m = k
   ·
    subst e; exact he
   ·
    exact HW.out.1 m h (by omega)
  generalize l[k] = x at *; (go_wp2_with fail); refine CO.out.mono ?_; rintro e w1 ⟨rfl, rfl⟩
  cases he : nameB x
  case false =>
   have HR := Lib.hid (HNO.out he); clear HNO HNX he CO; (go_wp2_with fail); go_ret; exact ⟨ret_b HR.out.symm, HW.out.2⟩
  have HN := Lib.hid (HNX.out he); clear HNO HNX he CO; (go_wp2_with fail); go_roundw
  case rel => exact ⟨k + 1, by omega, by go_num, HN.out, HW.out.2⟩
  case measure => simp [intOf]; omega
set_option maxRecDepth 100000 in
set_option maxHeartbeats 6400000 in
theorem setS (x : SetV) (va : Option Addr) (vc : Nat) (na : Option Addr) (nc : Nat) (A B : Nat → Prop) (w : World) (hc : x.col.length ≤ maxLen) (hv : (dAtomS x.val).le maxLen) (hn : (dStringS x.nms).le maxLen) (hV : Rd w A (dAtomS x.val) (.slice va x.val.length vc)) (hN : Rd w B (dStringS x.nms) (.slice na x.nms.length nc)) :
  Calls Tryz.prog 50 #[.agg #[.string ⟨x.col.toArray⟩, .slice va x.val.length vc, .slice na x.nms.length nc]] w fun e w' => e = .returned (.bool (setB x)) ∧ Below w.heap.size w w' := by
 have DA : Hid (∀ W, BoxD 76 w W #[.string ⟨x.col.toArray⟩, .slice va x.val.length vc, .slice na x.nms.length nc] → Calls Tryz.prog 87 #[.slice va x.val.length vc] W fun e w' => e = .returned (.bool (datumB x.val)) ∧ BoxD 76 w w' #[.string ⟨x.col.toArray⟩, .slice va x.val.length vc, .slice na x.nms.length nc]) := fun W h => (datumOKs x.val va vc W.heap.size W (le_atoms hv).1 (le_atoms hv).2 (Nat.le_refl _) (hV.later h.2).lt.ats).mono (fun _ _ ⟨he, hB⟩ => ⟨he, h.later hB⟩)
 have NA : Hid (∀ W, BoxD 76 w W #[.string ⟨x.col.toArray⟩, .slice va x.val.length vc, .slice na x.nms.length nc] → Calls Tryz.prog 88 #[.slice na x.nms.length nc] W fun e w' => e = .returned (.bool (namesB x.nms)) ∧ BoxD 76 w w' #[.string ⟨x.col.toArray⟩, .slice va x.val.length vc, .slice na x.nms.length nc]) := fun W h => (namesS x.nms na nc B W hn (hN.later h.2)).mono (fun _ _ ⟨he, hB⟩ => ⟨he, h.later hB⟩)
 have hb := boxD 76 w #[.string ⟨x.col.toArray⟩, .slice va x.val.length vc, .slice na x.nms.length nc]; have HB := Lib.hid hb; have hvl : x.val.length ≤ maxLen := (Ls_le.1 hv).2.1; have hnl : x.nms.length ≤ maxLen := (Ls_le.1 hn).2.1; unfold maxLen at hc hvl hnl; obtain ⟨y0, y1, y2⟩ := ck3 0 1 2 hb.1; clear hb hv hn hV hN
 by_cases h1 : x.col.length ≤ 40
 case neg =>
  have HR : Hid (setB x = false) := by show setB x = false; unfold setB; rw [decide_eq_false h1]; rfl
  have d1 : decide ((x.col.length : Int) ≤ 40) = false := decide_eq_false (by omega); clear h1; (go_enter Tryz.func50, Tryz.ntmps50); (go_wp2_with fail); go_ret; exact ⟨ret_b HR.out.symm, HB.out.2⟩
 have d1 : decide ((x.col.length : Int) ≤ 40) = true := decide_eq_true (by omega); have H1 := Lib.hid h1; clear h1
 cases h2 : datumB x.val
 case false =>
  have HR : Hid (setB x = false) := by show setB x = false; unfold setB; rw [h2]; simp
  rw [h2] at DA; clear h2; (go_enter Tryz.func50, Tryz.ntmps50); (go_wp2_with fail); refine (DA.out _ HB.out).mono ?_; rintro e w1 ⟨rfl, hb⟩; have HB1 := Lib.hid hb; clear y0 y1 y2; obtain ⟨y0, y1, y2⟩ := ck3 0 1 2 hb.1; clear hb; (go_wp2_with fail); go_ret; exact ⟨ret_b HR.out.symm, HB1.out.2⟩
 rw [h2] at DA
 cases h3 : namesB x.nms
 case false =>
  have HR : Hid (setB x = false) := by show setB x = false; unfold setB; rw [h3]; simp
  rw [h3] at NA; clear h2 h3; (go_enter Tryz.func50, Tryz.ntmps50); (go_wp2_with fail); refine (DA.out _ HB.out).mono ?_; rintro e w1 ⟨rfl, hb⟩; have HB1 := Lib.hid hb; clear y0 y1 y2; obtain ⟨y0, y1, y2⟩ := ck3 0 1 2 hb.1; clear hb; (go_wp2_with fail); refine (NA.out _ HB1.out).mono ?_; rintro e w2 ⟨rfl, hb⟩; have HB2 := Lib.hid hb; clear y0 y1 y2; obtain ⟨y0, y1, y2⟩ := ck3 0 1 2 hb.1; clear hb; (go_wp2_with fail); go_ret; exact ⟨ret_b HR.out.symm, HB2.out.2⟩
 rw [h3] at NA; have HE : Hid (setB x = (decide (x.nms.length = 0) || decide (x.val.length = 0))) := by show setB x = _; unfold setB; rw [decide_eq_true H1.out, h2, h3]; rfl
 clear h2 h3
 by_cases h4 : x.nms.length = 0
 case pos =>
  have HR : Hid (setB x = true) := by show setB x = true; rw [HE.out, decide_eq_true h4]; rfl
  have e1 : ((x.nms.length : Int) == 0) = true := by simp [h4]
  have e2 : (x.nms.length == 0) = true := by simp [h4]
  clear h4 HE; (go_enter Tryz.func50, Tryz.ntmps50); (go_wp2_with fail); refine (DA.out _ HB.out).mono ?_; rintro e w1 ⟨rfl, hb⟩; have HB1 := Lib.hid hb; clear y0 y1 y2; obtain ⟨y0, y1, y2⟩ := ck3 0 1 2 hb.1; clear hb; (go_wp2_with fail); refine (NA.out _ HB1.out).mono ?_; rintro e w2 ⟨rfl, hb⟩; have HB2 := Lib.hid hb; clear y0 y1 y2; obtain ⟨y0, y1, y2⟩ := ck3 0 1 2 hb.1; clear hb; (go_wp2_with fail); go_ret; exact ⟨ret_b HR.out.symm, HB2.out.2⟩
 have e1 : ((x.nms.length : Int) == 0) = false := by rw [beq_eq_false_iff_ne]; omega
 have e2 : (x.nms.length == 0) = false := by rw [beq_eq_false_iff_ne]; omega
 have e0 : x.nms ≠ [] := fun e => h4 (by rw [e]; rfl)
 by_cases h5 : x.val.length = 0
 case pos =>
  have HR : Hid (setB x = true) := by show setB x = true; rw [HE.out, decide_eq_false h4, decide_eq_true h5]; rfl
  have e3 : ((x.val.length : Int) == 0) = true := by simp [h5]
  have e4 : (x.val.length == 0) = true := by simp [h5]
  clear h4 h5 HE; (go_enter Tryz.func50, Tryz.ntmps50); (go_wp2_with fail); refine (DA.out _ HB.out).mono ?_; rintro e w1 ⟨rfl, hb⟩; have HB1 := Lib.hid hb; clear y0 y1 y2; obtain ⟨y0, y1, y2⟩ := ck3 0 1 2 hb.1; clear hb; (go_wp2_with fail); refine (NA.out _ HB1.out).mono ?_; rintro e w2 ⟨rfl, hb⟩; have HB2 := Lib.hid hb; clear y0 y1 y2; obtain ⟨y0, y1, y2⟩ := ck3 0 1 2 hb.1; clear hb; (go_wp2_with fail); go_ret; exact ⟨ret_b HR.out.symm, HB2.out.2⟩
 case neg =>
  have HR : Hid (setB x = false) := by show setB x = false; rw [HE.out, decide_eq_false h4, decide_eq_false h5]; rfl
  have e3 : ((x.val.length : Int) == 0) = false := by rw [beq_eq_false_iff_ne]; omega
  have e4 : (x.val.length == 0) = false := by rw [beq_eq_false_iff_ne]; omega
  have e5 : x.val ≠ [] := fun e => h5 (by rw [e]; rfl)
  clear h4 h5 HE; (go_enter Tryz.func50, Tryz.ntmps50); (go_wp2_with fail); refine (DA.out _ HB.out).mono ?_; rintro e w1 ⟨rfl, hb⟩; have HB1 := Lib.hid hb; clear y0 y1 y2; obtain ⟨y0, y1, y2⟩ := ck3 0 1 2 hb.1; clear hb; (go_wp2_with fail); refine (NA.out _ HB1.out).mono ?_; rintro e w2 ⟨rfl, hb⟩; have HB2 := Lib.hid hb; clear y0 y1 y2; obtain ⟨y0, y1, y2⟩ := ck3 0 1 2 hb.1; clear hb; (go_wp2_with fail); go_ret; exact ⟨ret_b HR.out.symm, HB2.out.2⟩
variable {V W1 W W' : World} {p S : Nat} {a : Option Addr} {l : List UInt8} {c m m' s : Nat}
def pqT : List (List UInt8) := [[112], [113]]
def SetD (x : SetV) : Prop := x.col.length ≤ 40 ∧ ((x.nms = [] ∧ x.val.length ≤ 4 ∧ ∃ k : Nat, (1 ≤ k ∧ k ≤ 4) ∧ Drn k x.val) ∨ (x.val = [] ∧ ∃ t ∈ pqT, x.nms = [t]))
theorem drn_nil {k : Nat} : Drn k [] := ⟨rise_nil, fun _ h => absurd h List.not_mem_nil⟩
theorem drn_of {k : Nat} {x : At} (h1 : x.k = (k : Int)) (h2 : atOK x = true) : Drn k [x] := ⟨by first | exact rise_one _ | simp [Rise], fun z hz => by rw [List.mem_singleton.1 hz]; exact ⟨h1, h2⟩⟩
theorem pqT_le {t : List UInt8} (h : t ∈ pqT) : t.length = 1 ∧ nameB t = true := by
 simp only [pqT, List.mem_cons, List.not_mem_nil, or_false] at h; rcases h with rfl | rfl <;> exact ⟨rfl, by decide⟩
theorem SetD.le {x : SetV} (h : SetD x) : ∀ j, j < 3 → (dSet x j).le 1048576 := fun j hj => by
 obtain ⟨hc, h⟩ := h; rcases h with ⟨h1, h2, k, hk, hd⟩ | ⟨h1, t, ht, h2⟩
 ·
  rcases (by omega : j = 0 ∨ j = 1 ∨ j = 2) with rfl | rfl | rfl
  ·
   show x.col.length ≤ 1048576; omega
  ·
   exact ats_leK (by omega) (fun z hz => ⟨by rw [(hd.2 z hz).1]; omega, (hd.2 z hz).2⟩)
  ·
   show (dStringS x.nms).le 1048576
   rw [h1]; exact Ls_le.2 ⟨by omega, by simp, fun i hi => absurd hi (by simp)⟩
 ·
  rcases (by omega : j = 0 ∨ j = 1 ∨ j = 2) with rfl | rfl | rfl
  ·
   show x.col.length ≤ 1048576; omega
  ·
   show (dAtomS x.val).le 1048576
   rw [h1]; exact Ls_le.2 ⟨by omega, by simp, fun i hi => absurd hi (by simp)⟩
  ·
   show (dStringS x.nms).le 1048576
   rw [h2]; exact Ls_le.2 ⟨by omega, by simp, fun i hi j hj => by
    obtain rfl : i = 0 := by simpa using hi
    obtain rfl : j = 0 := by omega
    show t.length ≤ 1048576
    rw [(pqT_le ht).1]; omega⟩
theorem SetD.ok {x : SetV} (h : SetD x) : setB x = true := by
 obtain ⟨hc, h⟩ := h; unfold setB; rw [decide_eq_true hc]; rcases h with ⟨h1, h2, k, hk, hd⟩ | ⟨h1, t, ht, h2⟩
 ·
  rw [h1, Dk.datum (k := (k : Int)) hd (by omega)]; rfl
 ·
  rw [h1, h2, show datumB ([] : List At) = true from Dk.datum (k := ((1 : Nat) : Int)) (drn_nil (k := 1)) (by simp), show namesB [t] = true by unfold namesB; simp [(pqT_le ht).2]]; rfl
theorem SetD.one {nm : List UInt8} {y : At} (hy : (1 ≤ y.k ∧ y.k ≤ 4) ∧ atOK y = true) (hn : nm.length ≤ 40) : SetD ⟨nm, [y], []⟩ := ⟨hn, .inl ⟨rfl, by simp, y.k.toNat, by omega, drn_of (by omega) hy.2⟩⟩
theorem SetD.none {x : SetV} (h : SetD x) : SetD ⟨x.col, [], x.nms⟩ := by
  obtain ⟨hc, h⟩ := h; rcases h with ⟨h1, h2, k, hk, hd⟩ | ⟨h1, t, ht, h2⟩
  · exact ⟨hc, .inl ⟨h1, by simp, k, hk, drn_nil⟩⟩
  · exact ⟨hc, .inr ⟨rfl, t, ht, h2⟩⟩
theorem SetD.dat {x : SetV} {D8 : List At} {k : Nat} (hc : SetD x) (hn : x.nms = []) (hk : 1 ≤ k ∧ k ≤ 4) (hd : Drn k D8) (h8 : D8.length ≤ 4) : SetD ⟨x.col, D8, x.nms⟩ := ⟨hc.1, .inl ⟨hn, h8, k, hk, hd⟩⟩
theorem SetD.nm {x : SetV} {t : List UInt8} (hc : SetD x) (ht : t ∈ pqT) : SetD ⟨x.col, [], [t]⟩ := ⟨hc.1, .inr ⟨rfl, t, ht, rfl⟩⟩
structure SX (V W1 W : World) (p S : Nat) (a : Option Addr) (l : List UInt8) (c m qc qx : Nat) (cl : Cl) (x : SetV) (va : Option Addr) (vc : Nat) (na : Option Addr) (nc : Nat) (L : List SetV) (v : Value) : Prop where
 src : ∃ s, Src W p S a l c m s
 fr : Frm (· = p) V W
 pl : p < V.heap.size
 sg : SG W V.heap.size (fun b => V.heap.size ≤ b ∧ b < W1.heap.size) 76 3 (lsF dSet L) L.length v
 ol : V.heap.size ≤ W1.heap.size ∧ ∀ g, v.ownBlock = some g → g < W1.heap.size
 cb : W.heap[qc]? = some (.cells #[.string ⟨cl.nm.toArray⟩, .int .i64 cl.k, .int .i64 cl.mn, .int .i64 cl.mx, .int .i64 cl.lo, .int .i64 cl.hi, .string ⟨cl.rf.toArray⟩, .bool cl.st] 44)
 bx : W.heap[qx]? = some (.cells #[.string ⟨x.col.toArray⟩, .slice va x.val.length vc, .slice na x.nms.length nc] 76)
 rv : Rd W (fun b => (W1.heap.size ≤ b ∧ b ≠ qx) ∧ b < W.heap.size) (dAtomS x.val) (.slice va x.val.length vc)
 rn : Rd W (fun b => (W1.heap.size ≤ b ∧ b ≠ qx) ∧ b < W.heap.size) (dStringS x.nms) (.slice na x.nms.length nc)
 ge : W1.heap.size ≤ qc ∧ W1.heap.size ≤ qx ∧ qc ≠ qx
 le : SetD x
variable {qc qx : Nat} {cl : Cl} {x : SetV} {va : Option Addr} {vc : Nat} {na : Option Addr} {nc : Nat} {L : List SetV} {v : Value}
theorem SX.draw (h : SX V W1 W p S a l c m qc qx cl x va vc na nc L v) (hF : Frm (· = p) W W') (hS : ∃ s', Src W' p S a l c m' s') : SX V W1 W' p S a l c m' qc qx cl x va vc na nc L v := by
 have hp := h.pl; have ho := h.ol; have hg := h.ge; exact ⟨hS, h.fr.trans hF, hp, h.sg.frmP hF (fun g hg => by have := h.sg.low hg; omega) (fun b hb => by omega), ho, keepF h.cb hF (by omega), keepF h.bx hF (by omega), (h.rv.frm hF (fun b hb e => by have e' : b = p := e; omega)).mono (fun b hb => ⟨hb.1, Nat.lt_of_lt_of_le hb.2 hF.size⟩), (h.rn.frm hF (fun b hb e => by have e' : b = p := e; omega)).mono (fun b hb => ⟨hb.1, Nat.lt_of_lt_of_le hb.2 hF.size⟩), hg, h.le⟩
theorem SX.later (h : SX V W1 W p S a l c m qc qx cl x va vc na nc L v) (hB : Below W.heap.size W W') : SX V W1 W' p S a l c m qc qx cl x va vc na nc L v := by
 obtain ⟨s, hs⟩ := h.src; exact h.draw (Frm.of_below hB) ⟨s, hs.on hB⟩
theorem SX.wle (h : SX V W1 W p S a l c m qc qx cl x va vc na nc L v) : W1.heap.size ≤ W.heap.size := by have := (Array.getElem?_eq_some_iff.1 h.bx).1; have := h.ge; omega
theorem SX.dl (h : SX V W1 W p S a l c m qc qx cl x va vc na nc L v) : DL V W p S a l c m 76 3 (lsF dSet L) L.length v := ⟨h.src, h.fr, h.pl, h.sg.conv (fun _ _ _ => rfl) (fun _ _ hb => hb.1)⟩
theorem SX.put (h : SX V W1 W p S a l c m qc qx cl x va vc na nc L v) (o : Nat) (u : Value) {y : SetV} {va' : Option Addr} {vc' : Nat} {na' : Option Addr} {nc' : Nat} (hb : (W.setCell ⟨qx, o, none⟩ u).heap[qx]? = some (.cells #[.string ⟨y.col.toArray⟩, .slice va' y.val.length vc', .slice na' y.nms.length nc'] 76))
  (hv : Rd W (fun b => (W1.heap.size ≤ b ∧ b ≠ qx) ∧ b < W.heap.size) (dAtomS y.val) (.slice va' y.val.length vc')) (hn : Rd W (fun b => (W1.heap.size ≤ b ∧ b ≠ qx) ∧ b < W.heap.size) (dStringS y.nms) (.slice na' y.nms.length nc')) (hl : SetD y) : SX V W1 (W.setCell ⟨qx, o, none⟩ u) p S a l c m qc qx cl y va' vc' na' nc' L v := by
 obtain ⟨s, hs⟩ := h.src; have hp := h.pl; have ho := h.ol; have hg := h.ge; have hF : Frm (· = qx) W (W.setCell ⟨qx, o, none⟩ u) := frm_set _ _ _ _; have sz : (W.setCell ⟨qx, o, none⟩ u).heap.size = W.heap.size := by simp [World.setCell]
 refine ⟨⟨s, hs.frm hF (by omega) (fun b hb e => by have := hs.le; have e' : b = qx := e; omega)⟩, frm_over h.fr (by omega) hF, hp, h.sg.frmP hF (fun g hg' => by have := ho.2 g hg'; omega) (fun b hb => by omega), ho, ?_, hb, ?_, ?_, hg, hl⟩
 ·
  rw [hF.block _ (Array.getElem?_eq_some_iff.1 h.cb).1 (show ¬ qc = qx by omega)]; exact h.cb
 ·
  rw [sz]; exact hv.frm hF (fun b hb e => hb.1.2 e)
 ·
  rw [sz]; exact hn.frm hF (fun b hb e => hb.1.2 e)
theorem infoSet : ∃ i, Tryz.prog.info? 76 = some i ∧ i.zero = some (.agg #[.string ⟨#[]⟩, .slice none 0 0, .slice none 0 0]) ∧ i.size = 3 ∧ i.bytes = 64 := by
 have h : (Tryz.prog.info? 76).map (fun i => (i.zero, i.size, i.bytes)) = some (some (.agg #[.string ⟨#[]⟩, .slice none 0 0, .slice none 0 0]), 3, 64) := by kernel_rfl
 obtain ⟨i, hi, hzz⟩ := Option.map_eq_some_iff.1 h; simp only [Prod.mk.injEq] at hzz; exact ⟨i, hi, hzz⟩
theorem lsF_snoc {α : Type} {d : α → Nat → D} {L : List α} {x : α} : (∀ i j, i < L.length → lsF d (L ++ [x]) i j = lsF d L i j) ∧ ∀ j, lsF d (L ++ [x]) L.length j = d x j := by
  refine ⟨fun i j hi => ?_, fun j => ?_⟩
  · rw [lsF_at (by simp; omega), lsF_at hi, List.getElem_append_left hi]
  · rw [lsF_at (by simp)]; simp
theorem SX.push (h : SX V W1 W p S a l c m qc qx cl x va vc na nc L v) (hL : L.length ≤ 1000) : ∃ a' c' W', (Builtin.append_ #[32, 32] 32 #[v, .slice (some ⟨W.heap.size, 0, none⟩) 1 1]).run Tryz.prog (W.alloc (.cells #[.string ⟨x.col.toArray⟩, .slice va x.val.length vc, .slice na x.nms.length nc] 76)) = .ok (.slice a' (L.length + 1) c') W' ∧ DL V W' p S a l c m 76 3 (lsF dSet (L ++ [x])) (L.length + 1) (.slice a' (L.length + 1) c') := by
 obtain ⟨i, hi, hz, hsz, hby⟩ := infoSet; have hA := below_allocD W (.cells #[.string ⟨x.col.toArray⟩, .slice va x.val.length vc, .slice na x.nms.length nc] 76); have hn := heap_newD W (.cells #[.string ⟨x.col.toArray⟩, .slice va x.val.length vc, .slice na x.nms.length nc] 76); have h2 := (h.later hA).dl; refine h2.push (P := Tryz.prog) (f' := lsF dSet (L ++ [x])) lsF_snoc.1 _ _ i _ 64 Tryz.underlying32 hi hz hsz hby rfl (by omega) _ _ [.string ⟨x.col.toArray⟩, .slice va x.val.length vc, .slice na x.nms.length nc] rfl ?_ ?_ (by unfold maxLen; omega) (by omega) ?_
 ·
  intro j u hj; have hj3 := (List.getElem?_eq_some_iff.1 hj).1; rcases (by simp at hj3; omega : j = 0 ∨ j = 1 ∨ j = 2) with rfl | rfl | rfl
  ·
   cases hj; exact cell_at (o := 0) hn rfl
  ·
   cases hj; exact cell_at (o := 1) hn rfl
  ·
   cases hj; exact cell_at (o := 2) hn rfl
 ·
  intro u hu; simp only [List.mem_cons, List.not_mem_nil, or_false] at hu; rcases hu with rfl | rfl | rfl <;> rfl
 ·
  intro j hj; rw [lsF_snoc.2]; have hk : ∀ d u, Rd W (fun b => (W1.heap.size ≤ b ∧ b ≠ qx) ∧ b < W.heap.size) d u → Rd (W.alloc (.cells #[.string ⟨x.col.toArray⟩, .slice va x.val.length vc, .slice na x.nms.length nc] 76)) (fun b => (v.ownBlock ≠ some b ∧ b < (W.alloc (.cells #[.string ⟨x.col.toArray⟩, .slice va x.val.length vc, .slice na x.nms.length nc] 76)).heap.size) ∧ V.heap.size ≤ b) d u := fun d u hr => (hr.later hA).mono (fun b hb => ⟨⟨fun e => by have := h.ol.2 b e; omega, Nat.lt_of_lt_of_le hb.2 hA.size⟩, by have := h.ol.1; omega⟩)
  rcases (by omega : j = 0 ∨ j = 1 ∨ j = 2) with rfl | rfl | rfl
  ·
   exact ⟨_, rfl, rfl⟩
  ·
   exact ⟨_, rfl, hk _ _ h.rv⟩
  ·
   exact ⟨_, rfl, hk _ _ h.rn⟩
end Go.Proofs.YtlbcaaodkggohaaGreatDoor
