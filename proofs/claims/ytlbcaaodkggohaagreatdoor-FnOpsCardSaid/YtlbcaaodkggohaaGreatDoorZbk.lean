import Derived.Test.YtlbcaaodkggohaaGreatDoorZaz
import Derived.Test.YtlbcaaodkggohaaGreatDoorZak
import Derived.Deep.RegionHeld3
import Derived.Test.YtlbcaaodkggohaaGreatDoorZTk
namespace Go.Proofs.YtlbcaaodkggohaaGreatDoor
open Go.RowKit
set_option linter.unusedSimpArgs false
def colIn (l : List SetV) (s : List UInt8) : Bool := l.any (fun x => x.col == s)
def typeNo (kd : Int) (x : SetV) : Bool := kindNo kd x.val || (decide (0 < x.nms.length) && (kd != 4))
def ofK (kd : Int) (x : SetV) : Bool := if 0 < x.nms.length then kd == 4 else !(kindNo kd x.val)
theorem type_of {kd : Int} {x : SetV} (h : ¬ (0 < x.val.length ∧ 0 < x.nms.length)) : typeNo kd x = !(ofK kd x) := by
  unfold typeNo ofK
  by_cases h1 : 0 < x.nms.length
  · rw [if_pos h1, decide_eq_true h1, kindNo_nil (by omega)]; simp [bne]
  · rw [if_neg h1, decide_eq_false h1]; simp
noncomputable def setK (t : Tb) (l : List SetV) (x : SetV) : Int := if placeC t.cols x.col < 0 then 11 else if colIn l x.col = true then 8 else if typeNo (t.cols.getD (placeC t.cols x.col).toNat clZ).k x = true then 9 else 0
theorem setK_col {t : Tb} {l : List SetV} {x : SetV} (h : placeC t.cols x.col = -1) : setK t l x = 11 := by unfold setK; rw [h, if_pos (by omega)]
theorem setK_twice {t : Tb} {l : List SetV} {x : SetV} {k : Nat} (h : placeC t.cols x.col = (k : Int)) (h2 : colIn l x.col = true) : setK t l x = 8 := by unfold setK; rw [h, if_neg (by omega), if_pos h2]
theorem setK_type {t : Tb} {l : List SetV} {x : SetV} {k : Nat} (hk : k < t.cols.length) (h : placeC t.cols x.col = (k : Int)) (h2 : colIn l x.col = false) : setK t l x = if typeNo t.cols[k].k x = true then 9 else 0 := by
 unfold setK; rw [h, if_neg (by omega), if_neg (by rw [h2]; decide), Int.toNat_natCast, List.getD_eq_getElem?_getD, List.getElem?_eq_getElem hk]; rfl
noncomputable def setsG (t : Tb) : List SetV → List SetV → Int
 | _, [] => 0
 | l, x :: r => if setK t l x = 0 then setsG t (l ++ [x]) r else setK t l x
noncomputable def setsC (t : Tb) (list : List SetV) : Int := setsG t [] list
theorem setsG_first (t : Tb) (list : List SetV) : setsC t list = setsG t (list.take 0) (list.drop 0) := rfl
theorem setsG_no {t : Tb} {list : List SetV} {k : Nat} (hk : k < list.length) (h : setsC t list = setsG t (list.take k) (list.drop k)) (h0 : setK t (list.take k) list[k] ≠ 0) : setsC t list = setK t (list.take k) list[k] := by
 rw [h, List.drop_eq_getElem_cons hk, setsG, if_neg h0]
theorem setsG_next {t : Tb} {list : List SetV} {k : Nat} (hk : k < list.length) (h : setsC t list = setsG t (list.take k) (list.drop k)) (h0 : setK t (list.take k) list[k] = 0) : setsC t list = setsG t (list.take (k + 1)) (list.drop (k + 1)) := by
 rw [h, List.drop_eq_getElem_cons hk, setsG, if_pos h0, List.take_succ_eq_append_getElem hk]
theorem setsG_end {t : Tb} {list : List SetV} {k : Nat} (hk : list.length ≤ k) (h : setsC t list = setsG t (list.take k) (list.drop k)) : setsC t list = 0 := by
 rw [h, List.drop_eq_nil_of_le hk, setsG]
theorem colIn_yes {l : List SetV} {s : List UInt8} {k : Nat} (hk : k < l.length) (h : l[k].col = s) : colIn l s = true := List.any_eq_true.2 ⟨_, List.getElem_mem hk, by simpa using h⟩
theorem colIn_no {l : List SetV} {s : List UInt8} (h : ∀ k (hk : k < l.length), l[k].col ≠ s) : colIn l s = false := List.any_eq_false.2 (fun x hx => by obtain ⟨k, hk, rfl⟩ := List.mem_iff_getElem.1 hx; simpa using h k hk)
theorem Rd.takeT {α : Type} {w : World} {B : Nat → Prop} {n : Nat} {d : α → Nat → D} {l : List α} {a : Option Addr} {c : Nat} (h : Rd w B (Ls n d l) (.slice a l.length c)) (i : Nat) : Rd w B (Ls n d (l.take i)) (.slice a (l.take i).length c) := by
 obtain ⟨a0, c0, e, h⟩ := h; simp only [Value.slice.injEq, true_and] at e; obtain ⟨rfl, rfl⟩ := e; refine ⟨a, c, rfl, ?_⟩; rcases h with h | ⟨b, off, ha, hb, hn, hc⟩
 ·
  exact .inl (by rw [List.length_take]; omega)
 ·
  refine .inr ⟨b, off, ha, hb, hn, fun j m hj hm => ?_⟩; have hj' : j < l.length := by rw [List.length_take] at hj; omega
  obtain ⟨u, hu, hr⟩ := hc j m hj' hm; refine ⟨u, hu, ?_⟩; rw [lsF_at hj, List.getElem_take]; rw [lsF_at hj'] at hr; exact hr
set_option maxRecDepth 100000 in
set_option maxHeartbeats 6400000 in
theorem setsColumnI (list : List SetV) (s : List UInt8) (a : Option Addr) (c : Nat) (B : Nat → Prop) (w : World) (hl : list.length ≤ maxLen) (hL : Rd w B (dSetS list) (.slice a list.length c)) :
  Calls Tryz.prog 79 #[.slice a list.length c, .string ⟨s.toArray⟩] w fun e w' => e = .returned (.bool (colIn list s)) ∧ w' = w := by
 have HL : Hid (Rd w B (Ls 3 dSet list) (.slice a list.length c)) := hL; have hll := hl; unfold maxLen at hll; clear hl hL; (go_enter Tryz.func79, Tryz.ntmps79); (go_wp2_with fail); go_loopw [8] (fun i wr => ∃ k : Nat, k ≤ list.length ∧ i = .int .i64 k ∧ Hid (∀ m (h : m < list.length), m < k → list[m].col ≠ s) ∧ wr = w) (fun i _ => list.length - (intOf i).toNat)
 case atStart => exact ⟨0, Nat.zero_le _, rfl, fun m _ h => absurd h (by omega), rfl⟩
 case round =>
  obtain ⟨k, hk, rfl, HW, rfl⟩ := hrel
  by_cases hlt : k < list.length
  case neg =>
   have hki : decide ((k : Int) < (list.length : Int)) = false := by simp; omega
   have HR := Lib.hid (colIn_no (s := s) (fun m h => HW.out m h (by omega))); (go_wp2_with fail); go_ret; exact ⟨ret_b HR.out.symm, rfl⟩
  have hki : (k : Int) < (list.length : Int) := by omega
  obtain ⟨b, off, rfl, -, hc⟩ := HL.out.things k hlt; obtain ⟨u0, c0, r0⟩ := hc 0 (by omega); obtain rfl : u0 = .string ⟨list[k].col.toArray⟩ := r0; rw [Nat.add_zero] at c0; clear hc
  have HNX : Hid (list[k].col ≠ s → ∀ m (h : m < list.length), m < k + 1 → list[m].col ≠ s) := fun he m h hm => by
   by_cases e : m = k
   ·
    subst e; exact he
   ·
    exact HW.out m h (by omega)
  have HYE : Hid (list[k].col = s → colIn list s = true) := fun h => colIn_yes hlt h
  generalize list[k] = x at *
  by_cases he : x.col = s
  case pos =>
   have HR := Lib.hid (HYE.out he); have e1 : (x.col == s) = true := by simpa using he
   clear he HNX HYE; (go_wp2_with fail); go_ret; exact ⟨ret_b HR.out.symm, rfl⟩
  have HN := Lib.hid (HNX.out he); have e1 : (x.col == s) = false := by simpa using he
  clear he HNX HYE; (go_wp2_with fail); go_roundw
  case rel => first | exact ⟨k + 1, by omega, by go_num, HN, rfl⟩ | exact ⟨k + 1, by omega, by go_num, HN, trivial⟩
  case measure => simp [intOf]; omega
set_option maxRecDepth 100000 in
set_option maxHeartbeats 6400000 in
theorem ofKindI (x : SetV) (kd : Int) (va : Option Addr) (vc : Nat) (na : Option Addr) (nc : Nat) (A : Nat → Prop) (w : World) (hv : (dAtomS x.val).le maxLen) (hn : (dStringS x.nms).le maxLen) (hV : Rd w A (dAtomS x.val) (.slice va x.val.length vc)) :
  Calls Tryz.prog 80 #[.agg #[.string ⟨x.col.toArray⟩, .slice va x.val.length vc, .slice na x.nms.length nc], .int .i64 kd] w fun e w' => e = .returned (.bool (ofK kd x)) ∧ Below w.heap.size w w' := by
 have hb := boxD 76 w #[.string ⟨x.col.toArray⟩, .slice va x.val.length vc, .slice na x.nms.length nc]; have HB := Lib.hid hb; have hvl : x.val.length ≤ maxLen := (Ls_le.1 hv).2.1; have hnl : x.nms.length ≤ maxLen := (Ls_le.1 hn).2.1; unfold maxLen at hvl hnl; obtain ⟨y0, y1, y2⟩ := ck3 0 1 2 hb.1; have hh := hV.lt.ats.head; clear hb hv hn hV
 by_cases h1 : 0 < x.nms.length
 case pos =>
  have HR : Hid (ofK kd x = (kd == 4)) := by show ofK kd x = _; unfold ofK; rw [if_pos h1]
  have e1 : decide (0 < x.nms.length) = true := decide_eq_true h1; clear h1 hh; (go_enter Tryz.func80, Tryz.ntmps80); (go_wp2_with fail); go_ret; exact ⟨ret_b HR.out.symm, HB.out.2⟩
 have HE : Hid (ofK kd x = !(kindNo kd x.val)) := by show ofK kd x = _; unfold ofK; rw [if_neg h1]
 have e1 : decide (0 < x.nms.length) = false := decide_eq_false h1; clear h1; rcases hh with h0 | ⟨b, off, kq, h0, ha, hkn, hcell⟩
 ·
  have HR : Hid (ofK kd x = true) := by show ofK kd x = true; rw [HE.out, kindNo_nil h0]; rfl
  have e2 : ((x.val.length : Int) == 0) = true := by simp [h0]
  have e3 : (x.val.length == 0) = true := by simp [h0]
  clear h0 HE; (go_enter Tryz.func80, Tryz.ntmps80); (go_wp2_with fail); go_ret; exact ⟨ret_b HR.out.symm, HB.out.2⟩
 ·
  have HR : Hid (ofK kd x = (kq == kd)) := by show ofK kd x = _; rw [HE.out, hkn kd]; simp [bne]
  have e2 : ((x.val.length : Int) == 0) = false := by rw [beq_eq_false_iff_ne]; omega
  have e3 : (x.val.length == 0) = false := by rw [beq_eq_false_iff_ne]; omega
  have e4 : x.val ≠ [] := fun e => by rw [e] at h0; simp at h0
  have cv := hcell _ HB.out.2; subst ha; clear HE hkn hcell; (go_enter Tryz.func80, Tryz.ntmps80); (go_wp2_with fail); go_ret; exact ⟨ret_b HR.out.symm, HB.out.2⟩
set_option maxRecDepth 100000 in
set_option maxHeartbeats 12800000 in
theorem rowCodeI (t : Tb) (ca : Option Addr) (cc : Nat) (ua : Option Addr) (uc : Nat) (A : Nat → Prop) (list : List SetV) (a : Option Addr) (c : Nat) (B : Nat → Prop) (w : World) (hto : t.ok) (ho : (dSetS list).le maxLen) (hq : ∀ k (h : k < list.length), setB list[k] = true) (hcap : list.length ≤ c) (hT : t.Has w A ca ua) (hL : Rd w B (dSetS list) (.slice a list.length c)) :
  Calls Tryz.prog 37 #[.agg #[.string ⟨t.nm.toArray⟩, .slice ca t.cols.length cc, .slice ua t.uq.length uc, .bool t.rt], .slice a list.length c] w fun e w' => e = .returned (.int .i64 (setsC t list)) ∧ Below w.heap.size w w' := by
 have HL : Hid (∀ W, Below w.heap.size w W → Rd W B (Ls 3 dSet list) (.slice a list.length c)) := fun W h => Rd.later hL h
 have HT : Hid (t.ok ∧ ∀ W, Below w.heap.size w W → t.Has W A ca ua) := ⟨hto, fun W h => hT.later h⟩; have HO := Lib.hid ho; have hll : list.length ≤ maxLen := (Ls_le.1 ho).2.1; have hcl := hto.2.1; unfold maxLen at hll hcl; have HX := Lib.hid (boxD 48 w #[.string ⟨t.nm.toArray⟩, .slice ca t.cols.length cc, .slice ua t.uq.length uc, .bool t.rt]); have HQ := Lib.hid hq; have HC := Lib.hid hcap; clear ho hL hT hto hq hcap; (go_enter Tryz.func37, Tryz.ntmps37); (go_wp2_with fail); go_loopw [10] (fun i wr => ∃ k : Nat, k ≤ list.length ∧ i = .int .i64 k ∧ Hid (setsC t list = setsG t (list.take k) (list.drop k) ∧ BoxD 48 w wr #[.string ⟨t.nm.toArray⟩, .slice ca t.cols.length cc, .slice ua t.uq.length uc, .bool t.rt])) (fun i _ => list.length - (intOf i).toNat)
 case atStart => exact ⟨0, Nat.zero_le _, rfl, setsG_first t list, HX.out⟩
 case round =>
  obtain ⟨k, hk, rfl, HW⟩ := hrel
  by_cases hlt : k < list.length
  case neg =>
   have hki : decide ((k : Int) < (list.length : Int)) = false := by simp; omega
   have HR := Lib.hid (setsG_end (by omega) HW.out.1); (go_wp2_with fail); go_ret; exact ⟨ret_i HR.out.symm, HW.out.2.2⟩
  have hki : (k : Int) < (list.length : Int) := by omega
  obtain ⟨b, off, rfl, -, hc⟩ := (HL.out _ HW.out.2.2).things k hlt; obtain ⟨u0, c0, r0⟩ := hc 0 (by omega); obtain rfl : u0 = .string ⟨list[k].col.toArray⟩ := r0; rw [Nat.add_zero] at c0; obtain ⟨u1, c1, r1⟩ := hc 1 (by omega); replace r1 : Rd wr B (dAtomS list[k].val) u1 := r1; obtain ⟨va, vc, rfl⟩ := r1.lsSlice; obtain ⟨u2, c2, r2⟩ := hc 2 (by omega); replace r2 : Rd wr B (dStringS list[k].nms) u2 := r2; obtain ⟨na, nc, rfl⟩ := r2.lsSlice; clear hc r2; have HLE := Lib.hid (le_set HO.out hlt); have HNO : Hid (∀ n : Int, setK t (list.take k) list[k] = n → n ≠ 0 → setsC t list = n) := fun n h h0 => (setsG_no hlt HW.out.1 (by rw [h]; exact h0)).trans h
  have HNX : Hid (setK t (list.take k) list[k] = 0 → setsC t list = setsG t (list.take (k + 1)) (list.drop (k + 1))) := fun h => setsG_next hlt HW.out.1 h
  have HTK : Hid (∀ W, Below wr.heap.size wr W → Rd W B (dSetS (list.take k)) (.slice (some ⟨b, off, none⟩) (list.take k).length c)) := fun W h => (HL.out W (HW.out.2.2.trans (h.mono HW.out.2.2.size))).takeT k
  have hkl : (list.take k).length = k := by rw [List.length_take]; omega
  rw [hkl] at HTK
  have SCI : Hid (∀ W, Below wr.heap.size wr W → Calls Tryz.prog 79 #[.slice (some ⟨b, off, none⟩) k c, .string ⟨list[k].col.toArray⟩] W fun e w' => e = .returned (.bool (colIn (list.take k) list[k].col)) ∧ w' = W) := fun W h => by
   have := setsColumnI (list.take k) list[k].col (some ⟨b, off, none⟩) c B W (by rw [hkl]; unfold maxLen; omega) (by rw [hkl]; exact HTK.out W h); rw [hkl] at this; exact this
  have OKI : Hid (∀ kd W, Below wr.heap.size wr W → Calls Tryz.prog 80 #[.agg #[.string ⟨list[k].col.toArray⟩, .slice va list[k].val.length vc, .slice na list[k].nms.length nc], .int .i64 kd] W fun e w' => e = .returned (.bool (ofK kd list[k])) ∧ Below W.heap.size W w') := fun kd W h => ofKindI list[k] kd va vc na nc B W HLE.out.2.1 HLE.out.2.2 (r1.later h)
  have PLI : Hid (∀ W, Below wr.heap.size wr W → Calls Tryz.prog 74 #[.agg #[.string ⟨t.nm.toArray⟩, .slice ca t.cols.length cc, .slice ua t.uq.length uc, .bool t.rt], .string ⟨list[k].col.toArray⟩] W fun e w' => e = .returned (.int .i64 (placeC t.cols list[k].col)) ∧ Below W.heap.size W w') := fun W h => placeI t list[k].col ca cc ua uc A W HT.out.1.2.1 (HT.out.2 W (HW.out.2.2.trans (h.mono HW.out.2.2.size)))
  have HBO : Hid (¬ (0 < list[k].val.length ∧ 0 < list[k].nms.length)) := fun h => by have h1 := setB_both h.1 h.2; rw [HQ.out k hlt] at h1; cases h1
  have HSL : Hid (k ≤ c) := by have := HC.out; show k ≤ c; omega
  have KB : Hid (∀ W, Below (wr.alloc (.cells #[.string ⟨list[k].col.toArray⟩, .slice va list[k].val.length vc, .slice na list[k].nms.length nc] 76)).heap.size (wr.alloc (.cells #[.string ⟨list[k].col.toArray⟩, .slice va list[k].val.length vc, .slice na list[k].nms.length nc] 76)) W → (W.heap[w.heap.size]? = some (.cells #[.string ⟨t.nm.toArray⟩, .slice ca t.cols.length cc, .slice ua t.uq.length uc, .bool t.rt] 48) ∧ W.heap[wr.heap.size]? = some (.cells #[.string ⟨list[k].col.toArray⟩, .slice va list[k].val.length vc, .slice na list[k].nms.length nc] 76) ∧ Below wr.heap.size wr W)) := fun W h => ⟨heap_keptD (heap_keptD HW.out.2.1 (below_allocD _ _)) h, heap_keptD (heap_newD _ _) h, (below_allocD _ _).trans (h.mono (by simp))⟩
  have HS1 : Hid (placeC t.cols list[k].col = -1 → setK t (list.take k) list[k] = 11) := fun h => setK_col h
  have HS2 : Hid (∀ j : Nat, placeC t.cols list[k].col = (j : Int) → colIn (list.take k) list[k].col = true → setK t (list.take k) list[k] = 8) := fun j h h2 => setK_twice h h2
  have HS3 : Hid (∀ (j : Nat) (hj : j < t.cols.length), placeC t.cols list[k].col = (j : Int) → colIn (list.take k) list[k].col = false → setK t (list.take k) list[k] = if typeNo t.cols[j].k list[k] = true then 9 else 0) := fun j hj h h2 => setK_type hj h h2
  clear r1 hkl HTK HQ; generalize setK t (list.take k) list[k] = sk at *; generalize colIn (list.take k) list[k].col = ci at *; generalize list[k] = y at *; have hb := KB.out _ (Below.refl _ _); obtain ⟨x0, x1, x2, x3⟩ := ck4 0 1 2 3 hb.1; obtain ⟨y0, y1, y2⟩ := ck3 0 1 2 hb.2.1; have HB := Lib.hid hb; clear hb; rcases place_cases t.cols y.col with hp | ⟨j, hj, hp⟩
  ·
   have HR := Lib.hid (HNO.out 11 (HS1.out hp) (by omega)); rw [hp] at PLI; clear hp HS1 HS2 HS3 HNX HNO SCI OKI; (go_wp2_with fail); refine (PLI.out _ HB.out.2.2).mono ?_; rintro e w1 ⟨rfl, hB⟩; have BF : Hid (Below w.heap.size w w1) := HW.out.2.2.trans ((HB.out.2.2.trans (hB.mono HB.out.2.2.size)).mono HW.out.2.2.size); clear hB c0 c1 c2; clear x0 x1 x2 x3 y0 y1 y2; (go_wp2_with fail); go_ret; exact ⟨ret_i HR.out.symm, BF.out⟩
  have hdj : decide ((j : Int) < 0) = false := decide_eq_false (by omega); have HS2 := Lib.hid (HS2.out j hp); have HS3 := Lib.hid (HS3.out j hj hp); obtain ⟨b1, off1, hca, -, -⟩ := (HT.out.2 _ HW.out.2.2).1.at j hj; subst hca
  have CCE : Hid (∀ W, Below w.heap.size w W → W.cell? ⟨b1, off1 + j * 8 + 1, none⟩ = some (.int .i64 t.cols[j].k)) := fun W h => by
   obtain ⟨b2, off2, e2, -, hc2⟩ := (HT.out.2 W h).1.at j hj; simp only [Option.some.injEq, Addr.mk.injEq, and_true] at e2; obtain ⟨rfl, rfl⟩ := e2; exact (hc2 j hj).2.1
  have hji : (j : Int) < (t.cols.length : Int) := by omega
  rw [hp] at PLI; clear HS1; generalize t.cols[j].k = kd at *; clear hp hj; (go_wp2_with fail); refine (PLI.out _ HB.out.2.2).mono ?_; rintro e w1 ⟨rfl, hB⟩; have B1 : Hid (Below (wr.alloc (.cells #[.string ⟨y.col.toArray⟩, .slice va y.val.length vc, .slice na y.nms.length nc] 76)).heap.size (wr.alloc (.cells #[.string ⟨y.col.toArray⟩, .slice va y.val.length vc, .slice na y.nms.length nc] 76)) w1) := hB; clear hB c0 c1 c2 PLI; clear x0 x1 x2 x3 y0 y1 y2; have CX7 : Hid (∀ W, Below w1.heap.size w1 W → W.cell? ⟨wr.heap.size, 0, none⟩ = some (.string ⟨y.col.toArray⟩)) := fun W h => cell_at (o := 0) (KB.out W (B1.out.trans (h.mono B1.out.size))).2.1 rfl
  have B1R : Hid (∀ W, Below w1.heap.size w1 W → Below wr.heap.size wr W) := fun W h => (KB.out W (B1.out.trans (h.mono B1.out.size))).2.2
  have hslo : (0 : Int) ≤ (k : Int) ∧ (k : Int) ≤ (c : Int) := by have := HSL.out; omega
  have hsl1 := hslo.1; have hsl2 := hslo.2; clear hslo; have hsl3 : k ≤ c := HSL.out; (go_wp2_with fail); refine wp_region_held_drew (S := (fun W => W.cell? ⟨wr.heap.size, 0, none⟩ = some (.string ⟨y.col.toArray⟩))) (by kernel_rfl) ?_ (fun hHeld => ?_)
  ·
   (first | exact CX7.out _ (Below.refl _ _) | exact CX7.out _ (Below.refl _ _).drew)
  refine tkB (i := 0) ?_; refine tkB (i := 1) ?_; refine tkB (i := 2) ?_; refine tkB (i := 3) ?_; refine tkB (i := 4) ?_; refine tkR (i := 5) (fun K hK => ?_); go_simp
  (go_at_call 79; refine (SCI.out _ (B1R.out _ (Below.refl _ _).drew)).mono ?_; rintro e w2 ⟨rfl, rfl⟩)
  refine hK.out _ _ ?_ (fun hHeld => ?_)
  ·
   (first | exact CX7.out _ (Below.refl _ _) | exact CX7.out _ (Below.refl _ _).drew)
  clear hK K; (try simp only [Act.put, tkS]); refine wpAnyH_done (by kernel_rfl) ?_ _
  cases ci
  case true =>
   have HR := Lib.hid (HNO.out 8 (HS2.out rfl) (by omega)); have BF : Hid (Below w.heap.size w w1) := HW.out.2.2.trans ((B1R.out _ (Below.refl _ _)).mono HW.out.2.2.size); clear HNO HNX HS2 HS3 OKI SCI; (go_wp2_with fail); go_ret; exact ⟨ret_i HR.out.symm, by first | exact BF.out | exact BF.out.drew⟩
  have HS3 := Lib.hid (HS3.out rfl); rw [type_of HBO.out] at HS3; have OKX := Lib.hid (OKI.out kd); generalize ofK kd y = ok at *; clear HS2 OKI SCI
  have CX9 : Hid (∀ W, Below w1.heap.size w1 W → W.cell? ⟨wr.heap.size, 0, none⟩ = some (.string ⟨y.col.toArray⟩) ∧ W.cell? ⟨wr.heap.size, 1, none⟩ = some (.slice va y.val.length vc) ∧ W.cell? ⟨wr.heap.size, 2, none⟩ = some (.slice na y.nms.length nc) ∧ W.cell? ⟨w.heap.size, 1, none⟩ = some (.slice (some ⟨b1, off1, none⟩) t.cols.length cc) ∧ W.cell? ⟨b1, off1 + j * 8 + 1, none⟩ = some (.int .i64 kd)) := fun W h => by
   have hb := KB.out W (B1.out.trans (h.mono B1.out.size)); exact ⟨cell_at (o := 0) hb.2.1 rfl, cell_at (o := 1) hb.2.1 rfl, cell_at (o := 2) hb.2.1 rfl, cell_at (o := 1) hb.1 rfl, CCE.out W (HW.out.2.2.trans (hb.2.2.mono HW.out.2.2.size))⟩
  (go_wp2_with fail); refine wp_region_held_drew (S := (fun W => W.cell? ⟨wr.heap.size, 0, none⟩ = some (.string ⟨y.col.toArray⟩) ∧ W.cell? ⟨wr.heap.size, 1, none⟩ = some (.slice va y.val.length vc) ∧ W.cell? ⟨wr.heap.size, 2, none⟩ = some (.slice na y.nms.length nc) ∧ W.cell? ⟨w.heap.size, 1, none⟩ = some (.slice (some ⟨b1, off1, none⟩) t.cols.length cc) ∧ W.cell? ⟨b1, off1 + j * 8 + 1, none⟩ = some (.int .i64 kd))) (by kernel_rfl) ?_ (fun hHeld => ?_)
  ·
   (first | exact CX9.out _ (Below.refl _ _) | exact CX9.out _ (Below.refl _ _).drew | exact CX9.out _ (Below.refl _ _).drew.drew | exact CX9.out _ B9.out)
  refine tkB (i := 0) ?_; refine tkB (i := 1) ?_; refine tkB (i := 2) ?_; refine tkB (i := 3) ?_; refine tkB (i := 4) ?_; refine tkB (i := 5) ?_; refine tkB (i := 6) ?_; refine tkR (i := 7) (fun K hK => ?_); go_simp
  (go_at_call 80; refine (OKX.out _ (by first | exact B1R.out _ (Below.refl _ _).drew | exact B1R.out _ (Below.refl _ _).drew.drew)).mono ?_; rintro e w3 ⟨rfl, hB⟩; have B9 : Hid (Below w1.heap.size w1 w3) := (by first | exact (Below.refl _ _).drew.trans hB | exact (Below.refl _ _).drew.drew.trans hB); clear hB)
  refine hK.out _ _ ?_ (fun hHeld => ?_)
  ·
   (first | exact CX9.out _ (Below.refl _ _) | exact CX9.out _ (Below.refl _ _).drew | exact CX9.out _ (Below.refl _ _).drew.drew | exact CX9.out _ B9.out)
  clear hK K; (try simp only [Act.put, tkS]); refine tkB (i := 8) ?_; refine wpAnyH_done (by kernel_rfl) ?_ _; have HBX : Hid (BoxD 48 w w3 #[.string ⟨t.nm.toArray⟩, .slice (some ⟨b1, off1, none⟩) t.cols.length cc, .slice ua t.uq.length uc, .bool t.rt]) := ⟨(KB.out w3 (B1.out.trans (B9.out.mono B1.out.size))).1, HW.out.2.2.trans ((B1R.out _ B9.out).mono HW.out.2.2.size)⟩
  cases ok
  case false =>
   have HR := Lib.hid (HNO.out 9 (by rw [HS3.out]; rfl) (by omega)); clear HNO HNX HS3; (go_wp2_with fail); go_ret; exact ⟨ret_i HR.out.symm, HBX.out.2⟩
  have HN := Lib.hid (HNX.out (by rw [HS3.out]; rfl)); clear HNO HNX HS3; (go_wp2_with fail); go_roundw
  case rel => exact ⟨k + 1, by omega, by go_num, HN.out, HBX.out⟩
  case measure => simp [intOf]; omega
end Go.Proofs.YtlbcaaodkggohaaGreatDoor
