import Derived.Test.YtlbcaaodkggohaaGreatDoorZbh
import Derived.Test.YtlbcaaodkggohaaGreatDoorZan
import Derived.Maps.OwnSet
import Derived.Maps.OwnOps
import Derived.Maps.Views
import Derived.Test.YtlbcaaodkggohaaGreatDoorZaj
import Derived.Test.YtlbcaaodkggohaaGreatDoorZao
namespace Go.Proofs.YtlbcaaodkggohaaGreatDoor
open Go.RowKit Go.Maps Go.WideMaps
set_option linter.unusedSimpArgs false
def cmpN (x y : List UInt8) : Int := if x = y then 0 else if Op.bytesLess x y then -1 else 1
theorem cmpN_lt {x y : List UInt8} : cmpN x y < 0 ↔ Op.bytesLess x y = true := by
 unfold cmpN
 by_cases h : x = y
 ·
  subst h; rw [if_pos rfl, bl_self]; simp
 ·
  rw [if_neg h]
  cases hb : Op.bytesLess x y <;> simp
set_option maxHeartbeats 1600000 in
theorem compareT (t u : Tb) (ca : Option Addr) (cc : Nat) (ua : Option Addr) (uc : Nat) (da : Option Addr) (dc : Nat) (va : Option Addr) (vc : Nat) (w : World) :
  Calls Tryz.prog 32 #[.agg #[.string ⟨t.nm.toArray⟩, .slice ca t.cols.length cc, .slice ua t.uq.length uc, .bool t.rt], .agg #[.string ⟨u.nm.toArray⟩, .slice da u.cols.length dc, .slice va u.uq.length vc, .bool u.rt]] w fun e w' => e = .returned (.int .i64 (cmpN t.nm u.nm)) ∧ Below w.heap.size w w' := by
 have HB : Hid (Below w.heap.size w ((w.alloc (.cells #[.string ⟨t.nm.toArray⟩, .slice ca t.cols.length cc, .slice ua t.uq.length uc, .bool t.rt] 48)).alloc (.cells #[.string ⟨u.nm.toArray⟩, .slice da u.cols.length dc, .slice va u.uq.length vc, .bool u.rt] 48))) := ((Below.refl _ _).alloc (Nat.le_refl _) _).alloc (by simp) _; have HC : Hid (cmpN t.nm u.nm = (if t.nm = u.nm then 0 else if Op.bytesLess t.nm u.nm then -1 else 1)) := rfl; (go_enter Tryz.func32, Tryz.ntmps32); (go_wp2_with (go_at_call 76; refine (cmpStr _ _ _).mono ?_; rintro e w' ⟨rfl, rfl⟩; rw [← HC.out])); go_ret; exact ⟨rfl, HB.out⟩
noncomputable def upB (l : List Tb) : Bool := @decide (∀ i (h : i + 1 < l.length), Op.bytesLess l[i].nm l[i + 1].nm = true) (Classical.propDecidable _)
theorem up_yes {l : List Tb} (h : ∀ i (h : i + 1 < l.length), Op.bytesLess l[i].nm l[i + 1].nm = true) : upB l = true := by unfold upB; exact @decide_eq_true _ (Classical.propDecidable _) h
theorem up_no {l : List Tb} (h : ¬ ∀ i (h : i + 1 < l.length), Op.bytesLess l[i].nm l[i + 1].nm = true) : upB l = false := by unfold upB; exact @decide_eq_false _ (Classical.propDecidable _) h
set_option maxRecDepth 100000 in
set_option maxHeartbeats 3200000 in
theorem risesT (l : List Tb) (a : Option Addr) (c : Nat) (A : Nat → Ad) (B : Nat → Prop) (w : World) (hl : l.length ≤ maxLen) (hA : Tabs w B a l A) :
  Calls Tryz.prog 31 #[.slice a l.length c, .func (.func 32) #[] #[]] w fun e w' => e = .returned (.bool (upB l)) ∧ Below w.heap.size w w' := by
 unfold maxLen at hl; have HA : Hid (∀ W, Below w.heap.size w W → Tabs W B a l A) := fun W h => hA.later h
 clear hA; (go_enter Tryz.func31, Tryz.ntmps31); (go_wp2_with fail); go_loopw [5] (fun i wr => ∃ k : Nat, 1 ≤ k ∧ k ≤ maxLen + 1 ∧ i = .int .i64 k ∧ Hid ((∀ m (h : m + 1 < l.length), m + 1 < k → Op.bytesLess l[m].nm l[m + 1].nm = true) ∧ Below w.heap.size w wr)) (fun i _ => l.length - (intOf i).toNat)
 case atStart => exact ⟨1, by omega, by unfold maxLen; omega, rfl, fun m _ h => absurd h (by omega), Below.refl _ _⟩
 case round =>
  obtain ⟨k, hk1, hk, rfl, HW⟩ := hrel
  by_cases hlt : k < l.length
  ·
   obtain ⟨m, rfl⟩ : ∃ m, k = m + 1 := ⟨k - 1, by omega⟩; have hx := HW.out.2; obtain ⟨b, off, rfl, -, hc⟩ := (HA.out _ hx).at m (by omega); obtain ⟨g0, g1, g2, g3⟩ := hc m (by omega); obtain ⟨f0, f1, f2, f3⟩ := hc (m + 1) hlt; clear hc; have CP : Hid (∀ W, Below w.heap.size w W → Calls Tryz.prog 32 #[.agg #[.string ⟨l[m].nm.toArray⟩, .slice (A m).ca l[m].cols.length (A m).cc, .slice (A m).ua l[m].uq.length (A m).uc, .bool l[m].rt], .agg #[.string ⟨l[m + 1].nm.toArray⟩, .slice (A (m + 1)).ca l[m + 1].cols.length (A (m + 1)).cc, .slice (A (m + 1)).ua l[m + 1].uq.length (A (m + 1)).uc, .bool l[m + 1].rt]] W fun e w' => e = .returned (.int .i64 (cmpN l[m].nm l[m + 1].nm)) ∧ Below w.heap.size w w') := fun W h => (compareT _ _ _ _ _ _ _ _ _ _ W).mono (fun e w' ⟨he, hB⟩ => ⟨he, h.trans (hB.mono h.size)⟩)
   have hm1 : (m : Int) < (l.length : Int) := by omega
   have hm2 : (m : Int) + 1 < (l.length : Int) := by omega
   have hm0 : (0 : Int) ≤ (m : Int) := by omega
   have hm3 : (0 : Int) ≤ (m : Int) + 1 := by omega
   have hsb : ((m + 1 : Nat) : Int) - 1 = (m : Int) := by omega
   have hwm : IntKind.i64.wrap (m : Int) = (m : Int) := by rw [IntKind.wrap_i64]; omega
   by_cases hr : cmpN l[m].nm l[m + 1].nm < 0
   ·
    have HN : Hid (∀ q (h : q + 1 < l.length), q + 1 < m + 1 + 1 → Op.bytesLess l[q].nm l[q + 1].nm = true) := fun q h hq => by
     by_cases e : q = m
     ·
      subst e; exact cmpN_lt.1 hr
     ·
      exact HW.out.1 q h (by omega)
    have hd : decide (cmpN l[m].nm l[m + 1].nm ≥ 0) = false := by simp; omega
    have hd2 : decide (0 ≤ cmpN l[m].nm l[m + 1].nm) = false := by simp; omega
    clear hr HW; generalize cmpN l[m].nm l[m + 1].nm = q at *; generalize l[m] = x at *; generalize l[m + 1] = y at *; (go_wp2_with fail); go_region_with (go_at_call 32; refine (CP.out _ ?_).mono ?_; first | exact hx | exact hx.drew; rintro e w1 ⟨rfl, hx1⟩)
    all_goals
     (go_wp2_with fail); go_roundw
     case rel => exact ⟨m + 1 + 1, by omega, by unfold maxLen; omega, by go_num, HN.out, hx1⟩
     case measure => simp [intOf]; omega
   ·
    have HP : Hid (upB l = false) := up_no (fun h => hr (cmpN_lt.2 (h m hlt))); have hd : decide (cmpN l[m].nm l[m + 1].nm ≥ 0) = true := decide_eq_true (by omega); have hd2 : decide (0 ≤ cmpN l[m].nm l[m + 1].nm) = true := decide_eq_true (by omega); clear hr HW; generalize cmpN l[m].nm l[m + 1].nm = q at *; generalize l[m] = x at *; generalize l[m + 1] = y at *; (go_wp2_with fail); go_region_with (go_at_call 32; refine (CP.out _ ?_).mono ?_; first | exact hx | exact hx.drew; rintro e w1 ⟨rfl, hx1⟩)
    all_goals
     (go_wp2_with fail); go_ret; exact ⟨ret_b HP.out.symm, hx1⟩
  ·
   have HP : Hid (upB l = true) := up_yes (fun m h => HW.out.1 m h (by omega)); have hd : decide ((k : Int) < (l.length : Int)) = false := by simp; omega
   (go_wp2_with fail); go_ret; exact ⟨ret_b HP.out.symm, HW.out.2⟩
theorem lawK : Keyed Tryz.prog 9 := string_keyed Tryz.underlying9
theorem zeroI (w : World) : (zeroValue 3).run Tryz.prog w = .ok (.int .i64 0) w := by kernel_rfl
theorem run_makeMapH (n : Int) (w : World) : (Instr.makeMap 142 (some (.int .i64 n))).run Tryz.prog w = .ok (.map (some w.heap.size)) (w.alloc (.map #[] 0)) := by
 simp [Instr.makeMap, run_underlying Tryz.underlying142, asInt, asIntOf, Result.andThen]
def HasP (D : DataW Unit) (l : List Tb) (k : Nat) : Prop := ∀ s : List UInt8, Maps.has D (.string s) = true ↔ ∃ j, ∃ hj : j < l.length, j < k ∧ l[j].nm = s
theorem HasP.put {D : DataW Unit} {l : List Tb} {k : Nat} (h : HasP D l k) (hD : IsMap D) (hk : k < l.length) (d : DataW Unit) : HasP (D.put (.string l[k].nm) d) l (k + 1) := fun s => by
 by_cases e : l[k].nm = s
 ·
  subst e; rw [has_put_same hD (by simp [WideAt.IsKeyLit])]; exact ⟨fun _ => ⟨k, hk, by omega, rfl⟩, fun _ => rfl⟩
 ·
  rw [has_put_other (by simpa using fun h => e h.symm), h s]; constructor
  ·
   rintro ⟨j, hj, hjk, hn⟩; exact ⟨j, hj, by omega, hn⟩
  ·
   rintro ⟨j, hj, hjk, hn⟩
   by_cases ej : j = k
   ·
    subst ej; exact absurd hn e
   ·
    exact ⟨j, hj, by omega, hn⟩
theorem BoxS.grown {w W W' : World} {a : Option Addr} {n c : Nat} {m : Nat} (h : BoxS w W a n c) (hg : W.grownBy W' (some m)) (hm : w.heap.size < m) : BoxS w W' a n c := by
 have hlt := (Array.getElem?_eq_some_iff.1 h.1).1; refine ⟨?_, h.2.grown hg h.2.size (fun k hk => by cases hk; omega)⟩; rw [hg.block _ hlt (by simp; omega)]; exact h.1
def PlaAns (l : List Tb) (w : World) (e : Ending) (w' : World) : Prop := ∃ m D, e = .returned (.map (some m)) ∧ w'.ownsMap Tryz.prog 9 (plainElem (H := Unit) Tryz.prog 3) m l.length D ∧ HasP D l l.length ∧ w.heap.size ≤ m ∧ Below w.heap.size w w'
set_option maxRecDepth 100000 in
set_option maxHeartbeats 3200000 in
theorem placesI (l : List Tb) (a : Option Addr) (c : Nat) (A : Nat → Ad) (B : Nat → Prop) (w : World) (ho : TbsOk l) (hsm : l.length ≤ 1048576) (hS : Tabs w B a l A) :
  Calls Tryz.prog 77 #[.agg #[.slice a l.length c]] w (PlaAns l w) := by
 have hl := ho.1; unfold maxLen at hl; have HO : Hid (∀ t ∈ l, t.nm.length ≤ maxLen) := fun t ht => (ho.2 t ht).1
 have HS : Hid (∀ W, Below w.heap.size w W → Tabs W B a l A) := fun W h => hS.later h
 have hmm := run_makeMapH (l.length : Int); have hx0 := boxS w a l.length c; have hown0 := World.ownsMap_made (H := Unit) (w.alloc (.cells #[.slice a l.length c] 25)) Tryz.prog 9 (plainElem Tryz.prog 3); have es : (w.alloc (.cells #[.slice a l.length c] 25)).heap.size = w.heap.size + 1 := by simp
 rw [es] at hown0
 have H0 : Hid (BoxS w ((w.alloc (.cells #[.slice a l.length c] 25)).alloc (.map #[] 0)) a l.length c ∧ ∃ D, IsMap D ∧ ((w.alloc (.cells #[.slice a l.length c] 25)).alloc (.map #[] 0)).ownsMap Tryz.prog 9 (plainElem (H := Unit) Tryz.prog 3) (w.heap.size + 1) 0 D ∧ HasP D l 0) := by
  refine ⟨hx0.new _, _, isMap_empty, hown0, fun s => ?_⟩; constructor
  ·
   intro h; cases h
  ·
   rintro ⟨j, hj, h, -⟩; omega
 clear ho hS hx0 hown0 es; (go_enter Tryz.func77, Tryz.ntmps77); (go_wp2_with fail); clear hmm; go_loopw [12] (fun i wr => ∃ k : Nat, k ≤ l.length ∧ i = .int .i64 k ∧ Hid (BoxS w wr a l.length c ∧ ∃ D, IsMap D ∧ wr.ownsMap Tryz.prog 9 (plainElem (H := Unit) Tryz.prog 3) (w.heap.size + 1) k D ∧ HasP D l k)) (fun i _ => l.length - (intOf i).toNat)
 case atStart => exact ⟨0, Nat.zero_le _, rfl, H0.out⟩
 case round =>
  obtain ⟨k, hk, rfl, HW⟩ := hrel; obtain ⟨hx, D, hD, hown, hP⟩ := HW.out; have x0 := hx.cell
  by_cases hlt : k < l.length
  ·
   have hki : (k : Int) < (l.length : Int) := by omega
   obtain ⟨b, off, rfl, -, hc⟩ := (HS.out _ hx.2).at k hlt; have c0 := (hc k hlt).1; clear hc; have hkey : keyOf Tryz.prog 9 (.string ⟨l[k].nm.toArray⟩) = some (.string l[k].nm) := keyOf_string_mk Tryz.underlying9 (by show l[k].nm.toArray.size ≤ maxLen; simpa using HO.out _ (List.getElem_mem hlt)); have HPN : Hid (∀ d, HasP (D.put (.string l[k].nm) d) l (k + 1)) := fun d => hP.put hD hlt d
   have HX := Lib.hid hx; have HDM := Lib.hid hD; clear HW hP hx hD; generalize l[k].nm = x at *; (go_wp2_with (at_mapUpdate; refine wpList_mapUpdate_own _ rfl _ _ _ 142 rfl 9 3 lawK Tryz.underlying142 _ (w.heap.size + 1) k _ rfl hown (by unfold maxLen; omega) _ _ _ rfl rfl hkey _ [] (plainElem_int Tryz.underlying3 (WalkArith.wf_i64 (by omega))) ?_; intro w1 hown1 hgrow1; have R1 := Lib.hid (And.intro (HX.out.grown hgrow1 (by omega)) hown1); clear hown1 hgrow1)); go_roundw
   case rel => exact ⟨k + 1, by omega, by go_num, R1.out.1, _, HDM.out.put _ _, R1.out.2, HPN.out _⟩
   case measure => simp [intOf]; omega
  ·
   have hk' : k = l.length := by omega
   subst hk'; have HX := Lib.hid hx; have HOW := Lib.hid (And.intro hown hP); clear HW hx hown hP hD; (go_wp2_with fail); go_ret; exact ⟨_, D, rfl, HOW.out.1, HOW.out.2, by omega, HX.out.2⟩
noncomputable def rfB (l : List Tb) : Bool := @decide (∀ i (h : i < l.length) k (hk : k < l[i].cols.length), l[i].cols[k].k = 4 → ∃ j, ∃ hj : j < l.length, l[j].nm = l[i].cols[k].rf) (Classical.propDecidable _)
def RfP (l : List Tb) (i : Nat) (h : i < l.length) (k : Nat) : Prop := ∀ (hk : k < l[i].cols.length), l[i].cols[k].k = 4 → ∃ j, ∃ hj : j < l.length, l[j].nm = l[i].cols[k].rf
theorem rf_yes {l : List Tb} (h : ∀ i (h : i < l.length) k, RfP l i h k) : rfB l = true := by unfold rfB; exact @decide_eq_true _ (Classical.propDecidable _) (fun i hi k hk => h i hi k hk)
theorem rf_no {l : List Tb} {i : Nat} {h : i < l.length} {k : Nat} (hn : ¬ RfP l i h k) : rfB l = false := by unfold rfB; exact @decide_eq_false _ (Classical.propDecidable _) (fun hh => hn (fun hk => hh i h k hk))
def RfSt (w W : World) (a : Option Addr) (n c m : Nat) (D : DataW Unit) : Prop := BoxS w W a n c ∧ W.ownsMap Tryz.prog 9 (plainElem (H := Unit) Tryz.prog 3) m n D
theorem RfSt.new {w W : World} {a : Option Addr} {n c m : Nat} {D : DataW Unit} (h : RfSt w W a n c m D) (o : Obj) : RfSt w (W.alloc o) a n c m D := ⟨h.1.new o, h.2.alloc o⟩
set_option maxRecDepth 100000 in
set_option maxHeartbeats 6400000 in
theorem refsI (l : List Tb) (a : Option Addr) (c : Nat) (A : Nat → Ad) (B : Nat → Prop) (w : World) (ho : TbsOk l) (hsm : l.length ≤ 1048576) (hS : Tabs w B a l A) :
  Calls Tryz.prog 33 #[.agg #[.slice a l.length c]] w fun e w' => e = .returned (.bool (rfB l)) ∧ Below w.heap.size w w' := by
 have hl := ho.1; unfold maxLen at hl; have HO : Hid (TbsOk l) := ho; have HS : Hid (∀ W, Below w.heap.size w W → Tabs W B a l A) := fun W h => hS.later h
 have hx0 := boxS w a l.length c; have PL := Lib.hid (placesI l a c A B (w.alloc (.cells #[.slice a l.length c] 25)) ho hsm (hS.later hx0.2)); have HX0 := Lib.hid hx0; clear ho hS hx0; (go_enter Tryz.func33, Tryz.ntmps33); (go_wp2_with fail); refine PL.out.mono ?_; rintro e w1 ⟨mb, D, rfl, hown, hP, -, hB1⟩; have M1 : Hid (RfSt w w1 a l.length c mb D) := ⟨HX0.out.later hB1, hown⟩; have HP := Lib.hid hP; have x0 := M1.out.1.cell; clear hown hP hB1 HX0 PL; (go_wp2_with fail); clear x0; go_loopw [15] (fun i wr => ∃ k : Nat, k ≤ l.length ∧ i = .int .i64 k ∧ Hid ((∀ m (h : m < l.length), m < k → ∀ q, RfP l m h q) ∧ RfSt w wr a l.length c mb D)) (fun i _ => l.length - (intOf i).toNat)
 case atStart => exact ⟨0, Nat.zero_le _, rfl, fun m _ h => absurd h (by omega), M1.out⟩
 case round =>
  obtain ⟨i, hi, rfl, HW⟩ := hrel
  by_cases hlt : i < l.length
  case neg =>
   have hid : decide ((i : Int) < (l.length : Int)) = false := by simp; omega
   have HR : Hid (rfB l = true) := rf_yes (fun m h q => HW.out.1 m h (by omega) q); (go_wp2_with fail); go_ret; exact ⟨ret_b HR.out.symm, HW.out.2.1.2⟩
  have hki : (i : Int) < (l.length : Int) := by omega
  obtain ⟨b, off, rfl, -, hc⟩ := (HS.out _ HW.out.2.1.2).at i hlt; obtain ⟨t0, t1, t2, t3⟩ := hc i hlt; clear hc; obtain ⟨z, hz⟩ : ∃ z, z = l[i] := ⟨_, rfl⟩; rw [← hz] at t0 t1 t2 t3; have hzl := (HO.out.2 _ (List.getElem_mem hlt)).2.1; rw [← hz] at hzl; unfold maxLen at hzl; have HZ := Lib.hid hz; have HH : Hid (∀ W, Below w.heap.size w W → z.Has W B (A i).ca (A i).ua) := fun W h => by rw [HZ.out]; exact (HS.out _ h).has i hlt
  have HXA : Hid (∀ o, RfSt w (wr.alloc o) (some ⟨b, off, none⟩) l.length c mb D) := fun o => HW.out.2.new o
  obtain ⟨ad, had⟩ : ∃ ad, ad = A i := ⟨_, rfl⟩; rw [← had] at t1 t2 HH; clear hz had; obtain ⟨ca, cc, ua, uc⟩ := ad; simp only at t1 t2 HH; (go_wp2_with fail); clear t0 t1 t2 t3; go_loopw [22] (fun q wr => ∃ k : Nat, k ≤ z.cols.length ∧ q = .int .i64 k ∧ Hid ((∀ j, j < k → RfP l i hlt j) ∧ RfSt w wr (some ⟨b, off, none⟩) l.length c mb D)) (fun q _ => z.cols.length - (intOf q).toNat)
  case atStart => exact ⟨0, Nat.zero_le _, rfl, fun j h => absurd h (by omega), HXA.out _⟩
  case round =>
   clear HXA; obtain ⟨k, hk, rfl, HV⟩ := hrel
   by_cases hkl : k < z.cols.length
   case neg =>
    have hkd : decide ((k : Int) < (z.cols.length : Int)) = false := by simp; omega
    have HG : Hid (∀ m (h : m < l.length), m < i + 1 → ∀ q, RfP l m h q) := fun m h hm q => by
     by_cases e : m = i
     ·
      subst e
      by_cases hq : q < z.cols.length
      ·
       exact HV.out.1 q (by omega)
      ·
       intro hk'; rw [← HZ.out] at hk'; exact absurd hk' hq
     ·
      exact HW.out.1 m h (by omega) q
    have HV2 := Lib.hid HV.out.2; clear HV HW; (go_wp2_with fail); go_roundw
    case rel => exact ⟨i + 1, by omega, by go_num, HG.out, HV2.out⟩
    case measure => simp [intOf]; omega
   have hkk : (k : Int) < (z.cols.length : Int) := by omega
   obtain ⟨bc, oc, rfl, -, hcc⟩ := (HH.out _ HV.out.2.1.2).1.at k hkl; obtain ⟨c0, c1, c2, c3, c4, c5, c6, c7⟩ := hcc k hkl; have e1 : l[i].cols[k]'(by rw [← HZ.out]; exact hkl) = z.cols[k] := by congr 1; rw [HZ.out]
   have HNX : Hid ((z.cols[k].k = 4 → ∃ j, ∃ hj : j < l.length, l[j].nm = z.cols[k].rf) → ∀ j, j < k + 1 → RfP l i hlt j) := fun hg j hj => by
    by_cases e : j = k
    ·
     subst e; intro hk' hr; rw [e1] at hr ⊢; exact hg hr
    ·
     exact HV.out.1 j (by omega)
   have HBAD : Hid (¬ (z.cols[k].k = 4 → ∃ j, ∃ hj : j < l.length, l[j].nm = z.cols[k].rf) → rfB l = false) := fun hn => rf_no (i := i) (h := hlt) (k := k) (fun hh => hn (fun h4 => by
    have := hh (by rw [← HZ.out]; exact hkl); rw [e1] at this; exact this h4))
   have HHP : Hid (Maps.has D (.string z.cols[k].rf) = true ↔ ∃ j, ∃ hj : j < l.length, l[j].nm = z.cols[k].rf) := by
    have := HP.out z.cols[k].rf; exact this.trans ⟨fun ⟨j, hj, _, hn⟩ => ⟨j, hj, hn⟩, fun ⟨j, hj, hn⟩ => ⟨j, hj, hj, hn⟩⟩
   have hkey : keyOf Tryz.prog 9 (.string ⟨z.cols[k].rf.toArray⟩) = some (.string z.cols[k].rf) := keyOf_string_mk Tryz.underlying9 (by show z.cols[k].rf.toArray.size ≤ maxLen; have := ((HO.out.2 _ (List.getElem_mem hlt)).2.2.1 z.cols[k] (by rw [← HZ.out]; exact List.getElem_mem hkl)).2; simpa using this); have HXB : Hid (∀ o, RfSt w (wr.alloc o) (some ⟨b, off, none⟩) l.length c mb D) := fun o => HV.out.2.new o
   clear HV hcc e1
   by_cases h4 : z.cols[k].k = 4
   case neg =>
    have HG := Lib.hid (HNX.out (fun h => absurd h h4)); have hk4 : (z.cols[k].k == 4) = false := by simpa using h4
    clear HNX HBAD h4 HHP; generalize z.cols[k] = y at *; (go_wp2_with (at_lookup; refine wpList_lookup_own_ok_int _ rfl _ _ 142 rfl 9 3 .i64 lawK Tryz.underlying142 Tryz.underlying3 (zeroI _) mb l.length D rfl (HXB.out _).2 _ _ rfl hkey ?_; intro cq hat hwc; clear hat hwc)); go_roundw
    case rel => exact ⟨k + 1, by omega, by go_num, HG.out, HXB.out _⟩
    case measure => simp [intOf]; omega
   have hk4 : (z.cols[k].k == 4) = true := by simpa using h4
   cases hh : Maps.has D (.string z.cols[k].rf)
   case true =>
    have HG := Lib.hid (HNX.out (fun _ => HHP.out.1 hh)); have HHH := Lib.hid hh; clear HNX HBAD h4 HHP hh; generalize z.cols[k] = y at *; (go_wp2_with (at_lookup; refine wpList_lookup_own_ok_int _ rfl _ _ 142 rfl 9 3 .i64 lawK Tryz.underlying142 Tryz.underlying3 (zeroI _) mb l.length D rfl (HXB.out _).2 _ _ rfl hkey ?_; intro cq hat hwc; clear hat hwc; rw [HHH.out])); go_roundw
    case rel => exact ⟨k + 1, by omega, by go_num, HG.out, HXB.out _⟩
    case measure => simp [intOf]; omega
   have HR := Lib.hid (HBAD.out (fun h => by have := HHP.out.2 (h h4); rw [hh] at this; cases this)); have HHH := Lib.hid hh; clear HNX HBAD h4 HHP hh; generalize z.cols[k] = y at *; (go_wp2_with (at_lookup; refine wpList_lookup_own_ok_int _ rfl _ _ 142 rfl 9 3 .i64 lawK Tryz.underlying142 Tryz.underlying3 (zeroI _) mb l.length D rfl (HXB.out _).2 _ _ rfl hkey ?_; intro cq hat hwc; clear hat hwc; rw [HHH.out])); go_ret; exact ⟨ret_b HR.out.symm, (HXB.out _).1.2⟩
end Go.Proofs.YtlbcaaodkggohaaGreatDoor
namespace Go.Proofs.YtlbcaaodkggohaaGreatDoor
open Go.RowKit
set_option linter.unusedSimpArgs false
theorem tab_of {t : Tb} (h : tabB t = true) : TabP t := by
 unfold tabB at h; exact @of_decide_eq_true _ (Classical.propDecidable _) h
theorem col_ref4 {x : Cl} (h : colB x = true) : x.k = 4 ↔ x.rf ≠ [] := by
 have hk := colB_kind h; have hkb : kindB x = true := by unfold colB at h; simp at h; exact h.2.2.2
 rcases (by omega : x.k = 1 ∨ x.k = 4 ∨ (x.k = 2 ∨ x.k = 3)) with k | k | k
 ·
  rw [kind1 k] at hkb; simp at hkb; exact ⟨fun h => by omega, fun h => absurd hkb.2.2.2.1 h⟩
 ·
  rw [kind4 k] at hkb; simp at hkb; refine ⟨fun _ e => ?_, fun _ => k⟩; rw [e] at hkb; have := hkb.2.2.2; rw [name_empty] at this
  cases this
 ·
  rw [kind23 k] at hkb; simp at hkb; exact ⟨fun h => by omega, fun h => absurd hkb.2.2.1 h⟩
theorem sch_parts {l : List Tb} (hl : 1 ≤ l.length ∧ l.length ≤ 4) (ht : ∀ i (h : i < l.length), tabB l[i] = true) : schB l = (upB l && rfB l) := by
 have hc : ∀ i (h : i < l.length) k (hk : k < l[i].cols.length), colB l[i].cols[k] = true := fun i h k hk => ((tab_of (ht i h)).cols k hk).1
 by_cases hu : ∀ i (h : i + 1 < l.length), Op.bytesLess l[i].nm l[i + 1].nm = true
 ·
  rw [up_yes hu]
  by_cases hr : ∀ i (h : i < l.length) k, RfP l i h k
  ·
   rw [rf_yes hr, sch_yes ⟨hl, ht, hu, fun i h k hk hne => hr i h k hk ((col_ref4 (hc i h k hk)).2 hne)⟩]
   rfl
  ·
   have hr' : rfB l = false := by
    unfold rfB; exact @decide_eq_false _ (Classical.propDecidable _) (fun hh => hr (fun i h k hk => hh i h k hk))
   rw [hr', sch_no (fun h => hr (fun i hi k hk h4 => h.ref i hi k hk ((col_ref4 (hc i hi k hk)).1 h4)))]
   rfl
 ·
  rw [up_no hu, sch_no (fun h => hu h.up)]
  rfl
set_option maxRecDepth 100000 in
set_option maxHeartbeats 3200000 in
theorem schemaI (l : List Tb) (a : Option Addr) (c : Nat) (A : Nat → Ad) (B : Nat → Prop) (w : World) (ho : TbsOk l) (hS : Tabs w B a l A) :
  Calls Tryz.prog 12 #[.agg #[.slice a l.length c]] w fun e w' => e = .returned (.bool (schB l)) ∧ Below w.heap.size w w' := by
 have hl := ho.1; unfold maxLen at hl; have HO : Hid (TbsOk l) := ho; have HS : Hid (∀ W, Below w.heap.size w W → Tabs W B a l A) := fun W h => hS.later h
 have hx := boxS w a l.length c; have x0 := hx.cell; clear ho hS
 by_cases h1 : l.length < 1
 case pos =>
  have HP : Hid (schB l = false) := sch_no (fun h => by have := h.len; omega); have d1 : decide ((l.length : Int) < 1) = true := decide_eq_true (by omega); (go_enter Tryz.func12, Tryz.ntmps12); (go_wp2_with fail); go_ret; exact ⟨ret_b HP.out.symm, hx.2⟩
 have d1 : decide ((l.length : Int) < 1) = false := decide_eq_false (by omega)
 by_cases h4 : 4 < l.length
 case pos =>
  have HP : Hid (schB l = false) := sch_no (fun h => by have := h.len; omega); have d2 : decide (4 < (l.length : Int)) = true := decide_eq_true (by omega); (go_enter Tryz.func12, Tryz.ntmps12); (go_wp2_with fail); go_ret; exact ⟨ret_b HP.out.symm, hx.2⟩
 have d2 : decide (4 < (l.length : Int)) = false := decide_eq_false (by omega); have HL4 : Hid (1 ≤ l.length ∧ l.length ≤ 4) := by show _ ∧ _; omega
 have RS : Hid (∀ W, BoxS w W a l.length c → Calls Tryz.prog 31 #[.slice a l.length c, .func (.func 32) #[] #[]] W fun e w' => e = .returned (.bool (upB l)) ∧ BoxS w w' a l.length c) := fun W h => (risesT l a c A B W HO.out.1 (HS.out _ h.2)).mono (fun e w' ⟨he, hB⟩ => ⟨he, h.later hB⟩)
 have RF : Hid (∀ W, BoxS w W a l.length c → Calls Tryz.prog 33 #[.agg #[.slice a l.length c]] W fun e w' => e = .returned (.bool (rfB l)) ∧ BoxS w w' a l.length c) := fun W h => (refsI l a c A B W HO.out (by have := HL4.out; omega) (HS.out _ h.2)).mono (fun e w' ⟨he, hB⟩ => ⟨he, h.later hB⟩)
 (go_enter Tryz.func12, Tryz.ntmps12); (go_wp2_with fail); have HX0 := Lib.hid hx; clear hx x0 h1 h4 d1 d2; go_loopw [17] (fun i wr => ∃ k : Nat, k ≤ l.length ∧ i = .int .i64 k ∧ Hid ((∀ m (h : m < l.length), m < k → tabB l[m] = true) ∧ BoxS w wr a l.length c)) (fun i _ => l.length - (intOf i).toNat)
 case atStart => exact ⟨0, Nat.zero_le _, rfl, fun m _ h => absurd h (by omega), HX0.out⟩
 case round =>
  obtain ⟨i, hi, rfl, HW⟩ := hrel; have hx := HW.out.2; have x0 := hx.cell
  by_cases hlt : i < l.length
  case neg =>
   have hid : decide ((i : Int) < (l.length : Int)) = false := by simp; omega
   have HP : Hid (schB l = (upB l && rfB l)) := sch_parts HL4.out (fun m h => HW.out.1 m h (by omega)); clear HW
   cases hu : upB l
   ·
    rw [hu] at HP RS; clear hu; (go_wp2_with (go_at_call 31; refine (RS.out _ hx).mono ?_; rintro e w1 ⟨rfl, hx⟩; have x0 := hx.cell)); go_ret; exact ⟨ret_b HP.out.symm, hx.2⟩
   ·
    rw [hu] at HP RS; clear hu; have HP2 : Hid (schB l = rfB l) := HP.out.trans (by simp); clear HP; generalize rfB l = r at *; (go_wp2_with (first | (go_at_call 31; refine (RS.out _ hx).mono ?_; rintro e w1 ⟨rfl, hx⟩; have x0 := hx.cell) | (go_at_call 33; refine (RF.out _ hx).mono ?_; rintro e w2 ⟨rfl, hx⟩))); go_ret; exact ⟨ret_b HP2.out.symm, hx.2⟩
  have hki : (i : Int) < (l.length : Int) := by omega
  obtain ⟨b, off, rfl, -, hc⟩ := (HS.out _ hx.2).at i hlt; obtain ⟨c0, c1, c2, c3⟩ := hc i hlt; clear hc; have TB : Hid (∀ W, BoxS w W (some ⟨b, off, none⟩) l.length c → Calls Tryz.prog 30 #[.agg #[.string ⟨l[i].nm.toArray⟩, .slice (A i).ca l[i].cols.length (A i).cc, .slice (A i).ua l[i].uq.length (A i).uc, .bool l[i].rt]] W fun e w' => e = .returned (.bool (tabB l[i])) ∧ BoxS w w' (some ⟨b, off, none⟩) l.length c) := fun W h => (tableI l[i] _ _ _ _ B W (HO.out.2 _ (List.getElem_mem hlt)) ((HS.out _ h.2).has i hlt)).mono (fun e w' ⟨he, hB⟩ => ⟨he, h.later hB⟩)
  cases ht : tabB l[i]
  ·
   have HP : Hid (schB l = false) := sch_no (fun h => by have := h.tab i hlt; rw [ht] at this; cases this); rw [ht] at TB; clear ht HW; generalize l[i] = z at *; (go_wp2_with (go_at_call 30; refine (TB.out _ hx).mono ?_; rintro e w1 ⟨rfl, hx⟩)); go_ret; exact ⟨ret_b HP.out.symm, hx.2⟩
  ·
   have HG : Hid (∀ m (h : m < l.length), m < i + 1 → tabB l[m] = true) := fun m h hm => by
    by_cases e : m = i
    ·
     subst e; exact ht
    ·
     exact HW.out.1 m h (by omega)
   rw [ht] at TB; clear ht HW; generalize l[i] = z at *; (go_wp2_with (go_at_call 30; refine (TB.out _ hx).mono ?_; rintro e w1 ⟨rfl, hx⟩)); go_roundw
   case rel => exact ⟨i + 1, by omega, by go_num, HG.out, hx⟩
   case measure => simp [intOf]; omega
theorem Rd.tabs {w : World} {B : Nat → Prop} {l : List Tb} {a : Option Addr} {c : Nat} (h : Rd w B (dTableS l) (.slice a l.length c)) : ∃ A, Tabs w B a l A := by
 have hp : ∀ i, ∃ ad : Ad, ∀ hi : i < l.length, ∀ b off, a = some ⟨b, off, none⟩ → (∀ j, j < 4 → w.cell? ⟨b, off + i * 4 + j, none⟩ = some ((tbC l[i] ad).getD j undef)) ∧ l[i].Has w B ad.ca ad.ua := fun i => by
  by_cases hi : i < l.length
  ·
   obtain ⟨b, off, ha, -, hc⟩ := Rd.things (d := dTable) (n := 4) h i hi; obtain ⟨u0, c0, r0⟩ := hc 0 (by omega); obtain rfl : u0 = .string ⟨l[i].nm.toArray⟩ := r0; obtain ⟨u1, c1, r1⟩ := hc 1 (by omega); replace r1 : Rd w B (dColumnS l[i].cols) u1 := r1; obtain ⟨a1, q1, rfl⟩ := r1.lsSlice; obtain ⟨u2, c2, r2⟩ := hc 2 (by omega); replace r2 : Rd w B (dIntS l[i].uq) u2 := r2; obtain ⟨a2, q2, rfl⟩ := r2.lsSlice; obtain ⟨u3, c3, r3⟩ := hc 3 (by omega); obtain rfl : u3 = .bool l[i].rt := r3; refine ⟨⟨a1, q1, a2, q2⟩, fun _ b' off' ha' => ?_⟩; rw [ha] at ha'; simp only [Option.some.injEq, Addr.mk.injEq, and_true] at ha'; obtain ⟨rfl, rfl⟩ := ha'; refine ⟨fun j hj => ?_, Rd.hasT r1 r2⟩; rcases (by omega : j = 0 ∨ j = 1 ∨ j = 2 ∨ j = 3) with rfl | rfl | rfl | rfl
   ·
    exact c0
   ·
    exact c1
   ·
    exact c2
   ·
    exact c3
  ·
   exact ⟨⟨none, 0, none, 0⟩, fun hi' => absurd hi' hi⟩
 obtain ⟨A, hA⟩ := Classical.axiomOfChoice hp; refine ⟨A, ?_, fun i hi => ?_⟩
 ·
  by_cases h0 : l.length = 0
  ·
   exact .inl (by rw [h0])
  obtain ⟨b, off, ha, hb, -⟩ := Rd.things (d := dTable) (n := 4) h 0 (by omega); refine .inr ⟨b, off, ha, hb, fun m hm => ?_⟩; have hi : m / 4 < l.length := by omega
  have h1 := (hA (m / 4) hi b off ha).1 (m % 4) (by omega); rw [Nat.add_assoc, Nat.div_add_mod'] at h1; rw [h1]; have h2 := tbF_at (l := l) (A := A) hi (show m % 4 < 4 by omega); rw [Nat.div_add_mod'] at h2; rw [h2]
 ·
  obtain ⟨b, off, ha, -, -⟩ := Rd.things (d := dTable) (n := 4) h i hi; exact (hA i hi b off ha).2
theorem le_tables {l : List Tb} (h : (dTableS l).le maxLen) : TbsOk l := by
 refine ⟨(Ls_le.1 h).2.1, fun t ht => ?_⟩; obtain ⟨i, hi, rfl⟩ := List.mem_iff_getElem.1 ht; have hx := (Ls_le.1 h).2.2 i hi; exact le_table (hx 0 (by omega)) (hx 1 (by omega)) (hx 2 (by omega))
end Go.Proofs.YtlbcaaodkggohaaGreatDoor
