import Derived.Test.YtlddhbamcndggaaGreatDoorZae
import Derived.Test.YtlddhbamcndggaaGreatDoorZay
import Derived.Test.YtlddhbamcndggaaGreatDoorZai
import Derived.Test.YtlddhbamcndggaaGreatDoorZab
import Derived.Test.YtlddhbamcndggaaGreatDoorZaq
import Derived.Test.YtlddhbamcndggaaGreatDoorZap
namespace Go.Proofs.YtlddhbamcndggaaGreatDoor
open Go.RowKit
set_option linter.unusedSimpArgs false
def moB (m : MoV) : Bool := nameB m.nm && (decide (m.tb.length ≤ 40) && (decide (m.cs.length ≤ 6) && (condsB m.wh && m.cs.all (fun s => decide (s.length ≤ 40)))))
set_option maxRecDepth 100000 in
set_option maxHeartbeats 6400000 in
theorem moOKs (m : MoV) (a2 : Option Addr) (c2 : Nat) (a7 : Option Addr) (c7 : Nat) (B : Nat → Prop) (w : World) (hn : m.nm.length ≤ maxLen) (ht : m.tb.length ≤ maxLen) (hc : (dStringS m.cs).le maxLen) (hw : (dCondS m.wh).le maxLen) (rc : Rd w B (dStringS m.cs) (.slice a2 m.cs.length c2)) (rh : Rd w B (dCondS m.wh) (.slice a7 m.wh.length c7)) :
  Calls Tryz.prog 27 #[.agg #[.string ⟨m.nm.toArray⟩, .string ⟨m.tb.toArray⟩, .slice a2 m.cs.length c2, .bool m.ini, .bool m.ins, .bool m.del, .bool m.mod, .slice a7 m.wh.length c7]] w fun e w' => e = .returned (.bool (moB m)) ∧ Below w.heap.size w w' := by
 generalize hR : moB m = R
 have HR := Lib.hid hR
 clear hR
 have NS : Hid (∀ W, Calls Tryz.prog 58 #[.string ⟨m.nm.toArray⟩] W fun e w' => e = .returned (.bool (nameB m.nm)) ∧ Below W.heap.size W w') := fun W => (nameS m.nm W hn).mono (fun e w' ⟨h1, h2⟩ => ⟨h1, by rw [h2]; exact Below.refl _ _⟩)
 have LS : Hid (∀ W, Below w.heap.size w W → Calls Tryz.prog 59 #[.slice a7 m.wh.length c7] W fun e w' => e = .returned (.bool (condsB m.wh)) ∧ Below W.heap.size W w') := fun W h => listS m.wh a7 c7 B W hw (rh.later h)
 have HC : Hid (∀ W, Below w.heap.size w W → Rd W B (Ls 1 cString m.cs) (.slice a2 m.cs.length c2)) := fun W h => Rd.later rc h
 have HCL := Lib.hid hc
 have hb := boxD 48 w #[.string ⟨m.nm.toArray⟩, .string ⟨m.tb.toArray⟩, .slice a2 m.cs.length c2, .bool m.ini, .bool m.ins, .bool m.del, .bool m.mod, .slice a7 m.wh.length c7]
 have HB := Lib.hid hb
 unfold maxLen at ht
 clear hn hc hw rc rh
 have x0 := cell_at (o := 0) hb.1 rfl
 have x1 := cell_at (o := 1) hb.1 rfl
 have x2 := cell_at (o := 2) hb.1 rfl
 have x3 := cell_at (o := 3) hb.1 rfl
 have x4 := cell_at (o := 4) hb.1 rfl
 have x5 := cell_at (o := 5) hb.1 rfl
 have x6 := cell_at (o := 6) hb.1 rfl
 have x7 := cell_at (o := 7) hb.1 rfl
 clear hb
 cases h1 : nameB m.nm
 case false =>
  have HV : Hid (R = false) := by show R = _; rw [← HR.out]; unfold moB; rw [h1]; rfl
  rw [h1] at NS
  clear h1
  go_enter Tryz.func27, Tryz.ntmps27
  go_wp2_with fail
  refine (NS.out _).mono ?_
  rintro e w1 ⟨rfl, hB⟩
  have HB1 := Lib.hid (HB.out.later hB)
  clear hB x0 x1 x2 x3 x4 x5 x6 x7
  go_wp2_with fail
  go_ret
  exact ⟨ret_b HV.out.symm, HB1.out.2⟩
 rw [h1] at NS
 by_cases h2 : m.tb.length ≤ 40
 case neg =>
  have HV : Hid (R = false) := by show R = _; rw [← HR.out]; unfold moB; rw [decide_eq_false h2]; simp
  have d1 : decide ((m.tb.length : Int) > 40) = true := by simp; omega
  have d2 : decide ((40 : Int) < (m.tb.length : Int)) = true := by simp; omega
  clear h1 h2
  go_enter Tryz.func27, Tryz.ntmps27
  go_wp2_with fail
  refine (NS.out _).mono ?_
  rintro e w1 ⟨rfl, hB⟩
  have hb := HB.out.later hB
  have HB1 := Lib.hid hb
  clear hB x0 x1 x2 x3 x4 x5 x6 x7
  have x0 := cell_at (o := 0) hb.1 rfl
  have x1 := cell_at (o := 1) hb.1 rfl
  have x2 := cell_at (o := 2) hb.1 rfl
  have x3 := cell_at (o := 3) hb.1 rfl
  have x4 := cell_at (o := 4) hb.1 rfl
  have x5 := cell_at (o := 5) hb.1 rfl
  have x6 := cell_at (o := 6) hb.1 rfl
  have x7 := cell_at (o := 7) hb.1 rfl
  clear hb
  go_wp2_with fail
  go_ret
  exact ⟨ret_b HV.out.symm, HB1.out.2⟩
 have d1 : decide ((m.tb.length : Int) > 40) = false := by simp; omega
 have d2 : decide ((40 : Int) < (m.tb.length : Int)) = false := by simp; omega
 by_cases h3 : m.cs.length ≤ 6
 case neg =>
  have HV : Hid (R = false) := by show R = _; rw [← HR.out]; unfold moB; rw [decide_eq_false h3]; simp
  have d3 : decide ((m.cs.length : Int) > 6) = true := by simp; omega
  have d4 : decide ((6 : Int) < (m.cs.length : Int)) = true := by simp; omega
  clear h1 h2 h3
  go_enter Tryz.func27, Tryz.ntmps27
  go_wp2_with fail
  refine (NS.out _).mono ?_
  rintro e w1 ⟨rfl, hB⟩
  have hb := HB.out.later hB
  have HB1 := Lib.hid hb
  clear hB x0 x1 x2 x3 x4 x5 x6 x7
  have x0 := cell_at (o := 0) hb.1 rfl
  have x1 := cell_at (o := 1) hb.1 rfl
  have x2 := cell_at (o := 2) hb.1 rfl
  have x3 := cell_at (o := 3) hb.1 rfl
  have x4 := cell_at (o := 4) hb.1 rfl
  have x5 := cell_at (o := 5) hb.1 rfl
  have x6 := cell_at (o := 6) hb.1 rfl
  have x7 := cell_at (o := 7) hb.1 rfl
  clear hb
  go_wp2_with fail
  go_ret
  exact ⟨ret_b HV.out.symm, HB1.out.2⟩
 have d3 : decide ((m.cs.length : Int) > 6) = false := by simp; omega
 have d4 : decide ((6 : Int) < (m.cs.length : Int)) = false := by simp; omega
 cases h4 : condsB m.wh
 case false =>
  have HV : Hid (R = false) := by show R = _; rw [← HR.out]; unfold moB; rw [h4]; simp
  rw [h4] at LS
  clear h1 h2 h3 h4
  go_enter Tryz.func27, Tryz.ntmps27
  go_wp2_with fail
  refine (NS.out _).mono ?_
  rintro e w1 ⟨rfl, hB⟩
  have hb := HB.out.later hB
  have HB1 := Lib.hid hb
  clear hB x0 x1 x2 x3 x4 x5 x6 x7
  have x0 := cell_at (o := 0) hb.1 rfl
  have x1 := cell_at (o := 1) hb.1 rfl
  have x2 := cell_at (o := 2) hb.1 rfl
  have x3 := cell_at (o := 3) hb.1 rfl
  have x4 := cell_at (o := 4) hb.1 rfl
  have x5 := cell_at (o := 5) hb.1 rfl
  have x6 := cell_at (o := 6) hb.1 rfl
  have x7 := cell_at (o := 7) hb.1 rfl
  clear hb
  go_wp2_with fail
  refine (LS.out _ HB1.out.2).mono ?_
  rintro e w2 ⟨rfl, hB⟩
  have HB2 := Lib.hid (HB1.out.later hB)
  clear hB x0 x1 x2 x3 x4 x5 x6 x7
  go_wp2_with fail
  go_ret
  exact ⟨ret_b HV.out.symm, HB2.out.2⟩
 have HE : Hid (R = m.cs.all (fun s => decide (s.length ≤ 40))) := by show R = _; rw [← HR.out]; unfold moB; rw [h1, h4, decide_eq_true h2, decide_eq_true h3]; simp
 rw [h4] at LS
 have hl6 : m.cs.length ≤ 6 := h3
 clear h1 h2 h3 h4
 go_enter Tryz.func27, Tryz.ntmps27
 go_wp2_with fail
 refine (NS.out _).mono ?_
 rintro e w1 ⟨rfl, hB⟩
 have hb := HB.out.later hB
 have HB1 := Lib.hid hb
 clear hB x0 x1 x2 x3 x4 x5 x6 x7
 have x0 := cell_at (o := 0) hb.1 rfl
 have x1 := cell_at (o := 1) hb.1 rfl
 have x2 := cell_at (o := 2) hb.1 rfl
 have x3 := cell_at (o := 3) hb.1 rfl
 have x4 := cell_at (o := 4) hb.1 rfl
 have x5 := cell_at (o := 5) hb.1 rfl
 have x6 := cell_at (o := 6) hb.1 rfl
 have x7 := cell_at (o := 7) hb.1 rfl
 clear hb
 go_wp2_with fail
 refine (LS.out _ HB1.out.2).mono ?_
 rintro e w2 ⟨rfl, hB⟩
 have HB2 := Lib.hid (HB1.out.later hB)
 clear hB x0 x1 x2 x3 x4 x5 x6 x7
 go_wp2_with fail
 go_loopw [3] (fun t wr => ∃ k : Nat, k ≤ m.cs.length ∧ t = .int .i64 k ∧ Hid (BoxD 48 w wr #[.string ⟨m.nm.toArray⟩, .string ⟨m.tb.toArray⟩, .slice a2 m.cs.length c2, .bool m.ini, .bool m.ins, .bool m.del, .bool m.mod, .slice a7 m.wh.length c7] ∧ ∀ j (h : j < m.cs.length), j < k → m.cs[j].length ≤ 40)) (fun t _ => m.cs.length - (intOf t).toNat)
 case atStart => exact ⟨0, Nat.zero_le _, rfl, HB2.out, fun j _ h => absurd h (by omega)⟩
 case round =>
  obtain ⟨k, hk, rfl, HW⟩ := hrel
  have hb := HW.out.1
  have x0 := cell_at (o := 0) hb.1 rfl
  have x1 := cell_at (o := 1) hb.1 rfl
  have x2 := cell_at (o := 2) hb.1 rfl
  have x3 := cell_at (o := 3) hb.1 rfl
  have x4 := cell_at (o := 4) hb.1 rfl
  have x5 := cell_at (o := 5) hb.1 rfl
  have x6 := cell_at (o := 6) hb.1 rfl
  have x7 := cell_at (o := 7) hb.1 rfl
  clear hb
  by_cases hlt : k < m.cs.length
  case neg =>
   have hkd : decide ((k : Int) < (m.cs.length : Int)) = false := by simp; omega
   have HV : Hid (R = true) := by
    show R = _
    rw [HE.out, List.all_eq_true]
    intro s hs
    obtain ⟨j, hj, rfl⟩ := List.mem_iff_getElem.1 hs
    exact decide_eq_true (HW.out.2 j hj (by omega))
   go_wp2_with fail
   go_ret
   exact ⟨ret_b HV.out.symm, HW.out.1.2⟩
  have hki : (k : Int) < (m.cs.length : Int) := by omega
  obtain ⟨b, off, rfl, -, hc⟩ := (HC.out _ HW.out.1.2).things k hlt
  obtain ⟨u, c0, r0⟩ := hc 0 (by omega)
  obtain rfl : u = .string ⟨m.cs[k].toArray⟩ := r0
  rw [Nat.mul_one, Nat.add_zero] at c0
  have hle : m.cs[k].length ≤ maxLen := (Ls_le.1 HCL.out).2.2 k hlt 0 (by omega)
  unfold maxLen at hle
  by_cases h5 : m.cs[k].length ≤ 40
  case neg =>
   have HV : Hid (R = false) := by
    show R = _
    rw [HE.out, List.all_eq_false]
    exact ⟨_, List.getElem_mem hlt, by rw [decide_eq_false h5]; simp⟩
   have e1 : decide ((m.cs[k].length : Int) > 40) = true := by simp; omega
   have e2 : decide ((40 : Int) < (m.cs[k].length : Int)) = true := by simp; omega
   have HBK := Lib.hid HW.out.1.2
   clear hc h5 HW
   generalize m.cs[k] = y at *
   go_wp2_with fail
   go_ret
   exact ⟨ret_b HV.out.symm, HBK.out⟩
  have HG : Hid (∀ j (h : j < m.cs.length), j < k + 1 → m.cs[j].length ≤ 40) := fun j h hj => by
   by_cases e : j = k
   ·
    subst e; exact h5
   ·
    exact HW.out.2 j h (by omega)
  have e1 : decide ((m.cs[k].length : Int) > 40) = false := by simp; omega
  have e2 : decide ((40 : Int) < (m.cs[k].length : Int)) = false := by simp; omega
  have HBK := Lib.hid HW.out.1
  clear hc h5 HW
  generalize m.cs[k] = y at *
  go_wp2_with fail
  go_roundw
  case rel => exact ⟨k + 1, by omega, by go_num, HBK.out, HG.out⟩
  case measure => simp [intOf]; omega
structure Ad where
 ca : Option Addr
 cc : Nat
 ua : Option Addr
 uc : Nat
def tbZ : Tb := ⟨[], [], [], false⟩
def tbF (l : List Tb) (A : Nat → Ad) (m : Nat) : Value :=
 if m % 4 = 0 then .string ⟨(l.getD (m / 4) tbZ).nm.toArray⟩ else if m % 4 = 1 then .slice (A (m / 4)).ca (l.getD (m / 4) tbZ).cols.length (A (m / 4)).cc
 else if m % 4 = 2 then .slice (A (m / 4)).ua (l.getD (m / 4) tbZ).uq.length (A (m / 4)).uc else .bool (l.getD (m / 4) tbZ).rt
theorem tb_getD {l : List Tb} {i : Nat} (h : i < l.length) : l.getD i tbZ = l[i] := by rw [List.getD_eq_getElem?_getD, List.getElem?_eq_getElem h]; rfl
def tbC (t : Tb) (a : Ad) : List Value := [.string ⟨t.nm.toArray⟩, .slice a.ca t.cols.length a.cc, .slice a.ua t.uq.length a.uc, .bool t.rt]
theorem tbF_at {l : List Tb} {A : Nat → Ad} {i j : Nat} (h : i < l.length) (hj : j < 4) : tbF l A (i * 4 + j) = (tbC l[i] (A i)).getD j undef := by
 unfold tbF
 rw [show (i * 4 + j) % 4 = j by omega, show (i * 4 + j) / 4 = i by omega, tb_getD h]
 match j, hj with
 | 0, _ => rfl
 | 1, _ => rfl
 | 2, _ => rfl
 | 3, _ => rfl
structure Tabs (w : World) (B : Nat → Prop) (a : Option Addr) (l : List Tb) (A : Nat → Ad) : Prop where
 row : Rw w B a (l.length * 4) (tbF l A)
 has : ∀ i (h : i < l.length), l[i].Has w B (A i).ca (A i).ua
def TabAt (w : World) (b o : Nat) (t : Tb) (a : Ad) : Prop := w.cell? ⟨b, o, none⟩ = some (.string ⟨t.nm.toArray⟩) ∧ w.cell? ⟨b, o + 1, none⟩ = some (.slice a.ca t.cols.length a.cc) ∧ w.cell? ⟨b, o + 2, none⟩ = some (.slice a.ua t.uq.length a.uc) ∧ w.cell? ⟨b, o + 3, none⟩ = some (.bool t.rt)
theorem Tabs.at {w : World} {B : Nat → Prop} {a : Option Addr} {l : List Tb} {A : Nat → Ad} (h : Tabs w B a l A) (k : Nat) (hk : k < l.length) : ∃ b off, a = some ⟨b, off, none⟩ ∧ B b ∧ ∀ i (h : i < l.length), TabAt w b (off + i * 4) l[i] (A i) := by
 obtain ⟨b, off, e, hb, hc⟩ := Rw.at h.row (k * 4) (by omega)
 refine ⟨b, off, e, hb, fun i hi => ?_⟩
 have g : ∀ j, j < 4 → w.cell? ⟨b, off + i * 4 + j, none⟩ = _ := fun j hj => by rw [Nat.add_assoc, hc _ (by omega), tbF_at hi hj]
 exact ⟨g 0 (by omega), g 1 (by omega), g 2 (by omega), g 3 (by omega)⟩
theorem Tabs.later {w w' : World} {B : Nat → Prop} {a : Option Addr} {l : List Tb} {A : Nat → Ad} (h : Tabs w B a l A) (hb : Below w.heap.size w w') : Tabs w' B a l A := ⟨h.row.inside.same (fun b hb' => hb.block b hb'.2) (fun _ h => h.1), fun i hi => (h.has i hi).later hb⟩
theorem Tabs.spot {w : World} {B : Nat → Prop} {b off : Nat} {l : List Tb} {A : Nat → Ad} (h : Tabs w B (some ⟨b, off, none⟩) l A) (i : Nat) (hi : i < l.length) : TabAt w b (off + i * 4) l[i] (A i) := by
 obtain ⟨b', off', e, -, hc⟩ := h.at i hi
 simp only [Option.some.injEq, Addr.mk.injEq, and_true] at e
 obtain ⟨rfl, rfl⟩ := e
 exact hc i hi
def TbsOk (l : List Tb) : Prop := l.length ≤ maxLen ∧ ∀ t ∈ l, t.ok
def tplC : List Tb → List UInt8 → Int
 | [], _ => -1
 | t :: l, s => if t.nm = s then 0 else if tplC l s < 0 then -1 else tplC l s + 1
theorem tpl_at {s : List UInt8} : ∀ {l : List Tb} {k : Nat} (h : k < l.length), l[k].nm = s → (∀ m (h : m < l.length), m < k → l[m].nm ≠ s) → tplC l s = k
 | r :: l, 0, _, e, _ => by
  have e' : r.nm = s := e
  simp [tplC, e']
 | r :: l, k + 1, h, e, hn => by
  have h0 : r.nm ≠ s := hn 0 (by simp) (by omega)
  have ih := tpl_at (l := l) (k := k) (by simpa using h) (by simpa using e) (fun m hm hk => by have := hn (m + 1) (by simpa using hm) (by omega); simpa using this)
  simp only [tplC, if_neg h0, ih]
  rw [if_neg (by omega)]; omega
theorem tpl_none {s : List UInt8} : ∀ {l : List Tb}, (∀ m (h : m < l.length), l[m].nm ≠ s) → tplC l s = -1
 | [], _ => rfl
 | r :: l, hn => by
  have h0 : r.nm ≠ s := hn 0 (by simp)
  have ih := tpl_none (l := l) (fun m hm => by have := hn (m + 1) (by simpa using hm); simpa using this)
  simp [tplC, if_neg h0, ih]
theorem tpl_rng (s : List UInt8) : ∀ l : List Tb, tplC l s = -1 ∨ ∃ k : Nat, ∃ h : k < l.length, tplC l s = k ∧ l[k].nm = s
 | [] => .inl rfl
 | r :: l => by
  by_cases h0 : r.nm = s
  ·
   exact .inr ⟨0, by simp, by simp [tplC, h0], h0⟩
  ·
   rcases tpl_rng s l with h | ⟨k, hk, h, e⟩
   ·
    exact .inl (by simp [tplC, if_neg h0, h])
   ·
    refine .inr ⟨k + 1, by simpa using hk, ?_, by simpa using e⟩
    simp only [tplC, if_neg h0, h]
    rw [if_neg (by omega)]; omega
set_option maxRecDepth 100000 in
set_option maxHeartbeats 3200000 in
theorem findTS (l : List Tb) (s : List UInt8) (sa : Option Addr) (sc : Nat) (A : Nat → Prop) (w : World) (hlo : (dTableS l).le maxLen) (hT : Rd w A (dTableS l) (.slice sa l.length sc)) :
  Calls Tryz.prog 56 #[.agg #[.slice sa l.length sc], .string ⟨s.toArray⟩] w fun e w' => e = .returned (.int .i64 (tplC l s)) ∧ Below w.heap.size w w' := by
 have hll : l.length ≤ maxLen := (Ls_le.1 hlo).2.1
 unfold maxLen at hll
 have HT : Hid (∀ W, Below w.heap.size w W → Rd W A (Ls 4 dTable l) (.slice sa l.length sc)) := fun W h => Rd.later hT h
 have HX := Lib.hid (boxD 40 w #[.slice sa l.length sc])
 clear hlo hT
 go_enter Tryz.func56, Tryz.ntmps56
 have x0 := cell_at (o := 0) HX.out.1 rfl
 go_wp2_with fail
 clear x0
 go_loopw [5] (fun i wr => ∃ k : Nat, k ≤ l.length ∧ i = .int .i64 k ∧ Hid ((∀ m (h : m < l.length), m < k → l[m].nm ≠ s) ∧ BoxD 40 w wr #[.slice sa l.length sc])) (fun i _ => l.length - (intOf i).toNat)
 case atStart => exact ⟨0, Nat.zero_le _, rfl, fun m _ h => absurd h (by omega), HX.out⟩
 case round =>
  obtain ⟨k, hk, rfl, HW⟩ := hrel
  have x0 := cell_at (o := 0) HW.out.2.1 rfl
  by_cases hlt : k < l.length
  ·
   have hki : (k : Int) < (l.length : Int) := by omega
   obtain ⟨b, off, rfl, -, hc⟩ := (HT.out _ HW.out.2.2).things k hlt
   obtain ⟨u0, c0, r0⟩ := hc 0 (by omega)
   obtain rfl : u0 = .string ⟨l[k].nm.toArray⟩ := r0
   rw [Nat.add_zero] at c0
   clear hc
   by_cases he : l[k].nm = s
   ·
    have HP : Hid (tplC l s = k) := tpl_at hlt he (fun j h hj => HW.out.1 j h hj)
    rw [he] at c0
    clear he
    go_wp2_with fail
    go_ret
    exact ⟨ret_i HP.out.symm, HW.out.2.2⟩
   ·
    have HN : Hid (∀ m (h : m < l.length), m < k + 1 → l[m].nm ≠ s) := fun m h hm => by
     by_cases e : m = k
     ·
      subst e; exact he
     ·
      exact HW.out.1 m h (by omega)
    have hne : (l[k].nm == s) = false := by simpa using he
    clear he
    generalize l[k] = x at *
    go_wp2_with fail
    go_roundw
    case rel => exact ⟨k + 1, by omega, by go_num, HN.out, HW.out.2⟩
    case measure => simp [intOf]; omega
  ·
   have HP : Hid (tplC l s = -1) := tpl_none (fun m h => HW.out.1 m h (by omega))
   have hki : decide ((k : Int) < (l.length : Int)) = false := by simp; omega
   go_wp2_with fail
   go_ret
   exact ⟨ret_i HP.out.symm, HW.out.2.2⟩
end Go.Proofs.YtlddhbamcndggaaGreatDoor
