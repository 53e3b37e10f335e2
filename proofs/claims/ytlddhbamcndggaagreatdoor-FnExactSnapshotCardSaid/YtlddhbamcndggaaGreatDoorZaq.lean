import Derived.Test.YtlddhbamcndggaaGreatDoorZai
import Derived.Test.YtlddhbamcndggaaGreatDoorZag
import Derived.Test.YtlddhbamcndggaaGreatDoorZaf
import Derived.Test.YtlddhbamcndggaaGreatDoorZap
import Derived.Test.YtlddhbamcndggaaGreatDoorZaj
import Derived.Test.YtlddhbamcndggaaGreatDoorZan
import Derived.Test.YtlddhbamcndggaaGreatDoorZao
import Derived.Test.YtlddhbamcndggaaGreatDoorZad
namespace Go.Proofs.YtlddhbamcndggaaGreatDoor
open Go.RowKit
set_option linter.unusedSimpArgs false
structure AdS where
 a : Option Addr
 c : Nat
def setF (l : List (List At)) (X : Nat → AdS) (m : Nat) : Value := .slice (X m).a (l.getD m []).length (X m).c
theorem set_getD {l : List (List At)} {i : Nat} (h : i < l.length) : l.getD i [] = l[i] := by rw [List.getD_eq_getElem?_getD, List.getElem?_eq_getElem h]; rfl
structure Sets (w : World) (B : Nat → Prop) (a : Option Addr) (l : List (List At)) (X : Nat → AdS) : Prop where
 row : Rw w B a l.length (setF l X)
 has : ∀ i (h : i < l.length), Ats w B (X i).a l[i]
theorem Sets.at {w : World} {B : Nat → Prop} {a : Option Addr} {l : List (List At)} {X : Nat → AdS} (h : Sets w B a l X) (k : Nat) (hk : k < l.length) : ∃ b off, a = some ⟨b, off, none⟩ ∧ B b ∧ ∀ i (h : i < l.length), w.cell? ⟨b, off + i, none⟩ = some (.slice (X i).a l[i].length (X i).c) := by
 obtain ⟨b, off, e, hb, hc⟩ := Rw.at h.row k hk
 refine ⟨b, off, e, hb, fun i hi => ?_⟩
 rw [hc i hi]
 unfold setF
 rw [set_getD hi]
theorem Sets.same {w w' : World} {B B' : Nat → Prop} {a : Option Addr} {l : List (List At)} {X : Nat → AdS} (h : Sets w B a l X) (hs : ∀ b, B b → w'.heap[b]? = w.heap[b]?) (hB : ∀ b, B b → B' b) : Sets w' B' a l X := ⟨h.row.same hs hB, fun i hi => (h.has i hi).same hs hB⟩
theorem Sets.spot {w : World} {B : Nat → Prop} {b off : Nat} {l : List (List At)} {X : Nat → AdS} (h : Sets w B (some ⟨b, off, none⟩) l X) (i : Nat) (hi : i < l.length) : w.cell? ⟨b, off + i, none⟩ = some (.slice (X i).a l[i].length (X i).c) := by
 obtain ⟨b', off', e, -, hc⟩ := h.at i hi
 simp only [Option.some.injEq, Addr.mk.injEq, and_true] at e
 obtain ⟨rfl, rfl⟩ := e
 exact hc i hi
def SetsOk (l : List (List At)) : Prop := l.length ≤ maxLen ∧ ∀ s ∈ l, s.length ≤ maxLen ∧ ∀ x ∈ s, x.t.length ≤ maxLen
theorem Rd.toRw {α : Type} {w : World} {B : Nat → Prop} {n : Nat} {d : α → Nat → D} {l : List α} {a : Option Addr} {c : Nat} (h : Rd w B (Ls n d l) (.slice a l.length c)) (hn : 0 < n) (F : Nat → Value) (hF : ∀ i (hi : i < l.length) j u, j < n → Rd w B (d l[i] j) u → u = F (i * n + j)) : Rw w B a (l.length * n) F := by
 by_cases h0 : l.length = 0
 ·
  exact .inl (by rw [h0]; simp)
 obtain ⟨b, off, ha, hb, -⟩ := h.things 0 (by omega)
 subst ha
 refine .inr ⟨b, off, rfl, hb, fun m hm => ?_⟩
 have hi : m / n < l.length := by rw [Nat.div_lt_iff_lt_mul hn]; exact hm
 have hj : m % n < n := Nat.mod_lt _ hn
 obtain ⟨u, hu, hr⟩ := h.spotT hi hj
 rw [Nat.add_assoc, Nat.div_add_mod'] at hu
 rw [hu, hF _ hi _ u hj hr, Nat.div_add_mod']
theorem Rd.ats {w : World} {B : Nat → Prop} {l : List At} {a : Option Addr} {c : Nat} (h : Rd w B (dAtomS l) (.slice a l.length c)) : Ats w B a l := by
  have hr := Rd.toRw (d := dAtom) (n := 3) h (by omega) (atF l) (fun i hi j u hj hr => by
    rcases (by omega : j = 0 ∨ j = 1 ∨ j = 2) with rfl | rfl | rfl
    · rw [Nat.add_zero, atF0 hi]; exact hr
    · rw [atF1 hi]; exact hr
    · rw [atF2 hi]; exact hr)
  rcases hr with h0 | ⟨b, off, ha, hb, hc⟩
  · exact .inl (by omega)
  · exact .inr ⟨b, off, ha, hb, hc⟩
theorem Rd.cols {w : World} {B : Nat → Prop} {l : List Cl} {a : Option Addr} {c : Nat} (h : Rd w B (dColumnS l) (.slice a l.length c)) : Cols w B a l :=
 Rd.toRw (d := dColumn) (n := 8) h (by omega) (clF l) (fun i hi j u hj hr => by
  rw [clF_at hi hj]
  rcases (by omega : j = 0 ∨ j = 1 ∨ j = 2 ∨ j = 3 ∨ j = 4 ∨ j = 5 ∨ j = 6 ∨ j = 7) with rfl | rfl | rfl | rfl | rfl | rfl | rfl | rfl <;> exact hr)
theorem Rd.ints {w : World} {B : Nat → Prop} {l : List Int} {a : Option Addr} {c : Nat} (h : Rd w B (dIntS l) (.slice a l.length c)) : Ints w B a l := by
 have hr := Rd.toRw (d := cInt) (n := 1) h (by omega) (fun m => .int .i64 (l.getD m 0)) (fun i hi j u hj hr => by
  obtain rfl : j = 0 := by omega
  rw [Nat.mul_one, Nat.add_zero, List.getD_eq_getElem?_getD, List.getElem?_eq_getElem hi]; exact hr)
 rwa [Nat.mul_one] at hr
theorem Rd.sets {w : World} {B : Nat → Prop} {l : List (List At)} {a : Option Addr} {c : Nat} (h : Rd w B (dAtomSS l) (.slice a l.length c)) : ∃ X, Sets w B a l X := by
 have hp : ∀ i, ∃ ad : AdS, ∀ hi : i < l.length, ∀ u, Rd w B (cAtomS l[i] 0) u → (∀ b off, a = some ⟨b, off, none⟩ → w.cell? ⟨b, off + i, none⟩ = some u → u = .slice ad.a l[i].length ad.c ∧ Rd w B (dAtomS l[i]) (.slice ad.a l[i].length ad.c)) := fun i => by
  by_cases hi : i < l.length
  ·
   obtain ⟨b, off, ha, -, hc⟩ := Rd.things (d := cAtomS) (n := 1) h i hi
   obtain ⟨u, hu, hr⟩ := hc 0 (by omega)
   replace hr : Rd w B (dAtomS l[i]) u := hr
   obtain ⟨a1, c1, rfl⟩ := hr.lsSlice
   rw [Nat.mul_one, Nat.add_zero] at hu
   refine ⟨⟨a1, c1⟩, fun _ u' _ b' off' ha' hu' => ?_⟩
   rw [ha] at ha'
   simp only [Option.some.injEq, Addr.mk.injEq, and_true] at ha'
   obtain ⟨rfl, rfl⟩ := ha'
   rw [hu] at hu'
   simp only [Option.some.injEq] at hu'
   exact ⟨hu'.symm, hr⟩
  ·
   exact ⟨⟨none, 0⟩, fun hi' => absurd hi' hi⟩
 obtain ⟨X, hX⟩ := Classical.axiomOfChoice hp
 refine ⟨X, ?_, fun i hi => ?_⟩
 ·
  by_cases h0 : l.length = 0
  ·
   exact .inl h0
  obtain ⟨b, off, ha, hb, -⟩ := Rd.things (d := cAtomS) (n := 1) h 0 (by omega)
  refine .inr ⟨b, off, ha, hb, fun m hm => ?_⟩
  subst ha
  obtain ⟨u, hu, hr⟩ := Rd.spotT (d := cAtomS) (n := 1) h hm (j := 0) (by omega)
  rw [Nat.mul_one, Nat.add_zero] at hu
  rw [hu, (hX m hm u hr b off rfl hu).1]
  unfold setF
  rw [set_getD hm]
 ·
  obtain ⟨b, off, ha, hb, hc⟩ := Rd.things (d := cAtomS) (n := 1) h i hi
  obtain ⟨u, hu, hr⟩ := hc 0 (by omega)
  rw [Nat.mul_one, Nat.add_zero] at hu
  exact (hX i hi u hr b off ha hu).2.ats
theorem le_atoms {l : List At} (h : (dAtomS l).le maxLen) : l.length ≤ maxLen ∧ ∀ x ∈ l, x.t.length ≤ maxLen := by
 refine ⟨(Ls_le.1 h).2.1, fun x hx => ?_⟩
 obtain ⟨i, hi, rfl⟩ := List.mem_iff_getElem.1 hx
 exact (Ls_le.1 h).2.2 i hi 2 (by omega)
theorem le_sets {l : List (List At)} (h : (dAtomSS l).le maxLen) : SetsOk l := by
 refine ⟨(Ls_le.1 h).2.1, fun s hs => ?_⟩
 obtain ⟨i, hi, rfl⟩ := List.mem_iff_getElem.1 hs
 exact le_atoms ((Ls_le.1 h).2.2 i hi 0 (by omega))
theorem le_table {t : Tb} (hn : t.nm.length ≤ maxLen) (hc : (dColumnS t.cols).le maxLen) (hu : (dIntS t.uq).le maxLen) : t.ok := by
 refine ⟨hn, (Ls_le.1 hc).2.1, fun x hx => ?_, (Ls_le.1 hu).2.1⟩
 obtain ⟨i, hi, rfl⟩ := List.mem_iff_getElem.1 hx
 exact ⟨(Ls_le.1 hc).2.2 i hi 0 (by omega), (Ls_le.1 hc).2.2 i hi 6 (by omega)⟩
theorem Rd.hasT {w : World} {B : Nat → Prop} {t : Tb} {ca ua : Option Addr} {cc uc : Nat} (hc : Rd w B (dColumnS t.cols) (.slice ca t.cols.length cc)) (hu : Rd w B (dIntS t.uq) (.slice ua t.uq.length uc)) : t.Has w B ca ua := ⟨hc.cols, hu.ints⟩
def idN : List UInt8 := [95, 117, 117, 105, 100]
def condB (c : CondV) : Bool := inB 1 c.fn 8 && (datumB c.val && decide (c.col.length ≤ 40))
noncomputable def askC (t : Tb) (s : List UInt8) : Option (Int × Int) := if placeC t.cols s < 0 then (if s = idN then some (4, 1) else none) else (t.cols[(placeC t.cols s).toNat]?).map fun x => (x.k, x.mx)
def kindNo (kd : Int) (l : List At) : Bool := match l with
 | [] => false
 | x :: _ => x.k != kd
def condK (kd mx : Int) (c : CondV) : Int := if kindNo kd c.val = true then 9 else if inB 3 c.fn 6 = true ∧ (kd ≠ 1 ∨ mx ≠ 1 ∨ c.val.length ≠ 1) then 9 else 0
noncomputable def condC (t : Tb) (c : CondV) : Int := match askC t c.col with
 | none => 11
 | some (kd, mx) => condK kd mx c
theorem cond_none {t : Tb} {c : CondV} (hp : placeC t.cols c.col = -1) (hn : c.col ≠ idN) : condC t c = 11 := by
 unfold condC askC; rw [hp, if_pos (by omega), if_neg hn]
theorem cond_id {t : Tb} {c : CondV} (hp : placeC t.cols c.col = -1) (hn : c.col = idN) : condC t c = condK 4 1 c := by
 unfold condC askC; rw [hp, if_pos (by omega), if_pos hn]
theorem cond_at {t : Tb} {c : CondV} {k : Nat} (hk : k < t.cols.length) (hp : placeC t.cols c.col = (k : Int)) : condC t c = condK t.cols[k].k t.cols[k].mx c := by
 unfold condC askC; rw [hp, if_neg (by omega), Int.toNat_natCast, List.getElem?_eq_getElem hk]; rfl
theorem condK_kind {kd mx : Int} {c : CondV} (h : kindNo kd c.val = true) : condK kd mx c = 9 := by unfold condK; rw [if_pos h]
theorem condK_ok {kd mx : Int} {c : CondV} (h : kindNo kd c.val = false) (hf : inB 3 c.fn 6 = false) : condK kd mx c = 0 := by
 unfold condK; rw [if_neg (by simp [h]), if_neg (by simp [hf])]
theorem condK_no {kd mx : Int} {c : CondV} (h : kindNo kd c.val = false) (hf : inB 3 c.fn 6 = true) (ho : kd ≠ 1 ∨ mx ≠ 1 ∨ c.val.length ≠ 1) : condK kd mx c = 9 := by
 unfold condK; rw [if_neg (by simp [h]), if_pos ⟨hf, ho⟩]
theorem condK_yes {kd mx : Int} {c : CondV} (h : kindNo kd c.val = false) (h1 : kd = 1) (h2 : mx = 1) (h3 : c.val.length = 1) : condK kd mx c = 0 := by
 unfold condK; rw [if_neg (by simp [h]), if_neg (by intro h'; rcases h'.2 with h' | h' | h' <;> contradiction)]
theorem kindNo_nil {kd : Int} {l : List At} (h : l.length = 0) : kindNo kd l = false := by
 cases l with
 | nil => rfl
 | cons x r => simp at h
theorem kindNo_at {kd : Int} {l : List At} (h : 0 < l.length) : kindNo kd l = (l[0].k != kd) := by
 cases l with
 | nil => simp at h
 | cons x r => rfl
theorem place_cases (l : List Cl) (s : List UInt8) : placeC l s = -1 ∨ ∃ k, ∃ _ : k < l.length, placeC l s = (k : Int) := by
  rcases place_first l s with ⟨e, -⟩ | ⟨k, hk, e, -⟩
  · exact .inl e
  · exact .inr ⟨k, hk, e⟩
structure BoxE (ty ty' : TypeId) (w W : World) (cs ds : Array Value) : Prop where
 a : W.heap[w.heap.size]? = some (.cells cs ty)
 b : W.heap[w.heap.size + 1]? = some (.cells ds ty')
 bel : Below w.heap.size w W
theorem boxE (ty ty' : TypeId) (w : World) (cs ds : Array Value) : BoxE ty ty' w ((w.alloc (.cells cs ty)).alloc (.cells ds ty')) cs ds := by
 refine ⟨heap_keptD (heap_newD _ _) (below_allocD _ _), ?_, (below_allocD _ _).trans ((below_allocD _ _).mono (by simp))⟩
 have h := heap_newD (w.alloc (.cells cs ty)) (.cells ds ty')
 rw [size_allocD] at h
 exact h
theorem BoxE.later {ty ty' : TypeId} {w W W' : World} {cs ds : Array Value} (h : BoxE ty ty' w W cs ds) (hB : Below W.heap.size W W') : BoxE ty ty' w W' cs ds := ⟨heap_keptD h.a hB, heap_keptD h.b hB, h.bel.trans (hB.mono h.bel.size)⟩
theorem BoxE.drew {ty ty' : TypeId} {w W : World} {cs ds : Array Value} (h : BoxE ty ty' w W cs ds) : BoxE ty ty' w W.drew cs ds := h.later (Below.refl _ _).drew
theorem Ats.head {w : World} {S : Nat} {a : Option Addr} {l : List At} (h : Ats w (· < S) a l) : l.length = 0 ∨ ∃ b off, ∃ q : Int, 0 < l.length ∧ a = some ⟨b, off, none⟩ ∧ (∀ kd, kindNo kd l = (q != kd)) ∧ ∀ W, Below S w W → W.cell? ⟨b, off, none⟩ = some (.int .i64 q) := by
 by_cases h0 : 0 < l.length
 ·
  obtain ⟨b, off, e, -, -⟩ := h.item 0 h0
  refine .inr ⟨b, off, l[0].k, h0, e, fun kd => kindNo_at h0, fun W hW => ?_⟩
  have h' := h.below hW
  subst e
  have := (h'.three 0 h0).1
  rwa [Nat.zero_mul, Nat.add_zero] at this
 ·
  exact .inl (by omega)
set_option maxRecDepth 100000 in
set_option maxHeartbeats 1600000 in
theorem condOKs (c : CondV) (va : Option Addr) (vc : Nat) (S : Nat) (w : World) (hn : c.col.length ≤ maxLen) (hl : c.val.length ≤ maxLen) (hx : ∀ x ∈ c.val, x.t.length ≤ maxLen) (hw : S ≤ w.heap.size) (hA : Ats w (· < S) va c.val) :
  Calls Tryz.prog 98 #[.agg #[.string ⟨c.col.toArray⟩, .int .i64 c.fn, .slice va c.val.length vc]] w fun e w' => e = .returned (.bool (condB c)) ∧ Below w.heap.size w w' := by
 have DA : Hid (∀ W, BoxD 119 w W #[.string ⟨c.col.toArray⟩, .int .i64 c.fn, .slice va c.val.length vc] → Calls Tryz.prog 95 #[.slice va c.val.length vc] W fun e w' => e = .returned (.bool (datumB c.val)) ∧ BoxD 119 w w' #[.string ⟨c.col.toArray⟩, .int .i64 c.fn, .slice va c.val.length vc]) := fun W h => (datumOKs c.val va vc S W hl hx (Nat.le_trans hw h.2.size) (hA.below (h.2.mono hw))).mono (fun e w' ⟨he, hB⟩ => ⟨he, h.later hB⟩)
 have hb := boxD 119 w #[.string ⟨c.col.toArray⟩, .int .i64 c.fn, .slice va c.val.length vc]
 have x0 := cell_at (o := 0) hb.1 rfl
 have x1 := cell_at (o := 1) hb.1 rfl
 have x2 := cell_at (o := 2) hb.1 rfl
 have HB := Lib.hid hb
 have HD : Hid (condB c = (inB 1 c.fn 8 && (datumB c.val && decide (c.col.length ≤ 40)))) := rfl
 have IN := fun W => inS c.fn 1 8 W
 have HI := Lib.hid IN
 unfold maxLen at hn hl
 clear hx hw hA hb IN
 cases hf : inB 1 c.fn 8
 case false =>
  rw [hf] at HI HD
  clear hf
  go_enter Tryz.func98, Tryz.ntmps98
  go_wp2_with fail
  refine (HI.out _).mono ?_
  rintro e w1 ⟨rfl, rfl⟩
  go_wp2_with fail
  go_ret
  exact ⟨ret_b (by rw [HD.out]; rfl), HB.out.2⟩
 rw [hf] at HI HD
 clear hf
 cases hd : datumB c.val
 case false =>
  rw [hd] at DA HD
  clear hd
  go_enter Tryz.func98, Tryz.ntmps98
  go_wp2_with fail
  refine (HI.out _).mono ?_
  rintro e w1 ⟨rfl, rfl⟩
  go_wp2_with fail
  refine (DA.out _ HB.out).mono ?_
  rintro e w2 ⟨rfl, hb2⟩
  have HB2 := Lib.hid hb2
  clear hb2 x0 x1 x2
  go_wp2_with fail
  go_ret
  exact ⟨ret_b (by rw [HD.out]; rfl), HB2.out.2⟩
 rw [hd] at DA HD
 clear hd
 go_enter Tryz.func98, Tryz.ntmps98
 go_wp2_with fail
 refine (HI.out _).mono ?_
 rintro e w1 ⟨rfl, rfl⟩
 go_wp2_with fail
 refine (DA.out _ HB.out).mono ?_
 rintro e w2 ⟨rfl, hb2⟩
 have HB2 := Lib.hid hb2
 clear x0 x1 x2
 have x0 := cell_at (o := 0) hb2.1 rfl
 clear hb2
 go_wp2_with fail
 go_ret
 exact ⟨ret_b (by rw [HD.out]; simp; omega), HB2.out.2⟩
set_option maxRecDepth 100000 in
set_option maxHeartbeats 1600000 in
theorem condOKi (c : CondV) (va : Option Addr) (vc : Nat) (S : Nat) (w : World) (hn : c.col.length ≤ maxLen) (hl : c.val.length ≤ maxLen) (hx : ∀ x ∈ c.val, x.t.length ≤ maxLen) (hw : S ≤ w.heap.size) (hA : Ats w (· < S) va c.val) :
  Calls Tryz.prog 73 #[.agg #[.string ⟨c.col.toArray⟩, .int .i64 c.fn, .slice va c.val.length vc]] w fun e w' => e = .returned (.bool (condB c)) ∧ Below w.heap.size w w' := by
 have DA : Hid (∀ W, BoxD 119 w W #[.string ⟨c.col.toArray⟩, .int .i64 c.fn, .slice va c.val.length vc] → Calls Tryz.prog 115 #[.slice va c.val.length vc] W fun e w' => e = .returned (.bool (datumB c.val)) ∧ BoxD 119 w w' #[.string ⟨c.col.toArray⟩, .int .i64 c.fn, .slice va c.val.length vc]) := fun W h => (datumOKi c.val va vc S W hl hx (Nat.le_trans hw h.2.size) (hA.below (h.2.mono hw))).mono (fun e w' ⟨he, hB⟩ => ⟨he, h.later hB⟩)
 have hb := boxD 119 w #[.string ⟨c.col.toArray⟩, .int .i64 c.fn, .slice va c.val.length vc]
 have x0 := cell_at (o := 0) hb.1 rfl
 have x1 := cell_at (o := 1) hb.1 rfl
 have x2 := cell_at (o := 2) hb.1 rfl
 have HB := Lib.hid hb
 have HD : Hid (condB c = (inB 1 c.fn 8 && (datumB c.val && decide (c.col.length ≤ 40)))) := rfl
 unfold maxLen at hn hl
 clear hx hw hA hb
 by_cases h1 : 1 ≤ c.fn
 case neg =>
  have HR : Hid (condB c = false) := by show condB c = false; rw [HD.out]; unfold inB; rw [decide_eq_false (by omega)]; rfl
  have g1 : decide (1 ≤ c.fn) = false := decide_eq_false h1
  clear h1
  go_enter Tryz.func73, Tryz.ntmps73
  go_wp2_with fail
  go_ret
  exact ⟨ret_b HR.out.symm, HB.out.2⟩
 have g1 : decide (1 ≤ c.fn) = true := decide_eq_true h1
 by_cases h2 : c.fn ≤ 8
 case neg =>
  have HR : Hid (condB c = false) := by show condB c = false; rw [HD.out]; unfold inB; rw [decide_eq_false (by omega)]; rfl
  have g2 : decide (c.fn ≤ 8) = false := decide_eq_false h2
  clear h1 h2
  go_enter Tryz.func73, Tryz.ntmps73
  go_wp2_with fail
  go_ret
  exact ⟨ret_b HR.out.symm, HB.out.2⟩
 have g2 : decide (c.fn ≤ 8) = true := decide_eq_true h2
 have HD' : Hid (condB c = (datumB c.val && decide (c.col.length ≤ 40))) := by show condB c = _; rw [HD.out]; unfold inB; rw [decide_eq_true ⟨h1, h2⟩]; rfl
 clear h1 h2 HD
 by_cases h3 : c.col.length ≤ 40
 case neg =>
  have HR : Hid (condB c = false) := by show condB c = false; rw [HD'.out, decide_eq_false h3, Bool.and_false]
  have g3 : decide ((c.col.length : Int) ≤ 40) = false := decide_eq_false (by omega)
  clear h3
  go_enter Tryz.func73, Tryz.ntmps73
  go_wp2_with fail
  go_ret
  exact ⟨ret_b HR.out.symm, HB.out.2⟩
 have g3 : decide ((c.col.length : Int) ≤ 40) = true := decide_eq_true (by omega)
 have HR : Hid (condB c = datumB c.val) := by show condB c = _; rw [HD'.out, decide_eq_true h3, Bool.and_true]
 clear h3 HD'
 go_enter Tryz.func73, Tryz.ntmps73
 go_wp2_with fail
 refine (DA.out _ HB.out).mono ?_
 rintro e w2 ⟨rfl, hb2⟩
 have HB2 := Lib.hid hb2
 clear hb2 x0 x1 x2
 go_wp2_with fail
 go_ret
 exact ⟨ret_b HR.out.symm, HB2.out.2⟩
set_option maxRecDepth 100000 in
set_option maxHeartbeats 1600000 in
theorem orderI (c : CondV) (va : Option Addr) (vc : Nat) (w : World) :
  Calls Tryz.prog 118 #[.agg #[.string ⟨c.col.toArray⟩, .int .i64 c.fn, .slice va c.val.length vc]] w fun e w' => e = .returned (.bool (inB 3 c.fn 6)) ∧ Below w.heap.size w w' := by
 have hb := boxD 119 w #[.string ⟨c.col.toArray⟩, .int .i64 c.fn, .slice va c.val.length vc]
 have x1 := cell_at (o := 1) hb.1 rfl
 have HB := Lib.hid hb
 clear hb
 by_cases h1 : 3 ≤ c.fn
 case neg =>
  have HR : Hid (inB 3 c.fn 6 = false) := by show inB _ _ _ = false; unfold inB; rw [decide_eq_false (by omega)]
  have g1 : decide (3 ≤ c.fn) = false := decide_eq_false h1
  clear h1
  go_enter Tryz.func118, Tryz.ntmps118
  go_wp2_with fail
  go_ret
  exact ⟨ret_b HR.out.symm, HB.out.2⟩
 have g1 : decide (3 ≤ c.fn) = true := decide_eq_true h1
 have HR : Hid (inB 3 c.fn 6 = decide (c.fn ≤ 6)) := by
  show inB _ _ _ = _
  unfold inB
  rw [Bool.eq_iff_iff]
  simp
  intro _; exact h1
 clear h1
 go_enter Tryz.func118, Tryz.ntmps118
 go_wp2_with fail
 go_ret
 exact ⟨ret_b HR.out.symm, HB.out.2⟩
set_option maxRecDepth 100000 in
set_option maxHeartbeats 6400000 in
theorem condCodeS (t : Tb) (c : CondV) (ca : Option Addr) (cc : Nat) (ua : Option Addr) (uc : Nat) (va : Option Addr) (vc : Nat) (B : Nat → Prop) (S : Nat) (w : World) (ho : t.ok) (hl : c.val.length ≤ maxLen) (hT : t.Has w B ca ua) (hw : S ≤ w.heap.size) (hA : Ats w (· < S) va c.val) :
  Calls Tryz.prog 99 #[.agg #[.string ⟨t.nm.toArray⟩, .slice ca t.cols.length cc, .slice ua t.uq.length uc, .bool t.rt], .agg #[.string ⟨c.col.toArray⟩, .int .i64 c.fn, .slice va c.val.length vc]] w fun e w' => e = .returned (.int .i64 (condC t c)) ∧ Below w.heap.size w w' := by
 have PL : Hid (∀ W, BoxE 75 119 w W #[.string ⟨t.nm.toArray⟩, .slice ca t.cols.length cc, .slice ua t.uq.length uc, .bool t.rt] #[.string ⟨c.col.toArray⟩, .int .i64 c.fn, .slice va c.val.length vc] → Calls Tryz.prog 60 #[.agg #[.string ⟨t.nm.toArray⟩, .slice ca t.cols.length cc, .slice ua t.uq.length uc, .bool t.rt], .string ⟨c.col.toArray⟩] W fun e w' => e = .returned (.int .i64 (placeC t.cols c.col)) ∧ BoxE 75 119 w w' #[.string ⟨t.nm.toArray⟩, .slice ca t.cols.length cc, .slice ua t.uq.length uc, .bool t.rt] #[.string ⟨c.col.toArray⟩, .int .i64 c.fn, .slice va c.val.length vc]) := fun W h => (placeS t c.col ca cc ua uc B W ho.2.1 (hT.later h.bel)).mono (fun e w' ⟨he, hB⟩ => ⟨he, h.later hB⟩)
 have CL : Hid (∀ W, Below w.heap.size w W → Cols W B ca t.cols) := fun W h => hT.1.later h
 have HH := Lib.hid hA.head
 have HW := Lib.hid hw
 have hb := boxE 75 119 w #[.string ⟨t.nm.toArray⟩, .slice ca t.cols.length cc, .slice ua t.uq.length uc, .bool t.rt] #[.string ⟨c.col.toArray⟩, .int .i64 c.fn, .slice va c.val.length vc]
 have x0 := cell_at (o := 0) hb.a rfl
 have x1 := cell_at (o := 1) hb.a rfl
 have x2 := cell_at (o := 2) hb.a rfl
 have x3 := cell_at (o := 3) hb.a rfl
 have y0 := cell_at (o := 0) hb.b rfl
 have y1 := cell_at (o := 1) hb.b rfl
 have y2 := cell_at (o := 2) hb.b rfl
 have HB := Lib.hid hb
 have IN := Lib.hid (fun W => inS c.fn 3 6 W)
 have hcl := ho.2.1
 unfold maxLen at hl hcl
 clear ho hT hw hA hb
 rcases place_cases t.cols c.col with hp | ⟨k, hk, hp⟩
 ·
  by_cases hn : c.col = idN
  case neg =>
   have HC : Hid (condC t c = 11) := cond_none hp hn
   have hn1 : (c.col == [95, 117, 117, 105, 100]) = false := by simpa [idN] using hn
   rw [hp] at PL
   clear hp hn HH
   go_enter Tryz.func99, Tryz.ntmps99
   go_wp2_with fail
   refine (PL.out _ HB.out).mono ?_
   rintro e w1 ⟨rfl, hb⟩
   clear x0 x1 x2 x3 y0 y1 y2
   have x1 := cell_at (o := 1) hb.a rfl
   have y0 := cell_at (o := 0) hb.b rfl
   have y1 := cell_at (o := 1) hb.b rfl
   have y2 := cell_at (o := 2) hb.b rfl
   have HB1 := Lib.hid hb.bel
   clear hb
   go_wp2_with fail
   go_ret
   exact ⟨ret_i HC.out.symm, HB1.out⟩
  have HE := Lib.hid (cond_id hp hn)
  have hn1 : (c.col == [95, 117, 117, 105, 100]) = true := by simpa [idN] using hn
  rw [hp] at PL
  clear hp hn
  rcases HH.out with h0 | ⟨b, off, q, h0, rfl, hkn, hf⟩
  ·
   have hd : decide (0 < c.val.length) = false := decide_eq_false (by omega)
   have H0 := Lib.hid h0
   clear h0
   have HK := Lib.hid (kindNo_nil (kd := 4) H0.out)
   cases hF : inB 3 c.fn 6
   case false =>
    have HC : Hid (condC t c = 0) := HE.out.trans (condK_ok HK.out hF)
    rw [hF] at IN
    clear hF HE
    go_enter Tryz.func99, Tryz.ntmps99
    go_wp2_with fail
    refine (PL.out _ HB.out).mono ?_
    rintro e w1 ⟨rfl, hb⟩
    clear x0 x1 x2 x3 y0 y1 y2
    have x1 := cell_at (o := 1) hb.a rfl
    have y0 := cell_at (o := 0) hb.b rfl
    have y1 := cell_at (o := 1) hb.b rfl
    have y2 := cell_at (o := 2) hb.b rfl
    have HB1 := Lib.hid hb.bel
    clear hb
    go_wp2_with fail
    refine (IN.out _).mono ?_
    rintro e w2 ⟨rfl, rfl⟩
    go_wp2_with fail
    go_ret
    exact ⟨ret_i HC.out.symm, HB1.out⟩
   have HC : Hid (condC t c = 9) := HE.out.trans (condK_no HK.out hF (.inl (by omega)))
   rw [hF] at IN
   clear hF HE
   go_enter Tryz.func99, Tryz.ntmps99
   go_wp2_with fail
   refine (PL.out _ HB.out).mono ?_
   rintro e w1 ⟨rfl, hb⟩
   clear x0 x1 x2 x3 y0 y1 y2
   have x1 := cell_at (o := 1) hb.a rfl
   have y0 := cell_at (o := 0) hb.b rfl
   have y1 := cell_at (o := 1) hb.b rfl
   have y2 := cell_at (o := 2) hb.b rfl
   have HB1 := Lib.hid hb.bel
   clear hb
   go_wp2_with fail
   refine (IN.out _).mono ?_
   rintro e w2 ⟨rfl, rfl⟩
   go_wp2_with fail
   go_ret
   exact ⟨ret_i HC.out.symm, HB1.out⟩
  ·
   have HF := Lib.hid hf
   have hd : decide (0 < c.val.length) = true := decide_eq_true (by omega)
   have hd0 : (0 : Int) < (c.val.length : Int) := by omega
   clear hf
   have hkn1 := hkn (4)
   clear hkn
   cases hq : (q != 4)
   case true =>
    have HC : Hid (condC t c = 9) := HE.out.trans (condK_kind (by rw [hkn1, hq]))
    clear HE hkn1 IN
    go_enter Tryz.func99, Tryz.ntmps99
    go_wp2_with fail
    refine (PL.out _ HB.out).mono ?_
    rintro e w1 ⟨rfl, hb⟩
    clear x0 x1 x2 x3 y0 y1 y2
    have x1 := cell_at (o := 1) hb.a rfl
    have y0 := cell_at (o := 0) hb.b rfl
    have y1 := cell_at (o := 1) hb.b rfl
    have y2 := cell_at (o := 2) hb.b rfl
    have f0 := HF.out _ (hb.bel.mono HW.out)
    have HB1 := Lib.hid hb.bel
    clear hb
    go_wp2_with fail
    go_ret
    exact ⟨ret_i HC.out.symm, HB1.out⟩
   have HK := Lib.hid (hkn1.trans hq)
   cases hF : inB 3 c.fn 6
   case false =>
    have HC : Hid (condC t c = 0) := HE.out.trans (condK_ok HK.out hF)
    rw [hF] at IN
    clear hF HE
    go_enter Tryz.func99, Tryz.ntmps99
    go_wp2_with fail
    refine (PL.out _ HB.out).mono ?_
    rintro e w1 ⟨rfl, hb⟩
    clear x0 x1 x2 x3 y0 y1 y2
    have x1 := cell_at (o := 1) hb.a rfl
    have y0 := cell_at (o := 0) hb.b rfl
    have y1 := cell_at (o := 1) hb.b rfl
    have y2 := cell_at (o := 2) hb.b rfl
    have f0 := HF.out _ (hb.bel.mono HW.out)
    have HB1 := Lib.hid hb.bel
    clear hb
    go_wp2_with fail
    refine (IN.out _).mono ?_
    rintro e w2 ⟨rfl, rfl⟩
    go_wp2_with fail
    go_ret
    exact ⟨ret_i HC.out.symm, HB1.out⟩
   have HC : Hid (condC t c = 9) := HE.out.trans (condK_no HK.out hF (.inl (by omega)))
   rw [hF] at IN
   clear hF HE
   go_enter Tryz.func99, Tryz.ntmps99
   go_wp2_with fail
   refine (PL.out _ HB.out).mono ?_
   rintro e w1 ⟨rfl, hb⟩
   clear x0 x1 x2 x3 y0 y1 y2
   have x1 := cell_at (o := 1) hb.a rfl
   have y0 := cell_at (o := 0) hb.b rfl
   have y1 := cell_at (o := 1) hb.b rfl
   have y2 := cell_at (o := 2) hb.b rfl
   have f0 := HF.out _ (hb.bel.mono HW.out)
   have HB1 := Lib.hid hb.bel
   clear hb
   go_wp2_with fail
   refine (IN.out _).mono ?_
   rintro e w2 ⟨rfl, rfl⟩
   go_wp2_with fail
   go_ret
   exact ⟨ret_i HC.out.symm, HB1.out⟩
 ·
  skip
  have HE := Lib.hid (cond_at hk hp)
  have hk1 : (k : Int) < (t.cols.length : Int) := by omega
  have hk0 : decide ((0 : Int) ≤ (k : Int)) = true := decide_eq_true (by omega)
  obtain ⟨b1, off1, rfl, -, -⟩ := (CL.out _ (Below.refl _ _)).at k hk
  rw [hp] at PL
  clear hp
  rcases HH.out with h0 | ⟨b, off, q, h0, rfl, hkn, hf⟩
  ·
   have hd : decide (0 < c.val.length) = false := decide_eq_false (by omega)
   have H0 := Lib.hid h0
   clear h0
   have HK := Lib.hid (kindNo_nil (kd := t.cols[k].k) H0.out)
   cases hF : inB 3 c.fn 6
   case false =>
    have HC : Hid (condC t c = 0) := HE.out.trans (condK_ok HK.out hF)
    rw [hF] at IN
    clear hF HE
    go_enter Tryz.func99, Tryz.ntmps99
    go_wp2_with fail
    refine (PL.out _ HB.out).mono ?_
    rintro e w1 ⟨rfl, hb⟩
    clear x0 x1 x2 x3 y0 y1 y2
    have x1 := cell_at (o := 1) hb.a rfl
    have y0 := cell_at (o := 0) hb.b rfl
    have y1 := cell_at (o := 1) hb.b rfl
    have y2 := cell_at (o := 2) hb.b rfl
    obtain ⟨b2, off2, e2, -, hc2⟩ := (CL.out _ hb.bel).at k hk
    simp only [Option.some.injEq, Addr.mk.injEq, and_true] at e2
    obtain ⟨rfl, rfl⟩ := e2
    have c1 := (hc2 k hk).2.1
    have c3 := (hc2 k hk).2.2.2.1
    clear hc2
    have HB1 := Lib.hid hb.bel
    clear hb
    generalize t.cols[k] = x at *
    go_wp2_with fail
    refine (IN.out _).mono ?_
    rintro e w2 ⟨rfl, rfl⟩
    go_wp2_with fail
    go_ret
    exact ⟨ret_i HC.out.symm, HB1.out⟩
   by_cases h1 : t.cols[k].k = 1
   case neg =>
    have HC : Hid (condC t c = 9) := HE.out.trans (condK_no HK.out hF (.inl h1))
    have g1 : (t.cols[k].k != 1) = true := by simpa using h1
    clear h1
    rw [hF] at IN
    clear hF HE
    go_enter Tryz.func99, Tryz.ntmps99
    go_wp2_with fail
    refine (PL.out _ HB.out).mono ?_
    rintro e w1 ⟨rfl, hb⟩
    clear x0 x1 x2 x3 y0 y1 y2
    have x1 := cell_at (o := 1) hb.a rfl
    have y0 := cell_at (o := 0) hb.b rfl
    have y1 := cell_at (o := 1) hb.b rfl
    have y2 := cell_at (o := 2) hb.b rfl
    obtain ⟨b2, off2, e2, -, hc2⟩ := (CL.out _ hb.bel).at k hk
    simp only [Option.some.injEq, Addr.mk.injEq, and_true] at e2
    obtain ⟨rfl, rfl⟩ := e2
    have c1 := (hc2 k hk).2.1
    have c3 := (hc2 k hk).2.2.2.1
    clear hc2
    have HB1 := Lib.hid hb.bel
    clear hb
    generalize t.cols[k] = x at *
    go_wp2_with fail
    refine (IN.out _).mono ?_
    rintro e w2 ⟨rfl, rfl⟩
    go_wp2_with fail
    go_ret
    exact ⟨ret_i HC.out.symm, HB1.out⟩
   have g1 : (t.cols[k].k != 1) = false := by simpa using h1
   by_cases h2 : t.cols[k].mx = 1
   case neg =>
    have HC : Hid (condC t c = 9) := HE.out.trans (condK_no HK.out hF (.inr (.inl h2)))
    have g2 : (t.cols[k].mx != 1) = true := by simpa using h2
    clear h1 h2
    rw [hF] at IN
    clear hF HE
    go_enter Tryz.func99, Tryz.ntmps99
    go_wp2_with fail
    refine (PL.out _ HB.out).mono ?_
    rintro e w1 ⟨rfl, hb⟩
    clear x0 x1 x2 x3 y0 y1 y2
    have x1 := cell_at (o := 1) hb.a rfl
    have y0 := cell_at (o := 0) hb.b rfl
    have y1 := cell_at (o := 1) hb.b rfl
    have y2 := cell_at (o := 2) hb.b rfl
    obtain ⟨b2, off2, e2, -, hc2⟩ := (CL.out _ hb.bel).at k hk
    simp only [Option.some.injEq, Addr.mk.injEq, and_true] at e2
    obtain ⟨rfl, rfl⟩ := e2
    have c1 := (hc2 k hk).2.1
    have c3 := (hc2 k hk).2.2.2.1
    clear hc2
    have HB1 := Lib.hid hb.bel
    clear hb
    generalize t.cols[k] = x at *
    go_wp2_with fail
    refine (IN.out _).mono ?_
    rintro e w2 ⟨rfl, rfl⟩
    go_wp2_with fail
    go_ret
    exact ⟨ret_i HC.out.symm, HB1.out⟩
   have g2 : (t.cols[k].mx != 1) = false := by simpa using h2
   have h3 : ¬ c.val.length = 1 := by have := H0.out; omega
   have HC : Hid (condC t c = 9) := HE.out.trans (condK_no HK.out hF (.inr (.inr h3)))
   have g3 : ((c.val.length : Int) != 1) = true := by simpa [bne_iff_ne] using (by omega : ¬ (c.val.length : Int) = 1)
   clear h1 h2 h3
   rw [hF] at IN
   clear hF HE
   go_enter Tryz.func99, Tryz.ntmps99
   go_wp2_with fail
   refine (PL.out _ HB.out).mono ?_
   rintro e w1 ⟨rfl, hb⟩
   clear x0 x1 x2 x3 y0 y1 y2
   have x1 := cell_at (o := 1) hb.a rfl
   have y0 := cell_at (o := 0) hb.b rfl
   have y1 := cell_at (o := 1) hb.b rfl
   have y2 := cell_at (o := 2) hb.b rfl
   obtain ⟨b2, off2, e2, -, hc2⟩ := (CL.out _ hb.bel).at k hk
   simp only [Option.some.injEq, Addr.mk.injEq, and_true] at e2
   obtain ⟨rfl, rfl⟩ := e2
   have c1 := (hc2 k hk).2.1
   have c3 := (hc2 k hk).2.2.2.1
   clear hc2
   have HB1 := Lib.hid hb.bel
   clear hb
   generalize t.cols[k] = x at *
   go_wp2_with fail
   refine (IN.out _).mono ?_
   rintro e w2 ⟨rfl, rfl⟩
   go_wp2_with fail
   go_ret
   exact ⟨ret_i HC.out.symm, HB1.out⟩
  ·
   have HF := Lib.hid hf
   have hd : decide (0 < c.val.length) = true := decide_eq_true (by omega)
   have hd0 : (0 : Int) < (c.val.length : Int) := by omega
   clear hf
   have hkn1 := hkn (t.cols[k].k)
   clear hkn
   cases hq : (q != t.cols[k].k)
   case true =>
    have HC : Hid (condC t c = 9) := HE.out.trans (condK_kind (by rw [hkn1, hq]))
    clear HE hkn1 IN
    go_enter Tryz.func99, Tryz.ntmps99
    go_wp2_with fail
    refine (PL.out _ HB.out).mono ?_
    rintro e w1 ⟨rfl, hb⟩
    clear x0 x1 x2 x3 y0 y1 y2
    have x1 := cell_at (o := 1) hb.a rfl
    have y0 := cell_at (o := 0) hb.b rfl
    have y1 := cell_at (o := 1) hb.b rfl
    have y2 := cell_at (o := 2) hb.b rfl
    obtain ⟨b2, off2, e2, -, hc2⟩ := (CL.out _ hb.bel).at k hk
    simp only [Option.some.injEq, Addr.mk.injEq, and_true] at e2
    obtain ⟨rfl, rfl⟩ := e2
    have c1 := (hc2 k hk).2.1
    have c3 := (hc2 k hk).2.2.2.1
    clear hc2
    have f0 := HF.out _ (hb.bel.mono HW.out)
    have HB1 := Lib.hid hb.bel
    clear hb
    generalize t.cols[k] = x at *
    go_wp2_with fail
    go_ret
    exact ⟨ret_i HC.out.symm, HB1.out⟩
   have HK := Lib.hid (hkn1.trans hq)
   cases hF : inB 3 c.fn 6
   case false =>
    have HC : Hid (condC t c = 0) := HE.out.trans (condK_ok HK.out hF)
    rw [hF] at IN
    clear hF HE
    go_enter Tryz.func99, Tryz.ntmps99
    go_wp2_with fail
    refine (PL.out _ HB.out).mono ?_
    rintro e w1 ⟨rfl, hb⟩
    clear x0 x1 x2 x3 y0 y1 y2
    have x1 := cell_at (o := 1) hb.a rfl
    have y0 := cell_at (o := 0) hb.b rfl
    have y1 := cell_at (o := 1) hb.b rfl
    have y2 := cell_at (o := 2) hb.b rfl
    obtain ⟨b2, off2, e2, -, hc2⟩ := (CL.out _ hb.bel).at k hk
    simp only [Option.some.injEq, Addr.mk.injEq, and_true] at e2
    obtain ⟨rfl, rfl⟩ := e2
    have c1 := (hc2 k hk).2.1
    have c3 := (hc2 k hk).2.2.2.1
    clear hc2
    have f0 := HF.out _ (hb.bel.mono HW.out)
    have HB1 := Lib.hid hb.bel
    clear hb
    generalize t.cols[k] = x at *
    go_wp2_with fail
    refine (IN.out _).mono ?_
    rintro e w2 ⟨rfl, rfl⟩
    go_wp2_with fail
    go_ret
    exact ⟨ret_i HC.out.symm, HB1.out⟩
   by_cases h1 : t.cols[k].k = 1
   case neg =>
    have HC : Hid (condC t c = 9) := HE.out.trans (condK_no HK.out hF (.inl h1))
    have g1 : (t.cols[k].k != 1) = true := by simpa using h1
    clear h1
    rw [hF] at IN
    clear hF HE
    go_enter Tryz.func99, Tryz.ntmps99
    go_wp2_with fail
    refine (PL.out _ HB.out).mono ?_
    rintro e w1 ⟨rfl, hb⟩
    clear x0 x1 x2 x3 y0 y1 y2
    have x1 := cell_at (o := 1) hb.a rfl
    have y0 := cell_at (o := 0) hb.b rfl
    have y1 := cell_at (o := 1) hb.b rfl
    have y2 := cell_at (o := 2) hb.b rfl
    obtain ⟨b2, off2, e2, -, hc2⟩ := (CL.out _ hb.bel).at k hk
    simp only [Option.some.injEq, Addr.mk.injEq, and_true] at e2
    obtain ⟨rfl, rfl⟩ := e2
    have c1 := (hc2 k hk).2.1
    have c3 := (hc2 k hk).2.2.2.1
    clear hc2
    have f0 := HF.out _ (hb.bel.mono HW.out)
    have HB1 := Lib.hid hb.bel
    clear hb
    generalize t.cols[k] = x at *
    go_wp2_with fail
    refine (IN.out _).mono ?_
    rintro e w2 ⟨rfl, rfl⟩
    go_wp2_with fail
    go_ret
    exact ⟨ret_i HC.out.symm, HB1.out⟩
   have g1 : (t.cols[k].k != 1) = false := by simpa using h1
   by_cases h2 : t.cols[k].mx = 1
   case neg =>
    have HC : Hid (condC t c = 9) := HE.out.trans (condK_no HK.out hF (.inr (.inl h2)))
    have g2 : (t.cols[k].mx != 1) = true := by simpa using h2
    clear h1 h2
    rw [hF] at IN
    clear hF HE
    go_enter Tryz.func99, Tryz.ntmps99
    go_wp2_with fail
    refine (PL.out _ HB.out).mono ?_
    rintro e w1 ⟨rfl, hb⟩
    clear x0 x1 x2 x3 y0 y1 y2
    have x1 := cell_at (o := 1) hb.a rfl
    have y0 := cell_at (o := 0) hb.b rfl
    have y1 := cell_at (o := 1) hb.b rfl
    have y2 := cell_at (o := 2) hb.b rfl
    obtain ⟨b2, off2, e2, -, hc2⟩ := (CL.out _ hb.bel).at k hk
    simp only [Option.some.injEq, Addr.mk.injEq, and_true] at e2
    obtain ⟨rfl, rfl⟩ := e2
    have c1 := (hc2 k hk).2.1
    have c3 := (hc2 k hk).2.2.2.1
    clear hc2
    have f0 := HF.out _ (hb.bel.mono HW.out)
    have HB1 := Lib.hid hb.bel
    clear hb
    generalize t.cols[k] = x at *
    go_wp2_with fail
    refine (IN.out _).mono ?_
    rintro e w2 ⟨rfl, rfl⟩
    go_wp2_with fail
    go_ret
    exact ⟨ret_i HC.out.symm, HB1.out⟩
   have g2 : (t.cols[k].mx != 1) = false := by simpa using h2
   by_cases h3 : c.val.length = 1
   case pos =>
    have HC : Hid (condC t c = 0) := HE.out.trans (condK_yes HK.out h1 h2 h3)
    have g3 : ((c.val.length : Int) != 1) = false := by rw [h3]; rfl
    clear h1 h2 h3
    rw [hF] at IN
    clear hF HE
    go_enter Tryz.func99, Tryz.ntmps99
    go_wp2_with fail
    refine (PL.out _ HB.out).mono ?_
    rintro e w1 ⟨rfl, hb⟩
    clear x0 x1 x2 x3 y0 y1 y2
    have x1 := cell_at (o := 1) hb.a rfl
    have y0 := cell_at (o := 0) hb.b rfl
    have y1 := cell_at (o := 1) hb.b rfl
    have y2 := cell_at (o := 2) hb.b rfl
    obtain ⟨b2, off2, e2, -, hc2⟩ := (CL.out _ hb.bel).at k hk
    simp only [Option.some.injEq, Addr.mk.injEq, and_true] at e2
    obtain ⟨rfl, rfl⟩ := e2
    have c1 := (hc2 k hk).2.1
    have c3 := (hc2 k hk).2.2.2.1
    clear hc2
    have f0 := HF.out _ (hb.bel.mono HW.out)
    have HB1 := Lib.hid hb.bel
    clear hb
    generalize t.cols[k] = x at *
    go_wp2_with fail
    refine (IN.out _).mono ?_
    rintro e w2 ⟨rfl, rfl⟩
    go_wp2_with fail
    go_ret
    exact ⟨ret_i HC.out.symm, HB1.out⟩
   have HC : Hid (condC t c = 9) := HE.out.trans (condK_no HK.out hF (.inr (.inr h3)))
   have g3 : ((c.val.length : Int) != 1) = true := by simpa [bne_iff_ne] using (by omega : ¬ (c.val.length : Int) = 1)
   clear h1 h2 h3
   rw [hF] at IN
   clear hF HE
   go_enter Tryz.func99, Tryz.ntmps99
   go_wp2_with fail
   refine (PL.out _ HB.out).mono ?_
   rintro e w1 ⟨rfl, hb⟩
   clear x0 x1 x2 x3 y0 y1 y2
   have x1 := cell_at (o := 1) hb.a rfl
   have y0 := cell_at (o := 0) hb.b rfl
   have y1 := cell_at (o := 1) hb.b rfl
   have y2 := cell_at (o := 2) hb.b rfl
   obtain ⟨b2, off2, e2, -, hc2⟩ := (CL.out _ hb.bel).at k hk
   simp only [Option.some.injEq, Addr.mk.injEq, and_true] at e2
   obtain ⟨rfl, rfl⟩ := e2
   have c1 := (hc2 k hk).2.1
   have c3 := (hc2 k hk).2.2.2.1
   clear hc2
   have f0 := HF.out _ (hb.bel.mono HW.out)
   have HB1 := Lib.hid hb.bel
   clear hb
   generalize t.cols[k] = x at *
   go_wp2_with fail
   refine (IN.out _).mono ?_
   rintro e w2 ⟨rfl, rfl⟩
   go_wp2_with fail
   go_ret
   exact ⟨ret_i HC.out.symm, HB1.out⟩
end Go.Proofs.YtlddhbamcndggaaGreatDoor
