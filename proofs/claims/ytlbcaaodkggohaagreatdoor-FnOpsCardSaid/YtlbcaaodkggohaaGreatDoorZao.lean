import Derived.Test.YtlbcaaodkggohaaGreatDoorZah
import Derived.Test.YtlbcaaodkggohaaGreatDoorZak
import Derived.Test.YtlbcaaodkggohaaGreatDoorZaj
import Derived.Test.YtlbcaaodkggohaaGreatDoorZab
import Derived.Test.YtlbcaaodkggohaaGreatDoorZal
import Derived.Test.YtlbcaaodkggohaaGreatDoorZan
import Derived.Test.YtlbcaaodkggohaaGreatDoorZae
namespace Go.Proofs.YtlbcaaodkggohaaGreatDoor
open Go.RowKit
set_option linter.unusedSimpArgs false
def dColumn (x : Cl) : Nat → D
 | 0 => .s x.nm
 | 1 => .i x.k
 | 2 => .i x.mn
 | 3 => .i x.mx
 | 4 => .i x.lo
 | 5 => .i x.hi
 | 6 => .s x.rf
 | _ => .b x.st
def dColumnS (l : List Cl) : D := Ls 8 dColumn l
def cInt (x : Int) : Nat → D := fun _ => .i x
def dIntS (l : List Int) : D := Ls 1 cInt l
def dTable (x : Tb) : Nat → D
 | 0 => .s x.nm
 | 1 => dColumnS x.cols
 | 2 => dIntS x.uq
 | _ => .b x.rt
def dTableS (l : List Tb) : D := Ls 4 dTable l
theorem Rd.toRw {α : Type} {w : World} {B : Nat → Prop} {n : Nat} {d : α → Nat → D} {l : List α} {a : Option Addr} {c : Nat} (h : Rd w B (Ls n d l) (.slice a l.length c)) (hn : 0 < n) (F : Nat → Value) (hF : ∀ i (hi : i < l.length) j u, j < n → Rd w B (d l[i] j) u → u = F (i * n + j)) : Rw w B a (l.length * n) F := by
 by_cases h0 : l.length = 0
 ·
  exact .inl (by rw [h0]; simp)
 obtain ⟨b, off, ha, hb, -⟩ := h.things 0 (by omega); subst ha; refine .inr ⟨b, off, rfl, hb, fun m hm => ?_⟩; have hi : m / n < l.length := by rw [Nat.div_lt_iff_lt_mul hn]; exact hm
 have hj : m % n < n := Nat.mod_lt _ hn; obtain ⟨u, hu, hr⟩ := h.spotT hi hj; rw [Nat.add_assoc, Nat.div_add_mod'] at hu; rw [hu, hF _ hi _ u hj hr, Nat.div_add_mod']
theorem Rd.ats {w : World} {B : Nat → Prop} {l : List At} {a : Option Addr} {c : Nat} (h : Rd w B (dAtomS l) (.slice a l.length c)) : Ats w B a l := by
  have hr := Rd.toRw (d := dAtom) (n := 3) h (by omega) (atF l) (fun i hi j u hj hr => by
    rcases (by omega : j = 0 ∨ j = 1 ∨ j = 2) with rfl | rfl | rfl
    · rw [Nat.add_zero, atF0 hi]; exact hr
    · rw [atF1 hi]; exact hr
    · rw [atF2 hi]; exact hr)
  rcases hr with h0 | ⟨b, off, ha, hb, hc⟩
  · exact .inl (by omega)
  · exact .inr ⟨b, off, ha, hb, hc⟩
theorem Rd.cols {w : World} {B : Nat → Prop} {l : List Cl} {a : Option Addr} {c : Nat} (h : Rd w B (dColumnS l) (.slice a l.length c)) : Cols w B a l :=
 Rd.toRw (d := dColumn) (n := 8) h (by omega) (clF l) (fun i hi j u hj hr => by
  rw [clF_at hi hj]; rcases (by omega : j = 0 ∨ j = 1 ∨ j = 2 ∨ j = 3 ∨ j = 4 ∨ j = 5 ∨ j = 6 ∨ j = 7) with rfl | rfl | rfl | rfl | rfl | rfl | rfl | rfl <;> exact hr)
theorem Rd.ints {w : World} {B : Nat → Prop} {l : List Int} {a : Option Addr} {c : Nat} (h : Rd w B (dIntS l) (.slice a l.length c)) : Ints w B a l := by
 have hr := Rd.toRw (d := cInt) (n := 1) h (by omega) (fun m => .int .i64 (l.getD m 0)) (fun i hi j u hj hr => by
  obtain rfl : j = 0 := by omega
  rw [Nat.mul_one, Nat.add_zero, List.getD_eq_getElem?_getD, List.getElem?_eq_getElem hi]; exact hr)
 rwa [Nat.mul_one] at hr
theorem le_atoms {l : List At} (h : (dAtomS l).le maxLen) : l.length ≤ maxLen ∧ ∀ x ∈ l, x.t.length ≤ maxLen := by
 refine ⟨(Ls_le.1 h).2.1, fun x hx => ?_⟩; obtain ⟨i, hi, rfl⟩ := List.mem_iff_getElem.1 hx; exact (Ls_le.1 h).2.2 i hi 2 (by omega)
theorem le_table {t : Tb} (hn : t.nm.length ≤ maxLen) (hc : (dColumnS t.cols).le maxLen) (hu : (dIntS t.uq).le maxLen) : t.ok := by
 refine ⟨hn, (Ls_le.1 hc).2.1, fun x hx => ?_, (Ls_le.1 hu).2.1⟩; obtain ⟨i, hi, rfl⟩ := List.mem_iff_getElem.1 hx; exact ⟨(Ls_le.1 hc).2.2 i hi 0 (by omega), (Ls_le.1 hc).2.2 i hi 6 (by omega)⟩
theorem Rd.hasT {w : World} {B : Nat → Prop} {t : Tb} {ca ua : Option Addr} {cc uc : Nat} (hc : Rd w B (dColumnS t.cols) (.slice ca t.cols.length cc)) (hu : Rd w B (dIntS t.uq) (.slice ua t.uq.length uc)) : t.Has w B ca ua := ⟨hc.cols, hu.ints⟩
structure CondV where
 col : List UInt8
 fn : Int
 val : List At
def dCond (x : CondV) : Nat → D
 | 0 => .s x.col
 | 1 => .i x.fn
 | _ => dAtomS x.val
def dCondS (l : List CondV) : D := Ls 3 dCond l
def idN : List UInt8 := [95, 117, 117, 105, 100]
def condB (c : CondV) : Bool := inB 1 c.fn 8 && (datumB c.val && decide (c.col.length ≤ 40))
noncomputable def askC (t : Tb) (s : List UInt8) : Option (Int × Int) := if placeC t.cols s < 0 then (if s = idN then some (4, 1) else none) else (t.cols[(placeC t.cols s).toNat]?).map fun x => (x.k, x.mx)
def kindNo (kd : Int) (l : List At) : Bool := match l with
 | [] => false
 | x :: _ => x.k != kd
def condK (kd mx : Int) (c : CondV) : Int := if kindNo kd c.val = true then 9 else if inB 3 c.fn 6 = true ∧ (kd ≠ 1 ∨ mx ≠ 1 ∨ c.val.length ≠ 1) then 9 else 0
noncomputable def condC (t : Tb) (c : CondV) : Int := match askC t c.col with
 | none => 11
 | some (kd, mx) => condK kd mx c
theorem cond_none {t : Tb} {c : CondV} (hp : placeC t.cols c.col = -1) (hn : c.col ≠ idN) : condC t c = 11 := by
 unfold condC askC; rw [hp, if_pos (by omega), if_neg hn]
theorem cond_id {t : Tb} {c : CondV} (hp : placeC t.cols c.col = -1) (hn : c.col = idN) : condC t c = condK 4 1 c := by
 unfold condC askC; rw [hp, if_pos (by omega), if_pos hn]
theorem cond_at {t : Tb} {c : CondV} {k : Nat} (hk : k < t.cols.length) (hp : placeC t.cols c.col = (k : Int)) : condC t c = condK t.cols[k].k t.cols[k].mx c := by
 unfold condC askC; rw [hp, if_neg (by omega), Int.toNat_natCast, List.getElem?_eq_getElem hk]; rfl
theorem condK_kind {kd mx : Int} {c : CondV} (h : kindNo kd c.val = true) : condK kd mx c = 9 := by unfold condK; rw [if_pos h]
theorem condK_ok {kd mx : Int} {c : CondV} (h : kindNo kd c.val = false) (hf : inB 3 c.fn 6 = false) : condK kd mx c = 0 := by
 unfold condK; rw [if_neg (by simp [h]), if_neg (by simp [hf])]
theorem condK_no {kd mx : Int} {c : CondV} (h : kindNo kd c.val = false) (hf : inB 3 c.fn 6 = true) (ho : kd ≠ 1 ∨ mx ≠ 1 ∨ c.val.length ≠ 1) : condK kd mx c = 9 := by
 unfold condK; rw [if_neg (by simp [h]), if_pos ⟨hf, ho⟩]
theorem condK_yes {kd mx : Int} {c : CondV} (h : kindNo kd c.val = false) (h1 : kd = 1) (h2 : mx = 1) (h3 : c.val.length = 1) : condK kd mx c = 0 := by
 unfold condK; rw [if_neg (by simp [h]), if_neg (by intro h'; rcases h'.2 with h' | h' | h' <;> contradiction)]
theorem kindNo_nil {kd : Int} {l : List At} (h : l.length = 0) : kindNo kd l = false := by
 cases l with
 | nil => rfl
 | cons x r => simp at h
theorem kindNo_at {kd : Int} {l : List At} (h : 0 < l.length) : kindNo kd l = (l[0].k != kd) := by
 cases l with
 | nil => simp at h
 | cons x r => rfl
theorem place_cases (l : List Cl) (s : List UInt8) : placeC l s = -1 ∨ ∃ k, ∃ _ : k < l.length, placeC l s = (k : Int) := by
  rcases place_first l s with ⟨e, -⟩ | ⟨k, hk, e, -⟩
  · exact .inl e
  · exact .inr ⟨k, hk, e⟩
structure BoxE (ty ty' : TypeId) (w W : World) (cs ds : Array Value) : Prop where
 a : W.heap[w.heap.size]? = some (.cells cs ty)
 b : W.heap[w.heap.size + 1]? = some (.cells ds ty')
 bel : Below w.heap.size w W
theorem boxE (ty ty' : TypeId) (w : World) (cs ds : Array Value) : BoxE ty ty' w ((w.alloc (.cells cs ty)).alloc (.cells ds ty')) cs ds := by
 refine ⟨heap_keptD (heap_newD _ _) (below_allocD _ _), ?_, (below_allocD _ _).trans ((below_allocD _ _).mono (by simp))⟩; have h := heap_newD (w.alloc (.cells cs ty)) (.cells ds ty'); rw [size_allocD] at h; exact h
theorem BoxE.later {ty ty' : TypeId} {w W W' : World} {cs ds : Array Value} (h : BoxE ty ty' w W cs ds) (hB : Below W.heap.size W W') : BoxE ty ty' w W' cs ds := ⟨heap_keptD h.a hB, heap_keptD h.b hB, h.bel.trans (hB.mono h.bel.size)⟩
theorem BoxE.drew {ty ty' : TypeId} {w W : World} {cs ds : Array Value} (h : BoxE ty ty' w W cs ds) : BoxE ty ty' w W.drew cs ds := h.later (Below.refl _ _).drew
theorem Ats.head {w : World} {S : Nat} {a : Option Addr} {l : List At} (h : Ats w (· < S) a l) : l.length = 0 ∨ ∃ b off, ∃ q : Int, 0 < l.length ∧ a = some ⟨b, off, none⟩ ∧ (∀ kd, kindNo kd l = (q != kd)) ∧ ∀ W, Below S w W → W.cell? ⟨b, off, none⟩ = some (.int .i64 q) := by
 by_cases h0 : 0 < l.length
 ·
  obtain ⟨b, off, e, -, -⟩ := h.item 0 h0; refine .inr ⟨b, off, l[0].k, h0, e, fun kd => kindNo_at h0, fun W hW => ?_⟩; have h' := h.below hW; subst e; have := (h'.three 0 h0).1
  rwa [Nat.zero_mul, Nat.add_zero] at this
 ·
  exact .inl (by omega)
set_option maxRecDepth 100000 in
set_option maxHeartbeats 1600000 in
theorem condOKs (c : CondV) (va : Option Addr) (vc : Nat) (S : Nat) (w : World) (hn : c.col.length ≤ maxLen) (hl : c.val.length ≤ maxLen) (hx : ∀ x ∈ c.val, x.t.length ≤ maxLen) (hw : S ≤ w.heap.size) (hA : Ats w (· < S) va c.val) :
  Calls Tryz.prog 85 #[.agg #[.string ⟨c.col.toArray⟩, .int .i64 c.fn, .slice va c.val.length vc]] w fun e w' => e = .returned (.bool (condB c)) ∧ Below w.heap.size w w' := by
 have DA : Hid (∀ W, BoxD 111 w W #[.string ⟨c.col.toArray⟩, .int .i64 c.fn, .slice va c.val.length vc] → Calls Tryz.prog 87 #[.slice va c.val.length vc] W fun e w' => e = .returned (.bool (datumB c.val)) ∧ BoxD 111 w w' #[.string ⟨c.col.toArray⟩, .int .i64 c.fn, .slice va c.val.length vc]) := fun W h => (datumOKs c.val va vc S W hl hx (Nat.le_trans hw h.2.size) (hA.below (h.2.mono hw))).mono (fun e w' ⟨he, hB⟩ => ⟨he, h.later hB⟩)
 have hb := boxD 111 w #[.string ⟨c.col.toArray⟩, .int .i64 c.fn, .slice va c.val.length vc]; obtain ⟨x0, x1, x2⟩ := ck3 0 1 2 hb.1; have HB := Lib.hid hb; have HD : Hid (condB c = (inB 1 c.fn 8 && (datumB c.val && decide (c.col.length ≤ 40)))) := rfl; have IN := fun W => inS c.fn 1 8 W
 have HI := Lib.hid IN; unfold maxLen at hn hl; clear hx hw hA hb IN
 cases hf : inB 1 c.fn 8
 case false =>
  rw [hf] at HI HD; clear hf; (go_enter Tryz.func85, Tryz.ntmps85); (go_wp2_with fail); refine (HI.out _).mono ?_; rintro e w1 ⟨rfl, rfl⟩; (go_wp2_with fail); go_ret; exact ⟨ret_b (by rw [HD.out]; rfl), HB.out.2⟩
 rw [hf] at HI HD; clear hf
 cases hd : datumB c.val
 case false =>
  rw [hd] at DA HD; clear hd; (go_enter Tryz.func85, Tryz.ntmps85); (go_wp2_with fail); refine (HI.out _).mono ?_; rintro e w1 ⟨rfl, rfl⟩; (go_wp2_with fail); refine (DA.out _ HB.out).mono ?_; rintro e w2 ⟨rfl, hb2⟩; have HB2 := Lib.hid hb2; clear hb2 x0 x1 x2; (go_wp2_with fail); go_ret; exact ⟨ret_b (by rw [HD.out]; rfl), HB2.out.2⟩
 rw [hd] at DA HD; clear hd; (go_enter Tryz.func85, Tryz.ntmps85); (go_wp2_with fail); refine (HI.out _).mono ?_; rintro e w1 ⟨rfl, rfl⟩; (go_wp2_with fail); refine (DA.out _ HB.out).mono ?_; rintro e w2 ⟨rfl, hb2⟩; have HB2 := Lib.hid hb2; clear x0 x1 x2; have x0 := cell_at (o := 0) hb2.1 rfl; clear hb2; (go_wp2_with fail); go_ret; exact ⟨ret_b (by rw [HD.out]; simp; omega), HB2.out.2⟩
set_option maxRecDepth 100000 in
set_option maxHeartbeats 1600000 in
theorem condOKi (c : CondV) (va : Option Addr) (vc : Nat) (S : Nat) (w : World) (hn : c.col.length ≤ maxLen) (hl : c.val.length ≤ maxLen) (hx : ∀ x ∈ c.val, x.t.length ≤ maxLen) (hw : S ≤ w.heap.size) (hA : Ats w (· < S) va c.val) :
  Calls Tryz.prog 58 #[.agg #[.string ⟨c.col.toArray⟩, .int .i64 c.fn, .slice va c.val.length vc]] w fun e w' => e = .returned (.bool (condB c)) ∧ Below w.heap.size w w' := by
 have DA : Hid (∀ W, BoxD 111 w W #[.string ⟨c.col.toArray⟩, .int .i64 c.fn, .slice va c.val.length vc] → Calls Tryz.prog 65 #[.slice va c.val.length vc] W fun e w' => e = .returned (.bool (datumB c.val)) ∧ BoxD 111 w w' #[.string ⟨c.col.toArray⟩, .int .i64 c.fn, .slice va c.val.length vc]) := fun W h => (datumOKi c.val va vc S W hl hx (Nat.le_trans hw h.2.size) (hA.below (h.2.mono hw))).mono (fun e w' ⟨he, hB⟩ => ⟨he, h.later hB⟩)
 have hb := boxD 111 w #[.string ⟨c.col.toArray⟩, .int .i64 c.fn, .slice va c.val.length vc]; obtain ⟨x0, x1, x2⟩ := ck3 0 1 2 hb.1; have HB := Lib.hid hb; have HD : Hid (condB c = (inB 1 c.fn 8 && (datumB c.val && decide (c.col.length ≤ 40)))) := rfl; unfold maxLen at hn hl; clear hx hw hA hb
 by_cases h1 : 1 ≤ c.fn
 case neg =>
  have HR : Hid (condB c = false) := by show condB c = false; rw [HD.out]; unfold inB; rw [decide_eq_false (by omega)]; rfl
  have g1 : decide (1 ≤ c.fn) = false := decide_eq_false h1; clear h1; (go_enter Tryz.func58, Tryz.ntmps58); (go_wp2_with fail); go_ret; exact ⟨ret_b HR.out.symm, HB.out.2⟩
 have g1 : decide (1 ≤ c.fn) = true := decide_eq_true h1
 by_cases h2 : c.fn ≤ 8
 case neg =>
  have HR : Hid (condB c = false) := by show condB c = false; rw [HD.out]; unfold inB; rw [decide_eq_false (by omega)]; rfl
  have g2 : decide (c.fn ≤ 8) = false := decide_eq_false h2; clear h1 h2; (go_enter Tryz.func58, Tryz.ntmps58); (go_wp2_with fail); go_ret; exact ⟨ret_b HR.out.symm, HB.out.2⟩
 have g2 : decide (c.fn ≤ 8) = true := decide_eq_true h2; have HD' : Hid (condB c = (datumB c.val && decide (c.col.length ≤ 40))) := by show condB c = _; rw [HD.out]; unfold inB; rw [decide_eq_true ⟨h1, h2⟩]; rfl
 clear h1 h2 HD
 by_cases h3 : c.col.length ≤ 40
 case neg =>
  have HR : Hid (condB c = false) := by show condB c = false; rw [HD'.out, decide_eq_false h3, Bool.and_false]
  have g3 : decide ((c.col.length : Int) ≤ 40) = false := decide_eq_false (by omega); clear h3; (go_enter Tryz.func58, Tryz.ntmps58); (go_wp2_with fail); go_ret; exact ⟨ret_b HR.out.symm, HB.out.2⟩
 have g3 : decide ((c.col.length : Int) ≤ 40) = true := decide_eq_true (by omega); have HR : Hid (condB c = datumB c.val) := by show condB c = _; rw [HD'.out, decide_eq_true h3, Bool.and_true]
 clear h3 HD'; (go_enter Tryz.func58, Tryz.ntmps58); (go_wp2_with fail); refine (DA.out _ HB.out).mono ?_; rintro e w2 ⟨rfl, hb2⟩; have HB2 := Lib.hid hb2; clear hb2 x0 x1 x2; (go_wp2_with fail); go_ret; exact ⟨ret_b HR.out.symm, HB2.out.2⟩
set_option maxRecDepth 100000 in
set_option maxHeartbeats 1600000 in
theorem orderI (c : CondV) (va : Option Addr) (vc : Nat) (w : World) :
  Calls Tryz.prog 82 #[.agg #[.string ⟨c.col.toArray⟩, .int .i64 c.fn, .slice va c.val.length vc]] w fun e w' => e = .returned (.bool (inB 3 c.fn 6)) ∧ Below w.heap.size w w' := by
 have hb := boxD 111 w #[.string ⟨c.col.toArray⟩, .int .i64 c.fn, .slice va c.val.length vc]; have x1 := cell_at (o := 1) hb.1 rfl; have HB := Lib.hid hb; clear hb
 by_cases h1 : 3 ≤ c.fn
 case neg =>
  have HR : Hid (inB 3 c.fn 6 = false) := by show inB _ _ _ = false; unfold inB; rw [decide_eq_false (by omega)]
  have g1 : decide (3 ≤ c.fn) = false := decide_eq_false h1; clear h1; (go_enter Tryz.func82, Tryz.ntmps82); (go_wp2_with fail); go_ret; exact ⟨ret_b HR.out.symm, HB.out.2⟩
 have g1 : decide (3 ≤ c.fn) = true := decide_eq_true h1
 have HR : Hid (inB 3 c.fn 6 = decide (c.fn ≤ 6)) := by
  show inB _ _ _ = _
  unfold inB; rw [Bool.eq_iff_iff]; simp; intro _; exact h1
 clear h1; (go_enter Tryz.func82, Tryz.ntmps82); (go_wp2_with fail); go_ret; exact ⟨ret_b HR.out.symm, HB.out.2⟩
end Go.Proofs.YtlbcaaodkggohaaGreatDoor
