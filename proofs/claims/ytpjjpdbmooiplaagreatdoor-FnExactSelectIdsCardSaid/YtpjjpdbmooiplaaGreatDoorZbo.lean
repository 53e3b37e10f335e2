import Derived.Test.YtpjjpdbmooiplaaGreatDoorZbh
import Derived.Test.YtpjjpdbmooiplaaGreatDoorZbn
import Derived.Test.YtpjjpdbmooiplaaGreatDoorZTk
namespace Go.Proofs.YtpjjpdbmooiplaaGreatDoor
open Go.RowKit
set_option linter.unusedSimpArgs false
def inR8 (lo n hi : Int) : Bool := decide (lo ≤ n) && decide (n ≤ hi)
set_option maxHeartbeats 400000 in
theorem inRS8 (n lo hi : Int) (w : World) : Calls Tryz.prog 64 #[.int .i64 n, .int .i64 lo, .int .i64 hi] w fun e w' => e = .returned (.bool (inR8 lo n hi)) ∧ w' = w := by
  go_enter Tryz.func64, Tryz.ntmps64
  go_wp2
  · go_ret
    refine ⟨(congrArg (fun b => Ending.returned (Value.bool b)) (?_ : decide (n ≤ hi) = inR8 lo n hi) :), rfl⟩
    rw [Bool.eq_iff_iff]; simp [inR8]; try omega
  · go_ret
    refine ⟨(congrArg (fun b => Ending.returned (Value.bool b)) (?_ : false = inR8 lo n hi) :), rfl⟩
    rw [Bool.eq_iff_iff]; simp [inR8]; try omega
noncomputable def siC (l : List Tb) (x : StV) (tb : Int) (list : List CondV) : Int :=
  if 4096 < list.length then 2 else if ((schB l && formB l x) && condsB list) = true then (if 0 ≤ tb ∧ tb < x.tables.length then condsC (l.getD tb.toNat tbZ) list else 10) else 1
noncomputable def siR (l : List Tb) (x : StV) (tb : Int) (list : List CondV) : List Int := if siC l x tb list = 0 then chosen (l.getD tb.toNat tbZ) (x.tables.getD tb.toNat []) list else []
theorem si_no {l : List Tb} {x : StV} {tb : Int} {list : List CondV} {n : Int} (h : siC l x tb list = n) (h0 : n ≠ 0) : siR l x tb list = [] ∧ siC l x tb list = n := ⟨by unfold siR; rw [h, if_neg h0], h⟩
theorem si_long {l : List Tb} {x : StV} {tb : Int} {list : List CondV} (h : 4096 < list.length) : siC l x tb list = 2 := by unfold siC; rw [if_pos h]
theorem si_bad {l : List Tb} {x : StV} {tb : Int} {list : List CondV} (h : ¬ 4096 < list.length) (hb : ((schB l && formB l x) && condsB list) = false) : siC l x tb list = 1 := by unfold siC; rw [if_neg h, hb]; rfl
theorem si_tab {l : List Tb} {x : StV} {tb : Int} {list : List CondV} (h : ¬ 4096 < list.length) (hb : ((schB l && formB l x) && condsB list) = true) (ht : ¬ (0 ≤ tb ∧ tb < x.tables.length)) : siC l x tb list = 10 := by unfold siC; rw [if_neg h, if_pos hb, if_neg ht]
theorem getDT {l : List Tb} {i : Nat} (h : i < l.length) : l.getD i tbZ = l[i] := by rw [List.getD_eq_getElem?_getD, List.getElem?_eq_getElem h]; rfl
theorem getDR {l : List (List RowV)} {i : Nat} (h : i < l.length) : l.getD i [] = l[i] := by rw [List.getD_eq_getElem?_getD, List.getElem?_eq_getElem h]; rfl
theorem si_at {l : List Tb} {x : StV} {i : Nat} {list : List CondV} (h : ¬ 4096 < list.length) (hb : ((schB l && formB l x) && condsB list) = true) (hi : i < x.tables.length) (hl : i < l.length) : siC l x (i : Int) list = condsC l[i] list := by
  unfold siC; rw [if_neg h, if_pos hb, if_pos ⟨by omega, by omega⟩, Int.toNat_natCast, getDT hl]
theorem si_ok {l : List Tb} {x : StV} {i : Nat} {list : List CondV} (h : ¬ 4096 < list.length) (hb : ((schB l && formB l x) && condsB list) = true) (hi : i < x.tables.length) (hl : i < l.length) (h0 : condsC l[i] list = 0) : siR l x (i : Int) list = chosen l[i] x.tables[i] list ∧ siC l x (i : Int) list = 0 := by
  have e := (si_at h hb hi hl).trans h0
  refine ⟨?_, e⟩
  unfold siR; rw [if_pos e, Int.toNat_natCast, getDT hl, getDR hi]
theorem and3 {a b c : Bool} (h : ((a && b) && c) = true) : a = true ∧ b = true ∧ c = true := by
  cases a <;> cases b <;> cases c <;> simp_all
theorem asks_rows {l : List Tb} {x : StV} {i : Nat} {list : List CondV} (hb : ((schB l && formB l x) && condsB list) = true) (hi : i < x.tables.length) (hl : i < l.length) (h0 : condsC l[i] list = 0) : ∀ j (h : j < x.tables[i].length) k (h' : k < list.length), Asks l[i] x.tables[i][j] list[k] := fun j hj _ hk =>
  have h3 := and3 hb
  asks_of ((form_of h3.2.1).2.2 i hl hi |>.2.2 j hj).2 (conds_all h3.2.2 _ (List.getElem_mem hk)) (condsC_all h0 _ (List.getElem_mem hk))
set_option maxRecDepth 100000 in
set_option maxHeartbeats 12800000 in
theorem selectS (l : List Tb) (sa : Option Addr) (sc : Nat) (A : Nat → Prop) (x : StV) (xa : Option Addr) (xc : Nat) (B : Nat → Prop) (tb : Int) (list : List CondV) (a : Option Addr) (c : Nat) (C : Nat → Prop) (w : World) (hlo : (dTableS l).le maxLen) (ho : (dRowSS x.tables).le 1048576) (hcl : (dCondS list).le 1048576) (hT : Rd w A (dTableS l) (.slice sa l.length sc)) (hR : Rd w B (dRowSS x.tables) (.slice xa x.tables.length xc)) (hL : Rd w C (dCondS list) (.slice a list.length c)) :
    Calls Tryz.prog 24 #[.agg #[.slice sa l.length sc], .agg #[.slice xa x.tables.length xc, .int .i64 x.next], .int .i64 tb, .slice a list.length c] w fun e w' => ∃ ra rc, e = .returned (.tuple #[.slice ra (siR l x tb list).length rc, .int .i64 (siC l x tb list)]) ∧ Rd w' (fun c => w.heap.size ≤ c ∧ c < w'.heap.size) (dIntS (siR l x tb list)) (.slice ra (siR l x tb list).length rc) ∧ Below w.heap.size w w' := by
  have hom : (dRowSS x.tables).le maxLen := D.le.mono (by unfold maxLen; omega) _ ho
  have hclm : (dCondS list).le maxLen := D.le.mono (by unfold maxLen; omega) _ hcl
  have hll : l.length ≤ maxLen := (Ls_le.1 hlo).2.1
  have hxl : x.tables.length ≤ 1048576 := (Ls_le.1 ho).2.1
  have hcll : list.length ≤ 1048576 := (Ls_le.1 hcl).2.1
  unfold maxLen at hll
  have SO : Hid (∀ W, BoxE 72 76 w W #[.slice sa l.length sc] #[.slice xa x.tables.length xc, .int .i64 x.next] → Calls Tryz.prog 62 #[.agg #[.slice sa l.length sc]] W fun e w' => e = .returned (.bool (schB l)) ∧ BoxE 72 76 w w' #[.slice sa l.length sc] #[.slice xa x.tables.length xc, .int .i64 x.next]) := fun W h => by
    obtain ⟨Ad, hA⟩ := (hT.later h.bel).tabs
    exact (schemaS l sa sc Ad A W (le_tables hlo) hA).mono (fun e w' ⟨he, hB⟩ => ⟨he, h.later hB⟩)
  have FO : Hid (∀ W, BoxE 72 76 w W #[.slice sa l.length sc] #[.slice xa x.tables.length xc, .int .i64 x.next] → Calls Tryz.prog 63 #[.agg #[.slice sa l.length sc], .agg #[.slice xa x.tables.length xc, .int .i64 x.next]] W fun e w' => e = .returned (.bool (formB l x)) ∧ BoxE 72 76 w w' #[.slice sa l.length sc] #[.slice xa x.tables.length xc, .int .i64 x.next]) := fun W h => (formS l sa sc A x xa xc B W hlo hom (hT.later h.bel) (hR.later h.bel)).mono (fun e w' ⟨he, hB⟩ => ⟨he, h.later hB⟩)
  have LO : Hid (∀ W, BoxE 72 76 w W #[.slice sa l.length sc] #[.slice xa x.tables.length xc, .int .i64 x.next] → Calls Tryz.prog 51 #[.slice a list.length c] W fun e w' => e = .returned (.bool (condsB list)) ∧ BoxE 72 76 w w' #[.slice sa l.length sc] #[.slice xa x.tables.length xc, .int .i64 x.next]) := fun W h => (listS list a c C W hclm (hL.later h.bel)).mono (fun e w' ⟨he, hB⟩ => ⟨he, h.later hB⟩)
  have HT : Hid (∀ W, Below w.heap.size w W → Rd W A (Ls 4 dTable l) (.slice sa l.length sc)) := fun W h => Rd.later hT h
  have HR : Hid (∀ W, Below w.heap.size w W → Rd W B (Ls 1 cRowS x.tables) (.slice xa x.tables.length xc)) := fun W h => Rd.later hR h
  have HL : Hid (∀ W, Below w.heap.size w W → Rd W C (dCondS list) (.slice a list.length c)) := fun W h => Rd.later hL h
  have HO := Lib.hid (And.intro hlo (And.intro ho hcl))
  have hb := boxE 72 76 w #[.slice sa l.length sc] #[.slice xa x.tables.length xc, .int .i64 x.next]
  have x0 := cell_at (o := 0) hb.a rfl
  have y0 := cell_at (o := 0) hb.b rfl
  have y1 := cell_at (o := 1) hb.b rfl
  have HB := Lib.hid hb
  clear hlo ho hcl hom hclm hT hR hL hb
  by_cases h4 : 4096 < list.length
  case pos =>
    have HP := Lib.hid (si_no (si_long (l := l) (x := x) (tb := tb) h4) (by omega))
    have hd : decide (4096 < (list.length : Int)) = true := decide_eq_true (by omega)
    clear h4
    go_enter Tryz.func24, Tryz.ntmps24
    go_wp2_with fail
    go_ret2
    exact ⟨_, _, by rw [HP.out.1, HP.out.2]; rfl, by rw [HP.out.1]; exact Rd.lsNil _ _, HB.out.bel.alloc HB.out.bel.size _⟩
  have hd : decide (4096 < (list.length : Int)) = false := decide_eq_false (by omega)
  have H4 := Lib.hid h4
  clear h4
  cases hs : schB l
  case false =>
    have HP := Lib.hid (si_no (si_bad (l := l) (x := x) (tb := tb) H4.out (by rw [hs]; rfl)) (by omega))
    rw [hs] at SO
    clear hs
    go_enter Tryz.func24, Tryz.ntmps24
    go_wp2_with fail
    refine (SO.out _ HB.out).mono ?_
    rintro e w1 ⟨rfl, hb⟩
    have HB1 := Lib.hid hb
    clear x0 y0 y1
    have x0 := cell_at (o := 0) hb.a rfl
    have y0 := cell_at (o := 0) hb.b rfl
    have y1 := cell_at (o := 1) hb.b rfl
    clear hb
    go_wp2_with fail
    go_ret2
    exact ⟨_, _, by rw [HP.out.1, HP.out.2]; rfl, by rw [HP.out.1]; exact Rd.lsNil _ _, HB1.out.bel.alloc HB1.out.bel.size _⟩
  rw [hs] at SO
  cases hf : formB l x
  case false =>
    have HP := Lib.hid (si_no (si_bad (l := l) (x := x) (tb := tb) H4.out (by rw [hs, hf]; rfl)) (by omega))
    rw [hf] at FO
    clear hs hf
    go_enter Tryz.func24, Tryz.ntmps24
    go_wp2_with fail
    refine (SO.out _ HB.out).mono ?_
    rintro e w1 ⟨rfl, hb⟩
    have HB1 := Lib.hid hb
    clear x0 y0 y1
    have x0 := cell_at (o := 0) hb.a rfl
    have y0 := cell_at (o := 0) hb.b rfl
    have y1 := cell_at (o := 1) hb.b rfl
    clear hb
    go_wp2_with fail
    refine (FO.out _ HB1.out).mono ?_
    rintro e w2 ⟨rfl, hb⟩
    have HB2 := Lib.hid hb
    clear x0 y0 y1
    have x0 := cell_at (o := 0) hb.a rfl
    have y0 := cell_at (o := 0) hb.b rfl
    have y1 := cell_at (o := 1) hb.b rfl
    clear hb
    go_wp2_with fail
    go_ret2
    exact ⟨_, _, by rw [HP.out.1, HP.out.2]; rfl, by rw [HP.out.1]; exact Rd.lsNil _ _, HB2.out.bel.alloc HB2.out.bel.size _⟩
  rw [hf] at FO
  cases hc : condsB list
  case false =>
    have HP := Lib.hid (si_no (si_bad (l := l) (x := x) (tb := tb) H4.out (by rw [hs, hf, hc]; rfl)) (by omega))
    rw [hc] at LO
    clear hs hf hc
    go_enter Tryz.func24, Tryz.ntmps24
    go_wp2_with fail
    refine (SO.out _ HB.out).mono ?_
    rintro e w1 ⟨rfl, hb⟩
    have HB1 := Lib.hid hb
    clear x0 y0 y1
    have x0 := cell_at (o := 0) hb.a rfl
    have y0 := cell_at (o := 0) hb.b rfl
    have y1 := cell_at (o := 1) hb.b rfl
    clear hb
    go_wp2_with fail
    refine (FO.out _ HB1.out).mono ?_
    rintro e w2 ⟨rfl, hb⟩
    have HB2 := Lib.hid hb
    clear x0 y0 y1
    have x0 := cell_at (o := 0) hb.a rfl
    have y0 := cell_at (o := 0) hb.b rfl
    have y1 := cell_at (o := 1) hb.b rfl
    clear hb
    go_wp2_with fail
    refine (LO.out _ HB2.out).mono ?_
    rintro e w3 ⟨rfl, hb⟩
    have HB3 := Lib.hid hb
    clear x0 y0 y1
    have x0 := cell_at (o := 0) hb.a rfl
    have y0 := cell_at (o := 0) hb.b rfl
    have y1 := cell_at (o := 1) hb.b rfl
    clear hb
    go_wp2_with fail
    go_ret2
    exact ⟨_, _, by rw [HP.out.1, HP.out.2]; rfl, by rw [HP.out.1]; exact Rd.lsNil _ _, HB3.out.bel.alloc HB3.out.bel.size _⟩
  rw [hc] at LO
  have HSF : Hid (((schB l && formB l x) && condsB list) = true) := by show ((schB l && formB l x) && condsB list) = true; rw [hs, hf, hc]; rfl
  have hlen : x.tables.length = l.length := (form_of (and3 HSF.out).2.1).1
  clear hs hf hc
  by_cases ht : 0 ≤ tb ∧ tb < x.tables.length
  case neg =>
    have HP := Lib.hid (si_no (si_tab (l := l) (x := x) (tb := tb) H4.out HSF.out ht) (by omega))
    have hc : inR8 0 tb ((l.length : Int) - 1) = false := by unfold inR8; simp; omega
    have IN := Lib.hid (fun W => inRS8 tb 0 ((l.length : Int) - 1) W)
    rw [hc] at IN
    have hws : IntKind.i64.wrap ((l.length : Int) - 1) = (l.length : Int) - 1 := by rw [IntKind.wrap_i64]; omega
    clear hc ht hlen
    go_enter Tryz.func24, Tryz.ntmps24
    go_wp2_with fail
    refine (SO.out _ HB.out).mono ?_
    rintro e w1 ⟨rfl, hb⟩
    have HB1 := Lib.hid hb
    clear x0 y0 y1
    have x0 := cell_at (o := 0) hb.a rfl
    have y0 := cell_at (o := 0) hb.b rfl
    have y1 := cell_at (o := 1) hb.b rfl
    clear hb
    go_wp2_with fail
    refine (FO.out _ HB1.out).mono ?_
    rintro e w2 ⟨rfl, hb⟩
    have HB2 := Lib.hid hb
    clear x0 y0 y1
    have x0 := cell_at (o := 0) hb.a rfl
    have y0 := cell_at (o := 0) hb.b rfl
    have y1 := cell_at (o := 1) hb.b rfl
    clear hb
    go_wp2_with fail
    refine (LO.out _ HB2.out).mono ?_
    rintro e w3 ⟨rfl, hb⟩
    have HB3 := Lib.hid hb
    clear x0 y0 y1
    have x0 := cell_at (o := 0) hb.a rfl
    have y0 := cell_at (o := 0) hb.b rfl
    have y1 := cell_at (o := 1) hb.b rfl
    clear hb
    go_wp2_with fail
    refine (IN.out _).mono ?_
    rintro e w4 ⟨rfl, rfl⟩
    go_wp2_with fail
    go_ret2
    exact ⟨_, _, by rw [HP.out.1, HP.out.2]; rfl, by rw [HP.out.1]; exact Rd.lsNil _ _, HB3.out.bel.alloc HB3.out.bel.size _⟩
  have hc : inR8 0 tb ((l.length : Int) - 1) = true := by unfold inR8; simp; omega
  have IN := Lib.hid (fun W => inRS8 tb 0 ((l.length : Int) - 1) W)
  rw [hc] at IN
  have hws : IntKind.i64.wrap ((l.length : Int) - 1) = (l.length : Int) - 1 := by rw [IntKind.wrap_i64]; omega
  obtain ⟨i, rfl⟩ : ∃ i : Nat, tb = (i : Int) := ⟨tb.toNat, by omega⟩
  have hi : i < x.tables.length := by omega
  have hil : i < l.length := by omega
  have hi1 : (i : Int) < (x.tables.length : Int) := by omega
  have hi2 : (i : Int) < (l.length : Int) := by omega
  clear hc ht hlen
  obtain ⟨tq, tf, rfl, -, tc⟩ := (HT.out w (Below.refl _ _)).things i hil
  obtain ⟨u0, t0, q0⟩ := tc 0 (by omega)
  obtain rfl : u0 = .string ⟨l[i].nm.toArray⟩ := q0
  rw [Nat.add_zero] at t0
  obtain ⟨u1, t1, q1⟩ := tc 1 (by omega)
  replace q1 : Rd w A (dColumnS l[i].cols) u1 := q1
  obtain ⟨ca, cc, rfl⟩ := q1.lsSlice
  obtain ⟨u2, t2, q2⟩ := tc 2 (by omega)
  replace q2 : Rd w A (dIntS l[i].uq) u2 := q2
  obtain ⟨ua, uc, rfl⟩ := q2.lsSlice
  obtain ⟨u3, t3, q3⟩ := tc 3 (by omega)
  obtain rfl : u3 = .bool l[i].rt := q3
  obtain ⟨xb, xo, rfl, -, xcc⟩ := (HR.out w (Below.refl _ _)).things i hi
  obtain ⟨u4, t4, q4⟩ := xcc 0 (by omega)
  replace q4 : Rd w B (dRowS x.tables[i]) u4 := q4
  obtain ⟨ra, rq, rfl⟩ := q4.lsSlice
  rw [Nat.mul_one, Nat.add_zero] at t4
  have HTO : Hid (l[i].ok) := le_table ((Ls_le.1 HO.out.1).2.2 i hil 0 (by omega)) ((Ls_le.1 HO.out.1).2.2 i hil 1 (by omega)) ((Ls_le.1 HO.out.1).2.2 i hil 2 (by omega))
  have HRO : Hid ((dRowS x.tables[i]).le 1048576) := (Ls_le.1 HO.out.2.1).2.2 i hi 0 (by omega)
  have HAS : Hid (condsC l[i] list = 0 → ∀ j (h : j < x.tables[i].length) k (h' : k < list.length), Asks l[i] x.tables[i][j] list[k]) := fun h0 => asks_rows HSF.out hi hil h0
  have HPN : Hid (condsC l[i] list ≠ 0 → siR l x (i : Int) list = [] ∧ siC l x (i : Int) list = condsC l[i] list) := fun h => si_no (si_at H4.out HSF.out hi hil) h
  have HPO : Hid (condsC l[i] list = 0 → siR l x (i : Int) list = chosen l[i] x.tables[i] list ∧ siC l x (i : Int) list = 0) := fun h => si_ok H4.out HSF.out hi hil h
  have TCE : Hid (∀ W, Below w.heap.size w W → W.cell? ⟨tq, tf + i * 4, none⟩ = some (.string ⟨l[i].nm.toArray⟩) ∧ W.cell? ⟨tq, tf + i * 4 + 1, none⟩ = some (.slice ca l[i].cols.length cc) ∧ W.cell? ⟨tq, tf + i * 4 + 2, none⟩ = some (.slice ua l[i].uq.length uc) ∧ W.cell? ⟨tq, tf + i * 4 + 3, none⟩ = some (.bool l[i].rt) ∧ W.cell? ⟨xb, xo + i, none⟩ = some (.slice ra x.tables[i].length rq)) := fun W h => ⟨(h.cell (p := ⟨tq, tf + i * 4, none⟩) (World.block_lt_of_cell? _ _ t0)).trans t0, (h.cell (p := ⟨tq, tf + i * 4 + 1, none⟩) (World.block_lt_of_cell? _ _ t1)).trans t1, (h.cell (p := ⟨tq, tf + i * 4 + 2, none⟩) (World.block_lt_of_cell? _ _ t2)).trans t2, (h.cell (p := ⟨tq, tf + i * 4 + 3, none⟩) (World.block_lt_of_cell? _ _ t3)).trans t3, (h.cell (p := ⟨xb, xo + i, none⟩) (World.block_lt_of_cell? _ _ t4)).trans t4⟩
  have CC : Hid (∀ W, BoxE 72 76 w W #[.slice (some ⟨tq, tf, none⟩) l.length sc] #[.slice (some ⟨xb, xo, none⟩) x.tables.length xc, .int .i64 x.next] → Calls Tryz.prog 52 #[.agg #[.string ⟨l[i].nm.toArray⟩, .slice ca l[i].cols.length cc, .slice ua l[i].uq.length uc, .bool l[i].rt], .slice a list.length c] W fun e w' => e = .returned (.int .i64 (condsC l[i] list)) ∧ BoxE 72 76 w w' #[.slice (some ⟨tq, tf, none⟩) l.length sc] #[.slice (some ⟨xb, xo, none⟩) x.tables.length xc, .int .i64 x.next]) := fun W h => (condsS l[i] ca cc ua uc A list a c C W HTO.out (D.le.mono (by unfold maxLen; omega) _ HO.out.2.2) (Rd.hasT (q1.later h.bel) (q2.later h.bel)) (HL.out W h.bel)).mono (fun e w' ⟨he, hB⟩ => ⟨he, h.later hB⟩)
  have SE : Hid ((∀ j (h : j < x.tables[i].length) k (h' : k < list.length), Asks l[i] x.tables[i][j] list[k]) → ∀ W, Below w.heap.size w W → Calls Tryz.prog 65 #[.agg #[.string ⟨l[i].nm.toArray⟩, .slice ca l[i].cols.length cc, .slice ua l[i].uq.length uc, .bool l[i].rt], .slice ra x.tables[i].length rq, .slice a list.length c] W (ChAns W (chosen l[i] x.tables[i] list))) := fun hq W h => selS l[i] ca cc ua uc A x.tables[i] ra rq B list a c C W HTO.out HO.out.2.2 HRO.out hq (Rd.hasT (q1.later h) (q2.later h)) (q4.later h) (HL.out W h)
  clear q1 q2 q4 tc xcc t0 t1 t2 t3 t4
  generalize l[i] = t at *
  generalize x.tables[i] = rows at *
  by_cases h0 : condsC t list = 0
  case neg =>
    have HP := Lib.hid (HPN.out h0)
    have hne : (condsC t list != 0) = true := by simpa using h0
    clear h0 HPN HPO SE HAS
    go_enter Tryz.func24, Tryz.ntmps24
    go_wp2_with fail
    refine (SO.out _ HB.out).mono ?_
    rintro e w1 ⟨rfl, hb⟩
    have HB1 := Lib.hid hb
    clear x0 y0 y1
    have x0 := cell_at (o := 0) hb.a rfl
    have y0 := cell_at (o := 0) hb.b rfl
    have y1 := cell_at (o := 1) hb.b rfl
    clear hb
    go_wp2_with fail
    refine (FO.out _ HB1.out).mono ?_
    rintro e w2 ⟨rfl, hb⟩
    have HB2 := Lib.hid hb
    clear x0 y0 y1
    have x0 := cell_at (o := 0) hb.a rfl
    have y0 := cell_at (o := 0) hb.b rfl
    have y1 := cell_at (o := 1) hb.b rfl
    clear hb
    go_wp2_with fail
    refine (LO.out _ HB2.out).mono ?_
    rintro e w3 ⟨rfl, hb⟩
    have HB3 := Lib.hid hb
    clear x0 y0 y1
    have x0 := cell_at (o := 0) hb.a rfl
    have y0 := cell_at (o := 0) hb.b rfl
    have y1 := cell_at (o := 1) hb.b rfl
    clear hb
    go_wp2_with fail
    refine (IN.out _).mono ?_
    rintro e w4 ⟨rfl, rfl⟩
    obtain ⟨t0, t1, t2, t3, t4⟩ := TCE.out _ HB3.out.bel
    go_wp2_with fail
    refine (CC.out _ HB3.out).mono ?_
    rintro e w5 ⟨rfl, hb⟩
    have HB5 := Lib.hid hb
    clear x0 y0 y1 t0 t1 t2 t3 t4
    have x0 := cell_at (o := 0) hb.a rfl
    have y0 := cell_at (o := 0) hb.b rfl
    clear hb
    go_wp2_with fail
    go_ret2
    exact ⟨_, _, by rw [HP.out.1, HP.out.2]; rfl, by rw [HP.out.1]; exact Rd.lsNil _ _, HB5.out.bel.alloc HB5.out.bel.size _⟩
  have HP := Lib.hid (HPO.out h0)
  have SE2 := Lib.hid (SE.out (HAS.out h0))
  rw [h0] at CC
  clear h0 HPN HPO SE HAS
  go_enter Tryz.func24, Tryz.ntmps24
  go_wp2_with fail
  refine (SO.out _ HB.out).mono ?_
  rintro e w1 ⟨rfl, hb⟩
  have HB1 := Lib.hid hb
  clear x0 y0 y1
  have x0 := cell_at (o := 0) hb.a rfl
  have y0 := cell_at (o := 0) hb.b rfl
  have y1 := cell_at (o := 1) hb.b rfl
  clear hb
  go_wp2_with fail
  refine (FO.out _ HB1.out).mono ?_
  rintro e w2 ⟨rfl, hb⟩
  have HB2 := Lib.hid hb
  clear x0 y0 y1
  have x0 := cell_at (o := 0) hb.a rfl
  have y0 := cell_at (o := 0) hb.b rfl
  have y1 := cell_at (o := 1) hb.b rfl
  clear hb
  go_wp2_with fail
  refine (LO.out _ HB2.out).mono ?_
  rintro e w3 ⟨rfl, hb⟩
  have HB3 := Lib.hid hb
  clear x0 y0 y1
  have x0 := cell_at (o := 0) hb.a rfl
  have y0 := cell_at (o := 0) hb.b rfl
  have y1 := cell_at (o := 1) hb.b rfl
  clear hb
  go_wp2_with fail
  refine (IN.out _).mono ?_
  rintro e w4 ⟨rfl, rfl⟩
  obtain ⟨t0, t1, t2, t3, t4⟩ := TCE.out _ HB3.out.bel
  go_wp2_with fail
  refine (CC.out _ HB3.out).mono ?_
  rintro e w5 ⟨rfl, hb⟩
  have HB5 := Lib.hid hb
  clear x0 y0 y1 t0 t1 t2 t3 t4
  have x0 := cell_at (o := 0) hb.a rfl
  have y0 := cell_at (o := 0) hb.b rfl
  clear hb
  have CX : Hid (∀ W, BoxE 72 76 w W #[.slice (some ⟨tq, tf, none⟩) l.length sc] #[.slice (some ⟨xb, xo, none⟩) x.tables.length xc, .int .i64 x.next] → (W.cell? ⟨w.heap.size, 0, none⟩ = some (.slice (some ⟨tq, tf, none⟩) l.length sc) ∧ W.cell? ⟨w.heap.size + 1, 0, none⟩ = some (.slice (some ⟨xb, xo, none⟩) x.tables.length xc)) ∧ W.cell? ⟨tq, tf + i * 4, none⟩ = some (.string ⟨t.nm.toArray⟩) ∧ W.cell? ⟨tq, tf + i * 4 + 1, none⟩ = some (.slice ca t.cols.length cc) ∧ W.cell? ⟨tq, tf + i * 4 + 2, none⟩ = some (.slice ua t.uq.length uc) ∧ W.cell? ⟨tq, tf + i * 4 + 3, none⟩ = some (.bool t.rt) ∧ W.cell? ⟨xb, xo + i, none⟩ = some (.slice ra rows.length rq)) := fun W h => ⟨⟨cell_at (o := 0) h.a rfl, cell_at (o := 0) h.b rfl⟩, TCE.out _ h.bel⟩
  have hx := HB5.out
  clear HB5 x0 y0
  go_wp2_with fail
  refine wp_region_held_drew (S := (fun W => (W.cell? ⟨w.heap.size, 0, none⟩ = some (.slice (some ⟨tq, tf, none⟩) l.length sc) ∧ W.cell? ⟨w.heap.size + 1, 0, none⟩ = some (.slice (some ⟨xb, xo, none⟩) x.tables.length xc)) ∧ W.cell? ⟨tq, tf + i * 4, none⟩ = some (.string ⟨t.nm.toArray⟩) ∧ W.cell? ⟨tq, tf + i * 4 + 1, none⟩ = some (.slice ca t.cols.length cc) ∧ W.cell? ⟨tq, tf + i * 4 + 2, none⟩ = some (.slice ua t.uq.length uc) ∧ W.cell? ⟨tq, tf + i * 4 + 3, none⟩ = some (.bool t.rt) ∧ W.cell? ⟨xb, xo + i, none⟩ = some (.slice ra rows.length rq))) (by kernel_rfl) ?_ (fun hHeld => ?_)
  · (first | exact CX.out _ hx | exact CX.out _ hx.drew)
  refine wpAnyH_take (i := 0) (v := ?_) rfl (by kernel_rfl) (by kernel_rfl) (by kernel_rfl) (fun _ _ _ h => h) (Or.inl ⟨by kernel_rfl, ?_⟩) (by assumption) ?_
  rotate_left
  · (intro wS hSw; (try dsimp only at hSw); go_simp <;> with_reducible rfl)
  try simp only [Act.put, tkS]
  refine wpAnyH_take (i := 1) (v := ?_) rfl (by kernel_rfl) (by kernel_rfl) (by kernel_rfl) (fun _ _ _ h => h) (Or.inl ⟨by kernel_rfl, ?_⟩) (by assumption) ?_
  rotate_left
  · (intro wS hSw; (try dsimp only at hSw); go_simp <;> with_reducible rfl)
  try simp only [Act.put, tkS]
  refine wpAnyH_take (i := 2) (v := ?_) rfl (by kernel_rfl) (by kernel_rfl) (by kernel_rfl) (fun _ _ _ h => h) (Or.inl ⟨by kernel_rfl, ?_⟩) (by assumption) ?_
  rotate_left
  · (intro wS hSw; (try dsimp only at hSw); go_simp <;> with_reducible rfl)
  try simp only [Act.put, tkS]
  refine wpAnyH_take (i := 3) (v := ?_) rfl (by kernel_rfl) (by kernel_rfl) (by kernel_rfl) (fun _ _ _ h => h) (Or.inl ⟨by kernel_rfl, ?_⟩) (by assumption) ?_
  rotate_left
  · (intro wS hSw; (try dsimp only at hSw); go_simp <;> with_reducible rfl)
  try simp only [Act.put, tkS]
  refine wpAnyH_take (i := 4) (v := ?_) rfl (by kernel_rfl) (by kernel_rfl) (by kernel_rfl) (fun _ _ _ h => h) (Or.inl ⟨by kernel_rfl, ?_⟩) (by assumption) ?_
  rotate_left
  · (intro wS hSw; (try dsimp only at hSw); go_simp <;> with_reducible rfl)
  try simp only [Act.put, tkS]
  refine wpAnyH_take (i := 5) (v := ?_) rfl (by kernel_rfl) (by kernel_rfl) (by kernel_rfl) (fun _ _ _ h => h) (Or.inl ⟨by kernel_rfl, ?_⟩) (by assumption) ?_
  rotate_left
  · (intro wS hSw; (try dsimp only at hSw); go_simp <;> with_reducible rfl)
  try simp only [Act.put, tkS]
  refine wpAnyH_take (i := 6) (v := ?_) rfl (by kernel_rfl) (by kernel_rfl) (by kernel_rfl) (fun _ _ _ h => h) (Or.inl ⟨by kernel_rfl, ?_⟩) (by assumption) ?_
  rotate_left
  · (intro wS hSw; (try dsimp only at hSw); go_simp <;> with_reducible rfl)
  try simp only [Act.put, tkS]
  refine wpAnyH_take (i := 7) (v := ?_) rfl (by kernel_rfl) (by kernel_rfl) (by kernel_rfl) (fun _ _ _ h => h) (Or.inl ⟨by kernel_rfl, ?_⟩) (by assumption) ?_
  rotate_left
  · (intro wS hSw; (try dsimp only at hSw); go_simp <;> with_reducible rfl)
  try simp only [Act.put, tkS]
  refine wpAnyH_take (i := 8) (v := ?_) rfl (by kernel_rfl) (by kernel_rfl) (by kernel_rfl) (fun _ _ _ h => h) (Or.inl ⟨by kernel_rfl, ?_⟩) (by assumption) ?_
  rotate_left
  · (intro wS hSw; (try dsimp only at hSw); go_simp <;> with_reducible rfl)
  try simp only [Act.put, tkS]
  refine wpAnyH_take (i := 9) (v := ?_) rfl (by kernel_rfl) (by kernel_rfl) (by kernel_rfl) (fun _ _ _ h => h) (Or.inl ⟨by kernel_rfl, ?_⟩) (by assumption) ?_
  rotate_left
  · (intro wS hSw; (try dsimp only at hSw); go_simp <;> with_reducible rfl)
  try simp only [Act.put, tkS]
  refine wpAnyH_take (i := 10) (v := ?_) rfl (by kernel_rfl) (by kernel_rfl) (by kernel_rfl) (fun _ _ _ h => h) (Or.inl ⟨by kernel_rfl, ?_⟩) (by assumption) ?_
  rotate_left
  · (intro wS hSw; (try dsimp only at hSw); go_simp <;> with_reducible rfl)
  try simp only [Act.put, tkS]
  refine wpAnyH_ready (rs := [11]) (by kernel_rfl) (by simp) (AllReadyH.cons rfl (fun K hK => ?_) AllReadyH.nil)
  go_simp
  (go_at_call 65; refine (SE2.out _ (by first | exact hx.bel | exact hx.drew.bel)).mono ?_; rintro e w6 ⟨va, vq, rfl, hsg, hB⟩; have hx6 := hx.later (show Below w5.heap.size w5 w6 from (by first | exact hB | exact (Below.refl _ _).drew.trans hB)); have HSG := Lib.hid hsg; have HS5 := Lib.hid hx.bel.size; clear hx hB hsg; have hx := hx6; clear hx6)
  refine hK.out _ _ ?_ (fun hHeld => ?_)
  · (first | exact CX.out _ hx | exact CX.out _ hx.drew)
  clear hK K
  try simp only [Act.put, tkS]
  refine wpAnyH_take (i := 12) (v := ?_) rfl (by kernel_rfl) (by kernel_rfl) (by kernel_rfl) (fun _ _ _ h => h) (Or.inl ⟨by kernel_rfl, ?_⟩) (by assumption) ?_
  rotate_left
  · (intro wS hSw; (try dsimp only at hSw); go_simp <;> with_reducible rfl)
  try simp only [Act.put, tkS]
  refine wpAnyH_take (i := 13) (v := ?_) rfl (by kernel_rfl) (by kernel_rfl) (by kernel_rfl) (fun _ _ _ h => h) (Or.inl ⟨by kernel_rfl, ?_⟩) (by assumption) ?_
  rotate_left
  · (intro wS hSw; (try dsimp only at hSw); go_simp <;> with_reducible rfl)
  try simp only [Act.put, tkS]
  refine wpAnyH_done (by kernel_rfl) ?_ _
  go_wp2_with fail
  go_ret2
  exact ⟨va, vq, by rw [HP.out.1, HP.out.2]; rfl, by rw [HP.out.1]; exact (Own.rd' (own_ints HSG.out)).mono (fun c hc => ⟨by have h1 := hc.1; have h2 := HS5.out; simp at h1; omega, hc.2⟩), by first | exact hx.bel | exact hx.bel.drew⟩
end Go.Proofs.YtpjjpdbmooiplaaGreatDoor
