import Derived.Test.YtpjjpdbmooiplaaGreatDoorZbo
import Derived.Test.YtpjjpdbmooiplaaGreatDoorZbp
import Derived.Test.YtpjjpdbmooiplaaGreatDoorZbl
import Derived.Test.YtpjjpdbmooiplaaGreatDoorZTk
namespace Go.Proofs.YtpjjpdbmooiplaaGreatDoor
open Go.RowKit
set_option linter.unusedSimpArgs false
set_option maxRecDepth 100000 in
set_option maxHeartbeats 12800000 in
theorem selectI (l : List Tb) (sa : Option Addr) (sc : Nat) (A : Nat → Prop) (x : StV) (xa : Option Addr) (xc : Nat) (B : Nat → Prop) (tb : Int) (list : List CondV) (a : Option Addr) (c : Nat) (C : Nat → Prop) (w : World) (hlo : (dTableS l).le maxLen) (ho : (dRowSS x.tables).le 1048576) (hcl : (dCondS list).le 1048576) (hTab : TabW w) (h0w : 0 < w.heap.size) (hT : Rd w A (dTableS l) (.slice sa l.length sc)) (hR : Rd w B (dRowSS x.tables) (.slice xa x.tables.length xc)) (hL : Rd w C (dCondS list) (.slice a list.length c)) :
    Calls Tryz.prog 27 #[.agg #[.slice sa l.length sc], .agg #[.slice xa x.tables.length xc, .int .i64 x.next], .int .i64 tb, .slice a list.length c] w fun e w' => ∃ ra rc, e = .returned (.tuple #[.slice ra (siR l x tb list).length rc, .int .i64 (siC l x tb list)]) ∧ Own w' (dIntS (siR l x tb list)) (fun c => w.heap.size ≤ c ∧ c < w'.heap.size) (.slice ra (siR l x tb list).length rc) ∧ Below w.heap.size w w' := by
  have hom : (dRowSS x.tables).le maxLen := D.le.mono (by unfold maxLen; omega) _ ho
  have hclm : (dCondS list).le maxLen := D.le.mono (by unfold maxLen; omega) _ hcl
  have hll : l.length ≤ maxLen := (Ls_le.1 hlo).2.1
  have hxl : x.tables.length ≤ 1048576 := (Ls_le.1 ho).2.1
  have hcll : list.length ≤ 1048576 := (Ls_le.1 hcl).2.1
  unfold maxLen at hll
  have FI : Hid (∀ W, BoxE 72 76 w W #[.slice sa l.length sc] #[.slice xa x.tables.length xc, .int .i64 x.next] → Calls Tryz.prog 68 #[.agg #[.slice sa l.length sc], .agg #[.slice xa x.tables.length xc, .int .i64 x.next]] W fun e w' => e = .returned (.bool (schB l && formB l x)) ∧ BoxE 72 76 w w' #[.slice sa l.length sc] #[.slice xa x.tables.length xc, .int .i64 x.next]) := fun W h => (storeFitsI l sa sc A x xa xc B W hlo hom (hT.later h.bel) (hR.later h.bel)).mono (fun e w' ⟨he, hB⟩ => ⟨he, h.later hB⟩)
  have HTI : Hid (∀ W, BoxE 72 76 w W #[.slice sa l.length sc] #[.slice xa x.tables.length xc, .int .i64 x.next] → Calls Tryz.prog 69 #[.agg #[.slice xa x.tables.length xc, .int .i64 x.next], .int .i64 tb] W fun e w' => e = .returned (.bool (hasT x tb)) ∧ BoxE 72 76 w w' #[.slice sa l.length sc] #[.slice xa x.tables.length xc, .int .i64 x.next]) := fun W h => (hasTableI x tb xa xc W).mono (fun e w' ⟨he, hB⟩ => ⟨he, h.later hB⟩)
  have LO : Hid (∀ W, BoxE 72 76 w W #[.slice sa l.length sc] #[.slice xa x.tables.length xc, .int .i64 x.next] → Calls Tryz.prog 55 #[.slice a list.length c, .int .i64 8, .func (.func 56) #[] #[]] W fun e w' => e = .returned (.bool (condsB list)) ∧ BoxE 72 76 w w' #[.slice sa l.length sc] #[.slice xa x.tables.length xc, .int .i64 x.next]) := fun W h => (fewI list a c C W hclm (hL.later h.bel)).mono (fun e w' ⟨he, hB⟩ => ⟨he, h.later hB⟩)
  have HT : Hid (∀ W, Below w.heap.size w W → Rd W A (Ls 4 dTable l) (.slice sa l.length sc)) := fun W h => Rd.later hT h
  have HR : Hid (∀ W, Below w.heap.size w W → Rd W B (Ls 1 cRowS x.tables) (.slice xa x.tables.length xc)) := fun W h => Rd.later hR h
  have HL : Hid (∀ W, Below w.heap.size w W → Rd W C (dCondS list) (.slice a list.length c)) := fun W h => Rd.later hL h
  have HO := Lib.hid (And.intro hlo (And.intro ho hcl))
  have hb := boxE 72 76 w #[.slice sa l.length sc] #[.slice xa x.tables.length xc, .int .i64 x.next]
  have x0 := cell_at (o := 0) hb.a rfl
  have y0 := cell_at (o := 0) hb.b rfl
  have y1 := cell_at (o := 1) hb.b rfl
  have HB := Lib.hid hb
  have HTW := Lib.hid (And.intro hTab h0w)
  clear hlo ho hcl hom hclm hT hR hL hb hTab h0w
  by_cases h4 : 4096 < list.length
  case pos =>
    have HP := Lib.hid (si_no (si_long (l := l) (x := x) (tb := tb) h4) (by omega))
    have hd : decide (4096 < (list.length : Int)) = true := decide_eq_true (by omega)
    clear h4
    go_enter Tryz.func27, Tryz.ntmps27
    go_wp2_with fail
    go_ret2
    exact ⟨none, 0, by rw [HP.out.1, HP.out.2]; rfl, by rw [HP.out.1]; exact ⟨none, 0, rfl, .inl rfl⟩, HB.out.bel⟩
  have hd : decide (4096 < (list.length : Int)) = false := decide_eq_false (by omega)
  have H4 := Lib.hid h4
  clear h4
  cases hs : (schB l && formB l x)
  case false =>
    have HP := Lib.hid (si_no (si_bad (l := l) (x := x) (tb := tb) H4.out (by rw [hs]; rfl)) (by omega))
    rw [hs] at FI
    clear hs
    go_enter Tryz.func27, Tryz.ntmps27
    go_wp2_with fail
    refine (FI.out _ HB.out).mono ?_
    rintro e w1 ⟨rfl, hb⟩
    have HB1 := Lib.hid hb
    clear x0 y0 y1
    have x0 := cell_at (o := 0) hb.a rfl
    have y0 := cell_at (o := 0) hb.b rfl
    have y1 := cell_at (o := 1) hb.b rfl
    clear hb
    go_wp2_with fail
    go_ret2
    exact ⟨none, 0, by rw [HP.out.1, HP.out.2]; rfl, by rw [HP.out.1]; exact ⟨none, 0, rfl, .inl rfl⟩, HB1.out.bel⟩
  rw [hs] at FI
  cases hc : condsB list
  case false =>
    have HP := Lib.hid (si_no (si_bad (l := l) (x := x) (tb := tb) H4.out (by rw [hs, hc]; rfl)) (by omega))
    rw [hc] at LO
    clear hs hc
    go_enter Tryz.func27, Tryz.ntmps27
    go_wp2_with fail
    refine (FI.out _ HB.out).mono ?_
    rintro e w1 ⟨rfl, hb⟩
    have HB1 := Lib.hid hb
    clear x0 y0 y1
    have x0 := cell_at (o := 0) hb.a rfl
    have y0 := cell_at (o := 0) hb.b rfl
    have y1 := cell_at (o := 1) hb.b rfl
    clear hb
    go_wp2_with fail
    refine (LO.out _ HB1.out).mono ?_
    rintro e w3 ⟨rfl, hb⟩
    have HB3 := Lib.hid hb
    clear x0 y0 y1
    have x0 := cell_at (o := 0) hb.a rfl
    have y0 := cell_at (o := 0) hb.b rfl
    have y1 := cell_at (o := 1) hb.b rfl
    clear hb
    go_wp2_with fail
    go_ret2
    exact ⟨none, 0, by rw [HP.out.1, HP.out.2]; rfl, by rw [HP.out.1]; exact ⟨none, 0, rfl, .inl rfl⟩, HB3.out.bel⟩
  rw [hc] at LO
  have HSF : Hid (((schB l && formB l x) && condsB list) = true) := by show ((schB l && formB l x) && condsB list) = true; rw [hs, hc]; rfl
  have hlen : x.tables.length = l.length := (form_of (and3 HSF.out).2.1).1
  clear hs hc
  by_cases ht : 0 ≤ tb ∧ tb < x.tables.length
  case neg =>
    have HP := Lib.hid (si_no (si_tab (l := l) (x := x) (tb := tb) H4.out HSF.out ht) (by omega))
    have hc : hasT x tb = false := by unfold hasT; simpa using ht
    rw [hc] at HTI
    clear hc ht hlen
    go_enter Tryz.func27, Tryz.ntmps27
    go_wp2_with fail
    refine (FI.out _ HB.out).mono ?_
    rintro e w1 ⟨rfl, hb⟩
    have HB1 := Lib.hid hb
    clear x0 y0 y1
    have x0 := cell_at (o := 0) hb.a rfl
    have y0 := cell_at (o := 0) hb.b rfl
    have y1 := cell_at (o := 1) hb.b rfl
    clear hb
    go_wp2_with fail
    refine (LO.out _ HB1.out).mono ?_
    rintro e w3 ⟨rfl, hb⟩
    have HB3 := Lib.hid hb
    clear x0 y0 y1
    have x0 := cell_at (o := 0) hb.a rfl
    have y0 := cell_at (o := 0) hb.b rfl
    have y1 := cell_at (o := 1) hb.b rfl
    clear hb
    go_wp2_with fail
    refine (HTI.out _ HB3.out).mono ?_
    rintro e w4 ⟨rfl, hb⟩
    have HB4 := Lib.hid hb
    clear x0 y0 y1
    have x0 := cell_at (o := 0) hb.a rfl
    have y0 := cell_at (o := 0) hb.b rfl
    have y1 := cell_at (o := 1) hb.b rfl
    clear hb
    go_wp2_with fail
    go_ret2
    exact ⟨none, 0, by rw [HP.out.1, HP.out.2]; rfl, by rw [HP.out.1]; exact ⟨none, 0, rfl, .inl rfl⟩, HB4.out.bel⟩
  have hc : hasT x tb = true := by unfold hasT; simpa using ht
  rw [hc] at HTI
  obtain ⟨i, rfl⟩ : ∃ i : Nat, tb = (i : Int) := ⟨tb.toNat, by omega⟩
  have hi : i < x.tables.length := by omega
  have hil : i < l.length := by omega
  have hi1 : (i : Int) < (x.tables.length : Int) := by omega
  have hi2 : (i : Int) < (l.length : Int) := by omega
  clear hc ht hlen
  obtain ⟨tq, tf, rfl, -, tc⟩ := (HT.out w (Below.refl _ _)).things i hil
  obtain ⟨u0, t0, q0⟩ := tc 0 (by omega)
  obtain rfl : u0 = .string ⟨l[i].nm.toArray⟩ := q0
  rw [Nat.add_zero] at t0
  obtain ⟨u1, t1, q1⟩ := tc 1 (by omega)
  replace q1 : Rd w A (dColumnS l[i].cols) u1 := q1
  obtain ⟨ca, cc, rfl⟩ := q1.lsSlice
  obtain ⟨u2, t2, q2⟩ := tc 2 (by omega)
  replace q2 : Rd w A (dIntS l[i].uq) u2 := q2
  obtain ⟨ua, uc, rfl⟩ := q2.lsSlice
  obtain ⟨u3, t3, q3⟩ := tc 3 (by omega)
  obtain rfl : u3 = .bool l[i].rt := q3
  obtain ⟨xb, xo, rfl, -, xcc⟩ := (HR.out w (Below.refl _ _)).things i hi
  obtain ⟨u4, t4, q4⟩ := xcc 0 (by omega)
  replace q4 : Rd w B (dRowS x.tables[i]) u4 := q4
  obtain ⟨ra, rq, rfl⟩ := q4.lsSlice
  rw [Nat.mul_one, Nat.add_zero] at t4
  have HTO : Hid (l[i].ok) := le_table ((Ls_le.1 HO.out.1).2.2 i hil 0 (by omega)) ((Ls_le.1 HO.out.1).2.2 i hil 1 (by omega)) ((Ls_le.1 HO.out.1).2.2 i hil 2 (by omega))
  have HRO : Hid ((dRowS x.tables[i]).le 1048576) := (Ls_le.1 HO.out.2.1).2.2 i hi 0 (by omega)
  have HAS : Hid (condsC l[i] list = 0 → ∀ j (h : j < x.tables[i].length) k (h' : k < list.length), Asks l[i] x.tables[i][j] list[k]) := fun h0 => asks_rows HSF.out hi hil h0
  have HPN : Hid (condsC l[i] list ≠ 0 → siR l x (i : Int) list = [] ∧ siC l x (i : Int) list = condsC l[i] list) := fun h => si_no (si_at H4.out HSF.out hi hil) h
  have HPO : Hid (condsC l[i] list = 0 → siR l x (i : Int) list = chosen l[i] x.tables[i] list ∧ siC l x (i : Int) list = 0) := fun h => si_ok H4.out HSF.out hi hil h
  have TCE : Hid (∀ W, Below w.heap.size w W → W.cell? ⟨tq, tf + i * 4, none⟩ = some (.string ⟨l[i].nm.toArray⟩) ∧ W.cell? ⟨tq, tf + i * 4 + 1, none⟩ = some (.slice ca l[i].cols.length cc) ∧ W.cell? ⟨tq, tf + i * 4 + 2, none⟩ = some (.slice ua l[i].uq.length uc) ∧ W.cell? ⟨tq, tf + i * 4 + 3, none⟩ = some (.bool l[i].rt) ∧ W.cell? ⟨xb, xo + i, none⟩ = some (.slice ra x.tables[i].length rq)) := fun W h => ⟨(h.cell (p := ⟨tq, tf + i * 4, none⟩) (World.block_lt_of_cell? _ _ t0)).trans t0, (h.cell (p := ⟨tq, tf + i * 4 + 1, none⟩) (World.block_lt_of_cell? _ _ t1)).trans t1, (h.cell (p := ⟨tq, tf + i * 4 + 2, none⟩) (World.block_lt_of_cell? _ _ t2)).trans t2, (h.cell (p := ⟨tq, tf + i * 4 + 3, none⟩) (World.block_lt_of_cell? _ _ t3)).trans t3, (h.cell (p := ⟨xb, xo + i, none⟩) (World.block_lt_of_cell? _ _ t4)).trans t4⟩
  have CC : Hid (∀ W, BoxE 72 76 w W #[.slice (some ⟨tq, tf, none⟩) l.length sc] #[.slice (some ⟨xb, xo, none⟩) x.tables.length xc, .int .i64 x.next] → Calls Tryz.prog 57 #[.agg #[.string ⟨l[i].nm.toArray⟩, .slice ca l[i].cols.length cc, .slice ua l[i].uq.length uc, .bool l[i].rt], .slice a list.length c, .func (.func 58) #[] #[]] W fun e w' => e = .returned (.int .i64 (condsC l[i] list)) ∧ BoxE 72 76 w w' #[.slice (some ⟨tq, tf, none⟩) l.length sc] #[.slice (some ⟨xb, xo, none⟩) x.tables.length xc, .int .i64 x.next]) := fun W h => (firstI l[i] ca cc ua uc A list a c C W HTO.out (D.le.mono (by unfold maxLen; omega) _ HO.out.2.2) (Rd.hasT (q1.later h.bel) (q2.later h.bel)) (HL.out W h.bel)).mono (fun e w' ⟨he, hB⟩ => ⟨he, h.later hB⟩)
  have SE : Hid ((∀ j (h : j < x.tables[i].length) k (h' : k < list.length), Asks l[i] x.tables[i][j] list[k]) → ∀ W, Below w.heap.size w W → Calls Tryz.prog 59 #[.agg #[.string ⟨l[i].nm.toArray⟩, .slice ca l[i].cols.length cc, .slice ua l[i].uq.length uc, .bool l[i].rt], .slice ra x.tables[i].length rq, .slice a list.length c] W (ChAns W (chosen l[i] x.tables[i] list))) := fun hq W h => chosenI l[i] ca cc ua uc A x.tables[i] ra rq B list a c C W HTO.out (D.le.mono (by unfold maxLen; omega) _ HO.out.2.2) HRO.out (HTW.out.1.later HTW.out.2 h) (Nat.lt_of_lt_of_le HTW.out.2 h.size) hq (Rd.hasT (q1.later h) (q2.later h)) (q4.later h) (HL.out W h)
  clear q1 q2 q4 tc xcc t0 t1 t2 t3 t4
  generalize l[i] = t at *
  generalize x.tables[i] = rows at *
  by_cases h0 : condsC t list = 0
  case neg =>
    have HP := Lib.hid (HPN.out h0)
    have hne : (condsC t list != 0) = true := by simpa using h0
    clear h0 HPN HPO SE HAS
    go_enter Tryz.func27, Tryz.ntmps27
    go_wp2_with fail
    refine (FI.out _ HB.out).mono ?_
    rintro e w1 ⟨rfl, hb⟩
    have HB1 := Lib.hid hb
    clear x0 y0 y1
    have x0 := cell_at (o := 0) hb.a rfl
    have y0 := cell_at (o := 0) hb.b rfl
    have y1 := cell_at (o := 1) hb.b rfl
    clear hb
    go_wp2_with fail
    refine (LO.out _ HB1.out).mono ?_
    rintro e w3 ⟨rfl, hb⟩
    have HB3 := Lib.hid hb
    clear x0 y0 y1
    have x0 := cell_at (o := 0) hb.a rfl
    have y0 := cell_at (o := 0) hb.b rfl
    have y1 := cell_at (o := 1) hb.b rfl
    clear hb
    go_wp2_with fail
    refine (HTI.out _ HB3.out).mono ?_
    rintro e w4 ⟨rfl, hb⟩
    have HB4 := Lib.hid hb
    clear x0 y0 y1
    have x0 := cell_at (o := 0) hb.a rfl
    have y0 := cell_at (o := 0) hb.b rfl
    have y1 := cell_at (o := 1) hb.b rfl
    clear hb
    obtain ⟨t0, t1, t2, t3, t4⟩ := TCE.out _ HB4.out.bel
    go_wp2_with fail
    refine (CC.out _ HB4.out).mono ?_
    rintro e w5 ⟨rfl, hb⟩
    have HB5 := Lib.hid hb
    clear x0 y0 y1 t0 t1 t2 t3 t4
    have x0 := cell_at (o := 0) hb.a rfl
    have y0 := cell_at (o := 0) hb.b rfl
    clear hb
    go_wp2_with fail
    go_ret2
    exact ⟨none, 0, by rw [HP.out.1, HP.out.2]; rfl, by rw [HP.out.1]; exact ⟨none, 0, rfl, .inl rfl⟩, HB5.out.bel⟩
  have HP := Lib.hid (HPO.out h0)
  have SE2 := Lib.hid (SE.out (HAS.out h0))
  rw [h0] at CC
  clear h0 HPN HPO SE HAS
  go_enter Tryz.func27, Tryz.ntmps27
  go_wp2_with fail
  refine (FI.out _ HB.out).mono ?_
  rintro e w1 ⟨rfl, hb⟩
  have HB1 := Lib.hid hb
  clear x0 y0 y1
  have x0 := cell_at (o := 0) hb.a rfl
  have y0 := cell_at (o := 0) hb.b rfl
  have y1 := cell_at (o := 1) hb.b rfl
  clear hb
  go_wp2_with fail
  refine (LO.out _ HB1.out).mono ?_
  rintro e w3 ⟨rfl, hb⟩
  have HB3 := Lib.hid hb
  clear x0 y0 y1
  have x0 := cell_at (o := 0) hb.a rfl
  have y0 := cell_at (o := 0) hb.b rfl
  have y1 := cell_at (o := 1) hb.b rfl
  clear hb
  go_wp2_with fail
  refine (HTI.out _ HB3.out).mono ?_
  rintro e w4 ⟨rfl, hb⟩
  have HB4 := Lib.hid hb
  clear x0 y0 y1
  have x0 := cell_at (o := 0) hb.a rfl
  have y0 := cell_at (o := 0) hb.b rfl
  have y1 := cell_at (o := 1) hb.b rfl
  clear hb
  obtain ⟨t0, t1, t2, t3, t4⟩ := TCE.out _ HB4.out.bel
  go_wp2_with fail
  refine (CC.out _ HB4.out).mono ?_
  rintro e w5 ⟨rfl, hb⟩
  have HB5 := Lib.hid hb
  clear x0 y0 y1 t0 t1 t2 t3 t4
  have x0 := cell_at (o := 0) hb.a rfl
  have y0 := cell_at (o := 0) hb.b rfl
  clear hb
  have CX : Hid (∀ W, BoxE 72 76 w W #[.slice (some ⟨tq, tf, none⟩) l.length sc] #[.slice (some ⟨xb, xo, none⟩) x.tables.length xc, .int .i64 x.next] → (W.cell? ⟨w.heap.size, 0, none⟩ = some (.slice (some ⟨tq, tf, none⟩) l.length sc) ∧ W.cell? ⟨w.heap.size + 1, 0, none⟩ = some (.slice (some ⟨xb, xo, none⟩) x.tables.length xc)) ∧ W.cell? ⟨tq, tf + i * 4, none⟩ = some (.string ⟨t.nm.toArray⟩) ∧ W.cell? ⟨tq, tf + i * 4 + 1, none⟩ = some (.slice ca t.cols.length cc) ∧ W.cell? ⟨tq, tf + i * 4 + 2, none⟩ = some (.slice ua t.uq.length uc) ∧ W.cell? ⟨tq, tf + i * 4 + 3, none⟩ = some (.bool t.rt) ∧ W.cell? ⟨xb, xo + i, none⟩ = some (.slice ra rows.length rq)) := fun W h => ⟨⟨cell_at (o := 0) h.a rfl, cell_at (o := 0) h.b rfl⟩, TCE.out _ h.bel⟩
  have hx := HB5.out
  clear HB5 x0 y0
  go_wp2_with fail
  refine wp_region_held_drew (S := (fun W => (W.cell? ⟨w.heap.size, 0, none⟩ = some (.slice (some ⟨tq, tf, none⟩) l.length sc) ∧ W.cell? ⟨w.heap.size + 1, 0, none⟩ = some (.slice (some ⟨xb, xo, none⟩) x.tables.length xc)) ∧ W.cell? ⟨tq, tf + i * 4, none⟩ = some (.string ⟨t.nm.toArray⟩) ∧ W.cell? ⟨tq, tf + i * 4 + 1, none⟩ = some (.slice ca t.cols.length cc) ∧ W.cell? ⟨tq, tf + i * 4 + 2, none⟩ = some (.slice ua t.uq.length uc) ∧ W.cell? ⟨tq, tf + i * 4 + 3, none⟩ = some (.bool t.rt) ∧ W.cell? ⟨xb, xo + i, none⟩ = some (.slice ra rows.length rq))) (by kernel_rfl) ?_ (fun hHeld => ?_)
  · (first | exact CX.out _ hx | exact CX.out _ hx.drew)
  refine wpAnyH_take (i := 0) (v := ?_) rfl (by kernel_rfl) (by kernel_rfl) (by kernel_rfl) (fun _ _ _ h => h) (Or.inl ⟨by kernel_rfl, ?_⟩) (by assumption) ?_
  rotate_left
  · (intro wS hSw; (try dsimp only at hSw); go_simp <;> with_reducible rfl)
  try simp only [Act.put, tkS]
  refine wpAnyH_take (i := 1) (v := ?_) rfl (by kernel_rfl) (by kernel_rfl) (by kernel_rfl) (fun _ _ _ h => h) (Or.inl ⟨by kernel_rfl, ?_⟩) (by assumption) ?_
  rotate_left
  · (intro wS hSw; (try dsimp only at hSw); go_simp <;> with_reducible rfl)
  try simp only [Act.put, tkS]
  refine wpAnyH_take (i := 2) (v := ?_) rfl (by kernel_rfl) (by kernel_rfl) (by kernel_rfl) (fun _ _ _ h => h) (Or.inl ⟨by kernel_rfl, ?_⟩) (by assumption) ?_
  rotate_left
  · (intro wS hSw; (try dsimp only at hSw); go_simp <;> with_reducible rfl)
  try simp only [Act.put, tkS]
  refine wpAnyH_take (i := 3) (v := ?_) rfl (by kernel_rfl) (by kernel_rfl) (by kernel_rfl) (fun _ _ _ h => h) (Or.inl ⟨by kernel_rfl, ?_⟩) (by assumption) ?_
  rotate_left
  · (intro wS hSw; (try dsimp only at hSw); go_simp <;> with_reducible rfl)
  try simp only [Act.put, tkS]
  refine wpAnyH_take (i := 4) (v := ?_) rfl (by kernel_rfl) (by kernel_rfl) (by kernel_rfl) (fun _ _ _ h => h) (Or.inl ⟨by kernel_rfl, ?_⟩) (by assumption) ?_
  rotate_left
  · (intro wS hSw; (try dsimp only at hSw); go_simp <;> with_reducible rfl)
  try simp only [Act.put, tkS]
  refine wpAnyH_take (i := 5) (v := ?_) rfl (by kernel_rfl) (by kernel_rfl) (by kernel_rfl) (fun _ _ _ h => h) (Or.inl ⟨by kernel_rfl, ?_⟩) (by assumption) ?_
  rotate_left
  · (intro wS hSw; (try dsimp only at hSw); go_simp <;> with_reducible rfl)
  try simp only [Act.put, tkS]
  refine wpAnyH_take (i := 6) (v := ?_) rfl (by kernel_rfl) (by kernel_rfl) (by kernel_rfl) (fun _ _ _ h => h) (Or.inl ⟨by kernel_rfl, ?_⟩) (by assumption) ?_
  rotate_left
  · (intro wS hSw; (try dsimp only at hSw); go_simp <;> with_reducible rfl)
  try simp only [Act.put, tkS]
  refine wpAnyH_take (i := 7) (v := ?_) rfl (by kernel_rfl) (by kernel_rfl) (by kernel_rfl) (fun _ _ _ h => h) (Or.inl ⟨by kernel_rfl, ?_⟩) (by assumption) ?_
  rotate_left
  · (intro wS hSw; (try dsimp only at hSw); go_simp <;> with_reducible rfl)
  try simp only [Act.put, tkS]
  refine wpAnyH_take (i := 8) (v := ?_) rfl (by kernel_rfl) (by kernel_rfl) (by kernel_rfl) (fun _ _ _ h => h) (Or.inl ⟨by kernel_rfl, ?_⟩) (by assumption) ?_
  rotate_left
  · (intro wS hSw; (try dsimp only at hSw); go_simp <;> with_reducible rfl)
  try simp only [Act.put, tkS]
  refine wpAnyH_take (i := 9) (v := ?_) rfl (by kernel_rfl) (by kernel_rfl) (by kernel_rfl) (fun _ _ _ h => h) (Or.inl ⟨by kernel_rfl, ?_⟩) (by assumption) ?_
  rotate_left
  · (intro wS hSw; (try dsimp only at hSw); go_simp <;> with_reducible rfl)
  try simp only [Act.put, tkS]
  refine wpAnyH_take (i := 10) (v := ?_) rfl (by kernel_rfl) (by kernel_rfl) (by kernel_rfl) (fun _ _ _ h => h) (Or.inl ⟨by kernel_rfl, ?_⟩) (by assumption) ?_
  rotate_left
  · (intro wS hSw; (try dsimp only at hSw); go_simp <;> with_reducible rfl)
  try simp only [Act.put, tkS]
  refine wpAnyH_ready (rs := [11]) (by kernel_rfl) (by simp) (AllReadyH.cons rfl (fun K hK => ?_) AllReadyH.nil)
  go_simp
  (go_at_call 59; refine (SE2.out _ (by first | exact hx.bel | exact hx.drew.bel)).mono ?_; rintro e w6 ⟨va, vq, rfl, hsg, hB⟩; have hx6 := hx.later (show Below w5.heap.size w5 w6 from (by first | exact hB | exact (Below.refl _ _).drew.trans hB)); have HSG := Lib.hid hsg; have HS5 := Lib.hid hx.bel.size; clear hx hB hsg; have hx := hx6; clear hx6)
  refine hK.out _ _ ?_ (fun hHeld => ?_)
  · (first | exact CX.out _ hx | exact CX.out _ hx.drew)
  clear hK K
  try simp only [Act.put, tkS]
  refine wpAnyH_take (i := 12) (v := ?_) rfl (by kernel_rfl) (by kernel_rfl) (by kernel_rfl) (fun _ _ _ h => h) (Or.inl ⟨by kernel_rfl, ?_⟩) (by assumption) ?_
  rotate_left
  · (intro wS hSw; (try dsimp only at hSw); go_simp <;> with_reducible rfl)
  try simp only [Act.put, tkS]
  refine wpAnyH_take (i := 13) (v := ?_) rfl (by kernel_rfl) (by kernel_rfl) (by kernel_rfl) (fun _ _ _ h => h) (Or.inl ⟨by kernel_rfl, ?_⟩) (by assumption) ?_
  rotate_left
  · (intro wS hSw; (try dsimp only at hSw); go_simp <;> with_reducible rfl)
  try simp only [Act.put, tkS]
  refine wpAnyH_done (by kernel_rfl) ?_ _
  go_wp2_with fail
  go_ret2
  exact ⟨va, vq, by rw [HP.out.1, HP.out.2]; rfl, by rw [HP.out.1]; exact (own_ints HSG.out).mono (fun c hc => ⟨by have h1 := hc.1; have h2 := HS5.out; simp at h1; omega, hc.2⟩), by first | exact hx.bel | exact hx.bel.drew⟩
end Go.Proofs.YtpjjpdbmooiplaaGreatDoor
