import Derived.Test.YtlkkmafnjdbofaaZab
import Derived.Deep.RegionHeld3
import Derived.Deep.CutRange
import Derived.Test.YtlkkmafnjdbofaaDLay
import Derived.Test.YtlkkmafnjdbofaaProg
import Derived.ProofKit
import Derived.OpenShut
import Derived.Deep.Slices
import Derived.Test.YtlkkmafnjdbofaaDRwA
import Derived.Test.YtlkkmafnjdbofaaDTbA
namespace Go.Proofs.Ytlkkmafnjdbofaa
open Go.RowKit Go.Maps
set_option linter.unusedSimpArgs false
theorem zeroP7 (w : World) : (zeroValue 54).run Try.prog w = .ok (.pointer none) w := by
  have h : (Try.prog.info? 54).map (fun i => i.zero) = some (some (.pointer none)) := by kernel_rfl
  obtain ⟨i, hi, hz⟩ := Option.map_eq_some_iff.1 h
  simp [zeroValue, typeInfo, hi, hz]
theorem look7 {w : World} {m n : Nat} {D : DataW Value} {l : List RowV} {rb roff : Nat} (hown : w.ownsMap Try.prog 3 ptrR m n D) (hs : ShM D l rb roff l.length) {id : Int} (hid : iOK id) : (Instr.lookup 56 (.map (some m)) (.int .i64 id) false).run Try.prog w = .ok (ptrOf l rb roff l.length id) w := by
  obtain ⟨v, ps, hrun, hv⟩ := hown.lookup (t := 56) intK Try.underlying56 (zeroP7 w) (zd := .held (.pointer none)) (zp := []) rfl (keyOf_int_mk Try.underlying3 hid)
  rw [hs id] at hv
  simp only [ptrR, Option.some.injEq, Prod.mk.injEq, DataW.held.injEq] at hv
  rw [hrun, hv.1]
def inR7 (lo n hi : Int) : Bool := decide (lo ≤ n) && decide (n ≤ hi)
set_option maxHeartbeats 400000 in
theorem inRS7 (n lo hi : Int) (w : World) : Calls Try.prog 16 #[.int .i64 n, .int .i64 lo, .int .i64 hi] w fun e w' => e = .returned (.bool (inR7 lo n hi)) ∧ w' = w := by
  go_enter Try.func16, Try.ntmps16
  go_wp2
  · go_ret
    refine ⟨(congrArg (fun b => Ending.returned (Value.bool b)) (?_ : decide (n ≤ hi) = inR7 lo n hi) :), rfl⟩
    rw [Bool.eq_iff_iff]; simp [inR7]; try omega
  · go_ret
    refine ⟨(congrArg (fun b => Ending.returned (Value.bool b)) (?_ : false = inR7 lo n hi) :), rfl⟩
    rw [Bool.eq_iff_iff]; simp [inR7]; try omega
theorem sch_of7 {l : List Tb} (h : schB l = true) : SchP l := by unfold schB at h; exact @of_decide_eq_true _ (Classical.propDecidable _) h
theorem tab_of7 {t : Tb} (h : tabB t = true) : TabP t := by unfold tabB at h; exact @of_decide_eq_true _ (Classical.propDecidable _) h
/-- count and code of StrongCount -/
noncomputable def scR (l : List Tb) (x : StV) (t id : Int) : Int × Int :=
  if (schB l && formB l x) = true then
    if 0 ≤ t ∧ t < x.tables.length then
      if rplI (x.tables.getD t.toNat []) id < 0 then (0, 5)
      else (((strongN l x.tables (l.getD t.toNat tbZ).nm ⟨4, id, []⟩ l.length : Nat) : Int), 0)
    else (0, 10)
  else (0, 1)
theorem sc_bad {l : List Tb} {x : StV} {t id : Int} (h : (schB l && formB l x) = false) : scR l x t id = (0, 1) := by unfold scR; rw [h]; rfl
theorem sc_tab {l : List Tb} {x : StV} {t id : Int} (h : (schB l && formB l x) = true) (ht : ¬ (0 ≤ t ∧ t < x.tables.length)) : scR l x t id = (0, 10) := by unfold scR; rw [if_pos h, if_neg ht]
theorem sc_none {l : List Tb} {x : StV} {i : Nat} {id : Int} (h : (schB l && formB l x) = true) (hi : i < x.tables.length) (hr : rplI x.tables[i] id = -1) : scR l x i id = (0, 5) := by
  unfold scR
  rw [if_pos h, if_pos ⟨by omega, by omega⟩, Int.toNat_natCast, getD_tab hi, hr]; rfl
theorem sc_ok {l : List Tb} {x : StV} {i k : Nat} {id : Int} (h : (schB l && formB l x) = true) (hi : i < x.tables.length) (hl : i < l.length) (hr : rplI x.tables[i] id = k) : scR l x i id = (((strongN l x.tables l[i].nm ⟨4, id, []⟩ l.length : Nat) : Int), 0) := by
  unfold scR
  rw [if_pos h, if_pos ⟨by omega, by omega⟩, Int.toNat_natCast, getD_tab hi, getD_tab hl, hr, if_neg (by omega)]
set_option maxRecDepth 100000 in
set_option maxHeartbeats 6400000 in
theorem scS (l : List Tb) (sa : Option Addr) (sc : Nat) (A : Nat → Prop) (x : StV) (xa : Option Addr) (xc : Nat) (B : Nat → Prop) (t id : Int) (w : World) (hlo : (dTableS l).le maxLen) (ho : (dRowSS x.tables).le maxLen) (hid : iOK id) (hT : Rd w A (dTableS l) (.slice sa l.length sc)) (hR : Rd w B (dRowSS x.tables) (.slice xa x.tables.length xc)) :
    Calls Try.prog 6 #[.agg #[.slice sa l.length sc], .agg #[.slice xa x.tables.length xc, .int .i64 x.next], .int .i64 t, .int .i64 id] w fun e w' => e = .returned (.tuple #[.int .i64 (scR l x t id).1, .int .i64 (scR l x t id).2]) ∧ Below w.heap.size w w' := by
  have HS : Hid (∀ W, Below w.heap.size w W → Rd W B (Ls 1 cRowS x.tables) (.slice xa x.tables.length xc)) := fun W h => Rd.later hR h
  have HO := Lib.hid (And.intro ho hid)
  have hll : l.length ≤ maxLen := (Ls_le.1 hlo).2.1
  unfold maxLen at hll
  have hb := boxE 34 38 w #[.slice sa l.length sc] #[.slice xa x.tables.length xc, .int .i64 x.next]
  have x0 := cell_at (o := 0) hb.a rfl
  have y0 := cell_at (o := 0) hb.b rfl
  have y1 := cell_at (o := 1) hb.b rfl
  have HB := Lib.hid hb
  clear hb
  have SO : Hid (∀ W, BoxE 34 38 w W #[.slice sa l.length sc] #[.slice xa x.tables.length xc, .int .i64 x.next] → Calls Try.prog 14 #[.agg #[.slice sa l.length sc]] W fun e w' => e = .returned (.bool (schB l)) ∧ BoxE 34 38 w w' #[.slice sa l.length sc] #[.slice xa x.tables.length xc, .int .i64 x.next]) := fun W h => by
    obtain ⟨Ad, hA⟩ := (hT.later h.bel).tabs
    exact (schemaS l sa sc Ad A W (le_tables hlo) hA).mono (fun e w' ⟨he, hB⟩ => ⟨he, h.later hB⟩)
  have FO : Hid (∀ W, BoxE 34 38 w W #[.slice sa l.length sc] #[.slice xa x.tables.length xc, .int .i64 x.next] → Calls Try.prog 15 #[.agg #[.slice sa l.length sc], .agg #[.slice xa x.tables.length xc, .int .i64 x.next]] W fun e w' => e = .returned (.bool (formB l x)) ∧ BoxE 34 38 w w' #[.slice sa l.length sc] #[.slice xa x.tables.length xc, .int .i64 x.next]) := fun W h => (formS l sa sc A x xa xc B W hlo ho (hT.later h.bel) (hR.later h.bel)).mono (fun e w' ⟨he, hB⟩ => ⟨he, h.later hB⟩)
  have ST : Hid (∀ i : Nat, ∀ hi : i < l.length, (schB l && formB l x) = true → ∀ W, BoxE 34 38 w W #[.slice sa l.length sc] #[.slice xa x.tables.length xc, .int .i64 x.next] → Calls Try.prog 18 #[.agg #[.slice sa l.length sc], .agg #[.slice xa x.tables.length xc, .int .i64 x.next], .int .i64 i, .int .i64 id] W fun e w' => e = .returned (.int .i64 (strongN l x.tables l[i].nm ⟨4, id, []⟩ l.length)) ∧ BoxE 34 38 w w' #[.slice sa l.length sc] #[.slice xa x.tables.length xc, .int .i64 x.next]) := fun i hi hsf W h => by
    rw [Bool.and_eq_true] at hsf
    have hs := sch_of7 hsf.1
    exact (strongS l sa sc A x xa xc B i hi id W hlo ho (by have := hs.len; omega) (fun i h => by have := (tab_of7 (hs.tab i h)).len; omega) (form_of hsf.2) (hT.later h.bel) (hR.later h.bel)).mono (fun e w' ⟨he, hB⟩ => ⟨he, h.later hB⟩)
  clear hlo ho hid hT hR
  cases hs : schB l
  case false =>
    have HP : Hid (scR l x t id = (0, 1)) := sc_bad (by rw [hs]; rfl)
    rw [hs] at SO
    clear hs ST FO
    go_enter Try.func6, Try.ntmps6
    go_wp2_with fail
    refine (SO.out _ HB.out).mono ?_
    rintro e w1 ⟨rfl, hb⟩
    have HB1 := Lib.hid hb
    clear x0 y0 y1
    have x0 := cell_at (o := 0) hb.a rfl
    have y0 := cell_at (o := 0) hb.b rfl
    have y1 := cell_at (o := 1) hb.b rfl
    clear hb
    go_wp2_with fail
    exact bodyPost_ret (v := .tuple #[.int .i64 0, .int .i64 1]) (by simp [results, Try.results6, go_sem, *]) rfl ⟨by rw [HP.out], HB1.out.bel⟩
  rw [hs] at SO
  cases hf : formB l x
  case false =>
    have HP : Hid (scR l x t id = (0, 1)) := sc_bad (by rw [hs, hf]; rfl)
    rw [hf] at FO
    clear hs hf ST
    go_enter Try.func6, Try.ntmps6
    go_wp2_with fail
    refine (SO.out _ HB.out).mono ?_
    rintro e w1 ⟨rfl, hb⟩
    have HB1 := Lib.hid hb
    clear x0 y0 y1
    have x0 := cell_at (o := 0) hb.a rfl
    have y0 := cell_at (o := 0) hb.b rfl
    have y1 := cell_at (o := 1) hb.b rfl
    clear hb
    go_wp2_with fail
    refine (FO.out _ HB1.out).mono ?_
    rintro e w2 ⟨rfl, hb⟩
    have HB2 := Lib.hid hb
    clear x0 y0 y1
    have x0 := cell_at (o := 0) hb.a rfl
    have y0 := cell_at (o := 0) hb.b rfl
    have y1 := cell_at (o := 1) hb.b rfl
    clear hb
    go_wp2_with fail
    exact bodyPost_ret (v := .tuple #[.int .i64 0, .int .i64 1]) (by simp [results, Try.results6, go_sem, *]) rfl ⟨by rw [HP.out], HB2.out.bel⟩
  rw [hf] at FO
  have HSF : Hid ((schB l && formB l x) = true) := by show (schB l && formB l x) = true; rw [hs, hf]; rfl
  have hlen : x.tables.length = l.length := (form_of hf).1
  clear hs hf
  by_cases ht : 0 ≤ t ∧ t < x.tables.length
  case neg =>
    have hc : inR7 0 t ((l.length : Int) - 1) = false := by unfold inR7; simp; omega
    have HP : Hid (scR l x t id = (0, 10)) := sc_tab HSF.out ht
    have IN := Lib.hid (fun W => inRS7 t 0 ((l.length : Int) - 1) W)
    rw [hc] at IN
    have hws : IntKind.i64.wrap ((l.length : Int) - 1) = (l.length : Int) - 1 := by rw [IntKind.wrap_i64]; omega
    clear hc ht ST hlen
    go_enter Try.func6, Try.ntmps6
    go_wp2_with fail
    refine (SO.out _ HB.out).mono ?_
    rintro e w1 ⟨rfl, hb⟩
    have HB1 := Lib.hid hb
    clear x0 y0 y1
    have x0 := cell_at (o := 0) hb.a rfl
    have y0 := cell_at (o := 0) hb.b rfl
    have y1 := cell_at (o := 1) hb.b rfl
    clear hb
    go_wp2_with fail
    refine (FO.out _ HB1.out).mono ?_
    rintro e w2 ⟨rfl, hb⟩
    have HB2 := Lib.hid hb
    clear x0 y0 y1
    have x0 := cell_at (o := 0) hb.a rfl
    have y0 := cell_at (o := 0) hb.b rfl
    have y1 := cell_at (o := 1) hb.b rfl
    clear hb
    go_wp2_with fail
    refine (IN.out _).mono ?_
    rintro e w3 ⟨rfl, rfl⟩
    go_wp2_with fail
    exact bodyPost_ret (v := .tuple #[.int .i64 0, .int .i64 10]) (by simp [results, Try.results6, go_sem, *]) rfl ⟨by rw [HP.out], HB2.out.bel⟩
  have hc : inR7 0 t ((l.length : Int) - 1) = true := by unfold inR7; simp; omega
  have IN := Lib.hid (fun W => inRS7 t 0 ((l.length : Int) - 1) W)
  rw [hc] at IN
  have hws : IntKind.i64.wrap ((l.length : Int) - 1) = (l.length : Int) - 1 := by rw [IntKind.wrap_i64]; omega
  obtain ⟨i, rfl⟩ : ∃ i : Nat, t = (i : Int) := ⟨t.toNat, by omega⟩
  have hi : i < x.tables.length := by omega
  have hil : i < l.length := by omega
  have hi1 : (i : Int) < (x.tables.length : Int) := by omega
  clear hc ht hlen
  go_enter Try.func6, Try.ntmps6
  go_wp2_with fail
  refine (SO.out _ HB.out).mono ?_
  rintro e w1 ⟨rfl, hb⟩
  have HB1 := Lib.hid hb
  clear x0 y0 y1
  have x0 := cell_at (o := 0) hb.a rfl
  have y0 := cell_at (o := 0) hb.b rfl
  have y1 := cell_at (o := 1) hb.b rfl
  clear hb
  go_wp2_with fail
  refine (FO.out _ HB1.out).mono ?_
  rintro e w2 ⟨rfl, hb⟩
  have HB2 := Lib.hid hb
  clear x0 y0 y1
  have x0 := cell_at (o := 0) hb.a rfl
  have y0 := cell_at (o := 0) hb.b rfl
  have y1 := cell_at (o := 1) hb.b rfl
  clear hb
  go_wp2_with fail
  refine (IN.out _).mono ?_
  rintro e w3 ⟨rfl, rfl⟩
  have HB3 := HB2
  obtain ⟨b, off, rfl, -, hcc⟩ := (HS.out _ HB3.out.bel).things i hi
  obtain ⟨u0, c0, r0⟩ := hcc 0 (by omega)
  replace r0 : Rd w3 B (dRowS x.tables[i]) u0 := r0
  obtain ⟨ra, rq, rfl⟩ := r0.lsSlice
  rw [Nat.mul_one] at c0
  replace c0 : w3.cell? ⟨b, off + i, none⟩ = _ := c0
  have KL : Hid ((dRowS x.tables[i]).le maxLen) := (Ls_le.1 HO.out.1).2.2 i hi 0 (by omega)
  have HPN : Hid (rplI x.tables[i] id = -1 → scR l x i id = (0, 5)) := fun h => sc_none HSF.out hi h
  have HPO : Hid (∀ k : Nat, rplI x.tables[i] id = k → scR l x i id = (((strongN l x.tables l[i].nm ⟨4, id, []⟩ l.length : Nat) : Int), 0)) := fun k h => sc_ok HSF.out hi hil h
  have SI := Lib.hid (ST.out i hil HSF.out)
  have RP : Hid (∀ (e : Ending) (w' : World), (e = .returned (.int .i64 (rplI x.tables[i] id)) ∧ Below w3.heap.size w3 w') → (e = .returned (.int .i64 (rplI x.tables[i] id)) ∧ BoxE 34 38 w w' #[.slice sa l.length sc] #[.slice (some ⟨b, off, none⟩) x.tables.length xc, .int .i64 x.next])) := fun e w' h => ⟨h.1, HB3.out.later h.2⟩
  have RC := Lib.hid ((rplS x.tables[i] ra rq id B w3 (Ls_le.1 KL.out).2.1 r0).mono (fun e w' h => RP.out e w' h))
  have hneg : decide ((-1 : Int) < 0) = true := rfl
  clear hcc r0 ST RP
  rcases rpl_cases x.tables[i] id with ⟨hr, hno⟩ | ⟨k, hkl, hr, hke, hkn⟩
  · have HP := Lib.hid (HPN.out hr)
    rw [hr] at RC
    clear hr hno HPN HPO SI
    go_wp2_with fail
    refine (RC.out).mono ?_
    rintro e w4 ⟨rfl, hb⟩
    have HB4 := Lib.hid hb
    clear x0 y0 y1
    have x0 := cell_at (o := 0) hb.a rfl
    have y0 := cell_at (o := 0) hb.b rfl
    have y1 := cell_at (o := 1) hb.b rfl
    clear hb
    go_wp2_with fail
    exact bodyPost_ret (v := .tuple #[.int .i64 0, .int .i64 5]) (by simp [results, Try.results6, go_sem, *]) rfl ⟨by rw [HP.out], HB4.out.bel⟩
  · have HP := Lib.hid (HPO.out k hr)
    rw [hr] at RC
    have hkn0 : decide ((k : Int) < 0) = false := by simp
    clear hr hke hkn HPN HPO
    go_wp2_with fail
    refine (RC.out).mono ?_
    rintro e w4 ⟨rfl, hb⟩
    have HB4 := Lib.hid hb
    clear x0 y0 y1
    have x0 := cell_at (o := 0) hb.a rfl
    have y0 := cell_at (o := 0) hb.b rfl
    have y1 := cell_at (o := 1) hb.b rfl
    clear hb
    go_wp2_with fail
    refine (SI.out _ HB4.out).mono ?_
    rintro e w5 ⟨rfl, hb⟩
    have HB5 := Lib.hid hb
    clear x0 y0 y1
    clear hb
    go_wp2_with fail
    exact bodyPost_ret (v := .tuple #[.int .i64 ((strongN l x.tables l[i].nm ⟨4, id, []⟩ l.length : Nat) : Int), .int .i64 0]) (by simp [results, Try.results6, go_sem, *]) rfl ⟨by rw [HP.out], HB5.out.bel⟩
set_option maxRecDepth 100000 in
set_option maxHeartbeats 6400000 in
theorem scI (l : List Tb) (sa : Option Addr) (sc : Nat) (A : Nat → Prop) (x : StV) (xa : Option Addr) (xc : Nat) (B : Nat → Prop) (t id : Int) (w : World) (hlo : (dTableS l).le maxLen) (ho : (dRowSS x.tables).le maxLen) (hid : iOK id) (hT : Rd w A (dTableS l) (.slice sa l.length sc)) (hR : Rd w B (dRowSS x.tables) (.slice xa x.tables.length xc)) :
    Calls Try.prog 9 #[.agg #[.slice sa l.length sc], .agg #[.slice xa x.tables.length xc, .int .i64 x.next], .int .i64 t, .int .i64 id] w fun e w' => e = .returned (.tuple #[.int .i64 (scR l x t id).1, .int .i64 (scR l x t id).2]) ∧ Below w.heap.size w w' := by
  have HS : Hid (∀ W, Below w.heap.size w W → Rd W B (Ls 1 cRowS x.tables) (.slice xa x.tables.length xc)) := fun W h => Rd.later hR h
  have HO := Lib.hid (And.intro ho hid)
  have hll : l.length ≤ maxLen := (Ls_le.1 hlo).2.1
  unfold maxLen at hll
  have hb := boxE 34 38 w #[.slice sa l.length sc] #[.slice xa x.tables.length xc, .int .i64 x.next]
  have x0 := cell_at (o := 0) hb.a rfl
  have y0 := cell_at (o := 0) hb.b rfl
  have y1 := cell_at (o := 1) hb.b rfl
  have HB := Lib.hid hb
  clear hb
  have FI : Hid (∀ W, BoxE 34 38 w W #[.slice sa l.length sc] #[.slice xa x.tables.length xc, .int .i64 x.next] → Calls Try.prog 21 #[.agg #[.slice sa l.length sc], .agg #[.slice xa x.tables.length xc, .int .i64 x.next]] W fun e w' => e = .returned (.bool (schB l && formB l x)) ∧ BoxE 34 38 w w' #[.slice sa l.length sc] #[.slice xa x.tables.length xc, .int .i64 x.next]) := fun W h => (storeFitsI l sa sc A x xa xc B W hlo ho (hT.later h.bel) (hR.later h.bel)).mono (fun e w' ⟨he, hB⟩ => ⟨he, h.later hB⟩)
  have HT : Hid (∀ W, BoxE 34 38 w W #[.slice sa l.length sc] #[.slice xa x.tables.length xc, .int .i64 x.next] → Calls Try.prog 22 #[.agg #[.slice xa x.tables.length xc, .int .i64 x.next], .int .i64 t] W fun e w' => e = .returned (.bool (hasT x t)) ∧ BoxE 34 38 w w' #[.slice sa l.length sc] #[.slice xa x.tables.length xc, .int .i64 x.next]) := fun W h => (hasTableI x t xa xc W).mono (fun e w' ⟨he, hB⟩ => ⟨he, h.later hB⟩)
  have ST : Hid (∀ i : Nat, ∀ hi : i < l.length, (schB l && formB l x) = true → ∀ W, BoxE 34 38 w W #[.slice sa l.length sc] #[.slice xa x.tables.length xc, .int .i64 x.next] → Calls Try.prog 24 #[.agg #[.slice sa l.length sc], .agg #[.slice xa x.tables.length xc, .int .i64 x.next], .int .i64 i, .int .i64 id] W fun e w' => e = .returned (.int .i64 (strongN l x.tables l[i].nm ⟨4, id, []⟩ l.length)) ∧ BoxE 34 38 w w' #[.slice sa l.length sc] #[.slice xa x.tables.length xc, .int .i64 x.next]) := fun i hi hsf W h => by
    rw [Bool.and_eq_true] at hsf
    have hs := sch_of7 hsf.1
    exact (strongCountI l sa sc A x xa xc B i hi id W hlo ho (by have := hs.len; omega) (fun i h => by have := (tab_of7 (hs.tab i h)).len; omega) (form_of hsf.2) (hT.later h.bel) (hR.later h.bel)).mono (fun e w' ⟨he, hB⟩ => ⟨he, h.later hB⟩)
  clear hlo ho hid hT hR
  cases hs : (schB l && formB l x)
  case false =>
    have HP : Hid (scR l x t id = (0, 1)) := sc_bad hs
    rw [hs] at FI
    clear hs ST HT
    go_enter Try.func9, Try.ntmps9
    go_wp2_with fail
    refine (FI.out _ HB.out).mono ?_
    rintro e w1 ⟨rfl, hb⟩
    have HB1 := Lib.hid hb
    clear x0 y0 y1
    have x0 := cell_at (o := 0) hb.a rfl
    have y0 := cell_at (o := 0) hb.b rfl
    have y1 := cell_at (o := 1) hb.b rfl
    clear hb
    go_wp2_with fail
    exact bodyPost_ret (v := .tuple #[.int .i64 0, .int .i64 1]) (by simp [results, Try.results9, go_sem, *]) rfl ⟨by rw [HP.out], HB1.out.bel⟩
  rw [hs] at FI
  have HSF := Lib.hid hs
  have hsf2 := hs
  rw [Bool.and_eq_true] at hsf2
  have HFM := Lib.hid (form_of hsf2.2)
  clear hs hsf2
  by_cases ht : 0 ≤ t ∧ t < x.tables.length
  case neg =>
    have hc : hasT x t = false := by unfold hasT; simpa using ht
    have HP : Hid (scR l x t id = (0, 10)) := sc_tab HSF.out ht
    rw [hc] at HT
    clear hc ht ST
    go_enter Try.func9, Try.ntmps9
    go_wp2_with fail
    refine (FI.out _ HB.out).mono ?_
    rintro e w1 ⟨rfl, hb⟩
    have HB1 := Lib.hid hb
    clear x0 y0 y1
    have x0 := cell_at (o := 0) hb.a rfl
    have y0 := cell_at (o := 0) hb.b rfl
    have y1 := cell_at (o := 1) hb.b rfl
    clear hb
    go_wp2_with fail
    refine (HT.out _ HB1.out).mono ?_
    rintro e w2 ⟨rfl, hb⟩
    have HB2 := Lib.hid hb
    clear x0 y0 y1
    have x0 := cell_at (o := 0) hb.a rfl
    have y0 := cell_at (o := 0) hb.b rfl
    have y1 := cell_at (o := 1) hb.b rfl
    clear hb
    go_wp2_with fail
    exact bodyPost_ret (v := .tuple #[.int .i64 0, .int .i64 10]) (by simp [results, Try.results9, go_sem, *]) rfl ⟨by rw [HP.out], HB2.out.bel⟩
  have hc : hasT x t = true := by unfold hasT; simpa using ht
  rw [hc] at HT
  obtain ⟨i, rfl⟩ : ∃ i : Nat, t = (i : Int) := ⟨t.toNat, by omega⟩
  have hi : i < x.tables.length := by omega
  have hil : i < l.length := by have := HFM.out.1; omega
  have hi1 : (i : Int) < (x.tables.length : Int) := by omega
  have HPL := Lib.hid (HFM.out.2.2 i hil hi).2.1
  clear hc ht
  go_enter Try.func9, Try.ntmps9
  go_wp2_with fail
  refine (FI.out _ HB.out).mono ?_
  rintro e w1 ⟨rfl, hb⟩
  have HB1 := Lib.hid hb
  clear x0 y0 y1
  have x0 := cell_at (o := 0) hb.a rfl
  have y0 := cell_at (o := 0) hb.b rfl
  have y1 := cell_at (o := 1) hb.b rfl
  clear hb
  go_wp2_with fail
  refine (HT.out _ HB1.out).mono ?_
  rintro e w3 ⟨rfl, hb⟩
  have HB3 := Lib.hid hb
  clear x0 y0 y1
  have x0 := cell_at (o := 0) hb.a rfl
  have y0 := cell_at (o := 0) hb.b rfl
  have y1 := cell_at (o := 1) hb.b rfl
  clear hb
  obtain ⟨b, off, rfl, -, hcc⟩ := (HS.out _ HB3.out.bel).things i hi
  obtain ⟨u0, c0, r0⟩ := hcc 0 (by omega)
  replace r0 : Rd w3 B (dRowS x.tables[i]) u0 := r0
  obtain ⟨ra, rq, rfl⟩ := r0.lsSlice
  rw [Nat.mul_one] at c0
  replace c0 : w3.cell? ⟨b, off + i, none⟩ = _ := c0
  have KL : Hid ((dRowS x.tables[i]).le maxLen) := (Ls_le.1 HO.out.1).2.2 i hi 0 (by omega)
  have HPN : Hid (rplI x.tables[i] id = -1 → scR l x i id = (0, 5)) := fun h => sc_none HSF.out hi h
  have HPO : Hid (∀ k : Nat, rplI x.tables[i] id = k → scR l x i id = (((strongN l x.tables l[i].nm ⟨4, id, []⟩ l.length : Nat) : Int), 0)) := fun k h => sc_ok HSF.out hi hil h
  have SI := Lib.hid (ST.out i hil HSF.out)
  obtain ⟨rb, roff, hra⟩ : ∃ rb roff, 0 < x.tables[i].length → ra = some ⟨rb, roff, none⟩ := by
    by_cases h0 : 0 < x.tables[i].length
    · obtain ⟨rb, roff, h, -⟩ := Rd.things (d := dRow) (n := 2) r0 0 h0
      exact ⟨rb, roff, fun _ => h⟩
    · exact ⟨0, 0, fun h => absurd h h0⟩
  have SH := Lib.hid (shelveI x.tables[i] ra rq rb roff B w3 hra KL.out r0)
  clear hcc r0 hra ST
  go_wp2_with fail
  refine SH.out.mono ?_
  rintro e w4 ⟨m, D, rfl, hown, hsh, hm, hB4⟩
  have hlook := look7 hown hsh HO.out.2
  have HB4 := Lib.hid (HB3.out.later hB4)
  clear hown hsh hB4 x0 y0 y1 c0
  have x0 := cell_at (o := 0) HB4.out.a rfl
  have y0 := cell_at (o := 0) HB4.out.b rfl
  have y1 := cell_at (o := 1) HB4.out.b rfl
  rcases rpl_cases x.tables[i] id with ⟨hr, hno⟩ | ⟨k, hkl, hr, hke, hkn⟩
  · have HP := Lib.hid (HPN.out hr)
    rw [ptr_none (Nat.le_refl _) hno] at hlook
    clear hr hno HPN HPO SI
    go_wp2_with fail
    exact bodyPost_ret (v := .tuple #[.int .i64 0, .int .i64 5]) (by simp [results, Try.results9, go_sem, *]) rfl ⟨by rw [HP.out], HB4.out.bel⟩
  · have HP := Lib.hid (HPO.out k hr)
    rw [ptr_at (rise_uniq HPL.out) hkl hke (Nat.le_refl _) hkl] at hlook
    clear hr hke hkn HPN HPO
    go_wp2_with fail
    refine (SI.out _ HB4.out).mono ?_
    rintro e w5 ⟨rfl, hb⟩
    have HB5 := Lib.hid hb
    clear x0 y0 y1
    clear hb
    go_wp2_with fail
    exact bodyPost_ret (v := .tuple #[.int .i64 ((strongN l x.tables l[i].nm ⟨4, id, []⟩ l.length : Nat) : Int), .int .i64 0]) (by simp [results, Try.results9, go_sem, *]) rfl ⟨by rw [HP.out], HB5.out.bel⟩
end Go.Proofs.Ytlkkmafnjdbofaa
namespace Go.Proofs.Ytlkkmafnjdbofaa
open Go.RowKit
set_option linter.unusedSimpArgs false
set_option maxRecDepth 100000 in
set_option maxHeartbeats 12800000 in
theorem lawStrongCount (x0 : ScV) (x1 : StV) (x2 : Int) (x3 : Int) (a0_0 : Option Addr) (c0_0 : Nat) (a1_0 : Option Addr) (c1_0 : Nat) (w : World) (l0_0 : (dTableS x0.tables).le maxLen) (l1_0 : (dRowSS x1.tables).le maxLen) (l1_1 : iOK x1.next) (l2 : iOK x2) (l3 : iOK x3) (r0_0 : Rd w (· < w.heap.size) (dTableS x0.tables) (.slice a0_0 x0.tables.length c0_0)) (r1_0 : Rd w (· < w.heap.size) (dRowSS x1.tables) (.slice a1_0 x1.tables.length c1_0)) :
    Calls Try.prog 3 #[.agg #[.slice a0_0 x0.tables.length c0_0], .agg #[.slice a1_0 x1.tables.length c1_0, .int .i64 x1.next], .int .i64 x2, .int .i64 x3] w fun e w' => e = .returned (.bool true) ∧ Below w.heap.size w w' := by
  have HL0_0 := Lib.hid l0_0
  have HO0 : Hid (∀ j, j < 1 → (dSchema x0 j).le maxLen) := fun j hj => by
    obtain rfl : j = 0 := by omega
    exact l0_0
  have RA0_0 : Hid (∀ W, Below w.heap.size w W → Rd W (· < w.heap.size) (dTableS x0.tables) (.slice a0_0 x0.tables.length c0_0)) := fun W h => Rd.same (fun b hb => h.block b hb) (fun _ h => h) _ _ r0_0
  have HL1_0 := Lib.hid l1_0
  have HO1 : Hid (∀ j, j < 2 → (dStore x1 j).le maxLen) := fun j hj => by
    rcases (by omega : j = 0 ∨ j = 1) with rfl | rfl
    · exact l1_0
    · exact l1_1
  have RA1_0 : Hid (∀ W, Below w.heap.size w W → Rd W (· < w.heap.size) (dRowSS x1.tables) (.slice a1_0 x1.tables.length c1_0)) := fun W h => Rd.same (fun b hb => h.block b hb) (fun _ h => h) _ _ r1_0
  have HW2 := Lib.hid l2
  have HW3 := Lib.hid l3
  have ALAT : Hid (∀ W W', (Below w.heap.size w W ∧ W.heap[w.heap.size]? = some (.cells #[.slice a0_0 x0.tables.length c0_0] 24) ∧ W.heap[w.heap.size + 1]? = some (.cells #[.slice a1_0 x1.tables.length c1_0, .int .i64 x1.next] 27)) → Below W.heap.size W W' → (Below w.heap.size w W' ∧ W'.heap[w.heap.size]? = some (.cells #[.slice a0_0 x0.tables.length c0_0] 24) ∧ W'.heap[w.heap.size + 1]? = some (.cells #[.slice a1_0 x1.tables.length c1_0, .int .i64 x1.next] 27))) := fun W W' h hB => ⟨h.1.trans (hB.mono h.1.size), heap_keptD h.2.1 hB, heap_keptD h.2.2 hB⟩
  have A0 : Hid (Below w.heap.size w ((w.alloc (.cells #[.slice a0_0 x0.tables.length c0_0] 24)).alloc (.cells #[.slice a1_0 x1.tables.length c1_0, .int .i64 x1.next] 27)) ∧ ((w.alloc (.cells #[.slice a0_0 x0.tables.length c0_0] 24)).alloc (.cells #[.slice a1_0 x1.tables.length c1_0, .int .i64 x1.next] 27)).heap[w.heap.size]? = some (.cells #[.slice a0_0 x0.tables.length c0_0] 24) ∧ ((w.alloc (.cells #[.slice a0_0 x0.tables.length c0_0] 24)).alloc (.cells #[.slice a1_0 x1.tables.length c1_0, .int .i64 x1.next] 27)).heap[w.heap.size + 1]? = some (.cells #[.slice a1_0 x1.tables.length c1_0, .int .i64 x1.next] 27)) := by
    refine ⟨(below_allocD _ _).trans ((below_allocD _ _).mono (by simp)), heap_keptD (heap_newD _ _) (below_allocD _ _), ?_⟩
    have h := heap_newD (w.alloc (.cells #[.slice a0_0 x0.tables.length c0_0] 24)) (.cells #[.slice a1_0 x1.tables.length c1_0, .int .i64 x1.next] 27)
    rw [size_allocD] at h
    exact h
  clear l0_0 r0_0 l1_0 r1_0 l2 l3 l1_1
  have x0_0 := cell_at (o := 0) A0.out.2.1 rfl
  have x1_0 := cell_at (o := 0) A0.out.2.2 rfl
  have x1_1 := cell_at (o := 1) A0.out.2.2 rfl
  go_enter Try.func3, Try.ntmps3
  go_wp2_with fail
  have bl : Hid ((0 : Int) ≤ 1048576 ∧ (1048576 : Int) ≤ 1048576) := by show _ ∧ _; omega
  refine (szDSchema x0 a0_0 c0_0 1048576 _ _ bl.out.1 bl.out.2 HO0.out (RA0_0.out _ A0.out.1)).mono ?_
  rintro e ws0 ⟨rfl, hB⟩
  have AS0 := Lib.hid (ALAT.out _ _ A0.out hB)
  clear hB A0 x0_0 x1_0 x1_1
  have x0_0 := cell_at (o := 0) AS0.out.2.1 rfl
  have x1_0 := cell_at (o := 0) AS0.out.2.2 rfl
  have x1_1 := cell_at (o := 1) AS0.out.2.2 rfl
  by_cases hz0 : (1048576 : Int) - (szT 1 (dSchema x0) : Int) < 0
  case pos =>
    rw [less_no hz0]
    go_wp2_with fail
    go_ret
    exact ⟨rfl, AS0.out.1⟩
  rw [less_yes (by omega)]
  obtain ⟨L0, hL0⟩ : ∃ L0 : Int, L0 = 1048576 - (szT 1 (dSchema x0) : Int) := ⟨_, rfl⟩
  rw [← hL0]
  have dL0 : decide (L0 < 0) = false := decide_eq_false (by omega)
  have HZ0 : Hid (szT 1 (dSchema x0) ≤ 1048576) := by have := bl.out; show _ ≤ _; omega
  have b2 : Hid (0 ≤ L0 ∧ L0 ≤ 1048576) := by have := bl.out; show _ ∧ _; omega
  clear hz0 hL0 bl
  have bl := b2
  clear b2
  go_wp2_with fail
  refine (szDStore x1 a1_0 c1_0 L0 _ _ bl.out.1 bl.out.2 HO1.out (RA1_0.out _ AS0.out.1)).mono ?_
  rintro e ws1 ⟨rfl, hB⟩
  have AS1 := Lib.hid (ALAT.out _ _ AS0.out hB)
  clear hB AS0 x0_0 x1_0 x1_1
  have x0_0 := cell_at (o := 0) AS1.out.2.1 rfl
  have x1_0 := cell_at (o := 0) AS1.out.2.2 rfl
  have x1_1 := cell_at (o := 1) AS1.out.2.2 rfl
  by_cases hz1 : L0 - (szT 2 (dStore x1) : Int) < 0
  case pos =>
    rw [less_no hz1]
    go_wp2_with fail
    go_ret
    exact ⟨rfl, AS1.out.1⟩
  rw [less_yes (by omega)]
  obtain ⟨L1, hL1⟩ : ∃ L1 : Int, L1 = L0 - (szT 2 (dStore x1) : Int) := ⟨_, rfl⟩
  rw [← hL1]
  have dL1 : decide (L1 < 0) = false := decide_eq_false (by omega)
  have HZ1 : Hid (szT 2 (dStore x1) ≤ 1048576) := by have := bl.out; show _ ≤ _; omega
  have b2 : Hid (0 ≤ L1 ∧ L1 ≤ 1048576) := by have := bl.out; show _ ∧ _; omega
  clear hz1 hL1 bl
  have bl := b2
  clear b2
  go_wp2_with fail
  have HK0 : Hid (∀ j, j < 1 → (dSchema x0 j).le 1048576) := fun j hj => D.le_of_sz _ (HO0.out j hj) (Nat.le_trans (sumN_le (g := fun j => (dSchema x0 j).sz) hj) HZ0.out)
  have HK1 : Hid (∀ j, j < 2 → (dStore x1 j).le 1048576) := fun j hj => D.le_of_sz _ (HO1.out j hj) (Nat.le_trans (sumN_le (g := fun j => (dStore x1 j).sz) hj) HZ1.out)
  have TO0 : Hid (∀ W, (Below w.heap.size w W ∧ W.heap[w.heap.size]? = some (.cells #[.slice a0_0 x0.tables.length c0_0] 24) ∧ W.heap[w.heap.size + 1]? = some (.cells #[.slice a1_0 x1.tables.length c1_0, .int .i64 x1.next] 27)) → Calls Try.prog 7 #[.agg #[.slice a0_0 x0.tables.length c0_0]] W fun e w' => ∃ p0 : Nat, e = .returned (.agg #[.slice (some ⟨p0, 0, none⟩) x0.tables.length x0.tables.length]) ∧ Owns w' 1 (dSchema x0) (vat [.slice (some ⟨p0, 0, none⟩) x0.tables.length x0.tables.length]) (fun c => W.heap.size ≤ c ∧ c < w'.heap.size) ∧ Below W.heap.size W w' ∧ (Below w.heap.size w w' ∧ w'.heap[w.heap.size]? = some (.cells #[.slice a0_0 x0.tables.length c0_0] 24) ∧ w'.heap[w.heap.size + 1]? = some (.cells #[.slice a1_0 x1.tables.length c1_0, .int .i64 x1.next] 27))) := fun W h => (toDSchema x0 a0_0 c0_0 _ W HK0.out (RA0_0.out W h.1)).mono (fun e w' ⟨p0, he, ho, hB⟩ => ⟨p0, he, ho, hB, ALAT.out _ _ h hB⟩)
  have TO1 : Hid (∀ W, (Below w.heap.size w W ∧ W.heap[w.heap.size]? = some (.cells #[.slice a0_0 x0.tables.length c0_0] 24) ∧ W.heap[w.heap.size + 1]? = some (.cells #[.slice a1_0 x1.tables.length c1_0, .int .i64 x1.next] 27)) → Calls Try.prog 8 #[.agg #[.slice a1_0 x1.tables.length c1_0, .int .i64 x1.next]] W fun e w' => ∃ p0 : Nat, e = .returned (.agg #[.slice (some ⟨p0, 0, none⟩) x1.tables.length x1.tables.length, .int .i64 x1.next]) ∧ Owns w' 2 (dStore x1) (vat [.slice (some ⟨p0, 0, none⟩) x1.tables.length x1.tables.length, .int .i64 x1.next]) (fun c => W.heap.size ≤ c ∧ c < w'.heap.size) ∧ Below W.heap.size W w' ∧ (Below w.heap.size w w' ∧ w'.heap[w.heap.size]? = some (.cells #[.slice a0_0 x0.tables.length c0_0] 24) ∧ w'.heap[w.heap.size + 1]? = some (.cells #[.slice a1_0 x1.tables.length c1_0, .int .i64 x1.next] 27))) := fun W h => (toDStore x1 a1_0 c1_0 _ W HK1.out (RA1_0.out W h.1)).mono (fun e w' ⟨p0, he, ho, hB⟩ => ⟨p0, he, ho, hB, ALAT.out _ _ h hB⟩)
  have CS : Hid (∀ (W : World) (b0_0 : Option Addr) (e0_0 : Nat) (b1_0 : Option Addr) (e1_0 : Nat), Rd W (fun _ => True) (dTableS x0.tables) (.slice b0_0 x0.tables.length e0_0) → Rd W (fun _ => True) (dRowSS x1.tables) (.slice b1_0 x1.tables.length e1_0) → Calls Try.prog 6 #[.agg #[.slice b0_0 x0.tables.length e0_0], .agg #[.slice b1_0 x1.tables.length e1_0, .int .i64 x1.next], .int .i64 x2, .int .i64 x3] W fun e w' => e = .returned (.tuple #[.int .i64 ((scR x0.tables x1 x2 x3).1), .int .i64 ((scR x0.tables x1 x2 x3).2)]) ∧ Below W.heap.size W w') := fun W b0_0 e0_0 b1_0 e1_0 h0_0 h1_0 => scS x0.tables b0_0 e0_0 _ x1 b1_0 e1_0 _ x2 x3 W HL0_0.out HL1_0.out HW3.out h0_0 h1_0
  have CI : Hid (∀ (W : World) (b0_0 : Option Addr) (e0_0 : Nat) (b1_0 : Option Addr) (e1_0 : Nat), Rd W (fun _ => True) (dTableS x0.tables) (.slice b0_0 x0.tables.length e0_0) → Rd W (fun _ => True) (dRowSS x1.tables) (.slice b1_0 x1.tables.length e1_0) → Calls Try.prog 9 #[.agg #[.slice b0_0 x0.tables.length e0_0], .agg #[.slice b1_0 x1.tables.length e1_0, .int .i64 x1.next], .int .i64 x2, .int .i64 x3] W fun e w' => e = .returned (.tuple #[.int .i64 ((scR x0.tables x1 x2 x3).1), .int .i64 ((scR x0.tables x1 x2 x3).2)]) ∧ Below W.heap.size W w') := fun W b0_0 e0_0 b1_0 e1_0 h0_0 h1_0 => scI x0.tables b0_0 e0_0 _ x1 b1_0 e1_0 _ x2 x3 W HL0_0.out HL1_0.out HW3.out h0_0 h1_0
  have nq0 := bne_self_eq_false ((scR x0.tables x1 x2 x3).1)
  generalize ((scR x0.tables x1 x2 x3).1) = R0 at *
  have nq1 := bne_self_eq_false ((scR x0.tables x1 x2 x3).2)
  generalize ((scR x0.tables x1 x2 x3).2) = R1 at *
  have EQ0 : Hid (∀ (W : World) (b0 : Option Addr) (e0 : Nat) (f0 : Option Addr) (g0 : Nat), Rd W (fun _ => True) (dTableS x0.tables) (.slice b0 x0.tables.length e0) → Rd W (fun _ => True) (dTableS x0.tables) (.slice f0 x0.tables.length g0) → Calls Try.prog 10 #[.agg #[.slice b0 x0.tables.length e0], .agg #[.slice f0 x0.tables.length g0]] W fun e w' => e = .returned (.bool true) ∧ Below W.heap.size W w') := fun W b0 e0 f0 g0 h0 i0 => eqDSchema x0 b0 e0 f0 g0 _ _ W HO0.out h0 i0
  have EQ1 : Hid (∀ (W : World) (b0 : Option Addr) (e0 : Nat) (f0 : Option Addr) (g0 : Nat), Rd W (fun _ => True) (dRowSS x1.tables) (.slice b0 x1.tables.length e0) → Rd W (fun _ => True) (dRowSS x1.tables) (.slice f0 x1.tables.length g0) → Calls Try.prog 11 #[.agg #[.slice b0 x1.tables.length e0, .int .i64 x1.next], .agg #[.slice f0 x1.tables.length g0, .int .i64 x1.next]] W fun e w' => e = .returned (.bool true) ∧ Below W.heap.size W w') := fun W b0 e0 f0 g0 h0 i0 => eqDStore x1 b0 e0 f0 g0 _ _ W HO1.out h0 i0
  have CE : Hid (∀ W, (Below w.heap.size w W ∧ W.heap[w.heap.size]? = some (.cells #[.slice a0_0 x0.tables.length c0_0] 24) ∧ W.heap[w.heap.size + 1]? = some (.cells #[.slice a1_0 x1.tables.length c1_0, .int .i64 x1.next] 27)) → (W.cell? ⟨w.heap.size, 0, none⟩ = some (.slice a0_0 x0.tables.length c0_0) ∧ W.cell? ⟨w.heap.size + 1, 0, none⟩ = some (.slice a1_0 x1.tables.length c1_0) ∧ W.cell? ⟨w.heap.size + 1, 1, none⟩ = some (.int .i64 x1.next))) := fun W h => ⟨cell_at (o := 0) h.2.1 rfl, cell_at (o := 0) h.2.2 rfl, cell_at (o := 1) h.2.2 rfl⟩
  have hx := AS1.out
  refine wp_region_held_drew (S := (fun W => W.cell? ⟨w.heap.size, 0, none⟩ = some (.slice a0_0 x0.tables.length c0_0) ∧ W.cell? ⟨w.heap.size + 1, 0, none⟩ = some (.slice a1_0 x1.tables.length c1_0) ∧ W.cell? ⟨w.heap.size + 1, 1, none⟩ = some (.int .i64 x1.next))) (by kernel_rfl) ?_ (fun hHeld => ?_)
  · (first | exact CE.out _ hx | exact CE.out _ (ALAT.out _ _ hx (Below.refl _ _).drew))
  refine wpAnyH_take (i := 0) (v := ?_) rfl (by kernel_rfl) (by kernel_rfl) (by kernel_rfl) (fun _ _ _ h => h) (Or.inl ⟨by kernel_rfl, ?_⟩) (by assumption) ?_
  rotate_left
  · (intro wS hSw; (try dsimp only at hSw); go_simp <;> with_reducible rfl)
  try simp only [Act.put, List.getElem_toArray, List.getElem_cons_succ, List.getElem_cons_zero, List.setIfInBounds_toArray, List.set_cons_zero, List.set_cons_succ]
  refine wpAnyH_take (i := 2) (v := ?_) rfl (by kernel_rfl) (by kernel_rfl) (by kernel_rfl) (fun _ _ _ h => h) (Or.inl ⟨by kernel_rfl, ?_⟩) (by assumption) ?_
  rotate_left
  · (intro wS hSw; (try dsimp only at hSw); go_simp <;> with_reducible rfl)
  try simp only [Act.put, List.getElem_toArray, List.getElem_cons_succ, List.getElem_cons_zero, List.setIfInBounds_toArray, List.set_cons_zero, List.set_cons_succ]
  refine wpAnyH_take (i := 4) (v := ?_) rfl (by kernel_rfl) (by kernel_rfl) (by kernel_rfl) (fun _ _ _ h => h) (Or.inl ⟨by kernel_rfl, ?_⟩) (by assumption) ?_
  rotate_left
  · (intro wS hSw; (try dsimp only at hSw); go_simp <;> with_reducible rfl)
  try simp only [Act.put, List.getElem_toArray, List.getElem_cons_succ, List.getElem_cons_zero, List.setIfInBounds_toArray, List.set_cons_zero, List.set_cons_succ]
  refine wpAnyH_take (i := 5) (v := ?_) rfl (by kernel_rfl) (by kernel_rfl) (by kernel_rfl) (fun _ _ _ h => h) (Or.inl ⟨by kernel_rfl, ?_⟩) (by assumption) ?_
  rotate_left
  · (intro wS hSw; (try dsimp only at hSw); go_simp <;> with_reducible rfl)
  try simp only [Act.put, List.getElem_toArray, List.getElem_cons_succ, List.getElem_cons_zero, List.setIfInBounds_toArray, List.set_cons_zero, List.set_cons_succ]
  refine wpAnyH_ready (rs := [1]) (by kernel_rfl) (by simp) (AllReadyH.cons rfl (fun K hK => ?_) AllReadyH.nil)
  go_simp
  (go_at_call 7; refine (TO0.out _ (by first | exact hx | exact ALAT.out _ _ hx (Below.refl _ _).drew)).mono ?_; rintro e wt0 ⟨p0_0, rfl, ho0, hB0, hA0⟩; clear hx; have hx := hA0; clear hA0; have RC0_0 : Hid (Rd _ (fun _ => True) (dTableS x0.tables) (.slice (some ⟨p0_0, 0, none⟩) x0.tables.length x0.tables.length)) := (Owns.one ho0 (j := 0) (by omega)).rd'.any; clear ho0; clear hB0)
  refine hK.out _ _ ?_ (fun hHeld => ?_)
  · (first | exact CE.out _ hx | exact CE.out _ (ALAT.out _ _ hx (Below.refl _ _).drew))
  clear hK K
  try simp only [Act.put, List.getElem_toArray, List.getElem_cons_succ, List.getElem_cons_zero, List.setIfInBounds_toArray, List.set_cons_zero, List.set_cons_succ]
  refine wpAnyH_ready (rs := [3]) (by kernel_rfl) (by simp) (AllReadyH.cons rfl (fun K hK => ?_) AllReadyH.nil)
  go_simp
  (go_at_call 8; refine (TO1.out _ (by first | exact hx | exact ALAT.out _ _ hx (Below.refl _ _).drew)).mono ?_; rintro e wt1 ⟨p1_0, rfl, ho1, hB1, hA1⟩; clear hx; have hx := hA1; clear hA1; have RC1_0 : Hid (Rd _ (fun _ => True) (dRowSS x1.tables) (.slice (some ⟨p1_0, 0, none⟩) x1.tables.length x1.tables.length)) := (Owns.one ho1 (j := 0) (by omega)).rd'.any; have RE0_0 := Lib.hid (Rd.later RC0_0.out (by first | exact hB1 | exact (Below.refl _ _).drew.trans hB1)); clear RC0_0; have RC0_0 := RE0_0; clear RE0_0; clear ho1; clear hB1)
  refine hK.out _ _ ?_ (fun hHeld => ?_)
  · (first | exact CE.out _ hx | exact CE.out _ (ALAT.out _ _ hx (Below.refl _ _).drew))
  clear hK K
  try simp only [Act.put, List.getElem_toArray, List.getElem_cons_succ, List.getElem_cons_zero, List.setIfInBounds_toArray, List.set_cons_zero, List.set_cons_succ]
  refine wpAnyH_ready (rs := [6]) (by kernel_rfl) (by simp) (AllReadyH.cons rfl (fun K hK => ?_) AllReadyH.nil)
  go_simp
  (go_at_call 6; refine (CS.out _ _ _ _ _ (by first | exact RC0_0.out | exact RC0_0.out.later (Below.refl _ _).drew) (by first | exact RC1_0.out | exact RC1_0.out.later (Below.refl _ _).drew)).mono ?_; rintro e w2 ⟨rfl, hB2⟩; have h2 := ALAT.out _ _ hx (by first | exact hB2 | exact (Below.refl _ _).drew.trans hB2); clear hx hB2; have hx := h2; clear h2)
  refine hK.out _ _ ?_ (fun hHeld => ?_)
  · (first | exact CE.out _ hx | exact CE.out _ (ALAT.out _ _ hx (Below.refl _ _).drew))
  clear hK K
  try simp only [Act.put, List.getElem_toArray, List.getElem_cons_succ, List.getElem_cons_zero, List.setIfInBounds_toArray, List.set_cons_zero, List.set_cons_succ]
  refine wpAnyH_take (i := 7) (v := ?_) rfl (by kernel_rfl) (by kernel_rfl) (by kernel_rfl) (fun _ _ _ h => h) (Or.inl ⟨by kernel_rfl, ?_⟩) (by assumption) ?_
  rotate_left
  · (intro wS hSw; (try dsimp only at hSw); go_simp <;> with_reducible rfl)
  try simp only [Act.put, List.getElem_toArray, List.getElem_cons_succ, List.getElem_cons_zero, List.setIfInBounds_toArray, List.set_cons_zero, List.set_cons_succ]
  refine wpAnyH_take (i := 8) (v := ?_) rfl (by kernel_rfl) (by kernel_rfl) (by kernel_rfl) (fun _ _ _ h => h) (Or.inl ⟨by kernel_rfl, ?_⟩) (by assumption) ?_
  rotate_left
  · (intro wS hSw; (try dsimp only at hSw); go_simp <;> with_reducible rfl)
  try simp only [Act.put, List.getElem_toArray, List.getElem_cons_succ, List.getElem_cons_zero, List.setIfInBounds_toArray, List.set_cons_zero, List.set_cons_succ]
  refine wpAnyH_take (i := 9) (v := ?_) rfl (by kernel_rfl) (by kernel_rfl) (by kernel_rfl) (fun _ _ _ h => h) (Or.inl ⟨by kernel_rfl, ?_⟩) (by assumption) ?_
  rotate_left
  · (intro wS hSw; (try dsimp only at hSw); go_simp <;> with_reducible rfl)
  try simp only [Act.put, List.getElem_toArray, List.getElem_cons_succ, List.getElem_cons_zero, List.setIfInBounds_toArray, List.set_cons_zero, List.set_cons_succ]
  refine wpAnyH_take (i := 10) (v := ?_) rfl (by kernel_rfl) (by kernel_rfl) (by kernel_rfl) (fun _ _ _ h => h) (Or.inl ⟨by kernel_rfl, ?_⟩) (by assumption) ?_
  rotate_left
  · (intro wS hSw; (try dsimp only at hSw); go_simp <;> with_reducible rfl)
  try simp only [Act.put, List.getElem_toArray, List.getElem_cons_succ, List.getElem_cons_zero, List.setIfInBounds_toArray, List.set_cons_zero, List.set_cons_succ]
  refine wpAnyH_take (i := 11) (v := ?_) rfl (by kernel_rfl) (by kernel_rfl) (by kernel_rfl) (fun _ _ _ h => h) (Or.inl ⟨by kernel_rfl, ?_⟩) (by assumption) ?_
  rotate_left
  · (intro wS hSw; (try dsimp only at hSw); go_simp <;> with_reducible rfl)
  try simp only [Act.put, List.getElem_toArray, List.getElem_cons_succ, List.getElem_cons_zero, List.setIfInBounds_toArray, List.set_cons_zero, List.set_cons_succ]
  refine wpAnyH_done (by kernel_rfl) ?_ _
  clear AS1
  have A2 := Lib.hid hx
  clear hx x0_0 x1_0 x1_1 RC0_0 RC1_0
  have x0_0 := cell_at (o := 0) A2.out.2.1 rfl
  have x1_0 := cell_at (o := 0) A2.out.2.2 rfl
  have x1_1 := cell_at (o := 1) A2.out.2.2 rfl
  go_wp2_with fail
  refine (TO0.out _ (by first | exact A2.out | exact ALAT.out _ _ A2.out (Below.refl _ _).drew)).mono ?_
  rintro e wx0 ⟨p0_0, rfl, ho, hB, hA⟩
  have XS0L : Hid (∀ W W', (Below w.heap.size w W ∧ W.heap[w.heap.size]? = some (.cells #[.slice a0_0 x0.tables.length c0_0] 24) ∧ W.heap[w.heap.size + 1]? = some (.cells #[.slice a1_0 x1.tables.length c1_0, .int .i64 x1.next] 27) ∧ W.heap[wx0.heap.size]? = some (.cells #[.slice (some ⟨p0_0, 0, none⟩) x0.tables.length x0.tables.length] 34) ∧ Rd W (fun _ => True) (dTableS x0.tables) (.slice (some ⟨p0_0, 0, none⟩) x0.tables.length x0.tables.length)) → Below W.heap.size W W' → (Below w.heap.size w W' ∧ W'.heap[w.heap.size]? = some (.cells #[.slice a0_0 x0.tables.length c0_0] 24) ∧ W'.heap[w.heap.size + 1]? = some (.cells #[.slice a1_0 x1.tables.length c1_0, .int .i64 x1.next] 27) ∧ W'.heap[wx0.heap.size]? = some (.cells #[.slice (some ⟨p0_0, 0, none⟩) x0.tables.length x0.tables.length] 34) ∧ Rd W' (fun _ => True) (dTableS x0.tables) (.slice (some ⟨p0_0, 0, none⟩) x0.tables.length x0.tables.length))) := fun W W' h hB => ⟨h.1.trans (hB.mono h.1.size), heap_keptD h.2.1 hB, heap_keptD h.2.2.1 hB, heap_keptD h.2.2.2.1 hB, h.2.2.2.2.later hB⟩
  have Y0 : Hid (Below w.heap.size w (wx0.alloc (.cells #[.slice (some ⟨p0_0, 0, none⟩) x0.tables.length x0.tables.length] 34)) ∧ (wx0.alloc (.cells #[.slice (some ⟨p0_0, 0, none⟩) x0.tables.length x0.tables.length] 34)).heap[w.heap.size]? = some (.cells #[.slice a0_0 x0.tables.length c0_0] 24) ∧ (wx0.alloc (.cells #[.slice (some ⟨p0_0, 0, none⟩) x0.tables.length x0.tables.length] 34)).heap[w.heap.size + 1]? = some (.cells #[.slice a1_0 x1.tables.length c1_0, .int .i64 x1.next] 27) ∧ (wx0.alloc (.cells #[.slice (some ⟨p0_0, 0, none⟩) x0.tables.length x0.tables.length] 34)).heap[wx0.heap.size]? = some (.cells #[.slice (some ⟨p0_0, 0, none⟩) x0.tables.length x0.tables.length] 34) ∧ Rd (wx0.alloc (.cells #[.slice (some ⟨p0_0, 0, none⟩) x0.tables.length x0.tables.length] 34)) (fun _ => True) (dTableS x0.tables) (.slice (some ⟨p0_0, 0, none⟩) x0.tables.length x0.tables.length)) := ⟨hA.1.trans ((below_allocD _ _).mono hA.1.size), heap_keptD hA.2.1 (below_allocD _ _), heap_keptD hA.2.2 (below_allocD _ _), heap_newD _ _, Rd.later ((Owns.one ho (j := 0) (by omega)).rd'.any) (below_allocD _ _)⟩
  clear hB hA ho A2 x0_0 x1_0 x1_1
  have x0_0 := cell_at (o := 0) Y0.out.2.1 rfl
  have x1_0 := cell_at (o := 0) Y0.out.2.2.1 rfl
  have x1_1 := cell_at (o := 1) Y0.out.2.2.1 rfl
  have y0_0 := cell_at (o := 0) Y0.out.2.2.2.1 rfl
  go_wp2_with fail
  refine (TO1.out _ ⟨Y0.out.1, Y0.out.2.1, Y0.out.2.2.1⟩).mono ?_
  rintro e wx1 ⟨p1_0, rfl, ho, hB, hA⟩
  have XO := XS0L.out _ _ Y0.out hB
  have XS1L : Hid (∀ W W', (Below w.heap.size w W ∧ W.heap[w.heap.size]? = some (.cells #[.slice a0_0 x0.tables.length c0_0] 24) ∧ W.heap[w.heap.size + 1]? = some (.cells #[.slice a1_0 x1.tables.length c1_0, .int .i64 x1.next] 27) ∧ W.heap[wx0.heap.size]? = some (.cells #[.slice (some ⟨p0_0, 0, none⟩) x0.tables.length x0.tables.length] 34) ∧ Rd W (fun _ => True) (dTableS x0.tables) (.slice (some ⟨p0_0, 0, none⟩) x0.tables.length x0.tables.length) ∧ W.heap[wx1.heap.size]? = some (.cells #[.slice (some ⟨p1_0, 0, none⟩) x1.tables.length x1.tables.length, .int .i64 x1.next] 38) ∧ Rd W (fun _ => True) (dRowSS x1.tables) (.slice (some ⟨p1_0, 0, none⟩) x1.tables.length x1.tables.length)) → Below W.heap.size W W' → (Below w.heap.size w W' ∧ W'.heap[w.heap.size]? = some (.cells #[.slice a0_0 x0.tables.length c0_0] 24) ∧ W'.heap[w.heap.size + 1]? = some (.cells #[.slice a1_0 x1.tables.length c1_0, .int .i64 x1.next] 27) ∧ W'.heap[wx0.heap.size]? = some (.cells #[.slice (some ⟨p0_0, 0, none⟩) x0.tables.length x0.tables.length] 34) ∧ Rd W' (fun _ => True) (dTableS x0.tables) (.slice (some ⟨p0_0, 0, none⟩) x0.tables.length x0.tables.length) ∧ W'.heap[wx1.heap.size]? = some (.cells #[.slice (some ⟨p1_0, 0, none⟩) x1.tables.length x1.tables.length, .int .i64 x1.next] 38) ∧ Rd W' (fun _ => True) (dRowSS x1.tables) (.slice (some ⟨p1_0, 0, none⟩) x1.tables.length x1.tables.length))) := fun W W' h hB => ⟨h.1.trans (hB.mono h.1.size), heap_keptD h.2.1 hB, heap_keptD h.2.2.1 hB, heap_keptD h.2.2.2.1 hB, h.2.2.2.2.1.later hB, heap_keptD h.2.2.2.2.2.1 hB, h.2.2.2.2.2.2.later hB⟩
  have Y1 : Hid (Below w.heap.size w (wx1.alloc (.cells #[.slice (some ⟨p1_0, 0, none⟩) x1.tables.length x1.tables.length, .int .i64 x1.next] 38)) ∧ (wx1.alloc (.cells #[.slice (some ⟨p1_0, 0, none⟩) x1.tables.length x1.tables.length, .int .i64 x1.next] 38)).heap[w.heap.size]? = some (.cells #[.slice a0_0 x0.tables.length c0_0] 24) ∧ (wx1.alloc (.cells #[.slice (some ⟨p1_0, 0, none⟩) x1.tables.length x1.tables.length, .int .i64 x1.next] 38)).heap[w.heap.size + 1]? = some (.cells #[.slice a1_0 x1.tables.length c1_0, .int .i64 x1.next] 27) ∧ (wx1.alloc (.cells #[.slice (some ⟨p1_0, 0, none⟩) x1.tables.length x1.tables.length, .int .i64 x1.next] 38)).heap[wx0.heap.size]? = some (.cells #[.slice (some ⟨p0_0, 0, none⟩) x0.tables.length x0.tables.length] 34) ∧ Rd (wx1.alloc (.cells #[.slice (some ⟨p1_0, 0, none⟩) x1.tables.length x1.tables.length, .int .i64 x1.next] 38)) (fun _ => True) (dTableS x0.tables) (.slice (some ⟨p0_0, 0, none⟩) x0.tables.length x0.tables.length) ∧ (wx1.alloc (.cells #[.slice (some ⟨p1_0, 0, none⟩) x1.tables.length x1.tables.length, .int .i64 x1.next] 38)).heap[wx1.heap.size]? = some (.cells #[.slice (some ⟨p1_0, 0, none⟩) x1.tables.length x1.tables.length, .int .i64 x1.next] 38) ∧ Rd (wx1.alloc (.cells #[.slice (some ⟨p1_0, 0, none⟩) x1.tables.length x1.tables.length, .int .i64 x1.next] 38)) (fun _ => True) (dRowSS x1.tables) (.slice (some ⟨p1_0, 0, none⟩) x1.tables.length x1.tables.length)) := ⟨XO.1.trans ((below_allocD _ _).mono XO.1.size), heap_keptD XO.2.1 (below_allocD _ _), heap_keptD XO.2.2.1 (below_allocD _ _), heap_keptD XO.2.2.2.1 (below_allocD _ _), XO.2.2.2.2.later (below_allocD _ _), heap_newD _ _, Rd.later ((Owns.one ho (j := 0) (by omega)).rd'.any) (below_allocD _ _)⟩
  clear hB hA ho XO Y0 XS0L x0_0 x1_0 x1_1 y0_0
  have x0_0 := cell_at (o := 0) Y1.out.2.1 rfl
  have x1_0 := cell_at (o := 0) Y1.out.2.2.1 rfl
  have x1_1 := cell_at (o := 1) Y1.out.2.2.1 rfl
  have y0_0 := cell_at (o := 0) Y1.out.2.2.2.1 rfl
  have y1_0 := cell_at (o := 0) Y1.out.2.2.2.2.2.1 rfl
  have y1_1 := cell_at (o := 1) Y1.out.2.2.2.2.2.1 rfl
  go_wp2_with fail
  refine (CI.out _ _ _ _ _ Y1.out.2.2.2.2.1 Y1.out.2.2.2.2.2.2).mono ?_
  rintro e wg ⟨rfl, hB⟩
  have Z := Lib.hid (XS1L.out _ _ Y1.out hB)
  clear hB Y1 x0_0 x1_0 x1_1 y0_0 y1_0 y1_1
  have x0_0 := cell_at (o := 0) Z.out.2.1 rfl
  have x1_0 := cell_at (o := 0) Z.out.2.2.1 rfl
  have x1_1 := cell_at (o := 1) Z.out.2.2.1 rfl
  have y0_0 := cell_at (o := 0) Z.out.2.2.2.1 rfl
  have y1_0 := cell_at (o := 0) Z.out.2.2.2.2.2.1 rfl
  have y1_1 := cell_at (o := 1) Z.out.2.2.2.2.2.1 rfl
  go_wp2_with fail
  have CE0 : Hid (∀ W, (Below w.heap.size w W ∧ W.heap[w.heap.size]? = some (.cells #[.slice a0_0 x0.tables.length c0_0] 24) ∧ W.heap[w.heap.size + 1]? = some (.cells #[.slice a1_0 x1.tables.length c1_0, .int .i64 x1.next] 27) ∧ W.heap[wx0.heap.size]? = some (.cells #[.slice (some ⟨p0_0, 0, none⟩) x0.tables.length x0.tables.length] 34) ∧ Rd W (fun _ => True) (dTableS x0.tables) (.slice (some ⟨p0_0, 0, none⟩) x0.tables.length x0.tables.length) ∧ W.heap[wx1.heap.size]? = some (.cells #[.slice (some ⟨p1_0, 0, none⟩) x1.tables.length x1.tables.length, .int .i64 x1.next] 38) ∧ Rd W (fun _ => True) (dRowSS x1.tables) (.slice (some ⟨p1_0, 0, none⟩) x1.tables.length x1.tables.length)) → (W.cell? ⟨w.heap.size, 0, none⟩ = some (.slice a0_0 x0.tables.length c0_0) ∧ W.cell? ⟨wx0.heap.size, 0, none⟩ = some (.slice (some ⟨p0_0, 0, none⟩) x0.tables.length x0.tables.length))) := fun W h => ⟨cell_at (o := 0) h.2.1 rfl, cell_at (o := 0) h.2.2.2.1 rfl⟩
  have hx := Z.out
  clear Z
  have XA : Hid (∀ W, (Below w.heap.size w W ∧ W.heap[w.heap.size]? = some (.cells #[.slice a0_0 x0.tables.length c0_0] 24) ∧ W.heap[w.heap.size + 1]? = some (.cells #[.slice a1_0 x1.tables.length c1_0, .int .i64 x1.next] 27) ∧ W.heap[wx0.heap.size]? = some (.cells #[.slice (some ⟨p0_0, 0, none⟩) x0.tables.length x0.tables.length] 34) ∧ Rd W (fun _ => True) (dTableS x0.tables) (.slice (some ⟨p0_0, 0, none⟩) x0.tables.length x0.tables.length) ∧ W.heap[wx1.heap.size]? = some (.cells #[.slice (some ⟨p1_0, 0, none⟩) x1.tables.length x1.tables.length, .int .i64 x1.next] 38) ∧ Rd W (fun _ => True) (dRowSS x1.tables) (.slice (some ⟨p1_0, 0, none⟩) x1.tables.length x1.tables.length)) → (Below w.heap.size w W ∧ W.heap[w.heap.size]? = some (.cells #[.slice a0_0 x0.tables.length c0_0] 24) ∧ W.heap[w.heap.size + 1]? = some (.cells #[.slice a1_0 x1.tables.length c1_0, .int .i64 x1.next] 27))) := fun W h => ⟨h.1, h.2.1, h.2.2.1⟩
  refine wp_region_held_drew (S := (fun W => W.cell? ⟨w.heap.size, 0, none⟩ = some (.slice a0_0 x0.tables.length c0_0) ∧ W.cell? ⟨wx0.heap.size, 0, none⟩ = some (.slice (some ⟨p0_0, 0, none⟩) x0.tables.length x0.tables.length))) (by kernel_rfl) ?_ (fun hHeld => ?_)
  · (first | exact CE0.out _ hx | exact CE0.out _ (XS1L.out _ _ hx (Below.refl _ _).drew))
  refine wpAnyH_take (i := 0) (v := ?_) rfl (by kernel_rfl) (by kernel_rfl) (by kernel_rfl) (fun _ _ _ h => h) (Or.inl ⟨by kernel_rfl, ?_⟩) (by assumption) ?_
  rotate_left
  · (intro wS hSw; (try dsimp only at hSw); go_simp <;> with_reducible rfl)
  try simp only [Act.put, List.getElem_toArray, List.getElem_cons_succ, List.getElem_cons_zero, List.setIfInBounds_toArray, List.set_cons_zero, List.set_cons_succ]
  refine wpAnyH_take (i := 1) (v := ?_) rfl (by kernel_rfl) (by kernel_rfl) (by kernel_rfl) (fun _ _ _ h => h) (Or.inl ⟨by kernel_rfl, ?_⟩) (by assumption) ?_
  rotate_left
  · (intro wS hSw; (try dsimp only at hSw); go_simp <;> with_reducible rfl)
  try simp only [Act.put, List.getElem_toArray, List.getElem_cons_succ, List.getElem_cons_zero, List.setIfInBounds_toArray, List.set_cons_zero, List.set_cons_succ]
  refine wpAnyH_ready (rs := [2]) (by kernel_rfl) (by simp) (AllReadyH.cons rfl (fun K hK => ?_) AllReadyH.nil)
  go_simp
  (go_at_call 7; refine (TO0.out _ (by first | exact XA.out _ hx | exact XA.out _ (XS1L.out _ _ hx (Below.refl _ _).drew))).mono ?_; rintro e we0 ⟨s0_0, rfl, ho, hB, _⟩; have h2 : Below w.heap.size w we0 ∧ we0.heap[w.heap.size]? = some (.cells #[.slice a0_0 x0.tables.length c0_0] 24) ∧ we0.heap[w.heap.size + 1]? = some (.cells #[.slice a1_0 x1.tables.length c1_0, .int .i64 x1.next] 27) ∧ we0.heap[wx0.heap.size]? = some (.cells #[.slice (some ⟨p0_0, 0, none⟩) x0.tables.length x0.tables.length] 34) ∧ Rd we0 (fun _ => True) (dTableS x0.tables) (.slice (some ⟨p0_0, 0, none⟩) x0.tables.length x0.tables.length) ∧ we0.heap[wx1.heap.size]? = some (.cells #[.slice (some ⟨p1_0, 0, none⟩) x1.tables.length x1.tables.length, .int .i64 x1.next] 38) ∧ Rd we0 (fun _ => True) (dRowSS x1.tables) (.slice (some ⟨p1_0, 0, none⟩) x1.tables.length x1.tables.length) := (by first | exact XS1L.out _ _ hx hB | exact XS1L.out _ _ (XS1L.out _ _ hx (Below.refl _ _).drew) hB); clear hx; have hx := h2; clear h2; have RE0_0 : Hid (Rd _ (fun _ => True) (dTableS x0.tables) (.slice (some ⟨s0_0, 0, none⟩) x0.tables.length x0.tables.length)) := (Owns.one ho (j := 0) (by omega)).rd'.any; clear hB ho)
  refine hK.out _ _ ?_ (fun hHeld => ?_)
  · (first | exact CE0.out _ hx | exact CE0.out _ (XS1L.out _ _ hx (Below.refl _ _).drew))
  clear hK K
  try simp only [Act.put, List.getElem_toArray, List.getElem_cons_succ, List.getElem_cons_zero, List.setIfInBounds_toArray, List.set_cons_zero, List.set_cons_succ]
  refine wpAnyH_ready (rs := [3]) (by kernel_rfl) (by simp) (AllReadyH.cons rfl (fun K hK => ?_) AllReadyH.nil)
  go_simp
  (go_at_call 10; refine (EQ0.out _ _ _ _ _ (by first | exact hx.2.2.2.2.1 | exact Rd.later hx.2.2.2.2.1 (Below.refl _ _).drew) (by first | exact RE0_0.out | exact Rd.later RE0_0.out (Below.refl _ _).drew)).mono ?_; rintro e wf0 ⟨rfl, hB⟩; have h2 : Below w.heap.size w wf0 ∧ wf0.heap[w.heap.size]? = some (.cells #[.slice a0_0 x0.tables.length c0_0] 24) ∧ wf0.heap[w.heap.size + 1]? = some (.cells #[.slice a1_0 x1.tables.length c1_0, .int .i64 x1.next] 27) ∧ wf0.heap[wx0.heap.size]? = some (.cells #[.slice (some ⟨p0_0, 0, none⟩) x0.tables.length x0.tables.length] 34) ∧ Rd wf0 (fun _ => True) (dTableS x0.tables) (.slice (some ⟨p0_0, 0, none⟩) x0.tables.length x0.tables.length) ∧ wf0.heap[wx1.heap.size]? = some (.cells #[.slice (some ⟨p1_0, 0, none⟩) x1.tables.length x1.tables.length, .int .i64 x1.next] 38) ∧ Rd wf0 (fun _ => True) (dRowSS x1.tables) (.slice (some ⟨p1_0, 0, none⟩) x1.tables.length x1.tables.length) := (by first | exact XS1L.out _ _ hx hB | exact XS1L.out _ _ (XS1L.out _ _ hx (Below.refl _ _).drew) hB); clear hx hB; have hx := h2; clear h2)
  refine hK.out _ _ ?_ (fun hHeld => ?_)
  · (first | exact CE0.out _ hx | exact CE0.out _ (XS1L.out _ _ hx (Below.refl _ _).drew))
  clear hK K
  try simp only [Act.put, List.getElem_toArray, List.getElem_cons_succ, List.getElem_cons_zero, List.setIfInBounds_toArray, List.set_cons_zero, List.set_cons_succ]
  refine wpAnyH_take (i := 4) (v := ?_) rfl (by kernel_rfl) (by kernel_rfl) (by kernel_rfl) (fun _ _ _ h => h) (Or.inl ⟨by kernel_rfl, ?_⟩) (by assumption) ?_
  rotate_left
  · (intro wS hSw; (try dsimp only at hSw); go_simp <;> with_reducible rfl)
  try simp only [Act.put, List.getElem_toArray, List.getElem_cons_succ, List.getElem_cons_zero, List.setIfInBounds_toArray, List.set_cons_zero, List.set_cons_succ]
  refine wpAnyH_done (by kernel_rfl) ?_ _
  clear x0_0 x1_0 x1_1 y0_0 y1_0 y1_1 RE0_0
  have x0_0 := cell_at (o := 0) hx.2.1 rfl
  have x1_0 := cell_at (o := 0) hx.2.2.1 rfl
  have x1_1 := cell_at (o := 1) hx.2.2.1 rfl
  have y0_0 := cell_at (o := 0) hx.2.2.2.1 rfl
  have y1_0 := cell_at (o := 0) hx.2.2.2.2.2.1 rfl
  have y1_1 := cell_at (o := 1) hx.2.2.2.2.2.1 rfl
  go_wp2_with fail
  have CE1 : Hid (∀ W, (Below w.heap.size w W ∧ W.heap[w.heap.size]? = some (.cells #[.slice a0_0 x0.tables.length c0_0] 24) ∧ W.heap[w.heap.size + 1]? = some (.cells #[.slice a1_0 x1.tables.length c1_0, .int .i64 x1.next] 27) ∧ W.heap[wx0.heap.size]? = some (.cells #[.slice (some ⟨p0_0, 0, none⟩) x0.tables.length x0.tables.length] 34) ∧ Rd W (fun _ => True) (dTableS x0.tables) (.slice (some ⟨p0_0, 0, none⟩) x0.tables.length x0.tables.length) ∧ W.heap[wx1.heap.size]? = some (.cells #[.slice (some ⟨p1_0, 0, none⟩) x1.tables.length x1.tables.length, .int .i64 x1.next] 38) ∧ Rd W (fun _ => True) (dRowSS x1.tables) (.slice (some ⟨p1_0, 0, none⟩) x1.tables.length x1.tables.length)) → (W.cell? ⟨w.heap.size + 1, 0, none⟩ = some (.slice a1_0 x1.tables.length c1_0) ∧ W.cell? ⟨w.heap.size + 1, 1, none⟩ = some (.int .i64 x1.next) ∧ W.cell? ⟨wx1.heap.size, 0, none⟩ = some (.slice (some ⟨p1_0, 0, none⟩) x1.tables.length x1.tables.length) ∧ W.cell? ⟨wx1.heap.size, 1, none⟩ = some (.int .i64 x1.next))) := fun W h => ⟨cell_at (o := 0) h.2.2.1 rfl, cell_at (o := 1) h.2.2.1 rfl, cell_at (o := 0) h.2.2.2.2.2.1 rfl, cell_at (o := 1) h.2.2.2.2.2.1 rfl⟩
  refine wp_region_held_drew (S := (fun W => W.cell? ⟨w.heap.size + 1, 0, none⟩ = some (.slice a1_0 x1.tables.length c1_0) ∧ W.cell? ⟨w.heap.size + 1, 1, none⟩ = some (.int .i64 x1.next) ∧ W.cell? ⟨wx1.heap.size, 0, none⟩ = some (.slice (some ⟨p1_0, 0, none⟩) x1.tables.length x1.tables.length) ∧ W.cell? ⟨wx1.heap.size, 1, none⟩ = some (.int .i64 x1.next))) (by kernel_rfl) ?_ (fun hHeld => ?_)
  · (first | exact CE1.out _ hx | exact CE1.out _ (XS1L.out _ _ hx (Below.refl _ _).drew))
  refine wpAnyH_take (i := 0) (v := ?_) rfl (by kernel_rfl) (by kernel_rfl) (by kernel_rfl) (fun _ _ _ h => h) (Or.inl ⟨by kernel_rfl, ?_⟩) (by assumption) ?_
  rotate_left
  · (intro wS hSw; (try dsimp only at hSw); go_simp <;> with_reducible rfl)
  try simp only [Act.put, List.getElem_toArray, List.getElem_cons_succ, List.getElem_cons_zero, List.setIfInBounds_toArray, List.set_cons_zero, List.set_cons_succ]
  refine wpAnyH_take (i := 1) (v := ?_) rfl (by kernel_rfl) (by kernel_rfl) (by kernel_rfl) (fun _ _ _ h => h) (Or.inl ⟨by kernel_rfl, ?_⟩) (by assumption) ?_
  rotate_left
  · (intro wS hSw; (try dsimp only at hSw); go_simp <;> with_reducible rfl)
  try simp only [Act.put, List.getElem_toArray, List.getElem_cons_succ, List.getElem_cons_zero, List.setIfInBounds_toArray, List.set_cons_zero, List.set_cons_succ]
  refine wpAnyH_ready (rs := [2]) (by kernel_rfl) (by simp) (AllReadyH.cons rfl (fun K hK => ?_) AllReadyH.nil)
  go_simp
  (go_at_call 8; refine (TO1.out _ (by first | exact XA.out _ hx | exact XA.out _ (XS1L.out _ _ hx (Below.refl _ _).drew))).mono ?_; rintro e we1 ⟨s1_0, rfl, ho, hB, _⟩; have h2 : Below w.heap.size w we1 ∧ we1.heap[w.heap.size]? = some (.cells #[.slice a0_0 x0.tables.length c0_0] 24) ∧ we1.heap[w.heap.size + 1]? = some (.cells #[.slice a1_0 x1.tables.length c1_0, .int .i64 x1.next] 27) ∧ we1.heap[wx0.heap.size]? = some (.cells #[.slice (some ⟨p0_0, 0, none⟩) x0.tables.length x0.tables.length] 34) ∧ Rd we1 (fun _ => True) (dTableS x0.tables) (.slice (some ⟨p0_0, 0, none⟩) x0.tables.length x0.tables.length) ∧ we1.heap[wx1.heap.size]? = some (.cells #[.slice (some ⟨p1_0, 0, none⟩) x1.tables.length x1.tables.length, .int .i64 x1.next] 38) ∧ Rd we1 (fun _ => True) (dRowSS x1.tables) (.slice (some ⟨p1_0, 0, none⟩) x1.tables.length x1.tables.length) := (by first | exact XS1L.out _ _ hx hB | exact XS1L.out _ _ (XS1L.out _ _ hx (Below.refl _ _).drew) hB); clear hx; have hx := h2; clear h2; have RE1_0 : Hid (Rd _ (fun _ => True) (dRowSS x1.tables) (.slice (some ⟨s1_0, 0, none⟩) x1.tables.length x1.tables.length)) := (Owns.one ho (j := 0) (by omega)).rd'.any; clear hB ho)
  refine hK.out _ _ ?_ (fun hHeld => ?_)
  · (first | exact CE1.out _ hx | exact CE1.out _ (XS1L.out _ _ hx (Below.refl _ _).drew))
  clear hK K
  try simp only [Act.put, List.getElem_toArray, List.getElem_cons_succ, List.getElem_cons_zero, List.setIfInBounds_toArray, List.set_cons_zero, List.set_cons_succ]
  refine wpAnyH_ready (rs := [3]) (by kernel_rfl) (by simp) (AllReadyH.cons rfl (fun K hK => ?_) AllReadyH.nil)
  go_simp
  (go_at_call 11; refine (EQ1.out _ _ _ _ _ (by first | exact hx.2.2.2.2.2.2 | exact Rd.later hx.2.2.2.2.2.2 (Below.refl _ _).drew) (by first | exact RE1_0.out | exact Rd.later RE1_0.out (Below.refl _ _).drew)).mono ?_; rintro e wf1 ⟨rfl, hB⟩; have h2 : Below w.heap.size w wf1 ∧ wf1.heap[w.heap.size]? = some (.cells #[.slice a0_0 x0.tables.length c0_0] 24) ∧ wf1.heap[w.heap.size + 1]? = some (.cells #[.slice a1_0 x1.tables.length c1_0, .int .i64 x1.next] 27) ∧ wf1.heap[wx0.heap.size]? = some (.cells #[.slice (some ⟨p0_0, 0, none⟩) x0.tables.length x0.tables.length] 34) ∧ Rd wf1 (fun _ => True) (dTableS x0.tables) (.slice (some ⟨p0_0, 0, none⟩) x0.tables.length x0.tables.length) ∧ wf1.heap[wx1.heap.size]? = some (.cells #[.slice (some ⟨p1_0, 0, none⟩) x1.tables.length x1.tables.length, .int .i64 x1.next] 38) ∧ Rd wf1 (fun _ => True) (dRowSS x1.tables) (.slice (some ⟨p1_0, 0, none⟩) x1.tables.length x1.tables.length) := (by first | exact XS1L.out _ _ hx hB | exact XS1L.out _ _ (XS1L.out _ _ hx (Below.refl _ _).drew) hB); clear hx hB; have hx := h2; clear h2)
  refine hK.out _ _ ?_ (fun hHeld => ?_)
  · (first | exact CE1.out _ hx | exact CE1.out _ (XS1L.out _ _ hx (Below.refl _ _).drew))
  clear hK K
  try simp only [Act.put, List.getElem_toArray, List.getElem_cons_succ, List.getElem_cons_zero, List.setIfInBounds_toArray, List.set_cons_zero, List.set_cons_succ]
  refine wpAnyH_take (i := 4) (v := ?_) rfl (by kernel_rfl) (by kernel_rfl) (by kernel_rfl) (fun _ _ _ h => h) (Or.inl ⟨by kernel_rfl, ?_⟩) (by assumption) ?_
  rotate_left
  · (intro wS hSw; (try dsimp only at hSw); go_simp <;> with_reducible rfl)
  try simp only [Act.put, List.getElem_toArray, List.getElem_cons_succ, List.getElem_cons_zero, List.setIfInBounds_toArray, List.set_cons_zero, List.set_cons_succ]
  refine wpAnyH_done (by kernel_rfl) ?_ _
  clear x0_0 x1_0 x1_1 y0_0 y1_0 y1_1 RE1_0
  go_wp2_with fail
  go_ret
  exact ⟨rfl, by first | exact hx.1 | exact hx.1.drew⟩
end Go.Proofs.Ytlkkmafnjdbofaa
namespace Go.Proofs.Ytlkkmafnjdbofaa
open Go.RowKit Go.Deep
set_option linter.unusedSimpArgs false
/-- a thing's cells, as they came in -/
def RdTh (W : World) (n : Nat) (t : Nat → D) (cs : List Value) : Prop := cs.length = n ∧ ∀ j, j < n → ∃ u, cs[j]? = some u ∧ Rd W (· < W.heap.size) (t j) u ∧ (t j).le maxLen
theorem rdT_one {W : World} {t : Nat → D} {v : Value} (h1 : (t 0).le maxLen) (h2 : Rd W (· < W.heap.size) (t 0) v) : RdTh W 1 t [v] := ⟨rfl, fun j hj => by
  obtain rfl : j = 0 := by omega
  exact ⟨v, rfl, h2, h1⟩⟩
theorem list_of {α : Type} (P : Nat → α → Prop) : ∀ len, (∀ i, i < len → ∃ y, P i y) → ∃ l : List α, l.length = len ∧ ∀ i (h : i < l.length), P i l[i]
  | 0, _ => ⟨[], rfl, fun i h => absurd h (by simp)⟩
  | len + 1, hel => by
    obtain ⟨ks, hk, hks⟩ := list_of P len (fun i hi => hel i (by omega))
    obtain ⟨y, hy⟩ := hel len (by omega)
    refine ⟨ks ++ [y], by simp [hk], fun i hi => ?_⟩
    by_cases e : i < ks.length
    · rw [List.getElem_append_left e]; exact hks i e
    · have e2 : i = ks.length := by simp at hi; omega
      subst e2
      rw [List.getElem_append_right (by omega)]
      simp only [Nat.sub_self, List.getElem_cons_zero]
      rw [hk]
      exact hy
section
variable {H : Type} {enc : TypeId × Value → H} {W : World} {sp : Nat → Bool} {held : Bool}
theorem addr_spotD {a : Addr} {v : Value} (h : W.cell? (a.add 0) = some v) : a = ⟨a.block, a.off, none⟩ := by
  obtain ⟨b, off, spot⟩ := a
  have : spot = none := by
    cases spot with
    | none => rfl
    | some s => have := World.cell?_spot h; simp [Addr.add] at this
  rw [this]
/-- a list that came in -/
theorem rdLs {α : Type} {n : Nat} (hn : 0 < n) (hn' : n ≤ 64) {d : α → Nat → D} {T E : TypeId} (hT : Try.prog.underlying T = some (.slice E)) (hE : Try.prog.cellsOf E = n)
    (hel : ∀ fuel cs x, DataW.trod enc Try.prog W 0 sp held fuel E cs = some x → ∃ y : α, RdTh W n (d y) cs)
    {fuel : Nat} {cs : List Value} {x : DataW H × List MemPlace} (h : DataW.trod enc Try.prog W 0 sp held fuel T cs = some x) :
    ∃ (l : List α) (a : Option Addr) (c : Nat), cs = [.slice a l.length c] ∧ (Ls n d l).le maxLen ∧ Rd W (· < W.heap.size) (Ls n d l) (.slice a l.length c) := by
  rcases DataW.trod_slice hT h with ⟨rfl, -⟩ | ⟨a, len, cap, elems, rest, n', hn2, rfl, -, -, hl, hc, hel', hall, -, -⟩
  · exact ⟨[], none, 0, rfl, Ls_le.2 ⟨hn', by simp, fun i h => absurd h (by simp)⟩, Rd.lsNil _ _⟩
  · rw [hE] at hall
    obtain ⟨l, hit, hits⟩ := list_of (fun i (y : α) => ∃ cs', W.cells? 0 (a.add (i * n)) n = some cs' ∧ RdTh W n (d y) cs') len (fun i hi => by
      have h1 := hall i hi
      rw [List.getElem?_eq_getElem (by omega), Option.bind_eq_some_iff] at h1
      obtain ⟨cs', h2, h3⟩ := h1
      obtain ⟨y, hy⟩ := hel _ _ _ h3
      exact ⟨y, cs', h2, hy⟩)
    refine ⟨l, some a, cap, by rw [hit], Ls_le.2 ⟨hn', by omega, fun i hi j hj => ?_⟩, ?_⟩
    · obtain ⟨cs', -, -, h2⟩ := hits i hi
      obtain ⟨u, -, -, hle⟩ := h2 j hj
      exact hle
    · refine ⟨some a, cap, rfl, ?_⟩
      by_cases h0 : l.length = 0
      · exact .inl h0
      · have key : ∀ i (h : i < l.length) j, j < n → ∃ u, W.cell? ((a.add (i * n)).add j) = some u ∧ Rd W (· < W.heap.size) (d l[i] j) u := fun i hi j hj => by
          obtain ⟨cs', h1, -, h2⟩ := hits i hi
          obtain ⟨u, hu, hr, -⟩ := h2 j hj
          obtain ⟨-, -, g1⟩ := World.cells?_some h1
          have g2 := g1 j hj
          rw [hu] at g2
          exact ⟨u, g2, hr⟩
        obtain ⟨u, g2, -⟩ := key 0 (by omega) 0 hn
        rw [show (a.add (0 * n)).add 0 = a.add 0 by simp [Addr.add]] at g2
        have ha := addr_spotD g2
        refine .inr ⟨a.block, a.off, by rw [← ha], ?_, hn, fun i j hi hj => ?_⟩
        · have := World.block_lt_of_cell? _ _ g2
          rw [ha] at this
          simpa [Addr.add] using this
        · obtain ⟨u, g3, hr⟩ := key i hi j hj
          rw [ha, Addr.add_mid, Addr.add_mid] at g3
          exact ⟨u, g3, by rw [lsF_at hi]; exact hr⟩
end
end Go.Proofs.Ytlkkmafnjdbofaa
namespace Go.Proofs.Ytlkkmafnjdbofaa
open Go.RowKit Go.Deep
set_option linter.unusedSimpArgs false
theorem cellsRAtom : Try.prog.cellsOf 136 = 3 := by kernel_rfl
theorem cellsRInt : Try.prog.cellsOf 3 = 1 := by kernel_rfl
theorem cellsRString : Try.prog.cellsOf 9 = 1 := by kernel_rfl
theorem cellsRAtomS : Try.prog.cellsOf 128 = 1 := by kernel_rfl
theorem cellsRRow : Try.prog.cellsOf 95 = 2 := by kernel_rfl
theorem cellsRAtomSS : Try.prog.cellsOf 93 = 1 := by kernel_rfl
theorem cellsRRowS : Try.prog.cellsOf 66 = 1 := by kernel_rfl
theorem cellsRStore : Try.prog.cellsOf 27 = 2 := by kernel_rfl
theorem cellsRRowSS : Try.prog.cellsOf 25 = 1 := by kernel_rfl
section
variable {H : Type} {enc : TypeId × Value → H} {W : World} {sp : Nat → Bool} {held : Bool}
set_option maxRecDepth 100000 in
theorem rdAtom (fuel : Nat) (cs : List Value) (x : DataW H × List MemPlace) (h : DataW.trod enc Try.prog W 0 sp held fuel 136 cs = some x) : ∃ y : At, RdTh W 3 (dAtom y) cs := by
  obtain ⟨xs, n, hn, -, hlen, hxs, hf⟩ := DataW.trod_struct Try.underlying136 h
  rw [cellsRAtom] at hlen
  match cs, hlen with
  | [c0, c1, c2], _ =>
    match xs, hxs with
    | [y0, y1, y2], _ =>
      have f0 : DataW.trod enc Try.prog W 0 sp held n 3 [c0] = some y0 := by have := hf 0 _ rfl; simpa [cellsRInt, cellsRString] using this
      have f1 : DataW.trod enc Try.prog W 0 sp held n 3 [c1] = some y1 := by have := hf 1 _ rfl; simpa [cellsRInt, cellsRString] using this
      have f2 : DataW.trod enc Try.prog W 0 sp held n 9 [c2] = some y2 := by have := hf 2 _ rfl; simpa [cellsRInt, cellsRString] using this
      obtain ⟨s0, e0, -, hs0⟩ := DataW.trod_int Try.underlying3 f0
      obtain ⟨s1, e1, -, hs1⟩ := DataW.trod_int Try.underlying3 f1
      obtain ⟨s2, e2, -, hs2⟩ := DataW.trod_string Try.underlying9 f2
      simp only [List.cons.injEq, and_true] at e0 e1 e2
      subst e0 e1 e2
      refine ⟨⟨s0, s1, s2.data.toList⟩, rfl, fun j hj => ?_⟩
      rcases (by omega : j = 0 ∨ j = 1 ∨ j = 2) with rfl | rfl | rfl
      · exact ⟨_, rfl, rfl, hs0⟩
      · exact ⟨_, rfl, rfl, hs1⟩
      · exact ⟨_, rfl, rfl, hs2⟩
theorem rdAtomS {fuel : Nat} {cs : List Value} {x : DataW H × List MemPlace} (h : DataW.trod enc Try.prog W 0 sp held fuel 128 cs = some x) :
    ∃ (l : List At) (a : Option Addr) (c : Nat), cs = [.slice a l.length c] ∧ (dAtomS l).le maxLen ∧ Rd W (· < W.heap.size) (dAtomS l) (.slice a l.length c) :=
  rdLs (by omega) (by omega) Try.underlying128 cellsRAtom (fun fuel cs x h => rdAtom fuel cs x h) h
theorem rdAtomSS {fuel : Nat} {cs : List Value} {x : DataW H × List MemPlace} (h : DataW.trod enc Try.prog W 0 sp held fuel 93 cs = some x) :
    ∃ (l : List (List At)) (a : Option Addr) (c : Nat), cs = [.slice a l.length c] ∧ (dAtomSS l).le maxLen ∧ Rd W (· < W.heap.size) (dAtomSS l) (.slice a l.length c) :=
  rdLs (by omega) (by omega) Try.underlying93 cellsRAtomS (fun fuel cs x h => by obtain ⟨l, a, c, rfl, h1, h2⟩ := rdAtomS h; exact ⟨l, rdT_one h1 h2⟩) h
set_option maxRecDepth 100000 in
theorem rdRow (fuel : Nat) (cs : List Value) (x : DataW H × List MemPlace) (h : DataW.trod enc Try.prog W 0 sp held fuel 95 cs = some x) : ∃ y : RowV, RdTh W 2 (dRow y) cs := by
  obtain ⟨xs, n, hn, -, hlen, hxs, hf⟩ := DataW.trod_struct Try.underlying95 h
  rw [cellsRRow] at hlen
  match cs, hlen with
  | [c0, c1], _ =>
    match xs, hxs with
    | [y0, y1], _ =>
      have f0 : DataW.trod enc Try.prog W 0 sp held n 3 [c0] = some y0 := by have := hf 0 _ rfl; simpa [cellsRAtomSS, cellsRInt] using this
      have f1 : DataW.trod enc Try.prog W 0 sp held n 93 [c1] = some y1 := by have := hf 1 _ rfl; simpa [cellsRAtomSS, cellsRInt] using this
      obtain ⟨s0, e0, -, hs0⟩ := DataW.trod_int Try.underlying3 f0
      obtain ⟨s1, a1, q1, e1, hl1, hr1⟩ := rdAtomSS f1
      simp only [List.cons.injEq, and_true] at e0 e1
      subst e0 e1
      refine ⟨⟨s0, s1⟩, rfl, fun j hj => ?_⟩
      rcases (by omega : j = 0 ∨ j = 1) with rfl | rfl
      · exact ⟨_, rfl, rfl, hs0⟩
      · exact ⟨_, rfl, hr1, hl1⟩
theorem rdRowS {fuel : Nat} {cs : List Value} {x : DataW H × List MemPlace} (h : DataW.trod enc Try.prog W 0 sp held fuel 66 cs = some x) :
    ∃ (l : List RowV) (a : Option Addr) (c : Nat), cs = [.slice a l.length c] ∧ (dRowS l).le maxLen ∧ Rd W (· < W.heap.size) (dRowS l) (.slice a l.length c) :=
  rdLs (by omega) (by omega) Try.underlying66 cellsRRow (fun fuel cs x h => rdRow fuel cs x h) h
theorem rdRowSS {fuel : Nat} {cs : List Value} {x : DataW H × List MemPlace} (h : DataW.trod enc Try.prog W 0 sp held fuel 25 cs = some x) :
    ∃ (l : List (List RowV)) (a : Option Addr) (c : Nat), cs = [.slice a l.length c] ∧ (dRowSS l).le maxLen ∧ Rd W (· < W.heap.size) (dRowSS l) (.slice a l.length c) :=
  rdLs (by omega) (by omega) Try.underlying25 cellsRRowS (fun fuel cs x h => by obtain ⟨l, a, c, rfl, h1, h2⟩ := rdRowS h; exact ⟨l, rdT_one h1 h2⟩) h
set_option maxRecDepth 100000 in
theorem rdStore (fuel : Nat) (cs : List Value) (x : DataW H × List MemPlace) (h : DataW.trod enc Try.prog W 0 sp held fuel 27 cs = some x) : ∃ y : StV, RdTh W 2 (dStore y) cs := by
  obtain ⟨xs, n, hn, -, hlen, hxs, hf⟩ := DataW.trod_struct Try.underlying27 h
  rw [cellsRStore] at hlen
  match cs, hlen with
  | [c0, c1], _ =>
    match xs, hxs with
    | [y0, y1], _ =>
      have f0 : DataW.trod enc Try.prog W 0 sp held n 25 [c0] = some y0 := by have := hf 0 _ rfl; simpa [cellsRInt, cellsRRowSS] using this
      have f1 : DataW.trod enc Try.prog W 0 sp held n 3 [c1] = some y1 := by have := hf 1 _ rfl; simpa [cellsRInt, cellsRRowSS] using this
      obtain ⟨s0, a0, q0, e0, hl0, hr0⟩ := rdRowSS f0
      obtain ⟨s1, e1, -, hs1⟩ := DataW.trod_int Try.underlying3 f1
      simp only [List.cons.injEq, and_true] at e0 e1
      subst e0 e1
      refine ⟨⟨s0, s1⟩, rfl, fun j hj => ?_⟩
      rcases (by omega : j = 0 ∨ j = 1) with rfl | rfl
      · exact ⟨_, rfl, hr0, hl0⟩
      · exact ⟨_, rfl, rfl, hs1⟩
end
end Go.Proofs.Ytlkkmafnjdbofaa
namespace Go.Proofs.Ytlkkmafnjdbofaa
open Go.RowKit Go.Deep
set_option linter.unusedSimpArgs false
theorem cellsRColumn : Try.prog.cellsOf 112 = 8 := by kernel_rfl
theorem cellsRBool : Try.prog.cellsOf 4 = 1 := by kernel_rfl
theorem cellsRTable : Try.prog.cellsOf 64 = 4 := by kernel_rfl
theorem cellsRColumnS : Try.prog.cellsOf 61 = 1 := by kernel_rfl
theorem cellsRIntS : Try.prog.cellsOf 62 = 1 := by kernel_rfl
theorem cellsRSchema : Try.prog.cellsOf 24 = 1 := by kernel_rfl
theorem cellsRTableS : Try.prog.cellsOf 22 = 1 := by kernel_rfl
section
variable {H : Type} {enc : TypeId × Value → H} {W : World} {sp : Nat → Bool} {held : Bool}
set_option maxRecDepth 100000 in
theorem rdColumn (fuel : Nat) (cs : List Value) (x : DataW H × List MemPlace) (h : DataW.trod enc Try.prog W 0 sp held fuel 112 cs = some x) : ∃ y : Cl, RdTh W 8 (dColumn y) cs := by
  obtain ⟨xs, n, hn, -, hlen, hxs, hf⟩ := DataW.trod_struct Try.underlying112 h
  rw [cellsRColumn] at hlen
  match cs, hlen with
  | [c0, c1, c2, c3, c4, c5, c6, c7], _ =>
    match xs, hxs with
    | [y0, y1, y2, y3, y4, y5, y6, y7], _ =>
      have f0 : DataW.trod enc Try.prog W 0 sp held n 9 [c0] = some y0 := by have := hf 0 _ rfl; simpa [cellsRBool, cellsRInt, cellsRString] using this
      have f1 : DataW.trod enc Try.prog W 0 sp held n 3 [c1] = some y1 := by have := hf 1 _ rfl; simpa [cellsRBool, cellsRInt, cellsRString] using this
      have f2 : DataW.trod enc Try.prog W 0 sp held n 3 [c2] = some y2 := by have := hf 2 _ rfl; simpa [cellsRBool, cellsRInt, cellsRString] using this
      have f3 : DataW.trod enc Try.prog W 0 sp held n 3 [c3] = some y3 := by have := hf 3 _ rfl; simpa [cellsRBool, cellsRInt, cellsRString] using this
      have f4 : DataW.trod enc Try.prog W 0 sp held n 3 [c4] = some y4 := by have := hf 4 _ rfl; simpa [cellsRBool, cellsRInt, cellsRString] using this
      have f5 : DataW.trod enc Try.prog W 0 sp held n 3 [c5] = some y5 := by have := hf 5 _ rfl; simpa [cellsRBool, cellsRInt, cellsRString] using this
      have f6 : DataW.trod enc Try.prog W 0 sp held n 9 [c6] = some y6 := by have := hf 6 _ rfl; simpa [cellsRBool, cellsRInt, cellsRString] using this
      have f7 : DataW.trod enc Try.prog W 0 sp held n 4 [c7] = some y7 := by have := hf 7 _ rfl; simpa [cellsRBool, cellsRInt, cellsRString] using this
      obtain ⟨s0, e0, -, hs0⟩ := DataW.trod_string Try.underlying9 f0
      obtain ⟨s1, e1, -, hs1⟩ := DataW.trod_int Try.underlying3 f1
      obtain ⟨s2, e2, -, hs2⟩ := DataW.trod_int Try.underlying3 f2
      obtain ⟨s3, e3, -, hs3⟩ := DataW.trod_int Try.underlying3 f3
      obtain ⟨s4, e4, -, hs4⟩ := DataW.trod_int Try.underlying3 f4
      obtain ⟨s5, e5, -, hs5⟩ := DataW.trod_int Try.underlying3 f5
      obtain ⟨s6, e6, -, hs6⟩ := DataW.trod_string Try.underlying9 f6
      obtain ⟨s7, e7, -⟩ := DataW.trod_bool Try.underlying4 f7
      simp only [List.cons.injEq, and_true] at e0 e1 e2 e3 e4 e5 e6 e7
      subst e0 e1 e2 e3 e4 e5 e6 e7
      refine ⟨⟨s0.data.toList, s1, s2, s3, s4, s5, s6.data.toList, s7⟩, rfl, fun j hj => ?_⟩
      rcases (by omega : j = 0 ∨ j = 1 ∨ j = 2 ∨ j = 3 ∨ j = 4 ∨ j = 5 ∨ j = 6 ∨ j = 7) with rfl | rfl | rfl | rfl | rfl | rfl | rfl | rfl
      · exact ⟨_, rfl, rfl, hs0⟩
      · exact ⟨_, rfl, rfl, hs1⟩
      · exact ⟨_, rfl, rfl, hs2⟩
      · exact ⟨_, rfl, rfl, hs3⟩
      · exact ⟨_, rfl, rfl, hs4⟩
      · exact ⟨_, rfl, rfl, hs5⟩
      · exact ⟨_, rfl, rfl, hs6⟩
      · exact ⟨_, rfl, rfl, trivial⟩
theorem rdColumnS {fuel : Nat} {cs : List Value} {x : DataW H × List MemPlace} (h : DataW.trod enc Try.prog W 0 sp held fuel 61 cs = some x) :
    ∃ (l : List Cl) (a : Option Addr) (c : Nat), cs = [.slice a l.length c] ∧ (dColumnS l).le maxLen ∧ Rd W (· < W.heap.size) (dColumnS l) (.slice a l.length c) :=
  rdLs (by omega) (by omega) Try.underlying61 cellsRColumn (fun fuel cs x h => rdColumn fuel cs x h) h
theorem rdIntS {fuel : Nat} {cs : List Value} {x : DataW H × List MemPlace} (h : DataW.trod enc Try.prog W 0 sp held fuel 62 cs = some x) :
    ∃ (l : List Int) (a : Option Addr) (c : Nat), cs = [.slice a l.length c] ∧ (dIntS l).le maxLen ∧ Rd W (· < W.heap.size) (dIntS l) (.slice a l.length c) :=
  rdLs (by omega) (by omega) Try.underlying62 cellsRInt (fun fuel cs x h => by obtain ⟨s, rfl, -, hs⟩ := DataW.trod_int Try.underlying3 h; exact ⟨s, rdT_one hs rfl⟩) h
set_option maxRecDepth 100000 in
theorem rdTable (fuel : Nat) (cs : List Value) (x : DataW H × List MemPlace) (h : DataW.trod enc Try.prog W 0 sp held fuel 64 cs = some x) : ∃ y : Tb, RdTh W 4 (dTable y) cs := by
  obtain ⟨xs, n, hn, -, hlen, hxs, hf⟩ := DataW.trod_struct Try.underlying64 h
  rw [cellsRTable] at hlen
  match cs, hlen with
  | [c0, c1, c2, c3], _ =>
    match xs, hxs with
    | [y0, y1, y2, y3], _ =>
      have f0 : DataW.trod enc Try.prog W 0 sp held n 9 [c0] = some y0 := by have := hf 0 _ rfl; simpa [cellsRBool, cellsRColumnS, cellsRIntS, cellsRString] using this
      have f1 : DataW.trod enc Try.prog W 0 sp held n 61 [c1] = some y1 := by have := hf 1 _ rfl; simpa [cellsRBool, cellsRColumnS, cellsRIntS, cellsRString] using this
      have f2 : DataW.trod enc Try.prog W 0 sp held n 62 [c2] = some y2 := by have := hf 2 _ rfl; simpa [cellsRBool, cellsRColumnS, cellsRIntS, cellsRString] using this
      have f3 : DataW.trod enc Try.prog W 0 sp held n 4 [c3] = some y3 := by have := hf 3 _ rfl; simpa [cellsRBool, cellsRColumnS, cellsRIntS, cellsRString] using this
      obtain ⟨s0, e0, -, hs0⟩ := DataW.trod_string Try.underlying9 f0
      obtain ⟨s1, a1, q1, e1, hl1, hr1⟩ := rdColumnS f1
      obtain ⟨s2, a2, q2, e2, hl2, hr2⟩ := rdIntS f2
      obtain ⟨s3, e3, -⟩ := DataW.trod_bool Try.underlying4 f3
      simp only [List.cons.injEq, and_true] at e0 e1 e2 e3
      subst e0 e1 e2 e3
      refine ⟨⟨s0.data.toList, s1, s2, s3⟩, rfl, fun j hj => ?_⟩
      rcases (by omega : j = 0 ∨ j = 1 ∨ j = 2 ∨ j = 3) with rfl | rfl | rfl | rfl
      · exact ⟨_, rfl, rfl, hs0⟩
      · exact ⟨_, rfl, hr1, hl1⟩
      · exact ⟨_, rfl, hr2, hl2⟩
      · exact ⟨_, rfl, rfl, trivial⟩
theorem rdTableS {fuel : Nat} {cs : List Value} {x : DataW H × List MemPlace} (h : DataW.trod enc Try.prog W 0 sp held fuel 22 cs = some x) :
    ∃ (l : List Tb) (a : Option Addr) (c : Nat), cs = [.slice a l.length c] ∧ (dTableS l).le maxLen ∧ Rd W (· < W.heap.size) (dTableS l) (.slice a l.length c) :=
  rdLs (by omega) (by omega) Try.underlying22 cellsRTable (fun fuel cs x h => rdTable fuel cs x h) h
set_option maxRecDepth 100000 in
theorem rdSchema (fuel : Nat) (cs : List Value) (x : DataW H × List MemPlace) (h : DataW.trod enc Try.prog W 0 sp held fuel 24 cs = some x) : ∃ y : ScV, RdTh W 1 (dSchema y) cs := by
  obtain ⟨xs, n, hn, -, hlen, hxs, hf⟩ := DataW.trod_struct Try.underlying24 h
  rw [cellsRSchema] at hlen
  match cs, hlen with
  | [c0], _ =>
    match xs, hxs with
    | [y0], _ =>
      have f0 : DataW.trod enc Try.prog W 0 sp held n 22 [c0] = some y0 := by have := hf 0 _ rfl; simpa [cellsRTableS] using this
      obtain ⟨s0, a0, q0, e0, hl0, hr0⟩ := rdTableS f0
      simp only [List.cons.injEq, and_true] at e0
      subst e0
      refine ⟨⟨s0⟩, rfl, fun j hj => ?_⟩
      obtain rfl : j = 0 := by omega
      exact ⟨_, rfl, hr0, hl0⟩
end
end Go.Proofs.Ytlkkmafnjdbofaa
