import Derived.Test.YtaepgahejelkaaaGreatZau
import Derived.Test.YtaepgahejelkaaaGreatZbc
import Derived.Test.YtaepgahejelkaaaGreatZat
import Derived.Test.YtaepgahejelkaaaGreatZba
namespace Go.Proofs.YtaepgahejelkaaaGreat
open Go.RowKit
set_option linter.unusedSimpArgs false
def rowsB (l : List SetV) : Bool := l.all setB
def colsB (l : List (List UInt8)) : Bool := l.all (fun t => decide (t.length ≤ 40))
def headB (o : OpV) : Bool := inB 1 o.kd 10 && (decide (o.tb.length ≤ 40) && (decide (o.nm.length ≤ 40) && (condsB o.wh && (mutsB o.mu && (decide (o.row.length ≤ 6) && decide (o.cs.length ≤ 6))))))
def useB (o : OpV) : Bool := (inB 1 o.kd 6 || decide (o.tb = [])) && ((inB 2 o.kd 6 || decide (o.wh.length = 0)) && (((o.kd == 1 || decide (9 ≤ o.kd)) || decide (o.nm = [])) && (((o.kd == 1 || (o.kd == 3 || o.kd == 6)) || decide (o.row.length = 0)) && ((o.kd == 4 || decide (o.mu.length = 0)) && ((o.kd == 2 || decide (o.cs.length = 0)) && (o.kd == 6 || !o.un))))))
def opB (o : OpV) : Bool := headB o && (rowsB o.row && (colsB o.cs && useB o))
theorem op_head {o : OpV} (h : headB o = false) : opB o = false := by unfold opB; rw [h]; rfl
theorem op_row {o : OpV} {k : Nat} (hk : k < o.row.length) (h : setB o.row[k] = false) : opB o = false := by
  unfold opB
  rw [show rowsB o.row = false from List.all_eq_false.2 ⟨_, List.getElem_mem hk, by simp [h]⟩]; simp
theorem op_col {o : OpV} {k : Nat} (hk : k < o.cs.length) (h : ¬ o.cs[k].length ≤ 40) : opB o = false := by
  unfold opB
  rw [show colsB o.cs = false from List.all_eq_false.2 ⟨_, List.getElem_mem hk, by simp; omega⟩]; simp
theorem op_all {o : OpV} (h0 : headB o = true) (h1 : ∀ k (h : k < o.row.length), setB o.row[k] = true) (h2 : ∀ k (h : k < o.cs.length), o.cs[k].length ≤ 40) : opB o = useB o := by
  unfold opB
  rw [h0, show rowsB o.row = true from List.all_eq_true.2 (fun x hx => by obtain ⟨k, hk, rfl⟩ := List.mem_iff_getElem.1 hx; exact h1 k hk), show colsB o.cs = true from List.all_eq_true.2 (fun x hx => by obtain ⟨k, hk, rfl⟩ := List.mem_iff_getElem.1 hx; exact decide_eq_true (h2 k hk))]; rfl
end Go.Proofs.YtaepgahejelkaaaGreat
namespace Go.Proofs.YtaepgahejelkaaaGreat
open Go.RowKit
set_option linter.unusedSimpArgs false
set_option maxRecDepth 100000 in
set_option maxHeartbeats 12800000 in
theorem opOKs_no (kd : Int) (tb nm : List UInt8) (wh : List CondV) (row : List SetV) (mu : List MutV) (cs : List (List UInt8)) (un : Bool) (a3 : Option Addr) (c3 : Nat) (a4 : Option Addr) (c4 : Nat) (a5 : Option Addr) (c5 : Nat) (a6 : Option Addr) (c6 : Nat) (B : Nat → Prop) (w : World)
    (hk : inB 1 kd 10 = false) (h3 : (dCondS wh).le maxLen) (h4 : (dSetS row).le maxLen) (h5 : (dMutS mu).le maxLen) (h6 : (dStringS cs).le maxLen)
    (r3 : Rd w B (dCondS wh) (.slice a3 wh.length c3)) (r4 : Rd w B (dSetS row) (.slice a4 row.length c4)) (r5 : Rd w B (dMutS mu) (.slice a5 mu.length c5)) (r6 : Rd w B (dStringS cs) (.slice a6 cs.length c6)) :
    Calls Tryz.prog 18 #[.agg #[.int .i64 kd, .string ⟨tb.toArray⟩, .string ⟨nm.toArray⟩, .slice a3 wh.length c3, .slice a4 row.length c4, .slice a5 mu.length c5, .slice a6 cs.length c6, .bool un]] w fun e w' => e = .returned (.bool (opB ⟨kd, tb, nm, wh, row, mu, cs, un⟩)) ∧ Below w.heap.size w w' := by
  have LW : Hid (∀ W, BoxD 43 w W #[.int .i64 kd, .string ⟨tb.toArray⟩, .string ⟨nm.toArray⟩, .slice a3 wh.length c3, .slice a4 row.length c4, .slice a5 mu.length c5, .slice a6 cs.length c6, .bool un] → Calls Tryz.prog 41 #[.slice a3 wh.length c3] W fun e w' => e = .returned (.bool (condsB wh)) ∧ BoxD 43 w w' #[.int .i64 kd, .string ⟨tb.toArray⟩, .string ⟨nm.toArray⟩, .slice a3 wh.length c3, .slice a4 row.length c4, .slice a5 mu.length c5, .slice a6 cs.length c6, .bool un]) := fun W h => (listS wh a3 c3 B W h3 (r3.later h.2)).mono (fun _ _ ⟨he, hB⟩ => ⟨he, h.later hB⟩)
  have LM : Hid (∀ W, BoxD 43 w W #[.int .i64 kd, .string ⟨tb.toArray⟩, .string ⟨nm.toArray⟩, .slice a3 wh.length c3, .slice a4 row.length c4, .slice a5 mu.length c5, .slice a6 cs.length c6, .bool un] → Calls Tryz.prog 42 #[.slice a5 mu.length c5] W fun e w' => e = .returned (.bool (mutsB mu)) ∧ BoxD 43 w w' #[.int .i64 kd, .string ⟨tb.toArray⟩, .string ⟨nm.toArray⟩, .slice a3 wh.length c3, .slice a4 row.length c4, .slice a5 mu.length c5, .slice a6 cs.length c6, .bool un]) := fun W h => (mlistS mu a5 c5 B W h5 (r5.later h.2)).mono (fun _ _ ⟨he, hB⟩ => ⟨he, h.later hB⟩)
  have HR4 : Hid (∀ W, Below w.heap.size w W → Rd W B (Ls 3 dSet row) (.slice a4 row.length c4)) := fun W h => Rd.later r4 h
  have HR6 : Hid (∀ W, Below w.heap.size w W → Rd W B (Ls 1 cString cs) (.slice a6 cs.length c6)) := fun W h => Rd.later r6 h
  have HO4 := Lib.hid h4
  have HO6 := Lib.hid h6
  have l3 : wh.length ≤ maxLen := (Ls_le.1 h3).2.1
  have l4 : row.length ≤ maxLen := (Ls_le.1 h4).2.1
  have l5 : mu.length ≤ maxLen := (Ls_le.1 h5).2.1
  have l6 : cs.length ≤ maxLen := (Ls_le.1 h6).2.1
  unfold maxLen at l3 l4 l5 l6
  have hb := boxD 43 w #[.int .i64 kd, .string ⟨tb.toArray⟩, .string ⟨nm.toArray⟩, .slice a3 wh.length c3, .slice a4 row.length c4, .slice a5 mu.length c5, .slice a6 cs.length c6, .bool un]
  have HB := Lib.hid hb
  have y0 := cell_at (o := 0) hb.1 rfl
  have y1 := cell_at (o := 1) hb.1 rfl
  have y2 := cell_at (o := 2) hb.1 rfl
  have y3 := cell_at (o := 3) hb.1 rfl
  have y4 := cell_at (o := 4) hb.1 rfl
  have y5 := cell_at (o := 5) hb.1 rfl
  have y6 := cell_at (o := 6) hb.1 rfl
  have y7 := cell_at (o := 7) hb.1 rfl
  clear hb h3 h4 h5 h6 r3 r4 r5 r6
  obtain ⟨R, hR⟩ : ∃ R, R = opB ⟨kd, tb, nm, wh, row, mu, cs, un⟩ := ⟨_, rfl⟩
  rw [← hR]
  have HF : Hid (headB ⟨kd, tb, nm, wh, row, mu, cs, un⟩ = false → R = false) := fun h => hR.trans (op_head h)
  have HRW : Hid (∀ k (hk : k < row.length), setB row[k] = false → R = false) := fun k hk h => hR.trans (op_row (o := ⟨kd, tb, nm, wh, row, mu, cs, un⟩) hk h)
  have HCL : Hid (∀ k (hk : k < cs.length), ¬ cs[k].length ≤ 40 → R = false) := fun k hk h => hR.trans (op_col (o := ⟨kd, tb, nm, wh, row, mu, cs, un⟩) hk h)
  have HAL : Hid (headB ⟨kd, tb, nm, wh, row, mu, cs, un⟩ = true → (∀ k (h : k < row.length), setB row[k] = true) → (∀ k (h : k < cs.length), cs[k].length ≤ 40) → R = useB ⟨kd, tb, nm, wh, row, mu, cs, un⟩) := fun h0 h1 h2 => hR.trans (op_all h0 h1 h2)
  have HHD : Hid (headB ⟨kd, tb, nm, wh, row, mu, cs, un⟩ = (inB 1 kd 10 && (decide (tb.length ≤ 40) && (decide (nm.length ≤ 40) && (condsB wh && (mutsB mu && (decide (row.length ≤ 6) && decide (cs.length ≤ 6)))))))) := rfl
  clear hR
  go_enter Tryz.func18, Tryz.ntmps18
  go_wp2_with fail
  refine (inS _ _ _ _).mono ?_
  rintro e w1 ⟨rfl, rfl⟩
  have HR : Hid (R = false) := HF.out (by rw [HHD.out]; rw [hk]; rfl)
  rw [hk]
  clear hk
  go_wp2_with fail
  go_ret
  exact ⟨ret_b HR.out.symm, HB.out.2⟩
end Go.Proofs.YtaepgahejelkaaaGreat
namespace Go.Proofs.YtaepgahejelkaaaGreat
open Go.RowKit
set_option linter.unusedSimpArgs false
set_option maxRecDepth 100000 in
set_option maxHeartbeats 12800000 in
theorem opOKs_1 (tb nm : List UInt8) (wh : List CondV) (row : List SetV) (mu : List MutV) (cs : List (List UInt8)) (un : Bool) (a3 : Option Addr) (c3 : Nat) (a4 : Option Addr) (c4 : Nat) (a5 : Option Addr) (c5 : Nat) (a6 : Option Addr) (c6 : Nat) (B : Nat → Prop) (w : World)
    (h1 : tb.length ≤ maxLen) (h2 : nm.length ≤ maxLen) (h3 : (dCondS wh).le maxLen) (h4 : (dSetS row).le maxLen) (h5 : (dMutS mu).le maxLen) (h6 : (dStringS cs).le maxLen)
    (r3 : Rd w B (dCondS wh) (.slice a3 wh.length c3)) (r4 : Rd w B (dSetS row) (.slice a4 row.length c4)) (r5 : Rd w B (dMutS mu) (.slice a5 mu.length c5)) (r6 : Rd w B (dStringS cs) (.slice a6 cs.length c6)) :
    Calls Tryz.prog 18 #[.agg #[.int .i64 1, .string ⟨tb.toArray⟩, .string ⟨nm.toArray⟩, .slice a3 wh.length c3, .slice a4 row.length c4, .slice a5 mu.length c5, .slice a6 cs.length c6, .bool un]] w fun e w' => e = .returned (.bool (opB ⟨1, tb, nm, wh, row, mu, cs, un⟩)) ∧ Below w.heap.size w w' := by
  have LW : Hid (∀ W, BoxD 43 w W #[.int .i64 1, .string ⟨tb.toArray⟩, .string ⟨nm.toArray⟩, .slice a3 wh.length c3, .slice a4 row.length c4, .slice a5 mu.length c5, .slice a6 cs.length c6, .bool un] → Calls Tryz.prog 41 #[.slice a3 wh.length c3] W fun e w' => e = .returned (.bool (condsB wh)) ∧ BoxD 43 w w' #[.int .i64 1, .string ⟨tb.toArray⟩, .string ⟨nm.toArray⟩, .slice a3 wh.length c3, .slice a4 row.length c4, .slice a5 mu.length c5, .slice a6 cs.length c6, .bool un]) := fun W h => (listS wh a3 c3 B W h3 (r3.later h.2)).mono (fun _ _ ⟨he, hB⟩ => ⟨he, h.later hB⟩)
  have LM : Hid (∀ W, BoxD 43 w W #[.int .i64 1, .string ⟨tb.toArray⟩, .string ⟨nm.toArray⟩, .slice a3 wh.length c3, .slice a4 row.length c4, .slice a5 mu.length c5, .slice a6 cs.length c6, .bool un] → Calls Tryz.prog 42 #[.slice a5 mu.length c5] W fun e w' => e = .returned (.bool (mutsB mu)) ∧ BoxD 43 w w' #[.int .i64 1, .string ⟨tb.toArray⟩, .string ⟨nm.toArray⟩, .slice a3 wh.length c3, .slice a4 row.length c4, .slice a5 mu.length c5, .slice a6 cs.length c6, .bool un]) := fun W h => (mlistS mu a5 c5 B W h5 (r5.later h.2)).mono (fun _ _ ⟨he, hB⟩ => ⟨he, h.later hB⟩)
  have HR4 : Hid (∀ W, Below w.heap.size w W → Rd W B (Ls 3 dSet row) (.slice a4 row.length c4)) := fun W h => Rd.later r4 h
  have HR6 : Hid (∀ W, Below w.heap.size w W → Rd W B (Ls 1 cString cs) (.slice a6 cs.length c6)) := fun W h => Rd.later r6 h
  have HO4 := Lib.hid h4
  have HO6 := Lib.hid h6
  have l3 : wh.length ≤ maxLen := (Ls_le.1 h3).2.1
  have l4 : row.length ≤ maxLen := (Ls_le.1 h4).2.1
  have l5 : mu.length ≤ maxLen := (Ls_le.1 h5).2.1
  have l6 : cs.length ≤ maxLen := (Ls_le.1 h6).2.1
  unfold maxLen at h1 h2 l3 l4 l5 l6
  have hb := boxD 43 w #[.int .i64 1, .string ⟨tb.toArray⟩, .string ⟨nm.toArray⟩, .slice a3 wh.length c3, .slice a4 row.length c4, .slice a5 mu.length c5, .slice a6 cs.length c6, .bool un]
  have HB := Lib.hid hb
  have y0 := cell_at (o := 0) hb.1 rfl
  have y1 := cell_at (o := 1) hb.1 rfl
  have y2 := cell_at (o := 2) hb.1 rfl
  have y3 := cell_at (o := 3) hb.1 rfl
  have y4 := cell_at (o := 4) hb.1 rfl
  have y5 := cell_at (o := 5) hb.1 rfl
  have y6 := cell_at (o := 6) hb.1 rfl
  have y7 := cell_at (o := 7) hb.1 rfl
  clear hb h3 h4 h5 h6 r3 r4 r5 r6
  obtain ⟨R, hR⟩ : ∃ R, R = opB ⟨1, tb, nm, wh, row, mu, cs, un⟩ := ⟨_, rfl⟩
  rw [← hR]
  have HF : Hid (headB ⟨1, tb, nm, wh, row, mu, cs, un⟩ = false → R = false) := fun h => hR.trans (op_head h)
  have HRW : Hid (∀ k (hk : k < row.length), setB row[k] = false → R = false) := fun k hk h => hR.trans (op_row (o := ⟨1, tb, nm, wh, row, mu, cs, un⟩) hk h)
  have HCL : Hid (∀ k (hk : k < cs.length), ¬ cs[k].length ≤ 40 → R = false) := fun k hk h => hR.trans (op_col (o := ⟨1, tb, nm, wh, row, mu, cs, un⟩) hk h)
  have HAL : Hid (headB ⟨1, tb, nm, wh, row, mu, cs, un⟩ = true → (∀ k (h : k < row.length), setB row[k] = true) → (∀ k (h : k < cs.length), cs[k].length ≤ 40) → R = useB ⟨1, tb, nm, wh, row, mu, cs, un⟩) := fun h0 h1 h2 => hR.trans (op_all h0 h1 h2)
  have HHD : Hid (headB ⟨1, tb, nm, wh, row, mu, cs, un⟩ = (inB 1 1 10 && (decide (tb.length ≤ 40) && (decide (nm.length ≤ 40) && (condsB wh && (mutsB mu && (decide (row.length ≤ 6) && decide (cs.length ≤ 6)))))))) := rfl
  clear hR
  go_enter Tryz.func18, Tryz.ntmps18
  go_wp2_with fail
  refine (inS _ _ _ _).mono ?_
  rintro e w1 ⟨rfl, rfl⟩
  rw [show inB 1 1 10 = true from rfl]
  by_cases htb : tb.length ≤ 40
  case neg =>
    have HR : Hid (R = false) := HF.out (by rw [HHD.out]; rw [decide_eq_false htb]; simp)
    have dtb : decide (40 < (tb.length : Int)) = true := decide_eq_true (by omega)
    clear htb
    go_wp2_with fail
    go_ret
    exact ⟨ret_b HR.out.symm, HB.out.2⟩
  have dtb : decide (40 < (tb.length : Int)) = false := decide_eq_false (by omega)
  have HT := Lib.hid htb
  clear htb
  by_cases hnm : nm.length ≤ 40
  case neg =>
    have HR : Hid (R = false) := HF.out (by rw [HHD.out]; rw [decide_eq_false hnm]; simp)
    have dnm : decide (40 < (nm.length : Int)) = true := decide_eq_true (by omega)
    clear hnm
    go_wp2_with fail
    go_ret
    exact ⟨ret_b HR.out.symm, HB.out.2⟩
  have dnm : decide (40 < (nm.length : Int)) = false := decide_eq_false (by omega)
  have HN := Lib.hid hnm
  clear hnm
  go_wp2_with fail
  refine (LW.out _ HB.out).mono ?_
  rintro e w2 ⟨rfl, hb⟩
  have HB2 := Lib.hid hb
  clear y0 y1 y2 y3 y4 y5 y6 y7
  have y0 := cell_at (o := 0) hb.1 rfl
  have y1 := cell_at (o := 1) hb.1 rfl
  have y2 := cell_at (o := 2) hb.1 rfl
  have y3 := cell_at (o := 3) hb.1 rfl
  have y4 := cell_at (o := 4) hb.1 rfl
  have y5 := cell_at (o := 5) hb.1 rfl
  have y6 := cell_at (o := 6) hb.1 rfl
  have y7 := cell_at (o := 7) hb.1 rfl
  clear hb
  cases hw : condsB wh
  case false =>
    have HR : Hid (R = false) := HF.out (by rw [HHD.out]; rw [hw]; simp)
    clear hw
    go_wp2_with fail
    go_ret
    exact ⟨ret_b HR.out.symm, HB2.out.2⟩
  have HW := Lib.hid hw
  clear hw
  go_wp2_with fail
  refine (LM.out _ HB2.out).mono ?_
  rintro e w3 ⟨rfl, hb⟩
  have HB3 := Lib.hid hb
  clear y0 y1 y2 y3 y4 y5 y6 y7
  have y0 := cell_at (o := 0) hb.1 rfl
  have y1 := cell_at (o := 1) hb.1 rfl
  have y2 := cell_at (o := 2) hb.1 rfl
  have y3 := cell_at (o := 3) hb.1 rfl
  have y4 := cell_at (o := 4) hb.1 rfl
  have y5 := cell_at (o := 5) hb.1 rfl
  have y6 := cell_at (o := 6) hb.1 rfl
  have y7 := cell_at (o := 7) hb.1 rfl
  clear hb
  cases hm : mutsB mu
  case false =>
    have HR : Hid (R = false) := HF.out (by rw [HHD.out]; rw [hm]; simp)
    clear hm
    go_wp2_with fail
    go_ret
    exact ⟨ret_b HR.out.symm, HB3.out.2⟩
  have HM := Lib.hid hm
  clear hm
  by_cases hrow : row.length ≤ 6
  case neg =>
    have HR : Hid (R = false) := HF.out (by rw [HHD.out]; rw [decide_eq_false hrow]; simp)
    have drow : decide (6 < (row.length : Int)) = true := decide_eq_true (by omega)
    clear hrow
    go_wp2_with fail
    go_ret
    exact ⟨ret_b HR.out.symm, HB3.out.2⟩
  have drow : decide (6 < (row.length : Int)) = false := decide_eq_false (by omega)
  have HRR6 := Lib.hid hrow
  clear hrow
  by_cases hcs : cs.length ≤ 6
  case neg =>
    have HR : Hid (R = false) := HF.out (by rw [HHD.out]; rw [decide_eq_false hcs]; simp)
    have dcs : decide (6 < (cs.length : Int)) = true := decide_eq_true (by omega)
    clear hcs
    go_wp2_with fail
    go_ret
    exact ⟨ret_b HR.out.symm, HB3.out.2⟩
  have dcs : decide (6 < (cs.length : Int)) = false := decide_eq_false (by omega)
  have HCC6 := Lib.hid hcs
  clear hcs
  have HH : Hid (headB ⟨1, tb, nm, wh, row, mu, cs, un⟩ = true) := by show headB _ = true; rw [HHD.out, decide_eq_true HT.out, decide_eq_true HN.out, HW.out, HM.out, decide_eq_true HRR6.out, decide_eq_true HCC6.out]; rfl
  clear HF HHD LW LM HT HN HW HM
  go_wp2_with fail
  go_loopw [3] (fun iv wr => ∃ k : Nat, k ≤ row.length ∧ iv = .int .i64 k ∧ Hid ((∀ m (h : m < row.length), m < k → setB row[m] = true) ∧ BoxD 43 w wr #[.int .i64 1, .string ⟨tb.toArray⟩, .string ⟨nm.toArray⟩, .slice a3 wh.length c3, .slice a4 row.length c4, .slice a5 mu.length c5, .slice a6 cs.length c6, .bool un])) (fun iv _ => row.length - (intOf iv).toNat)
  case atStart => exact ⟨0, Nat.zero_le _, rfl, fun m _ h => absurd h (by omega), HB3.out⟩
  case round =>
    obtain ⟨k, hk, rfl, HS⟩ := hrel
    clear y0 y1 y2 y3 y4 y5 y6 y7
    have y0 := cell_at (o := 0) HS.out.2.1 rfl
    have y1 := cell_at (o := 1) HS.out.2.1 rfl
    have y2 := cell_at (o := 2) HS.out.2.1 rfl
    have y3 := cell_at (o := 3) HS.out.2.1 rfl
    have y4 := cell_at (o := 4) HS.out.2.1 rfl
    have y5 := cell_at (o := 5) HS.out.2.1 rfl
    have y6 := cell_at (o := 6) HS.out.2.1 rfl
    have y7 := cell_at (o := 7) HS.out.2.1 rfl
    by_cases hlt : k < row.length
    case pos =>
      have hki : (k : Int) < (row.length : Int) := by omega
      obtain ⟨b, off, rfl, -, hc⟩ := (HR4.out _ HS.out.2.2).things k hlt
      obtain ⟨u0, z0, s0⟩ := hc 0 (by omega)
      obtain rfl : u0 = .string ⟨row[k].col.toArray⟩ := s0
      rw [Nat.add_zero] at z0
      obtain ⟨u1, z1, s1⟩ := hc 1 (by omega)
      replace s1 : Rd wr B (dAtomS row[k].val) u1 := s1
      obtain ⟨va, vc, rfl⟩ := s1.lsSlice
      obtain ⟨u2, z2, s2⟩ := hc 2 (by omega)
      replace s2 : Rd wr B (dStringS row[k].nms) u2 := s2
      obtain ⟨na, nc, rfl⟩ := s2.lsSlice
      have hle := le_set HO4.out hlt
      have SC := Lib.hid (setS row[k] va vc na nc B B wr hle.1 hle.2.1 hle.2.2 s1 s2)
      have HNO : Hid (setB row[k] = false → R = false) := fun h => HRW.out k hlt h
      have HNX : Hid (setB row[k] = true → ∀ m (h : m < row.length), m < k + 1 → setB row[m] = true) := fun he m h hm => by
        by_cases e : m = k
        · subst e; exact he
        · exact HS.out.1 m h (by omega)
      clear hc s1 s2 hle
      generalize row[k] = x at *
      have HSB := Lib.hid HS.out.2
      go_wp2_with fail
      refine SC.out.mono ?_
      rintro e w4 ⟨rfl, hB⟩
      have HB4 := Lib.hid (HSB.out.later hB)
      clear hB z0 z1 z2 y0 y1 y2 y3 y4 y5 y6 y7
      cases he : setB x
      case false =>
        have HR := Lib.hid (HNO.out he)
        clear HNO HNX he SC
        have y0 := cell_at (o := 0) HB4.out.1 rfl
        have y1 := cell_at (o := 1) HB4.out.1 rfl
        have y2 := cell_at (o := 2) HB4.out.1 rfl
        have y3 := cell_at (o := 3) HB4.out.1 rfl
        have y4 := cell_at (o := 4) HB4.out.1 rfl
        have y5 := cell_at (o := 5) HB4.out.1 rfl
        have y6 := cell_at (o := 6) HB4.out.1 rfl
        have y7 := cell_at (o := 7) HB4.out.1 rfl
        go_wp2_with fail
        go_ret
        exact ⟨ret_b HR.out.symm, HB4.out.2⟩
      have HN := Lib.hid (HNX.out he)
      clear HNO HNX he SC
      have y0 := cell_at (o := 0) HB4.out.1 rfl
      have y1 := cell_at (o := 1) HB4.out.1 rfl
      have y2 := cell_at (o := 2) HB4.out.1 rfl
      have y3 := cell_at (o := 3) HB4.out.1 rfl
      have y4 := cell_at (o := 4) HB4.out.1 rfl
      have y5 := cell_at (o := 5) HB4.out.1 rfl
      have y6 := cell_at (o := 6) HB4.out.1 rfl
      have y7 := cell_at (o := 7) HB4.out.1 rfl
      go_wp2_with fail
      go_roundw
      case rel => exact ⟨k + 1, by omega, by go_num, HN.out, HB4.out⟩
      case measure => simp [intOf]; omega
    have hki : decide ((k : Int) < (row.length : Int)) = false := by simp; omega
    have HALL : Hid (∀ m (h : m < row.length), setB row[m] = true) := fun m h => HS.out.1 m h (by omega)
    have HB5 := Lib.hid HS.out.2
    clear HS HRW
    go_wp2_with fail
    clear hlt hk hki
    generalize wr = wq at *
    go_loopw [4] (fun iv wr => ∃ k : Nat, k ≤ cs.length ∧ iv = .int .i64 k ∧ Hid ((∀ m (h : m < cs.length), m < k → cs[m].length ≤ 40) ∧ BoxD 43 w wr #[.int .i64 1, .string ⟨tb.toArray⟩, .string ⟨nm.toArray⟩, .slice a3 wh.length c3, .slice a4 row.length c4, .slice a5 mu.length c5, .slice a6 cs.length c6, .bool un])) (fun iv _ => cs.length - (intOf iv).toNat)
    case atStart => exact ⟨0, Nat.zero_le _, rfl, fun m _ h => absurd h (by omega), HB5.out⟩
    case round =>
      obtain ⟨k2, hk2, rfl, HS⟩ := hrel
      clear y0 y1 y2 y3 y4 y5 y6 y7
      have y0 := cell_at (o := 0) HS.out.2.1 rfl
      have y1 := cell_at (o := 1) HS.out.2.1 rfl
      have y2 := cell_at (o := 2) HS.out.2.1 rfl
      have y3 := cell_at (o := 3) HS.out.2.1 rfl
      have y4 := cell_at (o := 4) HS.out.2.1 rfl
      have y5 := cell_at (o := 5) HS.out.2.1 rfl
      have y6 := cell_at (o := 6) HS.out.2.1 rfl
      have y7 := cell_at (o := 7) HS.out.2.1 rfl
      have HB6 := Lib.hid HS.out.2
      by_cases hlt : k2 < cs.length
      case pos =>
        have hk3 : (k2 : Int) < (cs.length : Int) := by omega
        obtain ⟨b, off, rfl, -, hc⟩ := (HR6.out _ HS.out.2.2).things k2 hlt
        obtain ⟨u0, z0, s0⟩ := hc 0 (by omega)
        obtain rfl : u0 = .string ⟨cs[k2].toArray⟩ := s0
        rw [Nat.mul_one, Nat.add_zero] at z0
        have hxl : cs[k2].length ≤ maxLen := le_text HO6.out hlt
        unfold maxLen at hxl
        have HNO : Hid (¬ cs[k2].length ≤ 40 → R = false) := fun h => HCL.out k2 hlt h
        have HNX : Hid (cs[k2].length ≤ 40 → ∀ m (h : m < cs.length), m < k2 + 1 → cs[m].length ≤ 40) := fun he m h hm => by
          by_cases e : m = k2
          · subst e; exact he
          · exact HS.out.1 m h (by omega)
        clear hc
        generalize cs[k2] = x at *
        by_cases he : x.length ≤ 40
        case neg =>
          have HR := Lib.hid (HNO.out he)
          have dx : decide (40 < (x.length : Int)) = true := decide_eq_true (by omega)
          clear HNO HNX he HS
          go_wp2_with fail
          go_ret
          exact ⟨ret_b HR.out.symm, HB6.out.2⟩
        have HN := Lib.hid (HNX.out he)
        have dx : decide (40 < (x.length : Int)) = false := decide_eq_false (by omega)
        clear HNO HNX he HS
        go_wp2_with fail
        go_roundw
        case rel => exact ⟨k2 + 1, by omega, by go_num, HN.out, HB6.out⟩
        case measure => simp [intOf]; omega
      have hk3 : decide ((k2 : Int) < (cs.length : Int)) = false := by simp; omega
      have HU : Hid (R = useB ⟨1, tb, nm, wh, row, mu, cs, un⟩) := HAL.out HH.out HALL.out (fun m h => HS.out.1 m h (by omega))
      clear HS HAL HALL HCL HH HR4 HR6 HO4 HO6 HB5 HRR6 HCC6 dtb dnm drow dcs h1 h2 l3 l4 l5 l6 HB HB3 HB2
      go_wp2_with fail
      refine (inS _ _ _ _).mono ?_
      rintro e w7 ⟨rfl, rfl⟩
      rw [show inB 1 1 6 = true from rfl]
      go_wp2_with fail
      refine (inS _ _ _ _).mono ?_
      rintro e w7 ⟨rfl, rfl⟩
      rw [show inB 2 1 6 = false from rfl]
      clear hlt hk2 hk3
      go_upto_region 17 with fail
      by_cases hwh : wh.length = 0
      case neg =>
        have HR : Hid (R = false) := HU.out.trans (by unfold useB; rw [show decide (wh.length = 0) = false from decide_eq_false hwh]; simp [inB])
        have ewh : ((wh.length : Int) == 0) = false := by rw [beq_eq_false_iff_ne]; omega
        have ewh2 : (wh.length == 0) = false := by rw [beq_eq_false_iff_ne]; omega
        have ewh3 : wh ≠ [] := fun e => hwh (by rw [e]; rfl)
        clear HU hwh
        refine wp_region_lit ?_
        dsimp only [List.append]
        iterate 2 (refine wpList_step (fun K hK => ?_); rw [if_pos (by kernel_rfl)]; go_simp; refine hK _ _ ?_; clear hK K)
        go_skip
        iterate 11 (refine wpList_step (fun K hK => ?_); rw [if_pos (by kernel_rfl)]; go_simp; refine hK _ _ ?_; clear hK K)
        go_skip
        iterate 2 (refine wpList_step (fun K hK => ?_); rw [if_pos (by kernel_rfl)]; go_simp; refine hK _ _ ?_; clear hK K)
        go_skip
        iterate 2 (refine wpList_step (fun K hK => ?_); rw [if_pos (by kernel_rfl)]; go_simp; refine hK _ _ ?_; clear hK K)
        go_skip
        iterate 2 (refine wpList_step (fun K hK => ?_); rw [if_pos (by kernel_rfl)]; go_simp; refine hK _ _ ?_; clear hK K)
        go_skip
        iterate 2 (refine wpList_step (fun K hK => ?_); rw [if_pos (by kernel_rfl)]; go_simp; refine hK _ _ ?_; clear hK K)
        go_skip
        iterate 2 (refine wpList_step (fun K hK => ?_); rw [if_pos (by kernel_rfl)]; go_simp; refine hK _ _ ?_; clear hK K)
        refine wpList_nil ?_
        go_wp2_with fail
        go_ret
        exact ⟨ret_b HR.out.symm, HB6.out.2⟩
      have ewh : ((wh.length : Int) == 0) = true := by simp [hwh]
      have ewh2 : (wh.length == 0) = true := by simp [hwh]
      by_cases hmu : mu.length = 0
      case neg =>
        have HR : Hid (R = false) := HU.out.trans (by unfold useB; rw [show decide (mu.length = 0) = false from decide_eq_false hmu]; simp [inB])
        have emu : ((mu.length : Int) == 0) = false := by rw [beq_eq_false_iff_ne]; omega
        have emu2 : (mu.length == 0) = false := by rw [beq_eq_false_iff_ne]; omega
        have emu3 : mu ≠ [] := fun e => hmu (by rw [e]; rfl)
        clear HU hmu hwh
        refine wp_region_lit ?_
        dsimp only [List.append]
        iterate 2 (refine wpList_step (fun K hK => ?_); rw [if_pos (by kernel_rfl)]; go_simp; refine hK _ _ ?_; clear hK K)
        go_skip
        iterate 13 (refine wpList_step (fun K hK => ?_); rw [if_pos (by kernel_rfl)]; go_simp; refine hK _ _ ?_; clear hK K)
        go_skip
        iterate 5 (refine wpList_step (fun K hK => ?_); rw [if_pos (by kernel_rfl)]; go_simp; refine hK _ _ ?_; clear hK K)
        go_skip
        iterate 14 (refine wpList_step (fun K hK => ?_); rw [if_pos (by kernel_rfl)]; go_simp; refine hK _ _ ?_; clear hK K)
        go_skip
        iterate 2 (refine wpList_step (fun K hK => ?_); rw [if_pos (by kernel_rfl)]; go_simp; refine hK _ _ ?_; clear hK K)
        go_skip
        iterate 2 (refine wpList_step (fun K hK => ?_); rw [if_pos (by kernel_rfl)]; go_simp; refine hK _ _ ?_; clear hK K)
        refine wpList_nil ?_
        go_wp2_with fail
        go_ret
        exact ⟨ret_b HR.out.symm, HB6.out.2⟩
      have emu : ((mu.length : Int) == 0) = true := by simp [hmu]
      have emu2 : (mu.length == 0) = true := by simp [hmu]
      by_cases hcs : cs.length = 0
      case neg =>
        have HR : Hid (R = false) := HU.out.trans (by unfold useB; rw [show decide (cs.length = 0) = false from decide_eq_false hcs]; simp [inB])
        have ecs : ((cs.length : Int) == 0) = false := by rw [beq_eq_false_iff_ne]; omega
        have ecs2 : (cs.length == 0) = false := by rw [beq_eq_false_iff_ne]; omega
        have ecs3 : cs ≠ [] := fun e => hcs (by rw [e]; rfl)
        clear HU hcs hwh hmu
        refine wp_region_lit ?_
        dsimp only [List.append]
        iterate 2 (refine wpList_step (fun K hK => ?_); rw [if_pos (by kernel_rfl)]; go_simp; refine hK _ _ ?_; clear hK K)
        go_skip
        iterate 13 (refine wpList_step (fun K hK => ?_); rw [if_pos (by kernel_rfl)]; go_simp; refine hK _ _ ?_; clear hK K)
        go_skip
        iterate 5 (refine wpList_step (fun K hK => ?_); rw [if_pos (by kernel_rfl)]; go_simp; refine hK _ _ ?_; clear hK K)
        go_skip
        iterate 25 (refine wpList_step (fun K hK => ?_); rw [if_pos (by kernel_rfl)]; go_simp; refine hK _ _ ?_; clear hK K)
        go_skip
        iterate 2 (refine wpList_step (fun K hK => ?_); rw [if_pos (by kernel_rfl)]; go_simp; refine hK _ _ ?_; clear hK K)
        refine wpList_nil ?_
        go_wp2_with fail
        go_ret
        exact ⟨ret_b HR.out.symm, HB6.out.2⟩
      have ecs : ((cs.length : Int) == 0) = true := by simp [hcs]
      have ecs2 : (cs.length == 0) = true := by simp [hcs]
      cases hun : un
      case true =>
        have HR : Hid (R = false) := HU.out.trans (by unfold useB; simp [hun, inB])
        clear HU hwh hmu hcs
        rw [hun] at y7
        clear hun
        refine wp_region_lit ?_
        dsimp only [List.append]
        iterate 2 (refine wpList_step (fun K hK => ?_); rw [if_pos (by kernel_rfl)]; go_simp; refine hK _ _ ?_; clear hK K)
        go_skip
        iterate 13 (refine wpList_step (fun K hK => ?_); rw [if_pos (by kernel_rfl)]; go_simp; refine hK _ _ ?_; clear hK K)
        go_skip
        iterate 5 (refine wpList_step (fun K hK => ?_); rw [if_pos (by kernel_rfl)]; go_simp; refine hK _ _ ?_; clear hK K)
        go_skip
        iterate 35 (refine wpList_step (fun K hK => ?_); rw [if_pos (by kernel_rfl)]; go_simp; refine hK _ _ ?_; clear hK K)
        refine wpList_nil ?_
        go_wp2_with fail
        go_ret
        exact ⟨ret_b HR.out.symm, HB6.out.2⟩
      rw [hun] at y7
      have HR : Hid (R = true) := HU.out.trans (by unfold useB; simp [inB, hwh, hmu, hcs, hun])
      clear HU hwh hmu hcs hun
      refine wp_region_lit ?_
      dsimp only [List.append]
      iterate 2 (refine wpList_step (fun K hK => ?_); rw [if_pos (by kernel_rfl)]; go_simp; refine hK _ _ ?_; clear hK K)
      go_skip
      iterate 13 (refine wpList_step (fun K hK => ?_); rw [if_pos (by kernel_rfl)]; go_simp; refine hK _ _ ?_; clear hK K)
      go_skip
      iterate 5 (refine wpList_step (fun K hK => ?_); rw [if_pos (by kernel_rfl)]; go_simp; refine hK _ _ ?_; clear hK K)
      go_skip
      iterate 35 (refine wpList_step (fun K hK => ?_); rw [if_pos (by kernel_rfl)]; go_simp; refine hK _ _ ?_; clear hK K)
      refine wpList_nil ?_
      go_wp2_with fail
      go_ret
      exact ⟨ret_b HR.out.symm, HB6.out.2⟩
end Go.Proofs.YtaepgahejelkaaaGreat
