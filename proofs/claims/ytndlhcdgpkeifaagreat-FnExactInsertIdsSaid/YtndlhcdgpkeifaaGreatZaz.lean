import Derived.Test.YtndlhcdgpkeifaaGreatZau
import Derived.Test.YtndlhcdgpkeifaaGreatZaw
import Derived.Test.YtndlhcdgpkeifaaGreatZax
import Derived.Test.YtndlhcdgpkeifaaGreatZay
namespace Go.Proofs.YtndlhcdgpkeifaaGreat
open Go.RowKit
set_option linter.unusedSimpArgs false
def rowsB (l : List SetV) : Bool := l.all setB
def colsB (l : List (List UInt8)) : Bool := l.all (fun t => decide (t.length ≤ 40))
def headB (o : OpV) : Bool := inB 1 o.kd 10 && (decide (o.tb.length ≤ 40) && (decide (o.nm.length ≤ 40) && (condsB o.wh && (mutsB o.mu && (decide (o.row.length ≤ 6) && decide (o.cs.length ≤ 6))))))
def useB (o : OpV) : Bool := (inB 1 o.kd 6 || decide (o.tb = [])) && ((inB 2 o.kd 6 || decide (o.wh.length = 0)) && (((o.kd == 1 || decide (9 ≤ o.kd)) || decide (o.nm = [])) && (((o.kd == 1 || (o.kd == 3 || o.kd == 6)) || decide (o.row.length = 0)) && ((o.kd == 4 || decide (o.mu.length = 0)) && ((o.kd == 2 || decide (o.cs.length = 0)) && (o.kd == 6 || !o.un))))))
def opB (o : OpV) : Bool := headB o && (rowsB o.row && (colsB o.cs && useB o))
theorem op_head {o : OpV} (h : headB o = false) : opB o = false := by unfold opB; rw [h]; rfl
theorem op_row {o : OpV} {k : Nat} (hk : k < o.row.length) (h : setB o.row[k] = false) : opB o = false := by
  unfold opB
  rw [show rowsB o.row = false from List.all_eq_false.2 ⟨_, List.getElem_mem hk, by simp [h]⟩]; simp
theorem op_col {o : OpV} {k : Nat} (hk : k < o.cs.length) (h : ¬ o.cs[k].length ≤ 40) : opB o = false := by
  unfold opB
  rw [show colsB o.cs = false from List.all_eq_false.2 ⟨_, List.getElem_mem hk, by simp; omega⟩]; simp
theorem op_all {o : OpV} (h0 : headB o = true) (h1 : ∀ k (h : k < o.row.length), setB o.row[k] = true) (h2 : ∀ k (h : k < o.cs.length), o.cs[k].length ≤ 40) : opB o = useB o := by
  unfold opB
  rw [h0, show rowsB o.row = true from List.all_eq_true.2 (fun x hx => by obtain ⟨k, hk, rfl⟩ := List.mem_iff_getElem.1 hx; exact h1 k hk), show colsB o.cs = true from List.all_eq_true.2 (fun x hx => by obtain ⟨k, hk, rfl⟩ := List.mem_iff_getElem.1 hx; exact decide_eq_true (h2 k hk))]; rfl
end Go.Proofs.YtndlhcdgpkeifaaGreat
namespace Go.Proofs.YtndlhcdgpkeifaaGreat
open Go.RowKit
set_option linter.unusedSimpArgs false
set_option maxRecDepth 100000 in
set_option maxHeartbeats 12800000 in
theorem opOKs_no (kd : Int) (tb nm : List UInt8) (wh : List CondV) (row : List SetV) (mu : List MutV) (cs : List (List UInt8)) (un : Bool) (a3 : Option Addr) (c3 : Nat) (a4 : Option Addr) (c4 : Nat) (a5 : Option Addr) (c5 : Nat) (a6 : Option Addr) (c6 : Nat) (B : Nat → Prop) (w : World)
    (hk : inB 1 kd 10 = false) (h3 : (dCondS wh).le maxLen) (h4 : (dSetS row).le maxLen) (h5 : (dMutS mu).le maxLen) (h6 : (dStringS cs).le maxLen)
    (r3 : Rd w B (dCondS wh) (.slice a3 wh.length c3)) (r4 : Rd w B (dSetS row) (.slice a4 row.length c4)) (r5 : Rd w B (dMutS mu) (.slice a5 mu.length c5)) (r6 : Rd w B (dStringS cs) (.slice a6 cs.length c6)) :
    Calls Tryz.prog 31 #[.agg #[.int .i64 kd, .string ⟨tb.toArray⟩, .string ⟨nm.toArray⟩, .slice a3 wh.length c3, .slice a4 row.length c4, .slice a5 mu.length c5, .slice a6 cs.length c6, .bool un]] w fun e w' => e = .returned (.bool (opB ⟨kd, tb, nm, wh, row, mu, cs, un⟩)) ∧ Below w.heap.size w w' := by
  have LW : Hid (∀ W, BoxD 48 w W #[.int .i64 kd, .string ⟨tb.toArray⟩, .string ⟨nm.toArray⟩, .slice a3 wh.length c3, .slice a4 row.length c4, .slice a5 mu.length c5, .slice a6 cs.length c6, .bool un] → Calls Tryz.prog 46 #[.slice a3 wh.length c3] W fun e w' => e = .returned (.bool (condsB wh)) ∧ BoxD 48 w w' #[.int .i64 kd, .string ⟨tb.toArray⟩, .string ⟨nm.toArray⟩, .slice a3 wh.length c3, .slice a4 row.length c4, .slice a5 mu.length c5, .slice a6 cs.length c6, .bool un]) := fun W h => (listS wh a3 c3 B W h3 (r3.later h.2)).mono (fun _ _ ⟨he, hB⟩ => ⟨he, h.later hB⟩)
  have LM : Hid (∀ W, BoxD 48 w W #[.int .i64 kd, .string ⟨tb.toArray⟩, .string ⟨nm.toArray⟩, .slice a3 wh.length c3, .slice a4 row.length c4, .slice a5 mu.length c5, .slice a6 cs.length c6, .bool un] → Calls Tryz.prog 47 #[.slice a5 mu.length c5] W fun e w' => e = .returned (.bool (mutsB mu)) ∧ BoxD 48 w w' #[.int .i64 kd, .string ⟨tb.toArray⟩, .string ⟨nm.toArray⟩, .slice a3 wh.length c3, .slice a4 row.length c4, .slice a5 mu.length c5, .slice a6 cs.length c6, .bool un]) := fun W h => (mlistS mu a5 c5 B W h5 (r5.later h.2)).mono (fun _ _ ⟨he, hB⟩ => ⟨he, h.later hB⟩)
  have HR4 : Hid (∀ W, Below w.heap.size w W → Rd W B (Ls 3 dSet row) (.slice a4 row.length c4)) := fun W h => Rd.later r4 h
  have HR6 : Hid (∀ W, Below w.heap.size w W → Rd W B (Ls 1 cString cs) (.slice a6 cs.length c6)) := fun W h => Rd.later r6 h
  have HO4 := Lib.hid h4
  have HO6 := Lib.hid h6
  have l3 : wh.length ≤ maxLen := (Ls_le.1 h3).2.1
  have l4 : row.length ≤ maxLen := (Ls_le.1 h4).2.1
  have l5 : mu.length ≤ maxLen := (Ls_le.1 h5).2.1
  have l6 : cs.length ≤ maxLen := (Ls_le.1 h6).2.1
  unfold maxLen at l3 l4 l5 l6
  have hb := boxD 48 w #[.int .i64 kd, .string ⟨tb.toArray⟩, .string ⟨nm.toArray⟩, .slice a3 wh.length c3, .slice a4 row.length c4, .slice a5 mu.length c5, .slice a6 cs.length c6, .bool un]
  have HB := Lib.hid hb
  have y0 := cell_at (o := 0) hb.1 rfl
  have y1 := cell_at (o := 1) hb.1 rfl
  have y2 := cell_at (o := 2) hb.1 rfl
  have y3 := cell_at (o := 3) hb.1 rfl
  have y4 := cell_at (o := 4) hb.1 rfl
  have y5 := cell_at (o := 5) hb.1 rfl
  have y6 := cell_at (o := 6) hb.1 rfl
  have y7 := cell_at (o := 7) hb.1 rfl
  clear hb h3 h4 h5 h6 r3 r4 r5 r6
  obtain ⟨R, hR⟩ : ∃ R, R = opB ⟨kd, tb, nm, wh, row, mu, cs, un⟩ := ⟨_, rfl⟩
  rw [← hR]
  have HF : Hid (headB ⟨kd, tb, nm, wh, row, mu, cs, un⟩ = false → R = false) := fun h => hR.trans (op_head h)
  have HRW : Hid (∀ k (hk : k < row.length), setB row[k] = false → R = false) := fun k hk h => hR.trans (op_row (o := ⟨kd, tb, nm, wh, row, mu, cs, un⟩) hk h)
  have HCL : Hid (∀ k (hk : k < cs.length), ¬ cs[k].length ≤ 40 → R = false) := fun k hk h => hR.trans (op_col (o := ⟨kd, tb, nm, wh, row, mu, cs, un⟩) hk h)
  have HAL : Hid (headB ⟨kd, tb, nm, wh, row, mu, cs, un⟩ = true → (∀ k (h : k < row.length), setB row[k] = true) → (∀ k (h : k < cs.length), cs[k].length ≤ 40) → R = useB ⟨kd, tb, nm, wh, row, mu, cs, un⟩) := fun h0 h1 h2 => hR.trans (op_all h0 h1 h2)
  have HHD : Hid (headB ⟨kd, tb, nm, wh, row, mu, cs, un⟩ = (inB 1 kd 10 && (decide (tb.length ≤ 40) && (decide (nm.length ≤ 40) && (condsB wh && (mutsB mu && (decide (row.length ≤ 6) && decide (cs.length ≤ 6)))))))) := rfl
  clear hR
  go_enter Tryz.func31, Tryz.ntmps31
  go_wp2_with fail
  refine (inS _ _ _ _).mono ?_
  rintro e w1 ⟨rfl, rfl⟩
  have HR : Hid (R = false) := HF.out (by rw [HHD.out]; rw [hk]; rfl)
  rw [hk]
  clear hk
  go_wp2_with fail
  go_ret
  exact ⟨ret_b HR.out.symm, HB.out.2⟩
end Go.Proofs.YtndlhcdgpkeifaaGreat
