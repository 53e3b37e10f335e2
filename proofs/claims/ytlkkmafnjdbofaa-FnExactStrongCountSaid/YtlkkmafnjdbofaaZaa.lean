import Derived.Test.YtlkkmafnjdbofaaRMem
import Derived.Test.YtlkkmafnjdbofaaCIm
import Derived.Test.YtlkkmafnjdbofaaKDo
import Derived.Test.YtlkkmafnjdbofaaKIc
import Derived.Test.YtlkkmafnjdbofaaTSt
import Derived.Test.YtlkkmafnjdbofaaTIm
import Derived.Deep.RegionHeld3
import Derived.Test.YtlkkmafnjdbofaaDRwA
import Derived.Test.YtlkkmafnjdbofaaDCmp
import Derived.Test.YtlkkmafnjdbofaaSpec
import Derived.Deep.QuietTactic
namespace Go.Proofs.Ytlkkmafnjdbofaa
open Go.RowKit
set_option linter.unusedSimpArgs false
theorem run_makeSs (n : Nat) (hn : n ≤ 1048576) (w : World) :
    (Instr.makeSlice 74 (.int .i64 (n : Int)) (.int .i64 (n : Int))).run Try.prog w = .ok (.slice (some ⟨w.heap.size, 0, none⟩) n n) (w.alloc (.cells (madeCells #[.slice none 0 0] n) 80)) := by
  have h : (Try.prog.info? 80).map (fun i => (i.zero, i.size, i.bytes)) = some (some (.slice none 0 0), 1, 24) := by kernel_rfl
  obtain ⟨i, hi, hzz⟩ := Option.map_eq_some_iff.1 h
  simp only [Prod.mk.injEq] at hzz
  obtain ⟨hz, hs, hb⟩ := hzz
  have hr := run_make (P := Try.prog) w 74 80 i _ Try.underlying74 hi hz .i64 .i64 n n (by omega) (Int.le_refl _) (by rw [hb]; omega) (by omega)
  rw [hr, hs]
  simp only [Int.toNat_natCast, Nat.mul_one]
  rfl
/-- the first k sets are copied -/
structure DoneS (w wr : World) (k : Nat) (l : List (List At)) (X : Nat → AdS) : Prop where
  row : ∃ f, wr.rowIs w.heap.size 80 l.length f ∧ ∀ m, m < k → f m = setF l X m
  has : ∀ i (h : i < l.length), i < k → Ats wr (fun b => w.heap.size < b ∧ b < wr.heap.size) (X i).a l[i]
def setAdS (X : Nat → AdS) (k : Nat) (a : AdS) : Nat → AdS := fun i => if i = k then a else X i
theorem DoneS.step {w wr w1 : World} {k : Nat} {l : List (List At)} {X : Nat → AdS} (h : DoneS w wr k l X) (hk : k < l.length) (hB : Below wr.heap.size wr w1) {a : Option Addr} {c : Nat} (hs : Ats w1 (fun b => w.heap.size < b ∧ b < w1.heap.size) a l[k]) : DoneS w (w1.setCell ⟨w.heap.size, k, none⟩ (.slice a l[k].length c)) (k + 1) l (setAdS X k ⟨a, c⟩) := by
  obtain ⟨f, hf, hd⟩ := h.row
  have hf1 := hf.of_block (hB.block _ hf.lt)
  have hsz : (w1.setCell ⟨w.heap.size, k, none⟩ (.slice a l[k].length c)).heap.size = w1.heap.size := by simp
  constructor
  · refine ⟨_, hf1.set k _, fun m hm => ?_⟩
    by_cases e : m = k
    · subst e
      simp only [if_true]
      unfold setF setAdS
      rw [set_getD hk, if_pos rfl]
    · simp only [e, if_false]
      rw [hd m (by omega)]
      unfold setF setAdS
      rw [if_neg e]
  · intro i hi hik
    by_cases e : i = k
    · subst e
      have e : setAdS X i ⟨a, c⟩ i = ⟨a, c⟩ := by unfold setAdS; rw [if_pos rfl]
      rw [e]
      exact hs.same (fun b hb => Below.heap_setCell _ _ _ _ (by simp; omega)) (fun b hb => by rw [hsz]; exact hb)
    · have e' : setAdS X k ⟨a, c⟩ i = X i := by unfold setAdS; rw [if_neg e]
      rw [e']
      refine (h.has i hi (by omega)).same (fun b hb => ?_) (fun b hb => ?_)
      · rw [Below.heap_setCell _ _ _ _ (by simp; omega), hB.block b hb.2]
      · rw [hsz]; have := hB.size; omega
/-- a copy of sets in memory of its own -/
def SetsAns (w : World) (l : List (List At)) (e : Ending) (w' : World) : Prop := ∃ X, e = .returned (.slice (some ⟨w.heap.size, 0, none⟩) l.length l.length) ∧ Sets w' (fun b => w.heap.size ≤ b ∧ b < w'.heap.size) (some ⟨w.heap.size, 0, none⟩) l X ∧ Below w.heap.size w w'
set_option maxRecDepth 100000 in
set_option maxHeartbeats 3200000 in
theorem toSets (l : List (List At)) (a : Option Addr) (c : Nat) (X0 : Nat → AdS) (S : Nat) (w : World) (hw : S ≤ w.heap.size) (hl : l.length ≤ 1048576) (hx : ∀ s ∈ l, s.length ≤ 1048576) (hS : Sets w (· < S) a l X0) :
    Calls Try.prog 69 #[.slice a l.length c] w (SetsAns w l) := by
  have HS : Hid (∀ W, Below w.heap.size w W → Sets W (· < S) a l X0) := fun W h => hS.same (fun b hb => h.block b (by omega)) (fun _ h => h)
  have HXL : Hid (∀ s ∈ l, s.length ≤ 1048576) := hx
  have HSW : Hid (S ≤ w.heap.size) := hw
  clear hS hx hw
  have hmk := run_makeSs l.length hl
  go_enter Try.func69, Try.ntmps69
  go_wp2_with fail
  clear hmk
  go_loopw [4] (fun i wr => ∃ k : Nat, k ≤ l.length ∧ i = .int .i64 k ∧ Below w.heap.size w wr ∧ Hid (w.heap.size < wr.heap.size ∧ ∃ X, DoneS w wr k l X)) (fun i _ => l.length - (intOf i).toNat)
  case atStart =>
    refine ⟨0, Nat.zero_le _, rfl, (Below.refl _ _).alloc (Nat.le_refl _) _, by simp, fun _ => ⟨none, 0⟩, ?_, fun i _ h => absurd h (by omega)⟩
    obtain ⟨f, hf⟩ := rowIs_made w #[.slice none 0 0] l.length 80
    exact ⟨f, hf, fun m h => absurd h (by omega)⟩
  case round =>
    obtain ⟨k, hk, rfl, hB, HD⟩ := hrel
    by_cases hlt : k < l.length
    · obtain ⟨b, off, rfl, -, hc⟩ := (HS.out _ hB).at k hlt
      have c0 := hc k hlt
      clear hc
      have hki : (k : Int) < (l.length : Int) := by omega
      obtain ⟨hsz, X, hd⟩ := HD.out
      have HDD := Lib.hid hd
      have HSZ := Lib.hid hsz
      have HT := Lib.hid (toAtoms l[k] (X0 k).a (X0 k).c S wr (Nat.le_trans HSW.out hB.size) (HXL.out _ (List.getElem_mem hlt)) ((HS.out _ hB).has k hlt))
      have HST : Hid (∀ w1 a c, Below wr.heap.size wr w1 → Ats w1 (fun b => w.heap.size < b ∧ b < w1.heap.size) a l[k] → ∃ X', DoneS w (w1.setCell ⟨w.heap.size, k, none⟩ (.slice a l[k].length c)) (k + 1) l X') := fun w1 a c hB1 h => ⟨_, HDD.out.step hlt hB1 h⟩
      have HROW : Hid (∃ f, wr.rowIs w.heap.size 80 l.length f) := by obtain ⟨f, hf, -⟩ := hd.row; exact ⟨f, hf⟩
      have HB := Lib.hid hB
      clear hd hsz HD HDD hB
      generalize l[k] = x at *
      go_wp2_with fail
      refine HT.out.mono ?_
      rintro e w1 ⟨rfl, oc, hB1⟩
      have HN := Lib.hid (HST.out w1 (some ⟨wr.heap.size, 0, none⟩) x.length hB1 (oc.ats.same (fun _ _ => rfl) (fun b hb => by have := HSZ.out; omega)))
      obtain ⟨f, hf⟩ := HROW.out
      have hf1 := hf.of_block (hB1.block _ hf.lt)
      have e0 := hf1.cell (i := k) (by omega)
      have z0 := hf1.frozen k
      have HW : Hid (Below w.heap.size w w1 ∧ w.heap.size < w1.heap.size) := ⟨HB.out.trans (hB1.mono HB.out.size), Nat.lt_of_lt_of_le HSZ.out hB1.size⟩
      clear hf hf1 hB1 oc HT HST HROW
      generalize wr.heap.size = q at *
      go_wp2_with fail
      go_roundw
      case rel => exact ⟨k + 1, by omega, by go_num, HW.out.1.setCell (Nat.le_refl _) _, by simpa using HW.out.2, HN.out⟩
      case measure => simp [intOf]; omega
    · have hk' : k = l.length := by omega
      obtain ⟨hsz, X, hd⟩ := HD.out
      have HDD := Lib.hid hd
      clear hd hsz HD
      go_wp2_with fail
      go_ret
      refine ⟨X, rfl, ⟨?_, fun i hi => (HDD.out.has i hi (by omega)).same (fun _ _ => rfl) (fun b hb => by omega)⟩, hB⟩
      obtain ⟨f, hf, hd⟩ := HDD.out.row
      refine .inr ⟨_, 0, rfl, ⟨Nat.le_refl _, hf.lt⟩, fun m hm => ?_⟩
      rw [Nat.zero_add, hf.cell hm, hd m (by omega)]
set_option maxRecDepth 100000 in
set_option maxHeartbeats 3200000 in
theorem eqSets (l : List (List At)) (a a' : Option Addr) (c c' : Nat) (X Y : Nat → AdS) (A B : Nat → Prop) (w : World) (ho : SetsOk l) (hA : Sets w A a l X) (hB : Sets w B a' l Y) :
    Calls Try.prog 81 #[.slice a l.length c, .slice a' l.length c'] w fun e w' => e = .returned (.bool true) ∧ Below w.heap.size w w' := by
  have hl := ho.1
  unfold maxLen at hl
  have HO : Hid (∀ s ∈ l, s.length ≤ maxLen) := fun s hs => (ho.2 s hs).1
  have HA : Hid (∀ W, Below w.heap.size w W → Sets W A a l X) := fun W h => hA.later h
  have HB : Hid (∀ W, Below w.heap.size w W → Sets W B a' l Y) := fun W h => hB.later h
  clear hA hB ho
  go_enter Try.func81, Try.ntmps81
  go_wp2_with fail
  go_loopw [5] (fun i wr => ∃ k : Nat, k ≤ l.length ∧ i = .int .i64 k ∧ Hid (Below w.heap.size w wr)) (fun i _ => l.length - (intOf i).toNat)
  case atStart => exact ⟨0, Nat.zero_le _, rfl, Below.refl _ _⟩
  case round =>
    obtain ⟨k, hk, rfl, HW⟩ := hrel
    by_cases hlt : k < l.length
    · obtain ⟨b, off, rfl, -, hc⟩ := (HA.out _ HW.out).at k hlt
      have c0 := hc k hlt
      obtain ⟨b', off', rfl, -, hd⟩ := (HB.out _ HW.out).at k hlt
      have d0 := hd k hlt
      clear hc hd
      have EQ : Hid (∀ W, Below w.heap.size w W → Calls Try.prog 98 #[.slice (X k).a l[k].length (X k).c, .slice (Y k).a l[k].length (Y k).c] W fun e w' => e = .returned (.bool true) ∧ Below W.heap.size W w') := fun W h => eqAtoms l[k] _ _ _ _ A B W (HO.out _ (List.getElem_mem hlt)) ((HA.out _ h).has k hlt) ((HB.out _ h).has k hlt)
      generalize l[k] = x at *
      have hki : (k : Int) < (l.length : Int) := by omega
      go_wp2_with fail
      go_region_with (go_at_call 98; refine (EQ.out _ (by first | exact HW.out | exact HW.out.drew)).mono ?_; rintro e w1 ⟨rfl, hB1⟩)
      all_goals
        go_wp2_with fail
        go_roundw
        case rel => exact ⟨k + 1, by omega, by go_num, HW.out.trans ((Below.refl _ _).drew.trans (hB1.mono (by first | exact HW.out.size | (have := HW.out.size; simpa using this))))⟩
        case measure => simp [intOf]; omega
    · have hki : decide ((k : Int) < (l.length : Int)) = false := by simp; omega
      go_wp2_with fail
      go_ret
      exact ⟨rfl, HW.out⟩
set_option maxHeartbeats 1600000 in
theorem eqRow (id : Int) (l : List (List At)) (a a' : Option Addr) (c c' : Nat) (X Y : Nat → AdS) (A B : Nat → Prop) (w : World) (ho : SetsOk l) (hA : Sets w A a l X) (hB : Sets w B a' l Y) :
    Calls Try.prog 62 #[.agg #[.int .i64 id, .slice a l.length c], .agg #[.int .i64 id, .slice a' l.length c']] w fun e w' => e = .returned (.bool true) ∧ Below w.heap.size w w' := by
  have hb : Below w.heap.size w ((w.alloc (.cells #[.int .i64 id, .slice a l.length c] 76)).alloc (.cells #[.int .i64 id, .slice a' l.length c'] 76)) := ((Below.refl _ _).alloc (Nat.le_refl _) _).alloc (by simp) _
  have ST := Lib.hid (eqSets l a a' c c' X Y A B _ ho (hA.later hb) (hB.later hb))
  have HB := Lib.hid hb
  clear ho hA hB hb
  go_enter Try.func62, Try.ntmps62
  go_wp2_with (go_at_call 81; refine ST.out.mono ?_; rintro e w1 ⟨rfl, hB1⟩)
  go_ret
  exact ⟨rfl, HB.out.trans (hB1.mono HB.out.size)⟩
end Go.Proofs.Ytlkkmafnjdbofaa
namespace Go.Proofs.Ytlkkmafnjdbofaa
open Go.RowKit
set_option linter.unusedSimpArgs false
set_option maxRecDepth 100000 in
set_option maxHeartbeats 3200000 in
theorem toRow (id : Int) (l : List (List At)) (a : Option Addr) (c : Nat) (X0 : Nat → AdS) (S : Nat) (w : World) (hw : S ≤ w.heap.size) (hl : l.length ≤ 1048576) (hx : ∀ s ∈ l, s.length ≤ 1048576) (hS : Sets w (· < S) a l X0) :
    Calls Try.prog 51 #[.agg #[.int .i64 id, .slice a l.length c]] w fun e w' => ∃ q X, e = .returned (.agg #[.int .i64 id, .slice (some ⟨q, 0, none⟩) l.length l.length]) ∧ w.heap.size ≤ q ∧ Sets w' (fun b => q ≤ b ∧ b < w'.heap.size) (some ⟨q, 0, none⟩) l X ∧ Below w.heap.size w w' := by
  have al : ∀ (V : World) (o : Obj), Below V.heap.size V (V.alloc o) := fun V o => (Below.refl _ _).alloc (Nat.le_refl _) _
  have sz : ∀ (V : World) (o : Obj), (V.alloc o).heap.size = V.heap.size + 1 := fun V o => by simp
  obtain ⟨V, hV⟩ : ∃ V, V = ((w.alloc (.cells #[.int .i64 id, .slice a l.length c] 95)).alloc (.cells #[.int .i64 0, .slice none 0 0] 76)).alloc (.cells #[.int .i64 id, .slice none 0 0] 76) := ⟨_, rfl⟩
  have hb : Below w.heap.size w V := by rw [hV]; exact (((al _ _).trans ((al _ _).mono (by rw [sz]; omega))).trans ((al _ _).mono (by rw [sz, sz]; omega)))
  have hvs : V.heap.size = w.heap.size + 1 + 1 + 1 := by rw [hV, sz, sz, sz]
  have h1 : V.heap[w.heap.size + 1]? = some (.cells #[.int .i64 0, .slice none 0 0] 76) := by
    have h := heap_keptC (heap_newC (w.alloc (.cells #[.int .i64 id, .slice a l.length c] 95)) (.cells #[.int .i64 0, .slice none 0 0] 76)) (al _ (.cells #[.int .i64 id, .slice none 0 0] 76))
    rw [sz] at h
    rw [hV]; exact h
  have h2 : V.heap[w.heap.size + 1 + 1]? = some (.cells #[.int .i64 id, .slice none 0 0] 76) := by
    have h := heap_newC ((w.alloc (.cells #[.int .i64 id, .slice a l.length c] 95)).alloc (.cells #[.int .i64 0, .slice none 0 0] 76)) (.cells #[.int .i64 id, .slice none 0 0] 76)
    rw [sz, sz] at h
    rw [hV]; exact h
  have TT := Lib.hid (toSets l a c X0 S V (by omega) hl hx (hS.same (fun b hb' => hb.block b (by omega)) (fun _ h => h)))
  have HV := Lib.hid hV
  have M0 := Lib.hid (And.intro hb (And.intro hvs (And.intro h1 h2)))
  clear hl hx hS hb h1 h2 al sz hvs hV hw
  go_enter Try.func51, Try.ntmps51
  go_wp2_with fail
  rw [← HV.out]
  refine TT.out.mono ?_
  rintro e w1 ⟨X, rfl, hT, hB1⟩
  have r0 := cell_at (o := 0) (heap_keptC M0.out.2.2.1 hB1) rfl
  have r1 := cell_at (o := 1) (heap_keptC M0.out.2.2.1 hB1) rfl
  have g0 := frozen_at 0 (heap_keptC M0.out.2.2.1 hB1)
  have g1 := frozen_at 1 (heap_keptC M0.out.2.2.1 hB1)
  have x0 := cell_at (o := 0) (heap_keptC M0.out.2.2.2 hB1) rfl
  have x1 := cell_at (o := 1) (heap_keptC M0.out.2.2.2 hB1) rfl
  have z1 := frozen_at 1 (heap_keptC M0.out.2.2.2 hB1)
  have HT := Lib.hid hT
  have HB := Lib.hid (And.intro (M0.out.1.trans (hB1.mono M0.out.1.size)) hB1.size)
  clear hT hB1 TT
  generalize V.heap.size = q at *
  go_wp2_with fail
  refine bodyPost_ret (v := .agg #[.int .i64 id, .slice (some ⟨q, 0, none⟩) l.length l.length]) (by simp [results, Try.results51, go_sem, *]) rfl ?_
  have hq := M0.out.2.1
  refine ⟨q, X, rfl, by omega, ?_, ?_⟩
  · refine HT.out.same (fun b hb => ?_) (fun b hb => by simpa using hb)
    iterate 3 rw [Below.heap_setCell _ _ _ _ (by simp; omega)]
  · exact ((HB.out.1.setCell (by simp <;> omega) _).setCell (by simp <;> omega) _).setCell (by simp <;> omega) _
end Go.Proofs.Ytlkkmafnjdbofaa
namespace Go.Proofs.Ytlkkmafnjdbofaa
open Go.RowKit
set_option linter.unusedSimpArgs false
/-- a number that is out of a column's bounds -/
def outB (c : Cl) (x : At) : Bool := (c.k == 1) && !(inB c.lo x.n c.hi)
/-- what hinders a set from being a column's -/
def fitC (c : Cl) (l : List At) : Int :=
  if 0 < l.length ∧ (l.getD 0 atZ).k ≠ c.k then 9
  else if inB c.mn l.length c.mx = false then 6
  else if l.any (outB c) then 4 else 0
theorem fit9 {c : Cl} {l : List At} (h : 0 < l.length) (hk : ¬ l[0].k = c.k) : fitC c l = 9 := by
  unfold fitC; rw [at_getD h, if_pos ⟨h, hk⟩]
theorem fit6 {c : Cl} {l : List At} (h : ¬ (0 < l.length ∧ (l.getD 0 atZ).k ≠ c.k)) (hm : inB c.mn l.length c.mx = false) : fitC c l = 6 := by
  unfold fitC; rw [if_neg h, if_pos hm]
theorem fit4 {c : Cl} {l : List At} (h : ¬ (0 < l.length ∧ (l.getD 0 atZ).k ≠ c.k)) (hm : inB c.mn l.length c.mx = true) {k : Nat} (hk : k < l.length) (ho : outB c l[k] = true) : fitC c l = 4 := by
  unfold fitC; rw [if_neg h, if_neg (by simp [hm]), if_pos]
  rw [List.any_eq_true]; exact ⟨_, List.getElem_mem hk, ho⟩
theorem fit0 {c : Cl} {l : List At} (h : ¬ (0 < l.length ∧ (l.getD 0 atZ).k ≠ c.k)) (hm : inB c.mn l.length c.mx = true) (ho : ∀ k (hk : k < l.length), outB c l[k] = false) : fitC c l = 0 := by
  unfold fitC; rw [if_neg h, if_neg (by simp [hm]), if_neg]
  rw [List.any_eq_true]; rintro ⟨x, hx, h⟩
  obtain ⟨k, hk, rfl⟩ := List.mem_iff_getElem.1 hx
  rw [ho k hk] at h; cases h
set_option maxRecDepth 100000 in
set_option maxHeartbeats 1600000 in
theorem fitsS (c : Cl) (l : List At) (a : Option Addr) (cp : Nat) (S : Nat) (w : World) (hl : l.length ≤ maxLen) (hw : S ≤ w.heap.size) (hA : Ats w (· < S) a l) :
    Calls Try.prog 48 #[.agg #[.string ⟨c.nm.toArray⟩, .int .i64 c.k, .int .i64 c.mn, .int .i64 c.mx, .int .i64 c.lo, .int .i64 c.hi, .string ⟨c.rf.toArray⟩, .bool c.st], .slice a l.length cp] w fun e w' => e = .returned (.int .i64 (fitC c l)) ∧ Below w.heap.size w w' := by
  unfold maxLen at hl
  have HA : Hid (∀ W, Below w.heap.size w W → Ats W (· < S) a l) := fun W h => hA.below (h.mono hw)
  have hx := boxC 72 w c
  clear hA hw
  have x0 := cell_at (o := 0) hx.1 rfl
  have x1 := cell_at (o := 1) hx.1 rfl
  have x2 := cell_at (o := 2) hx.1 rfl
  have x3 := cell_at (o := 3) hx.1 rfl
  have x4 := cell_at (o := 4) hx.1 rfl
  have x5 := cell_at (o := 5) hx.1 rfl
  have x6 := cell_at (o := 6) hx.1 rfl
  have x7 := cell_at (o := 7) hx.1 rfl
  by_cases h0 : 0 < l.length ∧ (l.getD 0 atZ).k ≠ c.k
  case pos =>
    have hln := h0.1
    have HC : Hid (fitC c l = 9) := fit9 hln (by rw [← at_getD hln]; exact h0.2)
    have hk0 : (l[0].k != c.k) = true := by have := h0.2; rw [at_getD hln] at this; simpa using this
    obtain ⟨b, off, rfl, -, f0, -, -⟩ := (HA.out _ hx.2).item 0 hln
    rw [Nat.zero_mul, Nat.add_zero] at f0
    have hd : decide (0 < (l.length : Int)) = true := decide_eq_true (by omega)
    have hki0 : (0 : Int) < (l.length : Int) := by omega
    clear h0 HA
    generalize l[0] = z at *
    go_enter Try.func48, Try.ntmps48
    go_wp2_with fail
    go_quiet (fail)
    go_wp2_with fail
    go_ret
    exact ⟨ret_i HC.out.symm, below_drewN hx.2 _⟩
  have HN := Lib.hid h0
  have hq : l.length = 0 ∨ ∃ b off, a = some ⟨b, off, none⟩ ∧ 0 < l.length ∧ (w.alloc (.cells #[.string ⟨c.nm.toArray⟩, .int .i64 c.k, .int .i64 c.mn, .int .i64 c.mx, .int .i64 c.lo, .int .i64 c.hi, .string ⟨c.rf.toArray⟩, .bool c.st] 72)).cell? ⟨b, off, none⟩ = some (.int .i64 c.k) := by
    by_cases h : l.length = 0
    · exact .inl h
    · obtain ⟨b, off, e, -, f0, -, -⟩ := (HA.out _ hx.2).item 0 (by omega)
      rw [Nat.zero_mul, Nat.add_zero] at f0
      have hk0 : l[0].k = c.k := by
        by_cases hh : l[0].k = c.k
        · exact hh
        · exact absurd ⟨by omega, by rw [at_getD (by omega)]; exact hh⟩ h0
      rw [hk0] at f0
      exact .inr ⟨b, off, e, by omega, f0⟩
  have HQ := Lib.hid hq
  clear h0 hq
  cases hm : inB c.mn l.length c.mx
  case false =>
    have HC : Hid (fitC c l = 6) := fit6 HN.out hm
    rcases HQ.out with h | ⟨b, off, rfl, hln, f0⟩
    · obtain rfl := List.length_eq_zero_iff.1 h
      clear h HQ HN HA hl
      simp only [List.length_nil, Int.natCast_zero] at hm ⊢
      go_enter Try.func48, Try.ntmps48
      go_wp2_with fail
      go_quiet (fail)
      go_wp2_with (go_at_call 16; refine (inS _ _ _ _).mono ?_; rintro e w' ⟨rfl, rfl⟩)
      go_ret
      exact ⟨ret_i HC.out.symm, by first | exact hx.2 | exact hx.2.drew | exact below_drewN hx.2 _⟩
    · have hd : decide (0 < (l.length : Int)) = true := decide_eq_true (by omega)
      have hki0 : (0 : Int) < (l.length : Int) := by omega
      have hkk : (c.k != c.k) = false := by simp
      clear HQ HN HA
      go_enter Try.func48, Try.ntmps48
      go_wp2_with fail
      go_quiet (fail)
      go_wp2_with (go_at_call 16; refine (inS _ _ _ _).mono ?_; rintro e w' ⟨rfl, rfl⟩)
      go_ret
      exact ⟨ret_i HC.out.symm, below_drewN hx.2 _⟩
  rcases HQ.out with h | ⟨b, off, rfl, hln, f0⟩
  · obtain rfl := List.length_eq_zero_iff.1 h
    have HC : Hid (fitC c [] = 0) := fit0 HN.out hm (fun m hm => absurd hm (by simp))
    clear h HQ HN HA hl
    simp only [List.length_nil, Int.natCast_zero] at hm ⊢
    go_enter Try.func48, Try.ntmps48
    go_wp2_with fail
    go_quiet (fail)
    go_wp2_with (go_at_call 16; refine (inS _ _ _ _).mono ?_; rintro e w' ⟨rfl, rfl⟩)
    go_loopw [5] (fun i wr => i = .int .i64 0 ∧ BoxC 72 w wr c) (fun _ _ => 0)
    case atStart => exact ⟨rfl, by first | exact hx | exact hx.drew | exact hx.drewN _⟩
    case round =>
      clear hx x0 x1 x2 x3 x4 x5 x6 x7
      obtain ⟨rfl, hx⟩ := hrel
      go_wp2_with fail
      go_ret
      exact ⟨ret_i HC.out.symm, hx.2⟩
  · have hd : decide (0 < (l.length : Int)) = true := decide_eq_true (by omega)
    have hki0 : (0 : Int) < (l.length : Int) := by omega
    have hkk : (c.k != c.k) = false := by simp
    clear HQ
    go_enter Try.func48, Try.ntmps48
    go_wp2_with fail
    go_quiet (fail)
    clear f0
    go_wp2_with (go_at_call 16; refine (inS _ _ _ _).mono ?_; rintro e w' ⟨rfl, rfl⟩)
    go_loopw [5] (fun i wr => ∃ k : Nat, k ≤ l.length ∧ i = .int .i64 k ∧ Hid ((∀ m (hm : m < l.length), m < k → outB c l[m] = false) ∧ BoxC 72 w wr c)) (fun i _ => l.length - (intOf i).toNat)
    case atStart => exact ⟨0, Nat.zero_le _, rfl, fun m _ h => absurd h (by omega), by first | exact hx | exact hx.drew | exact hx.drewN _⟩
    case round =>
      clear hx x0 x1 x2 x3 x4 x5 x6 x7
      obtain ⟨k, hk, rfl, HW⟩ := hrel
      have hx := HW.out.2
      by_cases hlt : k < l.length
      case neg =>
        have HC : Hid (fitC c l = 0) := fit0 HN.out hm (fun m hm => HW.out.1 m hm (by omega))
        have hki : decide ((k : Int) < (l.length : Int)) = false := by simp; omega
        go_wp2_with fail
        go_ret
        exact ⟨ret_i HC.out.symm, hx.2⟩
      have hki : (k : Int) < (l.length : Int) := by omega
      obtain ⟨b, off, ea, -, -⟩ := (HA.out _ hx.2).item k hlt
      simp only [Option.some.injEq, Addr.mk.injEq, and_true] at ea
      obtain ⟨rfl, rfl⟩ := ea
      have CE0 : Hid (∀ W, BoxC 72 w W c → W.cell? ⟨w.heap.size, 1, none⟩ = some (.int .i64 c.k) ∧ W.cell? ⟨w.heap.size, 4, none⟩ = some (.int .i64 c.lo) ∧ W.cell? ⟨w.heap.size, 5, none⟩ = some (.int .i64 c.hi) ∧ W.cell? ⟨b, off + k * 3 + 1, none⟩ = some (.int .i64 l[k].n)) := fun W hb => ⟨cell_at (o := 1) hb.1 rfl, cell_at (o := 4) hb.1 rfl, cell_at (o := 5) hb.1 rfl, ((HA.out _ hb.2).three k hlt).2.1⟩
      have CE := CE0
      have HNX : Hid (outB c l[k] = false → ∀ m (hm : m < l.length), m < k + 1 → outB c l[m] = false) := fun h m hm hmk => by
        by_cases e : m = k
        · subst e; exact h
        · exact HW.out.1 m hm (by omega)
      have HF4 : Hid (outB c l[k] = true → fitC c l = 4) := fun h => fit4 HN.out hm hlt h
      clear HW CE0
      cases hk1 : (c.k == 1)
      case false =>
        have HN1 := Lib.hid (HNX.out (by unfold outB; rw [hk1]; rfl))
        clear HNX HF4
        generalize l[k] = x at *
        go_wp2_with fail
        refine wp_region_held_drew (S := (fun W => W.cell? ⟨w.heap.size, 1, none⟩ = some (.int .i64 c.k) ∧ W.cell? ⟨w.heap.size, 4, none⟩ = some (.int .i64 c.lo) ∧ W.cell? ⟨w.heap.size, 5, none⟩ = some (.int .i64 c.hi) ∧ W.cell? ⟨b, off + k * 3 + 1, none⟩ = some (.int .i64 x.n))) (by kernel_rfl) ?_ (fun hHeld => ?_)
        · (first | exact CE.out _ hx | exact CE.out _ hx.drew)
        refine wpAnyH_take (i := 0) (v := ?_) rfl (by kernel_rfl) (by kernel_rfl) (by kernel_rfl) (fun _ _ _ h => h) (Or.inl ⟨by kernel_rfl, ?_⟩) (by assumption) ?_
        rotate_left
        · (intro wS hSw; (try dsimp only at hSw); go_simp <;> with_reducible rfl)
        try simp only [Act.put, List.getElem_toArray, List.getElem_cons_succ, List.getElem_cons_zero, List.setIfInBounds_toArray, List.set_cons_zero, List.set_cons_succ]
        refine wpAnyH_take (i := 1) (v := ?_) rfl (by kernel_rfl) (by kernel_rfl) (by kernel_rfl) (fun _ _ _ h => h) (Or.inl ⟨by kernel_rfl, ?_⟩) (by assumption) ?_
        rotate_left
        · (intro wS hSw; (try dsimp only at hSw); go_simp <;> with_reducible rfl)
        try simp only [Act.put, List.getElem_toArray, List.getElem_cons_succ, List.getElem_cons_zero, List.setIfInBounds_toArray, List.set_cons_zero, List.set_cons_succ]
        refine wpAnyH_take (i := 2) (v := ?_) rfl (by kernel_rfl) (by kernel_rfl) (by kernel_rfl) (fun _ _ _ h => h) (Or.inl ⟨by kernel_rfl, ?_⟩) (by assumption) ?_
        rotate_left
        · (intro wS hSw; (try dsimp only at hSw); go_simp <;> with_reducible rfl)
        try simp only [Act.put, List.getElem_toArray, List.getElem_cons_succ, List.getElem_cons_zero, List.setIfInBounds_toArray, List.set_cons_zero, List.set_cons_succ]
        refine wpAnyH_take (i := 3) (v := ?_) rfl (by kernel_rfl) (by kernel_rfl) (by kernel_rfl) (fun _ _ _ h => h) (Or.inl ⟨by kernel_rfl, ?_⟩) (by assumption) ?_
        rotate_left
        · (intro wS hSw; (try dsimp only at hSw); go_simp <;> with_reducible rfl)
        try simp only [Act.put, List.getElem_toArray, List.getElem_cons_succ, List.getElem_cons_zero, List.setIfInBounds_toArray, List.set_cons_zero, List.set_cons_succ]
        refine wpAnyH_take (i := 4) (v := undef) rfl (by kernel_rfl) (by kernel_rfl) (by kernel_rfl) (fun _ _ _ h => h) (Or.inr ⟨by kernel_rfl, rfl⟩) (by assumption) ?_
        try simp only [Act.put, List.getElem_toArray, List.getElem_cons_succ, List.getElem_cons_zero, List.setIfInBounds_toArray, List.set_cons_zero, List.set_cons_succ]
        refine wpAnyH_take (i := 5) (v := undef) rfl (by kernel_rfl) (by kernel_rfl) (by kernel_rfl) (fun _ _ _ h => h) (Or.inr ⟨by kernel_rfl, rfl⟩) (by assumption) ?_
        try simp only [Act.put, List.getElem_toArray, List.getElem_cons_succ, List.getElem_cons_zero, List.setIfInBounds_toArray, List.set_cons_zero, List.set_cons_succ]
        refine wpAnyH_take (i := 6) (v := undef) rfl (by kernel_rfl) (by kernel_rfl) (by kernel_rfl) (fun _ _ _ h => h) (Or.inr ⟨by kernel_rfl, rfl⟩) (by assumption) ?_
        try simp only [Act.put, List.getElem_toArray, List.getElem_cons_succ, List.getElem_cons_zero, List.setIfInBounds_toArray, List.set_cons_zero, List.set_cons_succ]
        refine wpAnyH_take (i := 7) (v := undef) rfl (by kernel_rfl) (by kernel_rfl) (by kernel_rfl) (fun _ _ _ h => h) (Or.inr ⟨by kernel_rfl, rfl⟩) (by assumption) ?_
        try simp only [Act.put, List.getElem_toArray, List.getElem_cons_succ, List.getElem_cons_zero, List.setIfInBounds_toArray, List.set_cons_zero, List.set_cons_succ]
        refine wpAnyH_take (i := 8) (v := undef) rfl (by kernel_rfl) (by kernel_rfl) (by kernel_rfl) (fun _ _ _ h => h) (Or.inr ⟨by kernel_rfl, rfl⟩) (by assumption) ?_
        try simp only [Act.put, List.getElem_toArray, List.getElem_cons_succ, List.getElem_cons_zero, List.setIfInBounds_toArray, List.set_cons_zero, List.set_cons_succ]
        refine wpAnyH_take (i := 9) (v := undef) rfl (by kernel_rfl) (by kernel_rfl) (by kernel_rfl) (fun _ _ _ h => h) (Or.inr ⟨by kernel_rfl, rfl⟩) (by assumption) ?_
        try simp only [Act.put, List.getElem_toArray, List.getElem_cons_succ, List.getElem_cons_zero, List.setIfInBounds_toArray, List.set_cons_zero, List.set_cons_succ]
        refine wpAnyH_take (i := 10) (v := undef) rfl (by kernel_rfl) (by kernel_rfl) (by kernel_rfl) (fun _ _ _ h => h) (Or.inr ⟨by kernel_rfl, rfl⟩) (by assumption) ?_
        try simp only [Act.put, List.getElem_toArray, List.getElem_cons_succ, List.getElem_cons_zero, List.setIfInBounds_toArray, List.set_cons_zero, List.set_cons_succ]
        refine wpAnyH_take (i := 11) (v := undef) rfl (by kernel_rfl) (by kernel_rfl) (by kernel_rfl) (fun _ _ _ h => h) (Or.inr ⟨by kernel_rfl, rfl⟩) (by assumption) ?_
        try simp only [Act.put, List.getElem_toArray, List.getElem_cons_succ, List.getElem_cons_zero, List.setIfInBounds_toArray, List.set_cons_zero, List.set_cons_succ]
        refine wpAnyH_take (i := 12) (v := undef) rfl (by kernel_rfl) (by kernel_rfl) (by kernel_rfl) (fun _ _ _ h => h) (Or.inr ⟨by kernel_rfl, rfl⟩) (by assumption) ?_
        try simp only [Act.put, List.getElem_toArray, List.getElem_cons_succ, List.getElem_cons_zero, List.setIfInBounds_toArray, List.set_cons_zero, List.set_cons_succ]
        refine wpAnyH_take (i := 13) (v := undef) rfl (by kernel_rfl) (by kernel_rfl) (by kernel_rfl) (fun _ _ _ h => h) (Or.inr ⟨by kernel_rfl, rfl⟩) (by assumption) ?_
        try simp only [Act.put, List.getElem_toArray, List.getElem_cons_succ, List.getElem_cons_zero, List.setIfInBounds_toArray, List.set_cons_zero, List.set_cons_succ]
        refine wpAnyH_take (i := 14) (v := undef) rfl (by kernel_rfl) (by kernel_rfl) (by kernel_rfl) (fun _ _ _ h => h) (Or.inr ⟨by kernel_rfl, rfl⟩) (by assumption) ?_
        try simp only [Act.put, List.getElem_toArray, List.getElem_cons_succ, List.getElem_cons_zero, List.setIfInBounds_toArray, List.set_cons_zero, List.set_cons_succ]
        refine wpAnyH_take (i := 15) (v := ?_) rfl (by kernel_rfl) (by kernel_rfl) (by kernel_rfl) (fun _ _ _ h => h) (Or.inl ⟨by kernel_rfl, ?_⟩) (by assumption) ?_
        rotate_left
        · (intro wS hSw; (try dsimp only at hSw); go_simp <;> with_reducible rfl)
        try simp only [Act.put, List.getElem_toArray, List.getElem_cons_succ, List.getElem_cons_zero, List.setIfInBounds_toArray, List.set_cons_zero, List.set_cons_succ]
        refine wpAnyH_done (by kernel_rfl) ?_ _
        go_wp2_with fail
        go_roundw
        case rel => exact ⟨k + 1, by omega, by go_num, HN1.out, by first | exact hx | exact hx.drew | exact hx.drewN _⟩
        case measure => simp [intOf]; omega
      cases hin : inB c.lo l[k].n c.hi
      case true =>
        have HN1 := Lib.hid (HNX.out (by unfold outB; rw [hk1, hin]; rfl))
        clear HNX HF4
        generalize l[k] = x at *
        go_wp2_with fail
        refine wp_region_held_drew (S := (fun W => W.cell? ⟨w.heap.size, 1, none⟩ = some (.int .i64 c.k) ∧ W.cell? ⟨w.heap.size, 4, none⟩ = some (.int .i64 c.lo) ∧ W.cell? ⟨w.heap.size, 5, none⟩ = some (.int .i64 c.hi) ∧ W.cell? ⟨b, off + k * 3 + 1, none⟩ = some (.int .i64 x.n))) (by kernel_rfl) ?_ (fun hHeld => ?_)
        · (first | exact CE.out _ hx | exact CE.out _ hx.drew)
        refine wpAnyH_take (i := 0) (v := ?_) rfl (by kernel_rfl) (by kernel_rfl) (by kernel_rfl) (fun _ _ _ h => h) (Or.inl ⟨by kernel_rfl, ?_⟩) (by assumption) ?_
        rotate_left
        · (intro wS hSw; (try dsimp only at hSw); go_simp <;> with_reducible rfl)
        try simp only [Act.put, List.getElem_toArray, List.getElem_cons_succ, List.getElem_cons_zero, List.setIfInBounds_toArray, List.set_cons_zero, List.set_cons_succ]
        refine wpAnyH_take (i := 1) (v := ?_) rfl (by kernel_rfl) (by kernel_rfl) (by kernel_rfl) (fun _ _ _ h => h) (Or.inl ⟨by kernel_rfl, ?_⟩) (by assumption) ?_
        rotate_left
        · (intro wS hSw; (try dsimp only at hSw); go_simp <;> with_reducible rfl)
        try simp only [Act.put, List.getElem_toArray, List.getElem_cons_succ, List.getElem_cons_zero, List.setIfInBounds_toArray, List.set_cons_zero, List.set_cons_succ]
        refine wpAnyH_take (i := 2) (v := ?_) rfl (by kernel_rfl) (by kernel_rfl) (by kernel_rfl) (fun _ _ _ h => h) (Or.inl ⟨by kernel_rfl, ?_⟩) (by assumption) ?_
        rotate_left
        · (intro wS hSw; (try dsimp only at hSw); go_simp <;> with_reducible rfl)
        try simp only [Act.put, List.getElem_toArray, List.getElem_cons_succ, List.getElem_cons_zero, List.setIfInBounds_toArray, List.set_cons_zero, List.set_cons_succ]
        refine wpAnyH_take (i := 3) (v := ?_) rfl (by kernel_rfl) (by kernel_rfl) (by kernel_rfl) (fun _ _ _ h => h) (Or.inl ⟨by kernel_rfl, ?_⟩) (by assumption) ?_
        rotate_left
        · (intro wS hSw; (try dsimp only at hSw); go_simp <;> with_reducible rfl)
        try simp only [Act.put, List.getElem_toArray, List.getElem_cons_succ, List.getElem_cons_zero, List.setIfInBounds_toArray, List.set_cons_zero, List.set_cons_succ]
        refine wpAnyH_take (i := 4) (v := ?_) rfl (by kernel_rfl) (by kernel_rfl) (by kernel_rfl) (fun _ _ _ h => h) (Or.inl ⟨by kernel_rfl, ?_⟩) (by assumption) ?_
        rotate_left
        · (intro wS hSw; (try dsimp only at hSw); go_simp <;> with_reducible rfl)
        try simp only [Act.put, List.getElem_toArray, List.getElem_cons_succ, List.getElem_cons_zero, List.setIfInBounds_toArray, List.set_cons_zero, List.set_cons_succ]
        refine wpAnyH_take (i := 5) (v := ?_) rfl (by kernel_rfl) (by kernel_rfl) (by kernel_rfl) (fun _ _ _ h => h) (Or.inl ⟨by kernel_rfl, ?_⟩) (by assumption) ?_
        rotate_left
        · (intro wS hSw; (try dsimp only at hSw); go_simp <;> with_reducible rfl)
        try simp only [Act.put, List.getElem_toArray, List.getElem_cons_succ, List.getElem_cons_zero, List.setIfInBounds_toArray, List.set_cons_zero, List.set_cons_succ]
        refine wpAnyH_take (i := 6) (v := ?_) rfl (by kernel_rfl) (by kernel_rfl) (by kernel_rfl) (fun _ _ _ h => h) (Or.inl ⟨by kernel_rfl, ?_⟩) (by assumption) ?_
        rotate_left
        · (intro wS hSw; (try dsimp only at hSw); go_simp <;> with_reducible rfl)
        try simp only [Act.put, List.getElem_toArray, List.getElem_cons_succ, List.getElem_cons_zero, List.setIfInBounds_toArray, List.set_cons_zero, List.set_cons_succ]
        refine wpAnyH_take (i := 7) (v := ?_) rfl (by kernel_rfl) (by kernel_rfl) (by kernel_rfl) (fun _ _ _ h => h) (Or.inl ⟨by kernel_rfl, ?_⟩) (by assumption) ?_
        rotate_left
        · (intro wS hSw; (try dsimp only at hSw); go_simp <;> with_reducible rfl)
        try simp only [Act.put, List.getElem_toArray, List.getElem_cons_succ, List.getElem_cons_zero, List.setIfInBounds_toArray, List.set_cons_zero, List.set_cons_succ]
        refine wpAnyH_take (i := 8) (v := ?_) rfl (by kernel_rfl) (by kernel_rfl) (by kernel_rfl) (fun _ _ _ h => h) (Or.inl ⟨by kernel_rfl, ?_⟩) (by assumption) ?_
        rotate_left
        · (intro wS hSw; (try dsimp only at hSw); go_simp <;> with_reducible rfl)
        try simp only [Act.put, List.getElem_toArray, List.getElem_cons_succ, List.getElem_cons_zero, List.setIfInBounds_toArray, List.set_cons_zero, List.set_cons_succ]
        refine wpAnyH_take (i := 9) (v := ?_) rfl (by kernel_rfl) (by kernel_rfl) (by kernel_rfl) (fun _ _ _ h => h) (Or.inl ⟨by kernel_rfl, ?_⟩) (by assumption) ?_
        rotate_left
        · (intro wS hSw; (try dsimp only at hSw); go_simp <;> with_reducible rfl)
        try simp only [Act.put, List.getElem_toArray, List.getElem_cons_succ, List.getElem_cons_zero, List.setIfInBounds_toArray, List.set_cons_zero, List.set_cons_succ]
        refine wpAnyH_take (i := 10) (v := ?_) rfl (by kernel_rfl) (by kernel_rfl) (by kernel_rfl) (fun _ _ _ h => h) (Or.inl ⟨by kernel_rfl, ?_⟩) (by assumption) ?_
        rotate_left
        · (intro wS hSw; (try dsimp only at hSw); go_simp <;> with_reducible rfl)
        try simp only [Act.put, List.getElem_toArray, List.getElem_cons_succ, List.getElem_cons_zero, List.setIfInBounds_toArray, List.set_cons_zero, List.set_cons_succ]
        refine wpAnyH_take (i := 11) (v := ?_) rfl (by kernel_rfl) (by kernel_rfl) (by kernel_rfl) (fun _ _ _ h => h) (Or.inl ⟨by kernel_rfl, ?_⟩) (by assumption) ?_
        rotate_left
        · (intro wS hSw; (try dsimp only at hSw); go_simp <;> with_reducible rfl)
        try simp only [Act.put, List.getElem_toArray, List.getElem_cons_succ, List.getElem_cons_zero, List.setIfInBounds_toArray, List.set_cons_zero, List.set_cons_succ]
        refine wpAnyH_take (i := 12) (v := ?_) rfl (by kernel_rfl) (by kernel_rfl) (by kernel_rfl) (fun _ _ _ h => h) (Or.inl ⟨by kernel_rfl, ?_⟩) (by assumption) ?_
        rotate_left
        · (intro wS hSw; (try dsimp only at hSw); go_simp <;> with_reducible rfl)
        try simp only [Act.put, List.getElem_toArray, List.getElem_cons_succ, List.getElem_cons_zero, List.setIfInBounds_toArray, List.set_cons_zero, List.set_cons_succ]
        refine wpAnyH_ready (rs := [13]) (by kernel_rfl) (by simp) (AllReadyH.cons rfl (fun K hK => ?_) AllReadyH.nil)
        go_simp
        (go_at_call 16; refine (inS _ _ _ _).mono ?_; rintro e w' ⟨rfl, rfl⟩)
        refine hK.out _ _ ?_ (fun hHeld => ?_)
        · (first | exact CE.out _ hx | exact CE.out _ hx.drew)
        clear hK K
        try simp only [Act.put, List.getElem_toArray, List.getElem_cons_succ, List.getElem_cons_zero, List.setIfInBounds_toArray, List.set_cons_zero, List.set_cons_succ]
        refine wpAnyH_take (i := 14) (v := ?_) rfl (by kernel_rfl) (by kernel_rfl) (by kernel_rfl) (fun _ _ _ h => h) (Or.inl ⟨by kernel_rfl, ?_⟩) (by assumption) ?_
        rotate_left
        · (intro wS hSw; (try dsimp only at hSw); go_simp <;> with_reducible rfl)
        try simp only [Act.put, List.getElem_toArray, List.getElem_cons_succ, List.getElem_cons_zero, List.setIfInBounds_toArray, List.set_cons_zero, List.set_cons_succ]
        refine wpAnyH_take (i := 15) (v := ?_) rfl (by kernel_rfl) (by kernel_rfl) (by kernel_rfl) (fun _ _ _ h => h) (Or.inl ⟨by kernel_rfl, ?_⟩) (by assumption) ?_
        rotate_left
        · (intro wS hSw; (try dsimp only at hSw); go_simp <;> with_reducible rfl)
        try simp only [Act.put, List.getElem_toArray, List.getElem_cons_succ, List.getElem_cons_zero, List.setIfInBounds_toArray, List.set_cons_zero, List.set_cons_succ]
        refine wpAnyH_done (by kernel_rfl) ?_ _
        go_wp2_with fail
        go_roundw
        case rel => exact ⟨k + 1, by omega, by go_num, HN1.out, by first | exact hx | exact hx.drew | exact hx.drewN _⟩
        case measure => simp [intOf]; omega
      · have HC := Lib.hid (HF4.out (by unfold outB; rw [hk1, hin]; rfl))
        clear HNX HF4
        generalize l[k] = x at *
        go_wp2_with fail
        refine wp_region_held_drew (S := (fun W => W.cell? ⟨w.heap.size, 1, none⟩ = some (.int .i64 c.k) ∧ W.cell? ⟨w.heap.size, 4, none⟩ = some (.int .i64 c.lo) ∧ W.cell? ⟨w.heap.size, 5, none⟩ = some (.int .i64 c.hi) ∧ W.cell? ⟨b, off + k * 3 + 1, none⟩ = some (.int .i64 x.n))) (by kernel_rfl) ?_ (fun hHeld => ?_)
        · (first | exact CE.out _ hx | exact CE.out _ hx.drew)
        refine wpAnyH_take (i := 0) (v := ?_) rfl (by kernel_rfl) (by kernel_rfl) (by kernel_rfl) (fun _ _ _ h => h) (Or.inl ⟨by kernel_rfl, ?_⟩) (by assumption) ?_
        rotate_left
        · (intro wS hSw; (try dsimp only at hSw); go_simp <;> with_reducible rfl)
        try simp only [Act.put, List.getElem_toArray, List.getElem_cons_succ, List.getElem_cons_zero, List.setIfInBounds_toArray, List.set_cons_zero, List.set_cons_succ]
        refine wpAnyH_take (i := 1) (v := ?_) rfl (by kernel_rfl) (by kernel_rfl) (by kernel_rfl) (fun _ _ _ h => h) (Or.inl ⟨by kernel_rfl, ?_⟩) (by assumption) ?_
        rotate_left
        · (intro wS hSw; (try dsimp only at hSw); go_simp <;> with_reducible rfl)
        try simp only [Act.put, List.getElem_toArray, List.getElem_cons_succ, List.getElem_cons_zero, List.setIfInBounds_toArray, List.set_cons_zero, List.set_cons_succ]
        refine wpAnyH_take (i := 2) (v := ?_) rfl (by kernel_rfl) (by kernel_rfl) (by kernel_rfl) (fun _ _ _ h => h) (Or.inl ⟨by kernel_rfl, ?_⟩) (by assumption) ?_
        rotate_left
        · (intro wS hSw; (try dsimp only at hSw); go_simp <;> with_reducible rfl)
        try simp only [Act.put, List.getElem_toArray, List.getElem_cons_succ, List.getElem_cons_zero, List.setIfInBounds_toArray, List.set_cons_zero, List.set_cons_succ]
        refine wpAnyH_take (i := 3) (v := ?_) rfl (by kernel_rfl) (by kernel_rfl) (by kernel_rfl) (fun _ _ _ h => h) (Or.inl ⟨by kernel_rfl, ?_⟩) (by assumption) ?_
        rotate_left
        · (intro wS hSw; (try dsimp only at hSw); go_simp <;> with_reducible rfl)
        try simp only [Act.put, List.getElem_toArray, List.getElem_cons_succ, List.getElem_cons_zero, List.setIfInBounds_toArray, List.set_cons_zero, List.set_cons_succ]
        refine wpAnyH_take (i := 4) (v := ?_) rfl (by kernel_rfl) (by kernel_rfl) (by kernel_rfl) (fun _ _ _ h => h) (Or.inl ⟨by kernel_rfl, ?_⟩) (by assumption) ?_
        rotate_left
        · (intro wS hSw; (try dsimp only at hSw); go_simp <;> with_reducible rfl)
        try simp only [Act.put, List.getElem_toArray, List.getElem_cons_succ, List.getElem_cons_zero, List.setIfInBounds_toArray, List.set_cons_zero, List.set_cons_succ]
        refine wpAnyH_take (i := 5) (v := ?_) rfl (by kernel_rfl) (by kernel_rfl) (by kernel_rfl) (fun _ _ _ h => h) (Or.inl ⟨by kernel_rfl, ?_⟩) (by assumption) ?_
        rotate_left
        · (intro wS hSw; (try dsimp only at hSw); go_simp <;> with_reducible rfl)
        try simp only [Act.put, List.getElem_toArray, List.getElem_cons_succ, List.getElem_cons_zero, List.setIfInBounds_toArray, List.set_cons_zero, List.set_cons_succ]
        refine wpAnyH_take (i := 6) (v := ?_) rfl (by kernel_rfl) (by kernel_rfl) (by kernel_rfl) (fun _ _ _ h => h) (Or.inl ⟨by kernel_rfl, ?_⟩) (by assumption) ?_
        rotate_left
        · (intro wS hSw; (try dsimp only at hSw); go_simp <;> with_reducible rfl)
        try simp only [Act.put, List.getElem_toArray, List.getElem_cons_succ, List.getElem_cons_zero, List.setIfInBounds_toArray, List.set_cons_zero, List.set_cons_succ]
        refine wpAnyH_take (i := 7) (v := ?_) rfl (by kernel_rfl) (by kernel_rfl) (by kernel_rfl) (fun _ _ _ h => h) (Or.inl ⟨by kernel_rfl, ?_⟩) (by assumption) ?_
        rotate_left
        · (intro wS hSw; (try dsimp only at hSw); go_simp <;> with_reducible rfl)
        try simp only [Act.put, List.getElem_toArray, List.getElem_cons_succ, List.getElem_cons_zero, List.setIfInBounds_toArray, List.set_cons_zero, List.set_cons_succ]
        refine wpAnyH_take (i := 8) (v := ?_) rfl (by kernel_rfl) (by kernel_rfl) (by kernel_rfl) (fun _ _ _ h => h) (Or.inl ⟨by kernel_rfl, ?_⟩) (by assumption) ?_
        rotate_left
        · (intro wS hSw; (try dsimp only at hSw); go_simp <;> with_reducible rfl)
        try simp only [Act.put, List.getElem_toArray, List.getElem_cons_succ, List.getElem_cons_zero, List.setIfInBounds_toArray, List.set_cons_zero, List.set_cons_succ]
        refine wpAnyH_take (i := 9) (v := ?_) rfl (by kernel_rfl) (by kernel_rfl) (by kernel_rfl) (fun _ _ _ h => h) (Or.inl ⟨by kernel_rfl, ?_⟩) (by assumption) ?_
        rotate_left
        · (intro wS hSw; (try dsimp only at hSw); go_simp <;> with_reducible rfl)
        try simp only [Act.put, List.getElem_toArray, List.getElem_cons_succ, List.getElem_cons_zero, List.setIfInBounds_toArray, List.set_cons_zero, List.set_cons_succ]
        refine wpAnyH_take (i := 10) (v := ?_) rfl (by kernel_rfl) (by kernel_rfl) (by kernel_rfl) (fun _ _ _ h => h) (Or.inl ⟨by kernel_rfl, ?_⟩) (by assumption) ?_
        rotate_left
        · (intro wS hSw; (try dsimp only at hSw); go_simp <;> with_reducible rfl)
        try simp only [Act.put, List.getElem_toArray, List.getElem_cons_succ, List.getElem_cons_zero, List.setIfInBounds_toArray, List.set_cons_zero, List.set_cons_succ]
        refine wpAnyH_take (i := 11) (v := ?_) rfl (by kernel_rfl) (by kernel_rfl) (by kernel_rfl) (fun _ _ _ h => h) (Or.inl ⟨by kernel_rfl, ?_⟩) (by assumption) ?_
        rotate_left
        · (intro wS hSw; (try dsimp only at hSw); go_simp <;> with_reducible rfl)
        try simp only [Act.put, List.getElem_toArray, List.getElem_cons_succ, List.getElem_cons_zero, List.setIfInBounds_toArray, List.set_cons_zero, List.set_cons_succ]
        refine wpAnyH_take (i := 12) (v := ?_) rfl (by kernel_rfl) (by kernel_rfl) (by kernel_rfl) (fun _ _ _ h => h) (Or.inl ⟨by kernel_rfl, ?_⟩) (by assumption) ?_
        rotate_left
        · (intro wS hSw; (try dsimp only at hSw); go_simp <;> with_reducible rfl)
        try simp only [Act.put, List.getElem_toArray, List.getElem_cons_succ, List.getElem_cons_zero, List.setIfInBounds_toArray, List.set_cons_zero, List.set_cons_succ]
        refine wpAnyH_ready (rs := [13]) (by kernel_rfl) (by simp) (AllReadyH.cons rfl (fun K hK => ?_) AllReadyH.nil)
        go_simp
        (go_at_call 16; refine (inS _ _ _ _).mono ?_; rintro e w' ⟨rfl, rfl⟩)
        refine hK.out _ _ ?_ (fun hHeld => ?_)
        · (first | exact CE.out _ hx | exact CE.out _ hx.drew)
        clear hK K
        try simp only [Act.put, List.getElem_toArray, List.getElem_cons_succ, List.getElem_cons_zero, List.setIfInBounds_toArray, List.set_cons_zero, List.set_cons_succ]
        refine wpAnyH_take (i := 14) (v := ?_) rfl (by kernel_rfl) (by kernel_rfl) (by kernel_rfl) (fun _ _ _ h => h) (Or.inl ⟨by kernel_rfl, ?_⟩) (by assumption) ?_
        rotate_left
        · (intro wS hSw; (try dsimp only at hSw); go_simp <;> with_reducible rfl)
        try simp only [Act.put, List.getElem_toArray, List.getElem_cons_succ, List.getElem_cons_zero, List.setIfInBounds_toArray, List.set_cons_zero, List.set_cons_succ]
        refine wpAnyH_take (i := 15) (v := ?_) rfl (by kernel_rfl) (by kernel_rfl) (by kernel_rfl) (fun _ _ _ h => h) (Or.inl ⟨by kernel_rfl, ?_⟩) (by assumption) ?_
        rotate_left
        · (intro wS hSw; (try dsimp only at hSw); go_simp <;> with_reducible rfl)
        try simp only [Act.put, List.getElem_toArray, List.getElem_cons_succ, List.getElem_cons_zero, List.setIfInBounds_toArray, List.set_cons_zero, List.set_cons_succ]
        refine wpAnyH_done (by kernel_rfl) ?_ _
        go_wp2_with fail
        go_ret
        exact ⟨ret_i HC.out.symm, by first | exact hx.2 | exact hx.2.drew | exact below_drewN hx.2 _⟩
end Go.Proofs.Ytlkkmafnjdbofaa
namespace Go.Proofs.Ytlkkmafnjdbofaa
open Go.RowKit
set_option linter.unusedSimpArgs false
/-- a right row of a table -/
structure RowP (t : Tb) (id : Int) (l : List (List At)) : Prop where
  id : inB 1 id 1000000 = true
  len : l.length = t.cols.length
  fit : ∀ i (h : i < l.length) (h' : i < t.cols.length), datumB l[i] = true ∧ fitC t.cols[i] l[i] = 0
noncomputable def rowB (t : Tb) (id : Int) (l : List (List At)) : Bool := @decide (RowP t id l) (Classical.propDecidable _)
theorem row_no {t : Tb} {id : Int} {l : List (List At)} (h : ¬ RowP t id l) : rowB t id l = false := by unfold rowB; exact @decide_eq_false _ (Classical.propDecidable _) h
theorem row_yes {t : Tb} {id : Int} {l : List (List At)} (h : RowP t id l) : rowB t id l = true := by unfold rowB; exact @decide_eq_true _ (Classical.propDecidable _) h
/-- a table's box and a row's beside it -/
def BoxTR (ty tr : TypeId) (w W : World) (t : Tb) (ca : Option Addr) (cc : Nat) (ua : Option Addr) (uc : Nat) (id : Int) (n : Nat) (a : Option Addr) (c : Nat) : Prop := (W.heap[w.heap.size]? = some (.cells #[.string ⟨t.nm.toArray⟩, .slice ca t.cols.length cc, .slice ua t.uq.length uc, .bool t.rt] ty) ∧ W.heap[w.heap.size + 1]? = some (.cells #[.int .i64 id, .slice a n c] tr)) ∧ Below w.heap.size w W
theorem BoxTR.later {ty tr : TypeId} {w W W' : World} {t : Tb} {ca : Option Addr} {cc : Nat} {ua : Option Addr} {uc : Nat} {id : Int} {n : Nat} {a : Option Addr} {c : Nat} (h : BoxTR ty tr w W t ca cc ua uc id n a c) (hB : Below W.heap.size W W') : BoxTR ty tr w W' t ca cc ua uc id n a c := ⟨⟨heap_keptC h.1.1 hB, heap_keptC h.1.2 hB⟩, h.2.trans (hB.mono h.2.size)⟩
theorem BoxTR.drew {ty tr : TypeId} {w W : World} {t : Tb} {ca : Option Addr} {cc : Nat} {ua : Option Addr} {uc : Nat} {id : Int} {n : Nat} {a : Option Addr} {c : Nat} (h : BoxTR ty tr w W t ca cc ua uc id n a c) : BoxTR ty tr w W.drew t ca cc ua uc id n a c := h.later (Below.refl _ _).drew
theorem boxTR (ty tr : TypeId) (w : World) (t : Tb) (ca : Option Addr) (cc : Nat) (ua : Option Addr) (uc : Nat) (id : Int) (n : Nat) (a : Option Addr) (c : Nat) : BoxTR ty tr w ((w.alloc (.cells #[.string ⟨t.nm.toArray⟩, .slice ca t.cols.length cc, .slice ua t.uq.length uc, .bool t.rt] ty)).alloc (.cells #[.int .i64 id, .slice a n c] tr)) t ca cc ua uc id n a c := by
  have h1 : Below (w.alloc (.cells #[.string ⟨t.nm.toArray⟩, .slice ca t.cols.length cc, .slice ua t.uq.length uc, .bool t.rt] ty)).heap.size (w.alloc (.cells #[.string ⟨t.nm.toArray⟩, .slice ca t.cols.length cc, .slice ua t.uq.length uc, .bool t.rt] ty)) ((w.alloc (.cells #[.string ⟨t.nm.toArray⟩, .slice ca t.cols.length cc, .slice ua t.uq.length uc, .bool t.rt] ty)).alloc (.cells #[.int .i64 id, .slice a n c] tr)) := (Below.refl _ _).alloc (Nat.le_refl _) _
  refine ⟨⟨heap_keptC (heap_newC _ _) h1, ?_⟩, ((Below.refl _ _).alloc (Nat.le_refl _) _).alloc (by simp) _⟩
  have h := heap_newC (w.alloc (.cells #[.string ⟨t.nm.toArray⟩, .slice ca t.cols.length cc, .slice ua t.uq.length uc, .bool t.rt] ty)) (.cells #[.int .i64 id, .slice a n c] tr)
  simpa using h
set_option maxRecDepth 100000 in
set_option maxHeartbeats 6400000 in
theorem rowS (t : Tb) (ca : Option Addr) (cc : Nat) (ua : Option Addr) (uc : Nat) (id : Int) (l : List (List At)) (a : Option Addr) (c : Nat) (X : Nat → AdS) (B : Nat → Prop) (S : Nat) (w : World) (ho : t.ok) (hs : SetsOk l) (hT : t.Has w B ca ua) (hw : S ≤ w.heap.size) (hS : Sets w (· < S) a l X) :
    Calls Try.prog 31 #[.agg #[.string ⟨t.nm.toArray⟩, .slice ca t.cols.length cc, .slice ua t.uq.length uc, .bool t.rt], .agg #[.int .i64 id, .slice a l.length c]] w fun e w' => e = .returned (.bool (rowB t id l)) ∧ Below w.heap.size w w' := by
  have hcl := ho.2.1
  have hll := hs.1
  unfold maxLen at hcl hll
  have HO : Hid t.ok := ho
  have HL : Hid (∀ s ∈ l, s.length ≤ maxLen ∧ ∀ x ∈ s, x.t.length ≤ maxLen) := hs.2
  have HT : Hid (t.Has w B ca ua) := hT
  have HS : Hid (S ≤ w.heap.size ∧ ∀ W, Below w.heap.size w W → Sets W (· < S) a l X) := ⟨hw, fun W h => hS.same (fun b hb => h.block b (by omega)) (fun _ h => h)⟩
  have hx := boxTR 70 76 w t ca cc ua uc id l.length a c
  clear ho hs hT hS hw
  have x1 := cell_at (o := 1) hx.1.1 rfl
  have y0 := cell_at (o := 0) hx.1.2 rfl
  have y1 := cell_at (o := 1) hx.1.2 rfl
  cases hi : inB 1 id 1000000
  case false =>
    have HP : Hid (rowB t id l = false) := row_no (fun h => by rw [h.id] at hi; cases hi)
    go_enter Try.func31, Try.ntmps31
    go_wp2_with (go_at_call 16; refine (inS _ _ _ _).mono ?_; rintro e w' ⟨rfl, rfl⟩)
    go_ret
    exact ⟨ret_b HP.out.symm, hx.2⟩
  by_cases hn : l.length = t.cols.length
  case neg =>
    have HP : Hid (rowB t id l = false) := row_no (fun h => hn h.len)
    have e1 : ((l.length : Int) != (t.cols.length : Int)) = true := bne_iff_ne.2 (by omega)
    clear hn
    go_enter Try.func31, Try.ntmps31
    go_wp2_with (go_at_call 16; refine (inS _ _ _ _).mono ?_; rintro e w' ⟨rfl, rfl⟩)
    go_ret
    exact ⟨ret_b HP.out.symm, hx.2⟩
  have HN := Lib.hid hn
  have HI := Lib.hid hi
  have e1 : ((l.length : Int) != (t.cols.length : Int)) = false := by simp [bne, hn]
  clear hn
  go_enter Try.func31, Try.ntmps31
  go_wp2_with (go_at_call 16; refine (inS _ _ _ _).mono ?_; rintro e w' ⟨rfl, rfl⟩)
  have HX0 := Lib.hid hx
  clear hx x1 y0 y1 hi e1
  go_loopw [5] (fun q wr => ∃ k : Nat, k ≤ l.length ∧ q = .int .i64 k ∧ Hid ((∀ m (h : m < l.length) (h' : m < t.cols.length), m < k → datumB l[m] = true ∧ fitC t.cols[m] l[m] = 0) ∧ BoxTR 70 76 w wr t ca cc ua uc id l.length a c)) (fun q _ => l.length - (intOf q).toNat)
  case atStart => exact ⟨0, Nat.zero_le _, rfl, fun m _ _ h => absurd h (by omega), HX0.out⟩
  case round =>
    obtain ⟨i, hi, rfl, HW⟩ := hrel
    have hx := HW.out.2
    have y1 := cell_at (o := 1) hx.1.2 rfl
    by_cases hlt : i < l.length
    case neg =>
      have hid : decide ((i : Int) < (l.length : Int)) = false := by simp; omega
      have HP : Hid (rowB t id l = true) := row_yes ⟨HI.out, HN.out, fun m h h' => HW.out.1 m h h' (by omega)⟩
      clear HW
      go_wp2_with fail
      go_ret
      exact ⟨ret_b HP.out.symm, hx.2⟩
    have hlc : i < t.cols.length := by rw [← HN.out]; exact hlt
    have hki : (i : Int) < (l.length : Int) := by omega
    have hkc : (i : Int) < (t.cols.length : Int) := by omega
    obtain ⟨b2, off2, rfl, -, -⟩ := (HS.out.2 _ hx.2).at i hlt
    obtain ⟨b, off, rfl, -, -⟩ := (HT.out.later hx.2).1.at i hlc
    have HSC : Hid (∀ W, Below w.heap.size w W → W.cell? ⟨b2, off2 + i, none⟩ = some (.slice (X i).a l[i].length (X i).c)) := fun W h => (HS.out.2 W h).spot i hlt
    have HCA : Hid (∀ W, Below w.heap.size w W → ColAt W b (off + i * 8) t.cols[i]) := fun W h => by
      obtain ⟨b', off', e, -, hc'⟩ := (HT.out.later h).1.at i hlc
      simp only [Option.some.injEq, Addr.mk.injEq, and_true] at e
      obtain ⟨rfl, rfl⟩ := e
      exact hc' i hlc
    have DO : Hid (∀ W, BoxTR 70 76 w W t (some ⟨b, off, none⟩) cc ua uc id l.length (some ⟨b2, off2, none⟩) c → Calls Try.prog 47 #[.slice (X i).a l[i].length (X i).c] W fun e w' => e = .returned (.bool (datumB l[i])) ∧ BoxTR 70 76 w w' t (some ⟨b, off, none⟩) cc ua uc id l.length (some ⟨b2, off2, none⟩) c) := fun W h => (datumOKs l[i] _ _ S W (HL.out _ (List.getElem_mem hlt)).1 (HL.out _ (List.getElem_mem hlt)).2 (Nat.le_trans HS.out.1 h.2.size) ((HS.out.2 _ h.2).has i hlt)).mono (fun e w' ⟨he, hB⟩ => ⟨he, h.later hB⟩)
    have FT : Hid (∀ W, BoxTR 70 76 w W t (some ⟨b, off, none⟩) cc ua uc id l.length (some ⟨b2, off2, none⟩) c → Calls Try.prog 48 #[.agg #[.string ⟨t.cols[i].nm.toArray⟩, .int .i64 t.cols[i].k, .int .i64 t.cols[i].mn, .int .i64 t.cols[i].mx, .int .i64 t.cols[i].lo, .int .i64 t.cols[i].hi, .string ⟨t.cols[i].rf.toArray⟩, .bool t.cols[i].st], .slice (X i).a l[i].length (X i).c] W fun e w' => e = .returned (.int .i64 (fitC t.cols[i] l[i])) ∧ BoxTR 70 76 w w' t (some ⟨b, off, none⟩) cc ua uc id l.length (some ⟨b2, off2, none⟩) c) := fun W h => (fitsS t.cols[i] l[i] _ _ S W (HL.out _ (List.getElem_mem hlt)).1 (Nat.le_trans HS.out.1 h.2.size) ((HS.out.2 _ h.2).has i hlt)).mono (fun e w' ⟨he, hB⟩ => ⟨he, h.later hB⟩)
    cases hd : datumB l[i]
    case false =>
      have HP : Hid (rowB t id l = false) := row_no (fun h => by have := (h.fit i hlt hlc).1; rw [hd] at this; cases this)
      rw [hd] at DO
      have CE : Hid (∀ W, BoxTR 70 76 w W t (some ⟨b, off, none⟩) cc ua uc id l.length (some ⟨b2, off2, none⟩) c → W.cell? ⟨w.heap.size, 1, none⟩ = some (.slice (some ⟨b, off, none⟩) t.cols.length cc) ∧ W.cell? ⟨w.heap.size + 1, 1, none⟩ = some (.slice (some ⟨b2, off2, none⟩) l.length c) ∧ W.cell? ⟨b2, off2 + i, none⟩ = some (.slice (X i).a l[i].length (X i).c)) := fun W h => ⟨cell_at (o := 1) h.1.1 rfl, cell_at (o := 1) h.1.2 rfl, HSC.out W h.2⟩
      clear hd HW HSC HCA FT
      generalize l[i] = s at *
      go_wp2_with fail
      refine wp_region_held_drew (S := (fun W => W.cell? ⟨w.heap.size, 1, none⟩ = some (.slice (some ⟨b, off, none⟩) t.cols.length cc) ∧ W.cell? ⟨w.heap.size + 1, 1, none⟩ = some (.slice (some ⟨b2, off2, none⟩) l.length c) ∧ W.cell? ⟨b2, off2 + i, none⟩ = some (.slice (X i).a s.length (X i).c))) (by kernel_rfl) ?_ (fun hHeld => ?_)
      · (first | exact CE.out _ hx | exact CE.out _ hx.drew)
      refine wpAnyH_take (i := 0) (v := ?_) rfl (by kernel_rfl) (by kernel_rfl) (by kernel_rfl) (fun _ _ _ h => h) (Or.inl ⟨by kernel_rfl, ?_⟩) (by assumption) ?_
      rotate_left
      · (intro wS hSw; (try dsimp only at hSw); go_simp <;> with_reducible rfl)
      try simp only [Act.put, List.getElem_toArray, List.getElem_cons_succ, List.getElem_cons_zero, List.setIfInBounds_toArray, List.set_cons_zero, List.set_cons_succ]
      refine wpAnyH_take (i := 1) (v := ?_) rfl (by kernel_rfl) (by kernel_rfl) (by kernel_rfl) (fun _ _ _ h => h) (Or.inl ⟨by kernel_rfl, ?_⟩) (by assumption) ?_
      rotate_left
      · (intro wS hSw; (try dsimp only at hSw); go_simp <;> with_reducible rfl)
      try simp only [Act.put, List.getElem_toArray, List.getElem_cons_succ, List.getElem_cons_zero, List.setIfInBounds_toArray, List.set_cons_zero, List.set_cons_succ]
      refine wpAnyH_take (i := 2) (v := ?_) rfl (by kernel_rfl) (by kernel_rfl) (by kernel_rfl) (fun _ _ _ h => h) (Or.inl ⟨by kernel_rfl, ?_⟩) (by assumption) ?_
      rotate_left
      · (intro wS hSw; (try dsimp only at hSw); go_simp <;> with_reducible rfl)
      try simp only [Act.put, List.getElem_toArray, List.getElem_cons_succ, List.getElem_cons_zero, List.setIfInBounds_toArray, List.set_cons_zero, List.set_cons_succ]
      refine wpAnyH_take (i := 3) (v := ?_) rfl (by kernel_rfl) (by kernel_rfl) (by kernel_rfl) (fun _ _ _ h => h) (Or.inl ⟨by kernel_rfl, ?_⟩) (by assumption) ?_
      rotate_left
      · (intro wS hSw; (try dsimp only at hSw); go_simp <;> with_reducible rfl)
      try simp only [Act.put, List.getElem_toArray, List.getElem_cons_succ, List.getElem_cons_zero, List.setIfInBounds_toArray, List.set_cons_zero, List.set_cons_succ]
      refine wpAnyH_take (i := 4) (v := ?_) rfl (by kernel_rfl) (by kernel_rfl) (by kernel_rfl) (fun _ _ _ h => h) (Or.inl ⟨by kernel_rfl, ?_⟩) (by assumption) ?_
      rotate_left
      · (intro wS hSw; (try dsimp only at hSw); go_simp <;> with_reducible rfl)
      try simp only [Act.put, List.getElem_toArray, List.getElem_cons_succ, List.getElem_cons_zero, List.setIfInBounds_toArray, List.set_cons_zero, List.set_cons_succ]
      refine wpAnyH_ready (rs := [5]) (by kernel_rfl) (by simp) (AllReadyH.cons rfl (fun K hK => ?_) AllReadyH.nil)
      go_simp
      (first | (go_at_call 47; refine (DO.out _ (by first | exact hx | exact hx.drew)).mono ?_; rintro e w1 ⟨rfl, hx⟩) | (go_at_call 48; refine (FT.out _ (by first | exact hx | exact hx.drew)).mono ?_; rintro e w2 ⟨rfl, hx⟩))
      refine hK.out _ _ ?_ (fun hHeld => ?_)
      · (first | exact CE.out _ hx | exact CE.out _ hx.drew)
      clear hK K
      try simp only [Act.put, List.getElem_toArray, List.getElem_cons_succ, List.getElem_cons_zero, List.setIfInBounds_toArray, List.set_cons_zero, List.set_cons_succ]
      refine wpAnyH_take (i := 6) (v := ?_) rfl (by kernel_rfl) (by kernel_rfl) (by kernel_rfl) (fun _ _ _ h => h) (Or.inl ⟨by kernel_rfl, ?_⟩) (by assumption) ?_
      rotate_left
      · (intro wS hSw; (try dsimp only at hSw); go_simp <;> with_reducible rfl)
      try simp only [Act.put, List.getElem_toArray, List.getElem_cons_succ, List.getElem_cons_zero, List.setIfInBounds_toArray, List.set_cons_zero, List.set_cons_succ]
      refine wpAnyH_take (i := 7) (v := ?_) rfl (by kernel_rfl) (by kernel_rfl) (by kernel_rfl) (fun _ _ _ h => h) (Or.inl ⟨by kernel_rfl, ?_⟩) (by assumption) ?_
      rotate_left
      · (intro wS hSw; (try dsimp only at hSw); go_simp <;> with_reducible rfl)
      try simp only [Act.put, List.getElem_toArray, List.getElem_cons_succ, List.getElem_cons_zero, List.setIfInBounds_toArray, List.set_cons_zero, List.set_cons_succ]
      refine wpAnyH_take (i := 8) (v := undef) rfl (by kernel_rfl) (by kernel_rfl) (by kernel_rfl) (fun _ _ _ h => h) (Or.inr ⟨by kernel_rfl, rfl⟩) (by assumption) ?_
      try simp only [Act.put, List.getElem_toArray, List.getElem_cons_succ, List.getElem_cons_zero, List.setIfInBounds_toArray, List.set_cons_zero, List.set_cons_succ]
      refine wpAnyH_take (i := 9) (v := undef) rfl (by kernel_rfl) (by kernel_rfl) (by kernel_rfl) (fun _ _ _ h => h) (Or.inr ⟨by kernel_rfl, rfl⟩) (by assumption) ?_
      try simp only [Act.put, List.getElem_toArray, List.getElem_cons_succ, List.getElem_cons_zero, List.setIfInBounds_toArray, List.set_cons_zero, List.set_cons_succ]
      refine wpAnyH_take (i := 10) (v := undef) rfl (by kernel_rfl) (by kernel_rfl) (by kernel_rfl) (fun _ _ _ h => h) (Or.inr ⟨by kernel_rfl, rfl⟩) (by assumption) ?_
      try simp only [Act.put, List.getElem_toArray, List.getElem_cons_succ, List.getElem_cons_zero, List.setIfInBounds_toArray, List.set_cons_zero, List.set_cons_succ]
      refine wpAnyH_take (i := 11) (v := undef) rfl (by kernel_rfl) (by kernel_rfl) (by kernel_rfl) (fun _ _ _ h => h) (Or.inr ⟨by kernel_rfl, rfl⟩) (by assumption) ?_
      try simp only [Act.put, List.getElem_toArray, List.getElem_cons_succ, List.getElem_cons_zero, List.setIfInBounds_toArray, List.set_cons_zero, List.set_cons_succ]
      refine wpAnyH_take (i := 12) (v := undef) rfl (by kernel_rfl) (by kernel_rfl) (by kernel_rfl) (fun _ _ _ h => h) (Or.inr ⟨by kernel_rfl, rfl⟩) (by assumption) ?_
      try simp only [Act.put, List.getElem_toArray, List.getElem_cons_succ, List.getElem_cons_zero, List.setIfInBounds_toArray, List.set_cons_zero, List.set_cons_succ]
      refine wpAnyH_take (i := 13) (v := undef) rfl (by kernel_rfl) (by kernel_rfl) (by kernel_rfl) (fun _ _ _ h => h) (Or.inr ⟨by kernel_rfl, rfl⟩) (by assumption) ?_
      try simp only [Act.put, List.getElem_toArray, List.getElem_cons_succ, List.getElem_cons_zero, List.setIfInBounds_toArray, List.set_cons_zero, List.set_cons_succ]
      refine wpAnyH_take (i := 14) (v := undef) rfl (by kernel_rfl) (by kernel_rfl) (by kernel_rfl) (fun _ _ _ h => h) (Or.inr ⟨by kernel_rfl, rfl⟩) (by assumption) ?_
      try simp only [Act.put, List.getElem_toArray, List.getElem_cons_succ, List.getElem_cons_zero, List.setIfInBounds_toArray, List.set_cons_zero, List.set_cons_succ]
      refine wpAnyH_take (i := 15) (v := undef) rfl (by kernel_rfl) (by kernel_rfl) (by kernel_rfl) (fun _ _ _ h => h) (Or.inr ⟨by kernel_rfl, rfl⟩) (by assumption) ?_
      try simp only [Act.put, List.getElem_toArray, List.getElem_cons_succ, List.getElem_cons_zero, List.setIfInBounds_toArray, List.set_cons_zero, List.set_cons_succ]
      refine wpAnyH_take (i := 16) (v := undef) rfl (by kernel_rfl) (by kernel_rfl) (by kernel_rfl) (fun _ _ _ h => h) (Or.inr ⟨by kernel_rfl, rfl⟩) (by assumption) ?_
      try simp only [Act.put, List.getElem_toArray, List.getElem_cons_succ, List.getElem_cons_zero, List.setIfInBounds_toArray, List.set_cons_zero, List.set_cons_succ]
      refine wpAnyH_take (i := 17) (v := undef) rfl (by kernel_rfl) (by kernel_rfl) (by kernel_rfl) (fun _ _ _ h => h) (Or.inr ⟨by kernel_rfl, rfl⟩) (by assumption) ?_
      try simp only [Act.put, List.getElem_toArray, List.getElem_cons_succ, List.getElem_cons_zero, List.setIfInBounds_toArray, List.set_cons_zero, List.set_cons_succ]
      refine wpAnyH_take (i := 18) (v := undef) rfl (by kernel_rfl) (by kernel_rfl) (by kernel_rfl) (fun _ _ _ h => h) (Or.inr ⟨by kernel_rfl, rfl⟩) (by assumption) ?_
      try simp only [Act.put, List.getElem_toArray, List.getElem_cons_succ, List.getElem_cons_zero, List.setIfInBounds_toArray, List.set_cons_zero, List.set_cons_succ]
      refine wpAnyH_take (i := 19) (v := undef) rfl (by kernel_rfl) (by kernel_rfl) (by kernel_rfl) (fun _ _ _ h => h) (Or.inr ⟨by kernel_rfl, rfl⟩) (by assumption) ?_
      try simp only [Act.put, List.getElem_toArray, List.getElem_cons_succ, List.getElem_cons_zero, List.setIfInBounds_toArray, List.set_cons_zero, List.set_cons_succ]
      refine wpAnyH_take (i := 20) (v := ?_) rfl (by kernel_rfl) (by kernel_rfl) (by kernel_rfl) (fun _ _ _ h => h) (Or.inl ⟨by kernel_rfl, ?_⟩) (by assumption) ?_
      rotate_left
      · (intro wS hSw; (try dsimp only at hSw); go_simp <;> with_reducible rfl)
      try simp only [Act.put, List.getElem_toArray, List.getElem_cons_succ, List.getElem_cons_zero, List.setIfInBounds_toArray, List.set_cons_zero, List.set_cons_succ]
      refine wpAnyH_done (by kernel_rfl) ?_ _
      go_wp2_with fail
      go_ret
      exact ⟨ret_b HP.out.symm, by first | exact hx.2 | exact hx.2.drew⟩
    rw [hd] at DO
    have HD := Lib.hid hd
    clear hd
    have CE : Hid (∀ W, BoxTR 70 76 w W t (some ⟨b, off, none⟩) cc ua uc id l.length (some ⟨b2, off2, none⟩) c → W.cell? ⟨w.heap.size, 1, none⟩ = some (.slice (some ⟨b, off, none⟩) t.cols.length cc) ∧ W.cell? ⟨w.heap.size + 1, 1, none⟩ = some (.slice (some ⟨b2, off2, none⟩) l.length c) ∧ W.cell? ⟨b2, off2 + i, none⟩ = some (.slice (X i).a l[i].length (X i).c) ∧ ColAt W b (off + i * 8) t.cols[i]) := fun W h => ⟨cell_at (o := 1) h.1.1 rfl, cell_at (o := 1) h.1.2 rfl, HSC.out W h.2, HCA.out W h.2⟩
    unfold ColAt at CE
    by_cases hf : fitC t.cols[i] l[i] = 0
    case pos =>
      have HG : Hid (∀ m (h : m < l.length) (h' : m < t.cols.length), m < i + 1 → datumB l[m] = true ∧ fitC t.cols[m] l[m] = 0) := fun m h h' hm => by
        by_cases e : m = i
        · subst e; exact ⟨HD.out, hf⟩
        · exact HW.out.1 m h h' (by omega)
      rw [hf] at FT
      clear hf HW HSC HCA HD
      generalize l[i] = s at *
      generalize t.cols[i] = z at *
      go_wp2_with fail
      refine wp_region_held_drew (S := (fun W => W.cell? ⟨w.heap.size, 1, none⟩ = some (.slice (some ⟨b, off, none⟩) t.cols.length cc) ∧ W.cell? ⟨w.heap.size + 1, 1, none⟩ = some (.slice (some ⟨b2, off2, none⟩) l.length c) ∧ W.cell? ⟨b2, off2 + i, none⟩ = some (.slice (X i).a s.length (X i).c) ∧ W.cell? ⟨b, off + i * 8, none⟩ = some (.string ⟨z.nm.toArray⟩) ∧ W.cell? ⟨b, off + i * 8 + 1, none⟩ = some (.int .i64 z.k) ∧ W.cell? ⟨b, off + i * 8 + 2, none⟩ = some (.int .i64 z.mn) ∧ W.cell? ⟨b, off + i * 8 + 3, none⟩ = some (.int .i64 z.mx) ∧ W.cell? ⟨b, off + i * 8 + 4, none⟩ = some (.int .i64 z.lo) ∧ W.cell? ⟨b, off + i * 8 + 5, none⟩ = some (.int .i64 z.hi) ∧ W.cell? ⟨b, off + i * 8 + 6, none⟩ = some (.string ⟨z.rf.toArray⟩) ∧ W.cell? ⟨b, off + i * 8 + 7, none⟩ = some (.bool z.st))) (by kernel_rfl) ?_ (fun hHeld => ?_)
      · (first | exact CE.out _ hx | exact CE.out _ hx.drew)
      refine wpAnyH_take (i := 0) (v := ?_) rfl (by kernel_rfl) (by kernel_rfl) (by kernel_rfl) (fun _ _ _ h => h) (Or.inl ⟨by kernel_rfl, ?_⟩) (by assumption) ?_
      rotate_left
      · (intro wS hSw; (try dsimp only at hSw); go_simp <;> with_reducible rfl)
      try simp only [Act.put, List.getElem_toArray, List.getElem_cons_succ, List.getElem_cons_zero, List.setIfInBounds_toArray, List.set_cons_zero, List.set_cons_succ]
      refine wpAnyH_take (i := 1) (v := ?_) rfl (by kernel_rfl) (by kernel_rfl) (by kernel_rfl) (fun _ _ _ h => h) (Or.inl ⟨by kernel_rfl, ?_⟩) (by assumption) ?_
      rotate_left
      · (intro wS hSw; (try dsimp only at hSw); go_simp <;> with_reducible rfl)
      try simp only [Act.put, List.getElem_toArray, List.getElem_cons_succ, List.getElem_cons_zero, List.setIfInBounds_toArray, List.set_cons_zero, List.set_cons_succ]
      refine wpAnyH_take (i := 2) (v := ?_) rfl (by kernel_rfl) (by kernel_rfl) (by kernel_rfl) (fun _ _ _ h => h) (Or.inl ⟨by kernel_rfl, ?_⟩) (by assumption) ?_
      rotate_left
      · (intro wS hSw; (try dsimp only at hSw); go_simp <;> with_reducible rfl)
      try simp only [Act.put, List.getElem_toArray, List.getElem_cons_succ, List.getElem_cons_zero, List.setIfInBounds_toArray, List.set_cons_zero, List.set_cons_succ]
      refine wpAnyH_take (i := 3) (v := ?_) rfl (by kernel_rfl) (by kernel_rfl) (by kernel_rfl) (fun _ _ _ h => h) (Or.inl ⟨by kernel_rfl, ?_⟩) (by assumption) ?_
      rotate_left
      · (intro wS hSw; (try dsimp only at hSw); go_simp <;> with_reducible rfl)
      try simp only [Act.put, List.getElem_toArray, List.getElem_cons_succ, List.getElem_cons_zero, List.setIfInBounds_toArray, List.set_cons_zero, List.set_cons_succ]
      refine wpAnyH_take (i := 4) (v := ?_) rfl (by kernel_rfl) (by kernel_rfl) (by kernel_rfl) (fun _ _ _ h => h) (Or.inl ⟨by kernel_rfl, ?_⟩) (by assumption) ?_
      rotate_left
      · (intro wS hSw; (try dsimp only at hSw); go_simp <;> with_reducible rfl)
      try simp only [Act.put, List.getElem_toArray, List.getElem_cons_succ, List.getElem_cons_zero, List.setIfInBounds_toArray, List.set_cons_zero, List.set_cons_succ]
      refine wpAnyH_ready (rs := [5]) (by kernel_rfl) (by simp) (AllReadyH.cons rfl (fun K hK => ?_) AllReadyH.nil)
      go_simp
      (first | (go_at_call 47; refine (DO.out _ (by first | exact hx | exact hx.drew)).mono ?_; rintro e w1 ⟨rfl, hx⟩) | (go_at_call 48; refine (FT.out _ (by first | exact hx | exact hx.drew)).mono ?_; rintro e w2 ⟨rfl, hx⟩))
      refine hK.out _ _ ?_ (fun hHeld => ?_)
      · (first | exact CE.out _ hx | exact CE.out _ hx.drew)
      clear hK K
      try simp only [Act.put, List.getElem_toArray, List.getElem_cons_succ, List.getElem_cons_zero, List.setIfInBounds_toArray, List.set_cons_zero, List.set_cons_succ]
      refine wpAnyH_take (i := 6) (v := ?_) rfl (by kernel_rfl) (by kernel_rfl) (by kernel_rfl) (fun _ _ _ h => h) (Or.inl ⟨by kernel_rfl, ?_⟩) (by assumption) ?_
      rotate_left
      · (intro wS hSw; (try dsimp only at hSw); go_simp <;> with_reducible rfl)
      try simp only [Act.put, List.getElem_toArray, List.getElem_cons_succ, List.getElem_cons_zero, List.setIfInBounds_toArray, List.set_cons_zero, List.set_cons_succ]
      refine wpAnyH_take (i := 7) (v := ?_) rfl (by kernel_rfl) (by kernel_rfl) (by kernel_rfl) (fun _ _ _ h => h) (Or.inl ⟨by kernel_rfl, ?_⟩) (by assumption) ?_
      rotate_left
      · (intro wS hSw; (try dsimp only at hSw); go_simp <;> with_reducible rfl)
      try simp only [Act.put, List.getElem_toArray, List.getElem_cons_succ, List.getElem_cons_zero, List.setIfInBounds_toArray, List.set_cons_zero, List.set_cons_succ]
      refine wpAnyH_take (i := 8) (v := ?_) rfl (by kernel_rfl) (by kernel_rfl) (by kernel_rfl) (fun _ _ _ h => h) (Or.inl ⟨by kernel_rfl, ?_⟩) (by assumption) ?_
      rotate_left
      · (intro wS hSw; (try dsimp only at hSw); go_simp <;> with_reducible rfl)
      try simp only [Act.put, List.getElem_toArray, List.getElem_cons_succ, List.getElem_cons_zero, List.setIfInBounds_toArray, List.set_cons_zero, List.set_cons_succ]
      refine wpAnyH_take (i := 9) (v := ?_) rfl (by kernel_rfl) (by kernel_rfl) (by kernel_rfl) (fun _ _ _ h => h) (Or.inl ⟨by kernel_rfl, ?_⟩) (by assumption) ?_
      rotate_left
      · (intro wS hSw; (try dsimp only at hSw); go_simp <;> with_reducible rfl)
      try simp only [Act.put, List.getElem_toArray, List.getElem_cons_succ, List.getElem_cons_zero, List.setIfInBounds_toArray, List.set_cons_zero, List.set_cons_succ]
      refine wpAnyH_take (i := 10) (v := ?_) rfl (by kernel_rfl) (by kernel_rfl) (by kernel_rfl) (fun _ _ _ h => h) (Or.inl ⟨by kernel_rfl, ?_⟩) (by assumption) ?_
      rotate_left
      · (intro wS hSw; (try dsimp only at hSw); go_simp <;> with_reducible rfl)
      try simp only [Act.put, List.getElem_toArray, List.getElem_cons_succ, List.getElem_cons_zero, List.setIfInBounds_toArray, List.set_cons_zero, List.set_cons_succ]
      refine wpAnyH_take (i := 11) (v := ?_) rfl (by kernel_rfl) (by kernel_rfl) (by kernel_rfl) (fun _ _ _ h => h) (Or.inl ⟨by kernel_rfl, ?_⟩) (by assumption) ?_
      rotate_left
      · (intro wS hSw; (try dsimp only at hSw); go_simp <;> with_reducible rfl)
      try simp only [Act.put, List.getElem_toArray, List.getElem_cons_succ, List.getElem_cons_zero, List.setIfInBounds_toArray, List.set_cons_zero, List.set_cons_succ]
      refine wpAnyH_take (i := 12) (v := ?_) rfl (by kernel_rfl) (by kernel_rfl) (by kernel_rfl) (fun _ _ _ h => h) (Or.inl ⟨by kernel_rfl, ?_⟩) (by assumption) ?_
      rotate_left
      · (intro wS hSw; (try dsimp only at hSw); go_simp <;> with_reducible rfl)
      try simp only [Act.put, List.getElem_toArray, List.getElem_cons_succ, List.getElem_cons_zero, List.setIfInBounds_toArray, List.set_cons_zero, List.set_cons_succ]
      refine wpAnyH_take (i := 13) (v := ?_) rfl (by kernel_rfl) (by kernel_rfl) (by kernel_rfl) (fun _ _ _ h => h) (Or.inl ⟨by kernel_rfl, ?_⟩) (by assumption) ?_
      rotate_left
      · (intro wS hSw; (try dsimp only at hSw); go_simp <;> with_reducible rfl)
      try simp only [Act.put, List.getElem_toArray, List.getElem_cons_succ, List.getElem_cons_zero, List.setIfInBounds_toArray, List.set_cons_zero, List.set_cons_succ]
      refine wpAnyH_take (i := 14) (v := ?_) rfl (by kernel_rfl) (by kernel_rfl) (by kernel_rfl) (fun _ _ _ h => h) (Or.inl ⟨by kernel_rfl, ?_⟩) (by assumption) ?_
      rotate_left
      · (intro wS hSw; (try dsimp only at hSw); go_simp <;> with_reducible rfl)
      try simp only [Act.put, List.getElem_toArray, List.getElem_cons_succ, List.getElem_cons_zero, List.setIfInBounds_toArray, List.set_cons_zero, List.set_cons_succ]
      refine wpAnyH_take (i := 15) (v := ?_) rfl (by kernel_rfl) (by kernel_rfl) (by kernel_rfl) (fun _ _ _ h => h) (Or.inl ⟨by kernel_rfl, ?_⟩) (by assumption) ?_
      rotate_left
      · (intro wS hSw; (try dsimp only at hSw); go_simp <;> with_reducible rfl)
      try simp only [Act.put, List.getElem_toArray, List.getElem_cons_succ, List.getElem_cons_zero, List.setIfInBounds_toArray, List.set_cons_zero, List.set_cons_succ]
      refine wpAnyH_take (i := 16) (v := ?_) rfl (by kernel_rfl) (by kernel_rfl) (by kernel_rfl) (fun _ _ _ h => h) (Or.inl ⟨by kernel_rfl, ?_⟩) (by assumption) ?_
      rotate_left
      · (intro wS hSw; (try dsimp only at hSw); go_simp <;> with_reducible rfl)
      try simp only [Act.put, List.getElem_toArray, List.getElem_cons_succ, List.getElem_cons_zero, List.setIfInBounds_toArray, List.set_cons_zero, List.set_cons_succ]
      refine wpAnyH_take (i := 17) (v := ?_) rfl (by kernel_rfl) (by kernel_rfl) (by kernel_rfl) (fun _ _ _ h => h) (Or.inl ⟨by kernel_rfl, ?_⟩) (by assumption) ?_
      rotate_left
      · (intro wS hSw; (try dsimp only at hSw); go_simp <;> with_reducible rfl)
      try simp only [Act.put, List.getElem_toArray, List.getElem_cons_succ, List.getElem_cons_zero, List.setIfInBounds_toArray, List.set_cons_zero, List.set_cons_succ]
      refine wpAnyH_ready (rs := [18]) (by kernel_rfl) (by simp) (AllReadyH.cons rfl (fun K hK => ?_) AllReadyH.nil)
      go_simp
      (first | (go_at_call 47; refine (DO.out _ (by first | exact hx | exact hx.drew)).mono ?_; rintro e w1 ⟨rfl, hx⟩) | (go_at_call 48; refine (FT.out _ (by first | exact hx | exact hx.drew)).mono ?_; rintro e w2 ⟨rfl, hx⟩))
      refine hK.out _ _ ?_ (fun hHeld => ?_)
      · (first | exact CE.out _ hx | exact CE.out _ hx.drew)
      clear hK K
      try simp only [Act.put, List.getElem_toArray, List.getElem_cons_succ, List.getElem_cons_zero, List.setIfInBounds_toArray, List.set_cons_zero, List.set_cons_succ]
      refine wpAnyH_take (i := 19) (v := ?_) rfl (by kernel_rfl) (by kernel_rfl) (by kernel_rfl) (fun _ _ _ h => h) (Or.inl ⟨by kernel_rfl, ?_⟩) (by assumption) ?_
      rotate_left
      · (intro wS hSw; (try dsimp only at hSw); go_simp <;> with_reducible rfl)
      try simp only [Act.put, List.getElem_toArray, List.getElem_cons_succ, List.getElem_cons_zero, List.setIfInBounds_toArray, List.set_cons_zero, List.set_cons_succ]
      refine wpAnyH_take (i := 20) (v := ?_) rfl (by kernel_rfl) (by kernel_rfl) (by kernel_rfl) (fun _ _ _ h => h) (Or.inl ⟨by kernel_rfl, ?_⟩) (by assumption) ?_
      rotate_left
      · (intro wS hSw; (try dsimp only at hSw); go_simp <;> with_reducible rfl)
      try simp only [Act.put, List.getElem_toArray, List.getElem_cons_succ, List.getElem_cons_zero, List.setIfInBounds_toArray, List.set_cons_zero, List.set_cons_succ]
      refine wpAnyH_done (by kernel_rfl) ?_ _
      go_wp2_with fail
      go_roundw
      case rel => exact ⟨i + 1, by omega, by go_num, HG.out, by first | exact hx | exact hx.drew⟩
      case measure => simp [intOf]; omega
    have HP : Hid (rowB t id l = false) := row_no (fun h => hf (h.fit i hlt hlc).2)
    have f1 : (fitC t.cols[i] l[i] == 0) = false := by simpa using hf
    have f2 : decide (fitC t.cols[i] l[i] = 0) = false := decide_eq_false hf
    clear hf HW HSC HCA HD
    generalize fitC t.cols[i] l[i] = r at *
    generalize l[i] = s at *
    generalize t.cols[i] = z at *
    go_wp2_with fail
    refine wp_region_held_drew (S := (fun W => W.cell? ⟨w.heap.size, 1, none⟩ = some (.slice (some ⟨b, off, none⟩) t.cols.length cc) ∧ W.cell? ⟨w.heap.size + 1, 1, none⟩ = some (.slice (some ⟨b2, off2, none⟩) l.length c) ∧ W.cell? ⟨b2, off2 + i, none⟩ = some (.slice (X i).a s.length (X i).c) ∧ W.cell? ⟨b, off + i * 8, none⟩ = some (.string ⟨z.nm.toArray⟩) ∧ W.cell? ⟨b, off + i * 8 + 1, none⟩ = some (.int .i64 z.k) ∧ W.cell? ⟨b, off + i * 8 + 2, none⟩ = some (.int .i64 z.mn) ∧ W.cell? ⟨b, off + i * 8 + 3, none⟩ = some (.int .i64 z.mx) ∧ W.cell? ⟨b, off + i * 8 + 4, none⟩ = some (.int .i64 z.lo) ∧ W.cell? ⟨b, off + i * 8 + 5, none⟩ = some (.int .i64 z.hi) ∧ W.cell? ⟨b, off + i * 8 + 6, none⟩ = some (.string ⟨z.rf.toArray⟩) ∧ W.cell? ⟨b, off + i * 8 + 7, none⟩ = some (.bool z.st))) (by kernel_rfl) ?_ (fun hHeld => ?_)
    · (first | exact CE.out _ hx | exact CE.out _ hx.drew)
    refine wpAnyH_take (i := 0) (v := ?_) rfl (by kernel_rfl) (by kernel_rfl) (by kernel_rfl) (fun _ _ _ h => h) (Or.inl ⟨by kernel_rfl, ?_⟩) (by assumption) ?_
    rotate_left
    · (intro wS hSw; (try dsimp only at hSw); go_simp <;> with_reducible rfl)
    try simp only [Act.put, List.getElem_toArray, List.getElem_cons_succ, List.getElem_cons_zero, List.setIfInBounds_toArray, List.set_cons_zero, List.set_cons_succ]
    refine wpAnyH_take (i := 1) (v := ?_) rfl (by kernel_rfl) (by kernel_rfl) (by kernel_rfl) (fun _ _ _ h => h) (Or.inl ⟨by kernel_rfl, ?_⟩) (by assumption) ?_
    rotate_left
    · (intro wS hSw; (try dsimp only at hSw); go_simp <;> with_reducible rfl)
    try simp only [Act.put, List.getElem_toArray, List.getElem_cons_succ, List.getElem_cons_zero, List.setIfInBounds_toArray, List.set_cons_zero, List.set_cons_succ]
    refine wpAnyH_take (i := 2) (v := ?_) rfl (by kernel_rfl) (by kernel_rfl) (by kernel_rfl) (fun _ _ _ h => h) (Or.inl ⟨by kernel_rfl, ?_⟩) (by assumption) ?_
    rotate_left
    · (intro wS hSw; (try dsimp only at hSw); go_simp <;> with_reducible rfl)
    try simp only [Act.put, List.getElem_toArray, List.getElem_cons_succ, List.getElem_cons_zero, List.setIfInBounds_toArray, List.set_cons_zero, List.set_cons_succ]
    refine wpAnyH_take (i := 3) (v := ?_) rfl (by kernel_rfl) (by kernel_rfl) (by kernel_rfl) (fun _ _ _ h => h) (Or.inl ⟨by kernel_rfl, ?_⟩) (by assumption) ?_
    rotate_left
    · (intro wS hSw; (try dsimp only at hSw); go_simp <;> with_reducible rfl)
    try simp only [Act.put, List.getElem_toArray, List.getElem_cons_succ, List.getElem_cons_zero, List.setIfInBounds_toArray, List.set_cons_zero, List.set_cons_succ]
    refine wpAnyH_take (i := 4) (v := ?_) rfl (by kernel_rfl) (by kernel_rfl) (by kernel_rfl) (fun _ _ _ h => h) (Or.inl ⟨by kernel_rfl, ?_⟩) (by assumption) ?_
    rotate_left
    · (intro wS hSw; (try dsimp only at hSw); go_simp <;> with_reducible rfl)
    try simp only [Act.put, List.getElem_toArray, List.getElem_cons_succ, List.getElem_cons_zero, List.setIfInBounds_toArray, List.set_cons_zero, List.set_cons_succ]
    refine wpAnyH_ready (rs := [5]) (by kernel_rfl) (by simp) (AllReadyH.cons rfl (fun K hK => ?_) AllReadyH.nil)
    go_simp
    (first | (go_at_call 47; refine (DO.out _ (by first | exact hx | exact hx.drew)).mono ?_; rintro e w1 ⟨rfl, hx⟩) | (go_at_call 48; refine (FT.out _ (by first | exact hx | exact hx.drew)).mono ?_; rintro e w2 ⟨rfl, hx⟩))
    refine hK.out _ _ ?_ (fun hHeld => ?_)
    · (first | exact CE.out _ hx | exact CE.out _ hx.drew)
    clear hK K
    try simp only [Act.put, List.getElem_toArray, List.getElem_cons_succ, List.getElem_cons_zero, List.setIfInBounds_toArray, List.set_cons_zero, List.set_cons_succ]
    refine wpAnyH_take (i := 6) (v := ?_) rfl (by kernel_rfl) (by kernel_rfl) (by kernel_rfl) (fun _ _ _ h => h) (Or.inl ⟨by kernel_rfl, ?_⟩) (by assumption) ?_
    rotate_left
    · (intro wS hSw; (try dsimp only at hSw); go_simp <;> with_reducible rfl)
    try simp only [Act.put, List.getElem_toArray, List.getElem_cons_succ, List.getElem_cons_zero, List.setIfInBounds_toArray, List.set_cons_zero, List.set_cons_succ]
    refine wpAnyH_take (i := 7) (v := ?_) rfl (by kernel_rfl) (by kernel_rfl) (by kernel_rfl) (fun _ _ _ h => h) (Or.inl ⟨by kernel_rfl, ?_⟩) (by assumption) ?_
    rotate_left
    · (intro wS hSw; (try dsimp only at hSw); go_simp <;> with_reducible rfl)
    try simp only [Act.put, List.getElem_toArray, List.getElem_cons_succ, List.getElem_cons_zero, List.setIfInBounds_toArray, List.set_cons_zero, List.set_cons_succ]
    refine wpAnyH_take (i := 8) (v := ?_) rfl (by kernel_rfl) (by kernel_rfl) (by kernel_rfl) (fun _ _ _ h => h) (Or.inl ⟨by kernel_rfl, ?_⟩) (by assumption) ?_
    rotate_left
    · (intro wS hSw; (try dsimp only at hSw); go_simp <;> with_reducible rfl)
    try simp only [Act.put, List.getElem_toArray, List.getElem_cons_succ, List.getElem_cons_zero, List.setIfInBounds_toArray, List.set_cons_zero, List.set_cons_succ]
    refine wpAnyH_take (i := 9) (v := ?_) rfl (by kernel_rfl) (by kernel_rfl) (by kernel_rfl) (fun _ _ _ h => h) (Or.inl ⟨by kernel_rfl, ?_⟩) (by assumption) ?_
    rotate_left
    · (intro wS hSw; (try dsimp only at hSw); go_simp <;> with_reducible rfl)
    try simp only [Act.put, List.getElem_toArray, List.getElem_cons_succ, List.getElem_cons_zero, List.setIfInBounds_toArray, List.set_cons_zero, List.set_cons_succ]
    refine wpAnyH_take (i := 10) (v := ?_) rfl (by kernel_rfl) (by kernel_rfl) (by kernel_rfl) (fun _ _ _ h => h) (Or.inl ⟨by kernel_rfl, ?_⟩) (by assumption) ?_
    rotate_left
    · (intro wS hSw; (try dsimp only at hSw); go_simp <;> with_reducible rfl)
    try simp only [Act.put, List.getElem_toArray, List.getElem_cons_succ, List.getElem_cons_zero, List.setIfInBounds_toArray, List.set_cons_zero, List.set_cons_succ]
    refine wpAnyH_take (i := 11) (v := ?_) rfl (by kernel_rfl) (by kernel_rfl) (by kernel_rfl) (fun _ _ _ h => h) (Or.inl ⟨by kernel_rfl, ?_⟩) (by assumption) ?_
    rotate_left
    · (intro wS hSw; (try dsimp only at hSw); go_simp <;> with_reducible rfl)
    try simp only [Act.put, List.getElem_toArray, List.getElem_cons_succ, List.getElem_cons_zero, List.setIfInBounds_toArray, List.set_cons_zero, List.set_cons_succ]
    refine wpAnyH_take (i := 12) (v := ?_) rfl (by kernel_rfl) (by kernel_rfl) (by kernel_rfl) (fun _ _ _ h => h) (Or.inl ⟨by kernel_rfl, ?_⟩) (by assumption) ?_
    rotate_left
    · (intro wS hSw; (try dsimp only at hSw); go_simp <;> with_reducible rfl)
    try simp only [Act.put, List.getElem_toArray, List.getElem_cons_succ, List.getElem_cons_zero, List.setIfInBounds_toArray, List.set_cons_zero, List.set_cons_succ]
    refine wpAnyH_take (i := 13) (v := ?_) rfl (by kernel_rfl) (by kernel_rfl) (by kernel_rfl) (fun _ _ _ h => h) (Or.inl ⟨by kernel_rfl, ?_⟩) (by assumption) ?_
    rotate_left
    · (intro wS hSw; (try dsimp only at hSw); go_simp <;> with_reducible rfl)
    try simp only [Act.put, List.getElem_toArray, List.getElem_cons_succ, List.getElem_cons_zero, List.setIfInBounds_toArray, List.set_cons_zero, List.set_cons_succ]
    refine wpAnyH_take (i := 14) (v := ?_) rfl (by kernel_rfl) (by kernel_rfl) (by kernel_rfl) (fun _ _ _ h => h) (Or.inl ⟨by kernel_rfl, ?_⟩) (by assumption) ?_
    rotate_left
    · (intro wS hSw; (try dsimp only at hSw); go_simp <;> with_reducible rfl)
    try simp only [Act.put, List.getElem_toArray, List.getElem_cons_succ, List.getElem_cons_zero, List.setIfInBounds_toArray, List.set_cons_zero, List.set_cons_succ]
    refine wpAnyH_take (i := 15) (v := ?_) rfl (by kernel_rfl) (by kernel_rfl) (by kernel_rfl) (fun _ _ _ h => h) (Or.inl ⟨by kernel_rfl, ?_⟩) (by assumption) ?_
    rotate_left
    · (intro wS hSw; (try dsimp only at hSw); go_simp <;> with_reducible rfl)
    try simp only [Act.put, List.getElem_toArray, List.getElem_cons_succ, List.getElem_cons_zero, List.setIfInBounds_toArray, List.set_cons_zero, List.set_cons_succ]
    refine wpAnyH_take (i := 16) (v := ?_) rfl (by kernel_rfl) (by kernel_rfl) (by kernel_rfl) (fun _ _ _ h => h) (Or.inl ⟨by kernel_rfl, ?_⟩) (by assumption) ?_
    rotate_left
    · (intro wS hSw; (try dsimp only at hSw); go_simp <;> with_reducible rfl)
    try simp only [Act.put, List.getElem_toArray, List.getElem_cons_succ, List.getElem_cons_zero, List.setIfInBounds_toArray, List.set_cons_zero, List.set_cons_succ]
    refine wpAnyH_take (i := 17) (v := ?_) rfl (by kernel_rfl) (by kernel_rfl) (by kernel_rfl) (fun _ _ _ h => h) (Or.inl ⟨by kernel_rfl, ?_⟩) (by assumption) ?_
    rotate_left
    · (intro wS hSw; (try dsimp only at hSw); go_simp <;> with_reducible rfl)
    try simp only [Act.put, List.getElem_toArray, List.getElem_cons_succ, List.getElem_cons_zero, List.setIfInBounds_toArray, List.set_cons_zero, List.set_cons_succ]
    refine wpAnyH_ready (rs := [18]) (by kernel_rfl) (by simp) (AllReadyH.cons rfl (fun K hK => ?_) AllReadyH.nil)
    go_simp
    (first | (go_at_call 47; refine (DO.out _ (by first | exact hx | exact hx.drew)).mono ?_; rintro e w1 ⟨rfl, hx⟩) | (go_at_call 48; refine (FT.out _ (by first | exact hx | exact hx.drew)).mono ?_; rintro e w2 ⟨rfl, hx⟩))
    refine hK.out _ _ ?_ (fun hHeld => ?_)
    · (first | exact CE.out _ hx | exact CE.out _ hx.drew)
    clear hK K
    try simp only [Act.put, List.getElem_toArray, List.getElem_cons_succ, List.getElem_cons_zero, List.setIfInBounds_toArray, List.set_cons_zero, List.set_cons_succ]
    refine wpAnyH_take (i := 19) (v := ?_) rfl (by kernel_rfl) (by kernel_rfl) (by kernel_rfl) (fun _ _ _ h => h) (Or.inl ⟨by kernel_rfl, ?_⟩) (by assumption) ?_
    rotate_left
    · (intro wS hSw; (try dsimp only at hSw); go_simp <;> with_reducible rfl)
    try simp only [Act.put, List.getElem_toArray, List.getElem_cons_succ, List.getElem_cons_zero, List.setIfInBounds_toArray, List.set_cons_zero, List.set_cons_succ]
    refine wpAnyH_take (i := 20) (v := ?_) rfl (by kernel_rfl) (by kernel_rfl) (by kernel_rfl) (fun _ _ _ h => h) (Or.inl ⟨by kernel_rfl, ?_⟩) (by assumption) ?_
    rotate_left
    · (intro wS hSw; (try dsimp only at hSw); go_simp <;> with_reducible rfl)
    try simp only [Act.put, List.getElem_toArray, List.getElem_cons_succ, List.getElem_cons_zero, List.setIfInBounds_toArray, List.set_cons_zero, List.set_cons_succ]
    refine wpAnyH_done (by kernel_rfl) ?_ _
    go_wp2_with fail
    go_ret
    exact ⟨ret_b HP.out.symm, by first | exact hx.2 | exact hx.2.drew⟩
end Go.Proofs.Ytlkkmafnjdbofaa
namespace Go.Proofs.Ytlkkmafnjdbofaa
open Go.RowKit
set_option linter.unusedSimpArgs false
set_option maxRecDepth 100000 in
set_option maxHeartbeats 1600000 in
theorem fitsI (c : Cl) (l : List At) (a : Option Addr) (cp : Nat) (S : Nat) (w : World) (hl : l.length ≤ maxLen) (hw : S ≤ w.heap.size) (hA : Ats w (· < S) a l) :
    Calls Try.prog 78 #[.agg #[.string ⟨c.nm.toArray⟩, .int .i64 c.k, .int .i64 c.mn, .int .i64 c.mx, .int .i64 c.lo, .int .i64 c.hi, .string ⟨c.rf.toArray⟩, .bool c.st], .slice a l.length cp] w fun e w' => e = .returned (.int .i64 (fitC c l)) ∧ Below w.heap.size w w' := by
  unfold maxLen at hl
  have HA : Hid (∀ W, Below w.heap.size w W → Ats W (· < S) a l) := fun W h => hA.below (h.mono hw)
  have hx := boxC 72 w c
  clear hA hw
  have x0 := cell_at (o := 0) hx.1 rfl
  have x1 := cell_at (o := 1) hx.1 rfl
  have x2 := cell_at (o := 2) hx.1 rfl
  have x3 := cell_at (o := 3) hx.1 rfl
  have x4 := cell_at (o := 4) hx.1 rfl
  have x5 := cell_at (o := 5) hx.1 rfl
  have x6 := cell_at (o := 6) hx.1 rfl
  have x7 := cell_at (o := 7) hx.1 rfl
  by_cases h0 : 0 < l.length ∧ (l.getD 0 atZ).k ≠ c.k
  case pos =>
    have hln := h0.1
    have HC : Hid (fitC c l = 9) := fit9 hln (by rw [← at_getD hln]; exact h0.2)
    have hk0 : (l[0].k != c.k) = true := by have := h0.2; rw [at_getD hln] at this; simpa using this
    obtain ⟨b, off, rfl, -, f0, -, -⟩ := (HA.out _ hx.2).item 0 hln
    rw [Nat.zero_mul, Nat.add_zero] at f0
    have hd : decide (0 < (l.length : Int)) = true := decide_eq_true (by omega)
    have hki0 : (0 : Int) < (l.length : Int) := by omega
    clear h0 HA
    generalize l[0] = z at *
    go_enter Try.func78, Try.ntmps78
    go_wp2_with fail
    go_quiet (fail)
    go_wp2_with fail
    go_ret
    exact ⟨ret_i HC.out.symm, below_drewN hx.2 _⟩
  have HN := Lib.hid h0
  have hq : l.length = 0 ∨ ∃ b off, a = some ⟨b, off, none⟩ ∧ 0 < l.length ∧ (w.alloc (.cells #[.string ⟨c.nm.toArray⟩, .int .i64 c.k, .int .i64 c.mn, .int .i64 c.mx, .int .i64 c.lo, .int .i64 c.hi, .string ⟨c.rf.toArray⟩, .bool c.st] 72)).cell? ⟨b, off, none⟩ = some (.int .i64 c.k) := by
    by_cases h : l.length = 0
    · exact .inl h
    · obtain ⟨b, off, e, -, f0, -, -⟩ := (HA.out _ hx.2).item 0 (by omega)
      rw [Nat.zero_mul, Nat.add_zero] at f0
      have hk0 : l[0].k = c.k := by
        by_cases hh : l[0].k = c.k
        · exact hh
        · exact absurd ⟨by omega, by rw [at_getD (by omega)]; exact hh⟩ h0
      rw [hk0] at f0
      exact .inr ⟨b, off, e, by omega, f0⟩
  have HQ := Lib.hid hq
  clear h0 hq
  by_cases hn : (l.length : Int) < c.mn ∨ c.mx < (l.length : Int)
  case pos =>
    have HC : Hid (fitC c l = 6) := fit6 HN.out (by unfold inB; simp; omega)
    rcases HQ.out with h | ⟨b, off, rfl, hln, f0⟩
    · obtain rfl := List.length_eq_zero_iff.1 h
      clear h HQ HN HA hl
      simp only [List.length_nil, Int.natCast_zero] at hn ⊢
      rcases hn with hn | hn
      · have dn : decide (0 < c.mn) = true := decide_eq_true hn
        clear hn
        go_enter Try.func78, Try.ntmps78
        go_wp2_with fail
        go_quiet (fail)
        go_wp2_with fail
        go_ret
        exact ⟨ret_i HC.out.symm, by first | exact hx.2 | exact hx.2.drew | exact below_drewN hx.2 _⟩
      · have dn : decide (c.mx < 0) = true := decide_eq_true hn
        clear hn
        go_enter Try.func78, Try.ntmps78
        go_wp2_with fail
        go_quiet (fail)
        go_wp2_with fail
        all_goals
          go_ret
          exact ⟨ret_i HC.out.symm, by first | exact hx.2 | exact hx.2.drew | exact below_drewN hx.2 _⟩
    · have hd : decide (0 < (l.length : Int)) = true := decide_eq_true (by omega)
      have hki0 : (0 : Int) < (l.length : Int) := by omega
      have hkk : (c.k != c.k) = false := by simp
      clear HQ HN HA
      rcases hn with hn | hn
      · have dn : decide ((l.length : Int) < c.mn) = true := decide_eq_true hn
        clear hn
        go_enter Try.func78, Try.ntmps78
        go_wp2_with fail
        go_quiet (fail)
        go_wp2_with fail
        go_ret
        exact ⟨ret_i HC.out.symm, by first | exact hx.2 | exact hx.2.drew | exact below_drewN hx.2 _⟩
      · have dn : decide (c.mx < (l.length : Int)) = true := decide_eq_true hn
        clear hn
        go_enter Try.func78, Try.ntmps78
        go_wp2_with fail
        go_quiet (fail)
        go_wp2_with fail
        all_goals
          go_ret
          exact ⟨ret_i HC.out.symm, by first | exact hx.2 | exact hx.2.drew | exact below_drewN hx.2 _⟩
  have hm : inB c.mn l.length c.mx = true := by unfold inB; simp; omega
  have dn1 : decide ((l.length : Int) < c.mn) = false := decide_eq_false (by omega)
  have dn2 : decide (c.mx < (l.length : Int)) = false := decide_eq_false (by omega)
  rcases HQ.out with h | ⟨b, off, rfl, hln, f0⟩
  · obtain rfl := List.length_eq_zero_iff.1 h
    have HC : Hid (fitC c [] = 0) := fit0 HN.out hm (fun m hm => absurd hm (by simp))
    clear h HQ HN HA hl hm hn
    simp only [List.length_nil, Int.natCast_zero] at dn1 dn2 ⊢
    go_enter Try.func78, Try.ntmps78
    go_wp2_with fail
    go_quiet (fail)
    go_wp2_with fail
    go_loopw [33] (fun i wr => i = .int .i64 0 ∧ BoxC 72 w wr c) (fun _ _ => 0)
    case atStart => exact ⟨rfl, by first | exact hx | exact hx.drew | exact hx.drewN _⟩
    case round =>
      clear hx x0 x1 x2 x3 x4 x5 x6 x7
      obtain ⟨rfl, hx⟩ := hrel
      go_wp2_with fail
      go_ret
      exact ⟨ret_i HC.out.symm, hx.2⟩
  · have hd : decide (0 < (l.length : Int)) = true := decide_eq_true (by omega)
    have hki0 : (0 : Int) < (l.length : Int) := by omega
    have hkk : (c.k != c.k) = false := by simp
    clear HQ hn
    go_enter Try.func78, Try.ntmps78
    go_wp2_with fail
    go_quiet (fail)
    clear f0
    go_wp2_with fail
    go_loopw [33] (fun i wr => ∃ k : Nat, k ≤ l.length ∧ i = .int .i64 k ∧ Hid ((∀ m (hm : m < l.length), m < k → outB c l[m] = false) ∧ BoxC 72 w wr c)) (fun i _ => l.length - (intOf i).toNat)
    case atStart => exact ⟨0, Nat.zero_le _, rfl, fun m _ h => absurd h (by omega), by first | exact hx | exact hx.drew | exact hx.drewN _⟩
    case round =>
      clear hx x0 x1 x2 x3 x4 x5 x6 x7
      obtain ⟨k, hk, rfl, HW⟩ := hrel
      have hx := HW.out.2
      by_cases hlt : k < l.length
      case neg =>
        have HC : Hid (fitC c l = 0) := fit0 HN.out hm (fun m hm => HW.out.1 m hm (by omega))
        have hki : decide ((k : Int) < (l.length : Int)) = false := by simp; omega
        go_wp2_with fail
        go_ret
        exact ⟨ret_i HC.out.symm, hx.2⟩
      have hki : (k : Int) < (l.length : Int) := by omega
      obtain ⟨c0, c1, c2⟩ := (HA.out _ hx.2).three k hlt
      have HNX : Hid (outB c l[k] = false → ∀ m (hm : m < l.length), m < k + 1 → outB c l[m] = false) := fun h m hm hmk => by
        by_cases e : m = k
        · subst e; exact h
        · exact HW.out.1 m hm (by omega)
      have HF4 : Hid (outB c l[k] = true → fitC c l = 4) := fun h => fit4 HN.out hm hlt h
      clear HW
      have hb1 : w.heap.size < wr.heap.size := (Array.getElem?_eq_some_iff.1 hx.1).1
      have hnb : (w.heap.size = wr.heap.size) = False := by simp; omega
      have HXA : Hid (∀ o, BoxC 72 w (wr.alloc o) c) := fun o => hx.later ((Below.refl _ _).alloc (Nat.le_refl _) _)
      have x0 := cell_at (o := 0) hx.1 rfl
      have x1 := cell_at (o := 1) hx.1 rfl
      have x2 := cell_at (o := 2) hx.1 rfl
      have x3 := cell_at (o := 3) hx.1 rfl
      have x4 := cell_at (o := 4) hx.1 rfl
      have x5 := cell_at (o := 5) hx.1 rfl
      have x6 := cell_at (o := 6) hx.1 rfl
      have x7 := cell_at (o := 7) hx.1 rfl
      cases hk1 : (c.k == 1)
      case false =>
        have HN1 := Lib.hid (HNX.out (by unfold outB; rw [hk1]; rfl))
        clear HNX HF4
        generalize l[k] = x at *
        go_wp2_with fail
        go_roundw
        case rel => exact ⟨k + 1, by omega, by go_num, HN1.out, HXA.out _⟩
        case measure => simp [intOf]; omega
      by_cases hlo : l[k].n < c.lo
      case pos =>
        have HC := Lib.hid (HF4.out (by unfold outB inB; rw [hk1]; simp; omega))
        have dlo : decide (l[k].n < c.lo) = true := decide_eq_true hlo
        clear HNX HF4 hlo
        generalize l[k] = x at *
        go_wp2_with fail
        go_ret
        exact ⟨ret_i HC.out.symm, (HXA.out _).2⟩
      have dlo : decide (l[k].n < c.lo) = false := decide_eq_false hlo
      by_cases hhi : c.hi < l[k].n
      case pos =>
        have HC := Lib.hid (HF4.out (by unfold outB inB; rw [hk1]; simp; omega))
        have dhi : decide (c.hi < l[k].n) = true := decide_eq_true hhi
        clear HNX HF4 hhi hlo
        generalize l[k] = x at *
        go_wp2_with fail
        go_ret
        exact ⟨ret_i HC.out.symm, (HXA.out _).2⟩
      have dhi : decide (c.hi < l[k].n) = false := decide_eq_false hhi
      have HN1 := Lib.hid (HNX.out (by unfold outB inB; rw [hk1]; simp; omega))
      clear HNX HF4 hhi hlo
      generalize l[k] = x at *
      go_wp2_with fail
      go_roundw
      case rel => exact ⟨k + 1, by omega, by go_num, HN1.out, HXA.out _⟩
      case measure => simp [intOf]; omega
end Go.Proofs.Ytlkkmafnjdbofaa
namespace Go.Proofs.Ytlkkmafnjdbofaa
open Go.RowKit
set_option linter.unusedSimpArgs false
/-- a table's box, and a row that a pointer leads to -/
structure BoxP (ty : TypeId) (w W : World) (t : Tb) (ca : Option Addr) (cc : Nat) (ua : Option Addr) (uc : Nat) (pb po : Nat) (id : Int) (n : Nat) (a : Option Addr) (c : Nat) : Prop where
  tb : W.heap[w.heap.size]? = some (.cells #[.string ⟨t.nm.toArray⟩, .slice ca t.cols.length cc, .slice ua t.uq.length uc, .bool t.rt] ty)
  p0 : W.cell? ⟨pb, po, none⟩ = some (.int .i64 id)
  p1 : W.cell? ⟨pb, po + 1, none⟩ = some (.slice a n c)
  lt : pb < w.heap.size
  bel : Below w.heap.size w W
theorem BoxP.later {ty : TypeId} {w W W' : World} {t : Tb} {ca : Option Addr} {cc : Nat} {ua : Option Addr} {uc : Nat} {pb po : Nat} {id : Int} {n : Nat} {a : Option Addr} {c : Nat} (h : BoxP ty w W t ca cc ua uc pb po id n a c) (hB : Below W.heap.size W W') : BoxP ty w W' t ca cc ua uc pb po id n a c :=
  ⟨heap_keptC h.tb hB, by rw [hB.cell (p := ⟨pb, po, none⟩) (Nat.lt_of_lt_of_le h.lt h.bel.size)]; exact h.p0, by rw [hB.cell (p := ⟨pb, po + 1, none⟩) (Nat.lt_of_lt_of_le h.lt h.bel.size)]; exact h.p1, h.lt, h.bel.trans (hB.mono h.bel.size)⟩
theorem BoxP.drew {ty : TypeId} {w W : World} {t : Tb} {ca : Option Addr} {cc : Nat} {ua : Option Addr} {uc : Nat} {pb po : Nat} {id : Int} {n : Nat} {a : Option Addr} {c : Nat} (h : BoxP ty w W t ca cc ua uc pb po id n a c) : BoxP ty w W.drew t ca cc ua uc pb po id n a c := h.later (Below.refl _ _).drew
set_option maxRecDepth 100000 in
set_option maxHeartbeats 6400000 in
theorem rowFitsI (t : Tb) (ca : Option Addr) (cc : Nat) (ua : Option Addr) (uc : Nat) (pb po : Nat) (id : Int) (l : List (List At)) (a : Option Addr) (c : Nat) (X : Nat → AdS) (B : Nat → Prop) (S : Nat) (w : World) (ho : t.ok) (hs : SetsOk l) (hT : t.Has w B ca ua) (hw : S ≤ w.heap.size) (hS : Sets w (· < S) a l X)
    (hp0 : w.cell? ⟨pb, po, none⟩ = some (.int .i64 id)) (hp1 : w.cell? ⟨pb, po + 1, none⟩ = some (.slice a l.length c)) :
    Calls Try.prog 58 #[.agg #[.string ⟨t.nm.toArray⟩, .slice ca t.cols.length cc, .slice ua t.uq.length uc, .bool t.rt], .pointer (some ⟨pb, po, none⟩)] w fun e w' => e = .returned (.bool (rowB t id l)) ∧ Below w.heap.size w w' := by
  have hcl := ho.2.1
  have hll := hs.1
  unfold maxLen at hcl hll
  have HO : Hid t.ok := ho
  have HL : Hid (∀ s ∈ l, s.length ≤ maxLen ∧ ∀ x ∈ s, x.t.length ≤ maxLen) := hs.2
  have HT : Hid (t.Has w B ca ua) := hT
  have HS : Hid (S ≤ w.heap.size ∧ ∀ W, Below w.heap.size w W → Sets W (· < S) a l X) := ⟨hw, fun W h => hS.same (fun b hb => h.block b (by omega)) (fun _ h => h)⟩
  have hb := (Below.refl w.heap.size w).alloc (Nat.le_refl _) (.cells #[.string ⟨t.nm.toArray⟩, .slice ca t.cols.length cc, .slice ua t.uq.length uc, .bool t.rt] 70)
  have hx : BoxP 70 w (w.alloc (.cells #[.string ⟨t.nm.toArray⟩, .slice ca t.cols.length cc, .slice ua t.uq.length uc, .bool t.rt] 70)) t ca cc ua uc pb po id l.length a c := ⟨heap_newC _ _, by rw [hb.cell (p := ⟨pb, po, none⟩) (World.block_lt_of_cell? _ _ hp0)]; exact hp0, by rw [hb.cell (p := ⟨pb, po + 1, none⟩) (World.block_lt_of_cell? _ _ hp1)]; exact hp1, World.block_lt_of_cell? _ _ hp0, hb⟩
  clear ho hs hT hS hw hp0 hp1 hb
  have CE : Hid (∀ W, BoxP 70 w W t ca cc ua uc pb po id l.length a c → W.cell? ⟨w.heap.size, 1, none⟩ = some (.slice ca t.cols.length cc) ∧ W.cell? ⟨pb, po, none⟩ = some (.int .i64 id) ∧ W.cell? ⟨pb, po + 1, none⟩ = some (.slice a l.length c)) := fun W h => ⟨cell_at (o := 1) h.tb rfl, h.p0, h.p1⟩
  cases hi : inB 1 id 1000000
  case false =>
    have HP : Hid (rowB t id l = false) := row_no (fun h => by rw [h.id] at hi; cases hi)
    have HI := Lib.hid hi
    clear hi
    go_enter Try.func58, Try.ntmps58
    go_upto_region 1 with fail
    refine wp_region_held_drew (S := (fun W => W.cell? ⟨w.heap.size, 1, none⟩ = some (.slice ca t.cols.length cc) ∧ W.cell? ⟨pb, po, none⟩ = some (.int .i64 id) ∧ W.cell? ⟨pb, po + 1, none⟩ = some (.slice a l.length c))) (by kernel_rfl) ?_ (fun hHeld => ?_)
    · (first | exact CE.out _ hx | exact CE.out _ hx.drew)
    refine wpAnyH_take (i := 0) (v := ?_) rfl (by kernel_rfl) (by kernel_rfl) (by kernel_rfl) (fun _ _ _ h => h) (Or.inl ⟨by kernel_rfl, ?_⟩) (by assumption) ?_
    rotate_left
    · (intro wS hSw; (try dsimp only at hSw); go_simp <;> with_reducible rfl)
    try simp only [Act.put, List.getElem_toArray, List.getElem_cons_succ, List.getElem_cons_zero, List.setIfInBounds_toArray, List.set_cons_zero, List.set_cons_succ]
    refine wpAnyH_take (i := 1) (v := ?_) rfl (by kernel_rfl) (by kernel_rfl) (by kernel_rfl) (fun _ _ _ h => h) (Or.inl ⟨by kernel_rfl, ?_⟩) (by assumption) ?_
    rotate_left
    · (intro wS hSw; (try dsimp only at hSw); go_simp <;> with_reducible rfl)
    try simp only [Act.put, List.getElem_toArray, List.getElem_cons_succ, List.getElem_cons_zero, List.setIfInBounds_toArray, List.set_cons_zero, List.set_cons_succ]
    refine wpAnyH_take (i := 2) (v := ?_) rfl (by kernel_rfl) (by kernel_rfl) (by kernel_rfl) (fun _ _ _ h => h) (Or.inl ⟨by kernel_rfl, ?_⟩) (by assumption) ?_
    rotate_left
    · (intro wS hSw; (try dsimp only at hSw); go_simp <;> with_reducible rfl)
    try simp only [Act.put, List.getElem_toArray, List.getElem_cons_succ, List.getElem_cons_zero, List.setIfInBounds_toArray, List.set_cons_zero, List.set_cons_succ]
    refine wpAnyH_take (i := 3) (v := ?_) rfl (by kernel_rfl) (by kernel_rfl) (by kernel_rfl) (fun _ _ _ h => h) (Or.inl ⟨by kernel_rfl, ?_⟩) (by assumption) ?_
    rotate_left
    · (intro wS hSw; (try dsimp only at hSw); go_simp <;> with_reducible rfl)
    try simp only [Act.put, List.getElem_toArray, List.getElem_cons_succ, List.getElem_cons_zero, List.setIfInBounds_toArray, List.set_cons_zero, List.set_cons_succ]
    refine wpAnyH_ready (rs := [4]) (by kernel_rfl) (by simp) (AllReadyH.cons rfl (fun K hK => ?_) AllReadyH.nil)
    go_simp
    (go_at_call 37; refine (idOKi _ _).mono ?_; rintro e w' ⟨rfl, rfl⟩; rw [HI.out])
    refine hK.out _ _ ?_ (fun hHeld => ?_)
    · (first | exact CE.out _ hx | exact CE.out _ hx.drew)
    clear hK K
    try simp only [Act.put, List.getElem_toArray, List.getElem_cons_succ, List.getElem_cons_zero, List.setIfInBounds_toArray, List.set_cons_zero, List.set_cons_succ]
    refine wpAnyH_take (i := 5) (v := ?_) rfl (by kernel_rfl) (by kernel_rfl) (by kernel_rfl) (fun _ _ _ h => h) (Or.inl ⟨by kernel_rfl, ?_⟩) (by assumption) ?_
    rotate_left
    · (intro wS hSw; (try dsimp only at hSw); go_simp <;> with_reducible rfl)
    try simp only [Act.put, List.getElem_toArray, List.getElem_cons_succ, List.getElem_cons_zero, List.setIfInBounds_toArray, List.set_cons_zero, List.set_cons_succ]
    refine wpAnyH_take (i := 6) (v := ?_) rfl (by kernel_rfl) (by kernel_rfl) (by kernel_rfl) (fun _ _ _ h => h) (Or.inl ⟨by kernel_rfl, ?_⟩) (by assumption) ?_
    rotate_left
    · (intro wS hSw; (try dsimp only at hSw); go_simp <;> with_reducible rfl)
    try simp only [Act.put, List.getElem_toArray, List.getElem_cons_succ, List.getElem_cons_zero, List.setIfInBounds_toArray, List.set_cons_zero, List.set_cons_succ]
    refine wpAnyH_take (i := 7) (v := undef) rfl (by kernel_rfl) (by kernel_rfl) (by kernel_rfl) (fun _ _ _ h => h) (Or.inr ⟨by kernel_rfl, rfl⟩) (by assumption) ?_
    try simp only [Act.put, List.getElem_toArray, List.getElem_cons_succ, List.getElem_cons_zero, List.setIfInBounds_toArray, List.set_cons_zero, List.set_cons_succ]
    refine wpAnyH_take (i := 8) (v := undef) rfl (by kernel_rfl) (by kernel_rfl) (by kernel_rfl) (fun _ _ _ h => h) (Or.inr ⟨by kernel_rfl, rfl⟩) (by assumption) ?_
    try simp only [Act.put, List.getElem_toArray, List.getElem_cons_succ, List.getElem_cons_zero, List.setIfInBounds_toArray, List.set_cons_zero, List.set_cons_succ]
    refine wpAnyH_take (i := 9) (v := undef) rfl (by kernel_rfl) (by kernel_rfl) (by kernel_rfl) (fun _ _ _ h => h) (Or.inr ⟨by kernel_rfl, rfl⟩) (by assumption) ?_
    try simp only [Act.put, List.getElem_toArray, List.getElem_cons_succ, List.getElem_cons_zero, List.setIfInBounds_toArray, List.set_cons_zero, List.set_cons_succ]
    refine wpAnyH_take (i := 10) (v := undef) rfl (by kernel_rfl) (by kernel_rfl) (by kernel_rfl) (fun _ _ _ h => h) (Or.inr ⟨by kernel_rfl, rfl⟩) (by assumption) ?_
    try simp only [Act.put, List.getElem_toArray, List.getElem_cons_succ, List.getElem_cons_zero, List.setIfInBounds_toArray, List.set_cons_zero, List.set_cons_succ]
    refine wpAnyH_take (i := 11) (v := undef) rfl (by kernel_rfl) (by kernel_rfl) (by kernel_rfl) (fun _ _ _ h => h) (Or.inr ⟨by kernel_rfl, rfl⟩) (by assumption) ?_
    try simp only [Act.put, List.getElem_toArray, List.getElem_cons_succ, List.getElem_cons_zero, List.setIfInBounds_toArray, List.set_cons_zero, List.set_cons_succ]
    refine wpAnyH_take (i := 12) (v := undef) rfl (by kernel_rfl) (by kernel_rfl) (by kernel_rfl) (fun _ _ _ h => h) (Or.inr ⟨by kernel_rfl, rfl⟩) (by assumption) ?_
    try simp only [Act.put, List.getElem_toArray, List.getElem_cons_succ, List.getElem_cons_zero, List.setIfInBounds_toArray, List.set_cons_zero, List.set_cons_succ]
    refine wpAnyH_take (i := 13) (v := undef) rfl (by kernel_rfl) (by kernel_rfl) (by kernel_rfl) (fun _ _ _ h => h) (Or.inr ⟨by kernel_rfl, rfl⟩) (by assumption) ?_
    try simp only [Act.put, List.getElem_toArray, List.getElem_cons_succ, List.getElem_cons_zero, List.setIfInBounds_toArray, List.set_cons_zero, List.set_cons_succ]
    refine wpAnyH_take (i := 14) (v := undef) rfl (by kernel_rfl) (by kernel_rfl) (by kernel_rfl) (fun _ _ _ h => h) (Or.inr ⟨by kernel_rfl, rfl⟩) (by assumption) ?_
    try simp only [Act.put, List.getElem_toArray, List.getElem_cons_succ, List.getElem_cons_zero, List.setIfInBounds_toArray, List.set_cons_zero, List.set_cons_succ]
    refine wpAnyH_take (i := 15) (v := undef) rfl (by kernel_rfl) (by kernel_rfl) (by kernel_rfl) (fun _ _ _ h => h) (Or.inr ⟨by kernel_rfl, rfl⟩) (by assumption) ?_
    try simp only [Act.put, List.getElem_toArray, List.getElem_cons_succ, List.getElem_cons_zero, List.setIfInBounds_toArray, List.set_cons_zero, List.set_cons_succ]
    refine wpAnyH_take (i := 16) (v := ?_) rfl (by kernel_rfl) (by kernel_rfl) (by kernel_rfl) (fun _ _ _ h => h) (Or.inl ⟨by kernel_rfl, ?_⟩) (by assumption) ?_
    rotate_left
    · (intro wS hSw; (try dsimp only at hSw); go_simp <;> with_reducible rfl)
    try simp only [Act.put, List.getElem_toArray, List.getElem_cons_succ, List.getElem_cons_zero, List.setIfInBounds_toArray, List.set_cons_zero, List.set_cons_succ]
    refine wpAnyH_done (by kernel_rfl) ?_ _
    go_wp2_with fail
    go_ret
    exact ⟨ret_b HP.out.symm, by first | exact hx.bel | exact hx.drew.bel⟩
  have HI := Lib.hid hi
  clear hi
  by_cases hn : l.length = t.cols.length
  case neg =>
    have HP : Hid (rowB t id l = false) := row_no (fun h => hn h.len)
    have e1 : ((l.length : Int) != (t.cols.length : Int)) = true := bne_iff_ne.2 (by omega)
    clear hn
    go_enter Try.func58, Try.ntmps58
    go_upto_region 1 with fail
    refine wp_region_held_drew (S := (fun W => W.cell? ⟨w.heap.size, 1, none⟩ = some (.slice ca t.cols.length cc) ∧ W.cell? ⟨pb, po, none⟩ = some (.int .i64 id) ∧ W.cell? ⟨pb, po + 1, none⟩ = some (.slice a l.length c))) (by kernel_rfl) ?_ (fun hHeld => ?_)
    · (first | exact CE.out _ hx | exact CE.out _ hx.drew)
    refine wpAnyH_take (i := 0) (v := ?_) rfl (by kernel_rfl) (by kernel_rfl) (by kernel_rfl) (fun _ _ _ h => h) (Or.inl ⟨by kernel_rfl, ?_⟩) (by assumption) ?_
    rotate_left
    · (intro wS hSw; (try dsimp only at hSw); go_simp <;> with_reducible rfl)
    try simp only [Act.put, List.getElem_toArray, List.getElem_cons_succ, List.getElem_cons_zero, List.setIfInBounds_toArray, List.set_cons_zero, List.set_cons_succ]
    refine wpAnyH_take (i := 1) (v := ?_) rfl (by kernel_rfl) (by kernel_rfl) (by kernel_rfl) (fun _ _ _ h => h) (Or.inl ⟨by kernel_rfl, ?_⟩) (by assumption) ?_
    rotate_left
    · (intro wS hSw; (try dsimp only at hSw); go_simp <;> with_reducible rfl)
    try simp only [Act.put, List.getElem_toArray, List.getElem_cons_succ, List.getElem_cons_zero, List.setIfInBounds_toArray, List.set_cons_zero, List.set_cons_succ]
    refine wpAnyH_take (i := 2) (v := ?_) rfl (by kernel_rfl) (by kernel_rfl) (by kernel_rfl) (fun _ _ _ h => h) (Or.inl ⟨by kernel_rfl, ?_⟩) (by assumption) ?_
    rotate_left
    · (intro wS hSw; (try dsimp only at hSw); go_simp <;> with_reducible rfl)
    try simp only [Act.put, List.getElem_toArray, List.getElem_cons_succ, List.getElem_cons_zero, List.setIfInBounds_toArray, List.set_cons_zero, List.set_cons_succ]
    refine wpAnyH_take (i := 3) (v := ?_) rfl (by kernel_rfl) (by kernel_rfl) (by kernel_rfl) (fun _ _ _ h => h) (Or.inl ⟨by kernel_rfl, ?_⟩) (by assumption) ?_
    rotate_left
    · (intro wS hSw; (try dsimp only at hSw); go_simp <;> with_reducible rfl)
    try simp only [Act.put, List.getElem_toArray, List.getElem_cons_succ, List.getElem_cons_zero, List.setIfInBounds_toArray, List.set_cons_zero, List.set_cons_succ]
    refine wpAnyH_ready (rs := [4]) (by kernel_rfl) (by simp) (AllReadyH.cons rfl (fun K hK => ?_) AllReadyH.nil)
    go_simp
    (go_at_call 37; refine (idOKi _ _).mono ?_; rintro e w' ⟨rfl, rfl⟩; rw [HI.out])
    refine hK.out _ _ ?_ (fun hHeld => ?_)
    · (first | exact CE.out _ hx | exact CE.out _ hx.drew)
    clear hK K
    try simp only [Act.put, List.getElem_toArray, List.getElem_cons_succ, List.getElem_cons_zero, List.setIfInBounds_toArray, List.set_cons_zero, List.set_cons_succ]
    refine wpAnyH_take (i := 5) (v := ?_) rfl (by kernel_rfl) (by kernel_rfl) (by kernel_rfl) (fun _ _ _ h => h) (Or.inl ⟨by kernel_rfl, ?_⟩) (by assumption) ?_
    rotate_left
    · (intro wS hSw; (try dsimp only at hSw); go_simp <;> with_reducible rfl)
    try simp only [Act.put, List.getElem_toArray, List.getElem_cons_succ, List.getElem_cons_zero, List.setIfInBounds_toArray, List.set_cons_zero, List.set_cons_succ]
    refine wpAnyH_take (i := 6) (v := ?_) rfl (by kernel_rfl) (by kernel_rfl) (by kernel_rfl) (fun _ _ _ h => h) (Or.inl ⟨by kernel_rfl, ?_⟩) (by assumption) ?_
    rotate_left
    · (intro wS hSw; (try dsimp only at hSw); go_simp <;> with_reducible rfl)
    try simp only [Act.put, List.getElem_toArray, List.getElem_cons_succ, List.getElem_cons_zero, List.setIfInBounds_toArray, List.set_cons_zero, List.set_cons_succ]
    refine wpAnyH_take (i := 7) (v := ?_) rfl (by kernel_rfl) (by kernel_rfl) (by kernel_rfl) (fun _ _ _ h => h) (Or.inl ⟨by kernel_rfl, ?_⟩) (by assumption) ?_
    rotate_left
    · (intro wS hSw; (try dsimp only at hSw); go_simp <;> with_reducible rfl)
    try simp only [Act.put, List.getElem_toArray, List.getElem_cons_succ, List.getElem_cons_zero, List.setIfInBounds_toArray, List.set_cons_zero, List.set_cons_succ]
    refine wpAnyH_take (i := 8) (v := ?_) rfl (by kernel_rfl) (by kernel_rfl) (by kernel_rfl) (fun _ _ _ h => h) (Or.inl ⟨by kernel_rfl, ?_⟩) (by assumption) ?_
    rotate_left
    · (intro wS hSw; (try dsimp only at hSw); go_simp <;> with_reducible rfl)
    try simp only [Act.put, List.getElem_toArray, List.getElem_cons_succ, List.getElem_cons_zero, List.setIfInBounds_toArray, List.set_cons_zero, List.set_cons_succ]
    refine wpAnyH_take (i := 9) (v := ?_) rfl (by kernel_rfl) (by kernel_rfl) (by kernel_rfl) (fun _ _ _ h => h) (Or.inl ⟨by kernel_rfl, ?_⟩) (by assumption) ?_
    rotate_left
    · (intro wS hSw; (try dsimp only at hSw); go_simp <;> with_reducible rfl)
    try simp only [Act.put, List.getElem_toArray, List.getElem_cons_succ, List.getElem_cons_zero, List.setIfInBounds_toArray, List.set_cons_zero, List.set_cons_succ]
    refine wpAnyH_take (i := 10) (v := ?_) rfl (by kernel_rfl) (by kernel_rfl) (by kernel_rfl) (fun _ _ _ h => h) (Or.inl ⟨by kernel_rfl, ?_⟩) (by assumption) ?_
    rotate_left
    · (intro wS hSw; (try dsimp only at hSw); go_simp <;> with_reducible rfl)
    try simp only [Act.put, List.getElem_toArray, List.getElem_cons_succ, List.getElem_cons_zero, List.setIfInBounds_toArray, List.set_cons_zero, List.set_cons_succ]
    refine wpAnyH_take (i := 11) (v := ?_) rfl (by kernel_rfl) (by kernel_rfl) (by kernel_rfl) (fun _ _ _ h => h) (Or.inl ⟨by kernel_rfl, ?_⟩) (by assumption) ?_
    rotate_left
    · (intro wS hSw; (try dsimp only at hSw); go_simp <;> with_reducible rfl)
    try simp only [Act.put, List.getElem_toArray, List.getElem_cons_succ, List.getElem_cons_zero, List.setIfInBounds_toArray, List.set_cons_zero, List.set_cons_succ]
    refine wpAnyH_take (i := 12) (v := ?_) rfl (by kernel_rfl) (by kernel_rfl) (by kernel_rfl) (fun _ _ _ h => h) (Or.inl ⟨by kernel_rfl, ?_⟩) (by assumption) ?_
    rotate_left
    · (intro wS hSw; (try dsimp only at hSw); go_simp <;> with_reducible rfl)
    try simp only [Act.put, List.getElem_toArray, List.getElem_cons_succ, List.getElem_cons_zero, List.setIfInBounds_toArray, List.set_cons_zero, List.set_cons_succ]
    refine wpAnyH_take (i := 13) (v := ?_) rfl (by kernel_rfl) (by kernel_rfl) (by kernel_rfl) (fun _ _ _ h => h) (Or.inl ⟨by kernel_rfl, ?_⟩) (by assumption) ?_
    rotate_left
    · (intro wS hSw; (try dsimp only at hSw); go_simp <;> with_reducible rfl)
    try simp only [Act.put, List.getElem_toArray, List.getElem_cons_succ, List.getElem_cons_zero, List.setIfInBounds_toArray, List.set_cons_zero, List.set_cons_succ]
    refine wpAnyH_take (i := 14) (v := ?_) rfl (by kernel_rfl) (by kernel_rfl) (by kernel_rfl) (fun _ _ _ h => h) (Or.inl ⟨by kernel_rfl, ?_⟩) (by assumption) ?_
    rotate_left
    · (intro wS hSw; (try dsimp only at hSw); go_simp <;> with_reducible rfl)
    try simp only [Act.put, List.getElem_toArray, List.getElem_cons_succ, List.getElem_cons_zero, List.setIfInBounds_toArray, List.set_cons_zero, List.set_cons_succ]
    refine wpAnyH_take (i := 15) (v := ?_) rfl (by kernel_rfl) (by kernel_rfl) (by kernel_rfl) (fun _ _ _ h => h) (Or.inl ⟨by kernel_rfl, ?_⟩) (by assumption) ?_
    rotate_left
    · (intro wS hSw; (try dsimp only at hSw); go_simp <;> with_reducible rfl)
    try simp only [Act.put, List.getElem_toArray, List.getElem_cons_succ, List.getElem_cons_zero, List.setIfInBounds_toArray, List.set_cons_zero, List.set_cons_succ]
    refine wpAnyH_take (i := 16) (v := ?_) rfl (by kernel_rfl) (by kernel_rfl) (by kernel_rfl) (fun _ _ _ h => h) (Or.inl ⟨by kernel_rfl, ?_⟩) (by assumption) ?_
    rotate_left
    · (intro wS hSw; (try dsimp only at hSw); go_simp <;> with_reducible rfl)
    try simp only [Act.put, List.getElem_toArray, List.getElem_cons_succ, List.getElem_cons_zero, List.setIfInBounds_toArray, List.set_cons_zero, List.set_cons_succ]
    refine wpAnyH_done (by kernel_rfl) ?_ _
    go_wp2_with fail
    go_ret
    exact ⟨ret_b HP.out.symm, by first | exact hx.bel | exact hx.drew.bel⟩
  have HN := Lib.hid hn
  have e1 : ((l.length : Int) != (t.cols.length : Int)) = false := by simp [bne, hn]
  clear hn
  go_enter Try.func58, Try.ntmps58
  go_upto_region 1 with fail
  refine wp_region_held_drew (S := (fun W => W.cell? ⟨w.heap.size, 1, none⟩ = some (.slice ca t.cols.length cc) ∧ W.cell? ⟨pb, po, none⟩ = some (.int .i64 id) ∧ W.cell? ⟨pb, po + 1, none⟩ = some (.slice a l.length c))) (by kernel_rfl) ?_ (fun hHeld => ?_)
  · (first | exact CE.out _ hx | exact CE.out _ hx.drew)
  refine wpAnyH_take (i := 0) (v := ?_) rfl (by kernel_rfl) (by kernel_rfl) (by kernel_rfl) (fun _ _ _ h => h) (Or.inl ⟨by kernel_rfl, ?_⟩) (by assumption) ?_
  rotate_left
  · (intro wS hSw; (try dsimp only at hSw); go_simp <;> with_reducible rfl)
  try simp only [Act.put, List.getElem_toArray, List.getElem_cons_succ, List.getElem_cons_zero, List.setIfInBounds_toArray, List.set_cons_zero, List.set_cons_succ]
  refine wpAnyH_take (i := 1) (v := ?_) rfl (by kernel_rfl) (by kernel_rfl) (by kernel_rfl) (fun _ _ _ h => h) (Or.inl ⟨by kernel_rfl, ?_⟩) (by assumption) ?_
  rotate_left
  · (intro wS hSw; (try dsimp only at hSw); go_simp <;> with_reducible rfl)
  try simp only [Act.put, List.getElem_toArray, List.getElem_cons_succ, List.getElem_cons_zero, List.setIfInBounds_toArray, List.set_cons_zero, List.set_cons_succ]
  refine wpAnyH_take (i := 2) (v := ?_) rfl (by kernel_rfl) (by kernel_rfl) (by kernel_rfl) (fun _ _ _ h => h) (Or.inl ⟨by kernel_rfl, ?_⟩) (by assumption) ?_
  rotate_left
  · (intro wS hSw; (try dsimp only at hSw); go_simp <;> with_reducible rfl)
  try simp only [Act.put, List.getElem_toArray, List.getElem_cons_succ, List.getElem_cons_zero, List.setIfInBounds_toArray, List.set_cons_zero, List.set_cons_succ]
  refine wpAnyH_take (i := 3) (v := ?_) rfl (by kernel_rfl) (by kernel_rfl) (by kernel_rfl) (fun _ _ _ h => h) (Or.inl ⟨by kernel_rfl, ?_⟩) (by assumption) ?_
  rotate_left
  · (intro wS hSw; (try dsimp only at hSw); go_simp <;> with_reducible rfl)
  try simp only [Act.put, List.getElem_toArray, List.getElem_cons_succ, List.getElem_cons_zero, List.setIfInBounds_toArray, List.set_cons_zero, List.set_cons_succ]
  refine wpAnyH_ready (rs := [4]) (by kernel_rfl) (by simp) (AllReadyH.cons rfl (fun K hK => ?_) AllReadyH.nil)
  go_simp
  (go_at_call 37; refine (idOKi _ _).mono ?_; rintro e w' ⟨rfl, rfl⟩; rw [HI.out])
  refine hK.out _ _ ?_ (fun hHeld => ?_)
  · (first | exact CE.out _ hx | exact CE.out _ hx.drew)
  clear hK K
  try simp only [Act.put, List.getElem_toArray, List.getElem_cons_succ, List.getElem_cons_zero, List.setIfInBounds_toArray, List.set_cons_zero, List.set_cons_succ]
  refine wpAnyH_take (i := 5) (v := ?_) rfl (by kernel_rfl) (by kernel_rfl) (by kernel_rfl) (fun _ _ _ h => h) (Or.inl ⟨by kernel_rfl, ?_⟩) (by assumption) ?_
  rotate_left
  · (intro wS hSw; (try dsimp only at hSw); go_simp <;> with_reducible rfl)
  try simp only [Act.put, List.getElem_toArray, List.getElem_cons_succ, List.getElem_cons_zero, List.setIfInBounds_toArray, List.set_cons_zero, List.set_cons_succ]
  refine wpAnyH_take (i := 6) (v := ?_) rfl (by kernel_rfl) (by kernel_rfl) (by kernel_rfl) (fun _ _ _ h => h) (Or.inl ⟨by kernel_rfl, ?_⟩) (by assumption) ?_
  rotate_left
  · (intro wS hSw; (try dsimp only at hSw); go_simp <;> with_reducible rfl)
  try simp only [Act.put, List.getElem_toArray, List.getElem_cons_succ, List.getElem_cons_zero, List.setIfInBounds_toArray, List.set_cons_zero, List.set_cons_succ]
  refine wpAnyH_take (i := 7) (v := ?_) rfl (by kernel_rfl) (by kernel_rfl) (by kernel_rfl) (fun _ _ _ h => h) (Or.inl ⟨by kernel_rfl, ?_⟩) (by assumption) ?_
  rotate_left
  · (intro wS hSw; (try dsimp only at hSw); go_simp <;> with_reducible rfl)
  try simp only [Act.put, List.getElem_toArray, List.getElem_cons_succ, List.getElem_cons_zero, List.setIfInBounds_toArray, List.set_cons_zero, List.set_cons_succ]
  refine wpAnyH_take (i := 8) (v := ?_) rfl (by kernel_rfl) (by kernel_rfl) (by kernel_rfl) (fun _ _ _ h => h) (Or.inl ⟨by kernel_rfl, ?_⟩) (by assumption) ?_
  rotate_left
  · (intro wS hSw; (try dsimp only at hSw); go_simp <;> with_reducible rfl)
  try simp only [Act.put, List.getElem_toArray, List.getElem_cons_succ, List.getElem_cons_zero, List.setIfInBounds_toArray, List.set_cons_zero, List.set_cons_succ]
  refine wpAnyH_take (i := 9) (v := ?_) rfl (by kernel_rfl) (by kernel_rfl) (by kernel_rfl) (fun _ _ _ h => h) (Or.inl ⟨by kernel_rfl, ?_⟩) (by assumption) ?_
  rotate_left
  · (intro wS hSw; (try dsimp only at hSw); go_simp <;> with_reducible rfl)
  try simp only [Act.put, List.getElem_toArray, List.getElem_cons_succ, List.getElem_cons_zero, List.setIfInBounds_toArray, List.set_cons_zero, List.set_cons_succ]
  refine wpAnyH_take (i := 10) (v := ?_) rfl (by kernel_rfl) (by kernel_rfl) (by kernel_rfl) (fun _ _ _ h => h) (Or.inl ⟨by kernel_rfl, ?_⟩) (by assumption) ?_
  rotate_left
  · (intro wS hSw; (try dsimp only at hSw); go_simp <;> with_reducible rfl)
  try simp only [Act.put, List.getElem_toArray, List.getElem_cons_succ, List.getElem_cons_zero, List.setIfInBounds_toArray, List.set_cons_zero, List.set_cons_succ]
  refine wpAnyH_take (i := 11) (v := ?_) rfl (by kernel_rfl) (by kernel_rfl) (by kernel_rfl) (fun _ _ _ h => h) (Or.inl ⟨by kernel_rfl, ?_⟩) (by assumption) ?_
  rotate_left
  · (intro wS hSw; (try dsimp only at hSw); go_simp <;> with_reducible rfl)
  try simp only [Act.put, List.getElem_toArray, List.getElem_cons_succ, List.getElem_cons_zero, List.setIfInBounds_toArray, List.set_cons_zero, List.set_cons_succ]
  refine wpAnyH_take (i := 12) (v := ?_) rfl (by kernel_rfl) (by kernel_rfl) (by kernel_rfl) (fun _ _ _ h => h) (Or.inl ⟨by kernel_rfl, ?_⟩) (by assumption) ?_
  rotate_left
  · (intro wS hSw; (try dsimp only at hSw); go_simp <;> with_reducible rfl)
  try simp only [Act.put, List.getElem_toArray, List.getElem_cons_succ, List.getElem_cons_zero, List.setIfInBounds_toArray, List.set_cons_zero, List.set_cons_succ]
  refine wpAnyH_take (i := 13) (v := ?_) rfl (by kernel_rfl) (by kernel_rfl) (by kernel_rfl) (fun _ _ _ h => h) (Or.inl ⟨by kernel_rfl, ?_⟩) (by assumption) ?_
  rotate_left
  · (intro wS hSw; (try dsimp only at hSw); go_simp <;> with_reducible rfl)
  try simp only [Act.put, List.getElem_toArray, List.getElem_cons_succ, List.getElem_cons_zero, List.setIfInBounds_toArray, List.set_cons_zero, List.set_cons_succ]
  refine wpAnyH_take (i := 14) (v := ?_) rfl (by kernel_rfl) (by kernel_rfl) (by kernel_rfl) (fun _ _ _ h => h) (Or.inl ⟨by kernel_rfl, ?_⟩) (by assumption) ?_
  rotate_left
  · (intro wS hSw; (try dsimp only at hSw); go_simp <;> with_reducible rfl)
  try simp only [Act.put, List.getElem_toArray, List.getElem_cons_succ, List.getElem_cons_zero, List.setIfInBounds_toArray, List.set_cons_zero, List.set_cons_succ]
  refine wpAnyH_take (i := 15) (v := ?_) rfl (by kernel_rfl) (by kernel_rfl) (by kernel_rfl) (fun _ _ _ h => h) (Or.inl ⟨by kernel_rfl, ?_⟩) (by assumption) ?_
  rotate_left
  · (intro wS hSw; (try dsimp only at hSw); go_simp <;> with_reducible rfl)
  try simp only [Act.put, List.getElem_toArray, List.getElem_cons_succ, List.getElem_cons_zero, List.setIfInBounds_toArray, List.set_cons_zero, List.set_cons_succ]
  refine wpAnyH_take (i := 16) (v := ?_) rfl (by kernel_rfl) (by kernel_rfl) (by kernel_rfl) (fun _ _ _ h => h) (Or.inl ⟨by kernel_rfl, ?_⟩) (by assumption) ?_
  rotate_left
  · (intro wS hSw; (try dsimp only at hSw); go_simp <;> with_reducible rfl)
  try simp only [Act.put, List.getElem_toArray, List.getElem_cons_succ, List.getElem_cons_zero, List.setIfInBounds_toArray, List.set_cons_zero, List.set_cons_succ]
  refine wpAnyH_done (by kernel_rfl) ?_ _
  have HX0 := Lib.hid (hx.drew)
  have x1 := cell_at (o := 1) HX0.out.tb rfl
  go_wp2_with fail
  clear hx x1 e1 CE
  go_loopw [26] (fun q wr => ∃ k : Nat, k ≤ t.cols.length ∧ q = .int .i64 k ∧ Hid ((∀ m (h : m < l.length) (h' : m < t.cols.length), m < k → datumB l[m] = true ∧ fitC t.cols[m] l[m] = 0) ∧ BoxP 70 w wr t ca cc ua uc pb po id l.length a c)) (fun q _ => t.cols.length - (intOf q).toNat)
  case atStart => exact ⟨0, Nat.zero_le _, rfl, fun m _ _ h => absurd h (by omega), HX0.out⟩
  case round =>
    obtain ⟨i, hi, rfl, HW⟩ := hrel
    have hx := HW.out.2
    by_cases hlc : i < t.cols.length
    case neg =>
      have hid : decide ((i : Int) < (t.cols.length : Int)) = false := by simp; omega
      have HP : Hid (rowB t id l = true) := row_yes ⟨HI.out, HN.out, fun m h h' => HW.out.1 m h h' (by omega)⟩
      clear HW
      go_wp2_with fail
      go_ret
      exact ⟨ret_b HP.out.symm, hx.bel⟩
    have hlt : i < l.length := by rw [HN.out]; exact hlc
    have hki : (i : Int) < (l.length : Int) := by omega
    have hkc : (i : Int) < (t.cols.length : Int) := by omega
    obtain ⟨b2, off2, rfl, -, -⟩ := (HS.out.2 _ hx.bel).at i hlt
    obtain ⟨b, off, rfl, -, -⟩ := (HT.out.later hx.bel).1.at i hlc
    have HSC : Hid (∀ W, Below w.heap.size w W → W.cell? ⟨b2, off2 + i, none⟩ = some (.slice (X i).a l[i].length (X i).c)) := fun W h => (HS.out.2 W h).spot i hlt
    have HCA : Hid (∀ W, Below w.heap.size w W → ColAt W b (off + i * 8) t.cols[i]) := fun W h => by
      obtain ⟨b', off', e, -, hc'⟩ := (HT.out.later h).1.at i hlc
      simp only [Option.some.injEq, Addr.mk.injEq, and_true] at e
      obtain ⟨rfl, rfl⟩ := e
      exact hc' i hlc
    have DO : Hid (∀ W, BoxP 70 w W t (some ⟨b, off, none⟩) cc ua uc pb po id l.length (some ⟨b2, off2, none⟩) c → Calls Try.prog 77 #[.slice (X i).a l[i].length (X i).c] W fun e w' => e = .returned (.bool (datumB l[i])) ∧ BoxP 70 w w' t (some ⟨b, off, none⟩) cc ua uc pb po id l.length (some ⟨b2, off2, none⟩) c) := fun W h => (datumOKi l[i] _ _ S W (HL.out _ (List.getElem_mem hlt)).1 (HL.out _ (List.getElem_mem hlt)).2 (Nat.le_trans HS.out.1 h.bel.size) ((HS.out.2 _ h.bel).has i hlt)).mono (fun e w' ⟨he, hB⟩ => ⟨he, h.later hB⟩)
    have FT : Hid (∀ W, BoxP 70 w W t (some ⟨b, off, none⟩) cc ua uc pb po id l.length (some ⟨b2, off2, none⟩) c → Calls Try.prog 78 #[.agg #[.string ⟨t.cols[i].nm.toArray⟩, .int .i64 t.cols[i].k, .int .i64 t.cols[i].mn, .int .i64 t.cols[i].mx, .int .i64 t.cols[i].lo, .int .i64 t.cols[i].hi, .string ⟨t.cols[i].rf.toArray⟩, .bool t.cols[i].st], .slice (X i).a l[i].length (X i).c] W fun e w' => e = .returned (.int .i64 (fitC t.cols[i] l[i])) ∧ BoxP 70 w w' t (some ⟨b, off, none⟩) cc ua uc pb po id l.length (some ⟨b2, off2, none⟩) c) := fun W h => (fitsI t.cols[i] l[i] _ _ S W (HL.out _ (List.getElem_mem hlt)).1 (Nat.le_trans HS.out.1 h.bel.size) ((HS.out.2 _ h.bel).has i hlt)).mono (fun e w' ⟨he, hB⟩ => ⟨he, h.later hB⟩)
    cases hd : datumB l[i]
    case false =>
      have HP : Hid (rowB t id l = false) := row_no (fun h => by have := (h.fit i hlt hlc).1; rw [hd] at this; cases this)
      rw [hd] at DO
      have CE : Hid (∀ W, BoxP 70 w W t (some ⟨b, off, none⟩) cc ua uc pb po id l.length (some ⟨b2, off2, none⟩) c → W.cell? ⟨w.heap.size, 1, none⟩ = some (.slice (some ⟨b, off, none⟩) t.cols.length cc) ∧ W.cell? ⟨pb, po + 1, none⟩ = some (.slice (some ⟨b2, off2, none⟩) l.length c) ∧ W.cell? ⟨b2, off2 + i, none⟩ = some (.slice (X i).a l[i].length (X i).c)) := fun W h => ⟨cell_at (o := 1) h.tb rfl, h.p1, HSC.out W h.bel⟩
      clear hd HW HSC HCA FT
      generalize l[i] = s at *
      go_wp2_with fail
      refine wp_region_held_drew (S := (fun W => W.cell? ⟨w.heap.size, 1, none⟩ = some (.slice (some ⟨b, off, none⟩) t.cols.length cc) ∧ W.cell? ⟨pb, po + 1, none⟩ = some (.slice (some ⟨b2, off2, none⟩) l.length c) ∧ W.cell? ⟨b2, off2 + i, none⟩ = some (.slice (X i).a s.length (X i).c))) (by kernel_rfl) ?_ (fun hHeld => ?_)
      · (first | exact CE.out _ hx | exact CE.out _ hx.drew)
      refine wpAnyH_take (i := 0) (v := ?_) rfl (by kernel_rfl) (by kernel_rfl) (by kernel_rfl) (fun _ _ _ h => h) (Or.inl ⟨by kernel_rfl, ?_⟩) (by assumption) ?_
      rotate_left
      · (intro wS hSw; (try dsimp only at hSw); go_simp <;> with_reducible rfl)
      try simp only [Act.put, List.getElem_toArray, List.getElem_cons_succ, List.getElem_cons_zero, List.setIfInBounds_toArray, List.set_cons_zero, List.set_cons_succ]
      refine wpAnyH_take (i := 1) (v := ?_) rfl (by kernel_rfl) (by kernel_rfl) (by kernel_rfl) (fun _ _ _ h => h) (Or.inl ⟨by kernel_rfl, ?_⟩) (by assumption) ?_
      rotate_left
      · (intro wS hSw; (try dsimp only at hSw); go_simp <;> with_reducible rfl)
      try simp only [Act.put, List.getElem_toArray, List.getElem_cons_succ, List.getElem_cons_zero, List.setIfInBounds_toArray, List.set_cons_zero, List.set_cons_succ]
      refine wpAnyH_take (i := 2) (v := ?_) rfl (by kernel_rfl) (by kernel_rfl) (by kernel_rfl) (fun _ _ _ h => h) (Or.inl ⟨by kernel_rfl, ?_⟩) (by assumption) ?_
      rotate_left
      · (intro wS hSw; (try dsimp only at hSw); go_simp <;> with_reducible rfl)
      try simp only [Act.put, List.getElem_toArray, List.getElem_cons_succ, List.getElem_cons_zero, List.setIfInBounds_toArray, List.set_cons_zero, List.set_cons_succ]
      refine wpAnyH_take (i := 3) (v := ?_) rfl (by kernel_rfl) (by kernel_rfl) (by kernel_rfl) (fun _ _ _ h => h) (Or.inl ⟨by kernel_rfl, ?_⟩) (by assumption) ?_
      rotate_left
      · (intro wS hSw; (try dsimp only at hSw); go_simp <;> with_reducible rfl)
      try simp only [Act.put, List.getElem_toArray, List.getElem_cons_succ, List.getElem_cons_zero, List.setIfInBounds_toArray, List.set_cons_zero, List.set_cons_succ]
      refine wpAnyH_take (i := 4) (v := ?_) rfl (by kernel_rfl) (by kernel_rfl) (by kernel_rfl) (fun _ _ _ h => h) (Or.inl ⟨by kernel_rfl, ?_⟩) (by assumption) ?_
      rotate_left
      · (intro wS hSw; (try dsimp only at hSw); go_simp <;> with_reducible rfl)
      try simp only [Act.put, List.getElem_toArray, List.getElem_cons_succ, List.getElem_cons_zero, List.setIfInBounds_toArray, List.set_cons_zero, List.set_cons_succ]
      refine wpAnyH_take (i := 5) (v := ?_) rfl (by kernel_rfl) (by kernel_rfl) (by kernel_rfl) (fun _ _ _ h => h) (Or.inl ⟨by kernel_rfl, ?_⟩) (by assumption) ?_
      rotate_left
      · (intro wS hSw; (try dsimp only at hSw); go_simp <;> with_reducible rfl)
      try simp only [Act.put, List.getElem_toArray, List.getElem_cons_succ, List.getElem_cons_zero, List.setIfInBounds_toArray, List.set_cons_zero, List.set_cons_succ]
      refine wpAnyH_take (i := 6) (v := ?_) rfl (by kernel_rfl) (by kernel_rfl) (by kernel_rfl) (fun _ _ _ h => h) (Or.inl ⟨by kernel_rfl, ?_⟩) (by assumption) ?_
      rotate_left
      · (intro wS hSw; (try dsimp only at hSw); go_simp <;> with_reducible rfl)
      try simp only [Act.put, List.getElem_toArray, List.getElem_cons_succ, List.getElem_cons_zero, List.setIfInBounds_toArray, List.set_cons_zero, List.set_cons_succ]
      refine wpAnyH_ready (rs := [7]) (by kernel_rfl) (by simp) (AllReadyH.cons rfl (fun K hK => ?_) AllReadyH.nil)
      go_simp
      (first | (go_at_call 77; refine (DO.out _ (by first | exact hx | exact hx.drew)).mono ?_; rintro e w1 ⟨rfl, hx⟩) | (go_at_call 78; refine (FT.out _ (by first | exact hx | exact hx.drew)).mono ?_; rintro e w2 ⟨rfl, hx⟩))
      refine hK.out _ _ ?_ (fun hHeld => ?_)
      · (first | exact CE.out _ hx | exact CE.out _ hx.drew)
      clear hK K
      try simp only [Act.put, List.getElem_toArray, List.getElem_cons_succ, List.getElem_cons_zero, List.setIfInBounds_toArray, List.set_cons_zero, List.set_cons_succ]
      refine wpAnyH_take (i := 8) (v := ?_) rfl (by kernel_rfl) (by kernel_rfl) (by kernel_rfl) (fun _ _ _ h => h) (Or.inl ⟨by kernel_rfl, ?_⟩) (by assumption) ?_
      rotate_left
      · (intro wS hSw; (try dsimp only at hSw); go_simp <;> with_reducible rfl)
      try simp only [Act.put, List.getElem_toArray, List.getElem_cons_succ, List.getElem_cons_zero, List.setIfInBounds_toArray, List.set_cons_zero, List.set_cons_succ]
      refine wpAnyH_take (i := 9) (v := ?_) rfl (by kernel_rfl) (by kernel_rfl) (by kernel_rfl) (fun _ _ _ h => h) (Or.inl ⟨by kernel_rfl, ?_⟩) (by assumption) ?_
      rotate_left
      · (intro wS hSw; (try dsimp only at hSw); go_simp <;> with_reducible rfl)
      try simp only [Act.put, List.getElem_toArray, List.getElem_cons_succ, List.getElem_cons_zero, List.setIfInBounds_toArray, List.set_cons_zero, List.set_cons_succ]
      refine wpAnyH_take (i := 10) (v := undef) rfl (by kernel_rfl) (by kernel_rfl) (by kernel_rfl) (fun _ _ _ h => h) (Or.inr ⟨by kernel_rfl, rfl⟩) (by assumption) ?_
      try simp only [Act.put, List.getElem_toArray, List.getElem_cons_succ, List.getElem_cons_zero, List.setIfInBounds_toArray, List.set_cons_zero, List.set_cons_succ]
      refine wpAnyH_take (i := 11) (v := undef) rfl (by kernel_rfl) (by kernel_rfl) (by kernel_rfl) (fun _ _ _ h => h) (Or.inr ⟨by kernel_rfl, rfl⟩) (by assumption) ?_
      try simp only [Act.put, List.getElem_toArray, List.getElem_cons_succ, List.getElem_cons_zero, List.setIfInBounds_toArray, List.set_cons_zero, List.set_cons_succ]
      refine wpAnyH_take (i := 12) (v := undef) rfl (by kernel_rfl) (by kernel_rfl) (by kernel_rfl) (fun _ _ _ h => h) (Or.inr ⟨by kernel_rfl, rfl⟩) (by assumption) ?_
      try simp only [Act.put, List.getElem_toArray, List.getElem_cons_succ, List.getElem_cons_zero, List.setIfInBounds_toArray, List.set_cons_zero, List.set_cons_succ]
      refine wpAnyH_take (i := 13) (v := undef) rfl (by kernel_rfl) (by kernel_rfl) (by kernel_rfl) (fun _ _ _ h => h) (Or.inr ⟨by kernel_rfl, rfl⟩) (by assumption) ?_
      try simp only [Act.put, List.getElem_toArray, List.getElem_cons_succ, List.getElem_cons_zero, List.setIfInBounds_toArray, List.set_cons_zero, List.set_cons_succ]
      refine wpAnyH_take (i := 14) (v := undef) rfl (by kernel_rfl) (by kernel_rfl) (by kernel_rfl) (fun _ _ _ h => h) (Or.inr ⟨by kernel_rfl, rfl⟩) (by assumption) ?_
      try simp only [Act.put, List.getElem_toArray, List.getElem_cons_succ, List.getElem_cons_zero, List.setIfInBounds_toArray, List.set_cons_zero, List.set_cons_succ]
      refine wpAnyH_take (i := 15) (v := undef) rfl (by kernel_rfl) (by kernel_rfl) (by kernel_rfl) (fun _ _ _ h => h) (Or.inr ⟨by kernel_rfl, rfl⟩) (by assumption) ?_
      try simp only [Act.put, List.getElem_toArray, List.getElem_cons_succ, List.getElem_cons_zero, List.setIfInBounds_toArray, List.set_cons_zero, List.set_cons_succ]
      refine wpAnyH_take (i := 16) (v := undef) rfl (by kernel_rfl) (by kernel_rfl) (by kernel_rfl) (fun _ _ _ h => h) (Or.inr ⟨by kernel_rfl, rfl⟩) (by assumption) ?_
      try simp only [Act.put, List.getElem_toArray, List.getElem_cons_succ, List.getElem_cons_zero, List.setIfInBounds_toArray, List.set_cons_zero, List.set_cons_succ]
      refine wpAnyH_take (i := 17) (v := undef) rfl (by kernel_rfl) (by kernel_rfl) (by kernel_rfl) (fun _ _ _ h => h) (Or.inr ⟨by kernel_rfl, rfl⟩) (by assumption) ?_
      try simp only [Act.put, List.getElem_toArray, List.getElem_cons_succ, List.getElem_cons_zero, List.setIfInBounds_toArray, List.set_cons_zero, List.set_cons_succ]
      refine wpAnyH_take (i := 18) (v := undef) rfl (by kernel_rfl) (by kernel_rfl) (by kernel_rfl) (fun _ _ _ h => h) (Or.inr ⟨by kernel_rfl, rfl⟩) (by assumption) ?_
      try simp only [Act.put, List.getElem_toArray, List.getElem_cons_succ, List.getElem_cons_zero, List.setIfInBounds_toArray, List.set_cons_zero, List.set_cons_succ]
      refine wpAnyH_take (i := 19) (v := undef) rfl (by kernel_rfl) (by kernel_rfl) (by kernel_rfl) (fun _ _ _ h => h) (Or.inr ⟨by kernel_rfl, rfl⟩) (by assumption) ?_
      try simp only [Act.put, List.getElem_toArray, List.getElem_cons_succ, List.getElem_cons_zero, List.setIfInBounds_toArray, List.set_cons_zero, List.set_cons_succ]
      refine wpAnyH_take (i := 20) (v := undef) rfl (by kernel_rfl) (by kernel_rfl) (by kernel_rfl) (fun _ _ _ h => h) (Or.inr ⟨by kernel_rfl, rfl⟩) (by assumption) ?_
      try simp only [Act.put, List.getElem_toArray, List.getElem_cons_succ, List.getElem_cons_zero, List.setIfInBounds_toArray, List.set_cons_zero, List.set_cons_succ]
      refine wpAnyH_take (i := 21) (v := undef) rfl (by kernel_rfl) (by kernel_rfl) (by kernel_rfl) (fun _ _ _ h => h) (Or.inr ⟨by kernel_rfl, rfl⟩) (by assumption) ?_
      try simp only [Act.put, List.getElem_toArray, List.getElem_cons_succ, List.getElem_cons_zero, List.setIfInBounds_toArray, List.set_cons_zero, List.set_cons_succ]
      refine wpAnyH_take (i := 22) (v := undef) rfl (by kernel_rfl) (by kernel_rfl) (by kernel_rfl) (fun _ _ _ h => h) (Or.inr ⟨by kernel_rfl, rfl⟩) (by assumption) ?_
      try simp only [Act.put, List.getElem_toArray, List.getElem_cons_succ, List.getElem_cons_zero, List.setIfInBounds_toArray, List.set_cons_zero, List.set_cons_succ]
      refine wpAnyH_take (i := 23) (v := undef) rfl (by kernel_rfl) (by kernel_rfl) (by kernel_rfl) (fun _ _ _ h => h) (Or.inr ⟨by kernel_rfl, rfl⟩) (by assumption) ?_
      try simp only [Act.put, List.getElem_toArray, List.getElem_cons_succ, List.getElem_cons_zero, List.setIfInBounds_toArray, List.set_cons_zero, List.set_cons_succ]
      refine wpAnyH_take (i := 24) (v := ?_) rfl (by kernel_rfl) (by kernel_rfl) (by kernel_rfl) (fun _ _ _ h => h) (Or.inl ⟨by kernel_rfl, ?_⟩) (by assumption) ?_
      rotate_left
      · (intro wS hSw; (try dsimp only at hSw); go_simp <;> with_reducible rfl)
      try simp only [Act.put, List.getElem_toArray, List.getElem_cons_succ, List.getElem_cons_zero, List.setIfInBounds_toArray, List.set_cons_zero, List.set_cons_succ]
      refine wpAnyH_done (by kernel_rfl) ?_ _
      go_wp2_with fail
      go_ret
      exact ⟨ret_b HP.out.symm, by first | exact hx.bel | exact hx.drew.bel⟩
    rw [hd] at DO
    have HD := Lib.hid hd
    clear hd
    have CE : Hid (∀ W, BoxP 70 w W t (some ⟨b, off, none⟩) cc ua uc pb po id l.length (some ⟨b2, off2, none⟩) c → W.cell? ⟨w.heap.size, 1, none⟩ = some (.slice (some ⟨b, off, none⟩) t.cols.length cc) ∧ W.cell? ⟨pb, po + 1, none⟩ = some (.slice (some ⟨b2, off2, none⟩) l.length c) ∧ W.cell? ⟨b2, off2 + i, none⟩ = some (.slice (X i).a l[i].length (X i).c) ∧ ColAt W b (off + i * 8) t.cols[i]) := fun W h => ⟨cell_at (o := 1) h.tb rfl, h.p1, HSC.out W h.bel, HCA.out W h.bel⟩
    unfold ColAt at CE
    by_cases hf : fitC t.cols[i] l[i] = 0
    case pos =>
      have HG : Hid (∀ m (h : m < l.length) (h' : m < t.cols.length), m < i + 1 → datumB l[m] = true ∧ fitC t.cols[m] l[m] = 0) := fun m h h' hm => by
        by_cases e : m = i
        · subst e; exact ⟨HD.out, hf⟩
        · exact HW.out.1 m h h' (by omega)
      rw [hf] at FT
      clear hf HW HSC HCA HD
      generalize l[i] = s at *
      generalize t.cols[i] = z at *
      go_wp2_with fail
      refine wp_region_held_drew (S := (fun W => W.cell? ⟨w.heap.size, 1, none⟩ = some (.slice (some ⟨b, off, none⟩) t.cols.length cc) ∧ W.cell? ⟨pb, po + 1, none⟩ = some (.slice (some ⟨b2, off2, none⟩) l.length c) ∧ W.cell? ⟨b2, off2 + i, none⟩ = some (.slice (X i).a s.length (X i).c) ∧ W.cell? ⟨b, off + i * 8, none⟩ = some (.string ⟨z.nm.toArray⟩) ∧ W.cell? ⟨b, off + i * 8 + 1, none⟩ = some (.int .i64 z.k) ∧ W.cell? ⟨b, off + i * 8 + 2, none⟩ = some (.int .i64 z.mn) ∧ W.cell? ⟨b, off + i * 8 + 3, none⟩ = some (.int .i64 z.mx) ∧ W.cell? ⟨b, off + i * 8 + 4, none⟩ = some (.int .i64 z.lo) ∧ W.cell? ⟨b, off + i * 8 + 5, none⟩ = some (.int .i64 z.hi) ∧ W.cell? ⟨b, off + i * 8 + 6, none⟩ = some (.string ⟨z.rf.toArray⟩) ∧ W.cell? ⟨b, off + i * 8 + 7, none⟩ = some (.bool z.st))) (by kernel_rfl) ?_ (fun hHeld => ?_)
      · (first | exact CE.out _ hx | exact CE.out _ hx.drew)
      refine wpAnyH_take (i := 0) (v := ?_) rfl (by kernel_rfl) (by kernel_rfl) (by kernel_rfl) (fun _ _ _ h => h) (Or.inl ⟨by kernel_rfl, ?_⟩) (by assumption) ?_
      rotate_left
      · (intro wS hSw; (try dsimp only at hSw); go_simp <;> with_reducible rfl)
      try simp only [Act.put, List.getElem_toArray, List.getElem_cons_succ, List.getElem_cons_zero, List.setIfInBounds_toArray, List.set_cons_zero, List.set_cons_succ]
      refine wpAnyH_take (i := 1) (v := ?_) rfl (by kernel_rfl) (by kernel_rfl) (by kernel_rfl) (fun _ _ _ h => h) (Or.inl ⟨by kernel_rfl, ?_⟩) (by assumption) ?_
      rotate_left
      · (intro wS hSw; (try dsimp only at hSw); go_simp <;> with_reducible rfl)
      try simp only [Act.put, List.getElem_toArray, List.getElem_cons_succ, List.getElem_cons_zero, List.setIfInBounds_toArray, List.set_cons_zero, List.set_cons_succ]
      refine wpAnyH_take (i := 2) (v := ?_) rfl (by kernel_rfl) (by kernel_rfl) (by kernel_rfl) (fun _ _ _ h => h) (Or.inl ⟨by kernel_rfl, ?_⟩) (by assumption) ?_
      rotate_left
      · (intro wS hSw; (try dsimp only at hSw); go_simp <;> with_reducible rfl)
      try simp only [Act.put, List.getElem_toArray, List.getElem_cons_succ, List.getElem_cons_zero, List.setIfInBounds_toArray, List.set_cons_zero, List.set_cons_succ]
      refine wpAnyH_take (i := 3) (v := ?_) rfl (by kernel_rfl) (by kernel_rfl) (by kernel_rfl) (fun _ _ _ h => h) (Or.inl ⟨by kernel_rfl, ?_⟩) (by assumption) ?_
      rotate_left
      · (intro wS hSw; (try dsimp only at hSw); go_simp <;> with_reducible rfl)
      try simp only [Act.put, List.getElem_toArray, List.getElem_cons_succ, List.getElem_cons_zero, List.setIfInBounds_toArray, List.set_cons_zero, List.set_cons_succ]
      refine wpAnyH_take (i := 4) (v := ?_) rfl (by kernel_rfl) (by kernel_rfl) (by kernel_rfl) (fun _ _ _ h => h) (Or.inl ⟨by kernel_rfl, ?_⟩) (by assumption) ?_
      rotate_left
      · (intro wS hSw; (try dsimp only at hSw); go_simp <;> with_reducible rfl)
      try simp only [Act.put, List.getElem_toArray, List.getElem_cons_succ, List.getElem_cons_zero, List.setIfInBounds_toArray, List.set_cons_zero, List.set_cons_succ]
      refine wpAnyH_take (i := 5) (v := ?_) rfl (by kernel_rfl) (by kernel_rfl) (by kernel_rfl) (fun _ _ _ h => h) (Or.inl ⟨by kernel_rfl, ?_⟩) (by assumption) ?_
      rotate_left
      · (intro wS hSw; (try dsimp only at hSw); go_simp <;> with_reducible rfl)
      try simp only [Act.put, List.getElem_toArray, List.getElem_cons_succ, List.getElem_cons_zero, List.setIfInBounds_toArray, List.set_cons_zero, List.set_cons_succ]
      refine wpAnyH_take (i := 6) (v := ?_) rfl (by kernel_rfl) (by kernel_rfl) (by kernel_rfl) (fun _ _ _ h => h) (Or.inl ⟨by kernel_rfl, ?_⟩) (by assumption) ?_
      rotate_left
      · (intro wS hSw; (try dsimp only at hSw); go_simp <;> with_reducible rfl)
      try simp only [Act.put, List.getElem_toArray, List.getElem_cons_succ, List.getElem_cons_zero, List.setIfInBounds_toArray, List.set_cons_zero, List.set_cons_succ]
      refine wpAnyH_ready (rs := [7]) (by kernel_rfl) (by simp) (AllReadyH.cons rfl (fun K hK => ?_) AllReadyH.nil)
      go_simp
      (first | (go_at_call 77; refine (DO.out _ (by first | exact hx | exact hx.drew)).mono ?_; rintro e w1 ⟨rfl, hx⟩) | (go_at_call 78; refine (FT.out _ (by first | exact hx | exact hx.drew)).mono ?_; rintro e w2 ⟨rfl, hx⟩))
      refine hK.out _ _ ?_ (fun hHeld => ?_)
      · (first | exact CE.out _ hx | exact CE.out _ hx.drew)
      clear hK K
      try simp only [Act.put, List.getElem_toArray, List.getElem_cons_succ, List.getElem_cons_zero, List.setIfInBounds_toArray, List.set_cons_zero, List.set_cons_succ]
      refine wpAnyH_take (i := 8) (v := ?_) rfl (by kernel_rfl) (by kernel_rfl) (by kernel_rfl) (fun _ _ _ h => h) (Or.inl ⟨by kernel_rfl, ?_⟩) (by assumption) ?_
      rotate_left
      · (intro wS hSw; (try dsimp only at hSw); go_simp <;> with_reducible rfl)
      try simp only [Act.put, List.getElem_toArray, List.getElem_cons_succ, List.getElem_cons_zero, List.setIfInBounds_toArray, List.set_cons_zero, List.set_cons_succ]
      refine wpAnyH_take (i := 9) (v := ?_) rfl (by kernel_rfl) (by kernel_rfl) (by kernel_rfl) (fun _ _ _ h => h) (Or.inl ⟨by kernel_rfl, ?_⟩) (by assumption) ?_
      rotate_left
      · (intro wS hSw; (try dsimp only at hSw); go_simp <;> with_reducible rfl)
      try simp only [Act.put, List.getElem_toArray, List.getElem_cons_succ, List.getElem_cons_zero, List.setIfInBounds_toArray, List.set_cons_zero, List.set_cons_succ]
      refine wpAnyH_take (i := 10) (v := ?_) rfl (by kernel_rfl) (by kernel_rfl) (by kernel_rfl) (fun _ _ _ h => h) (Or.inl ⟨by kernel_rfl, ?_⟩) (by assumption) ?_
      rotate_left
      · (intro wS hSw; (try dsimp only at hSw); go_simp <;> with_reducible rfl)
      try simp only [Act.put, List.getElem_toArray, List.getElem_cons_succ, List.getElem_cons_zero, List.setIfInBounds_toArray, List.set_cons_zero, List.set_cons_succ]
      refine wpAnyH_take (i := 11) (v := ?_) rfl (by kernel_rfl) (by kernel_rfl) (by kernel_rfl) (fun _ _ _ h => h) (Or.inl ⟨by kernel_rfl, ?_⟩) (by assumption) ?_
      rotate_left
      · (intro wS hSw; (try dsimp only at hSw); go_simp <;> with_reducible rfl)
      try simp only [Act.put, List.getElem_toArray, List.getElem_cons_succ, List.getElem_cons_zero, List.setIfInBounds_toArray, List.set_cons_zero, List.set_cons_succ]
      refine wpAnyH_take (i := 12) (v := ?_) rfl (by kernel_rfl) (by kernel_rfl) (by kernel_rfl) (fun _ _ _ h => h) (Or.inl ⟨by kernel_rfl, ?_⟩) (by assumption) ?_
      rotate_left
      · (intro wS hSw; (try dsimp only at hSw); go_simp <;> with_reducible rfl)
      try simp only [Act.put, List.getElem_toArray, List.getElem_cons_succ, List.getElem_cons_zero, List.setIfInBounds_toArray, List.set_cons_zero, List.set_cons_succ]
      refine wpAnyH_take (i := 13) (v := ?_) rfl (by kernel_rfl) (by kernel_rfl) (by kernel_rfl) (fun _ _ _ h => h) (Or.inl ⟨by kernel_rfl, ?_⟩) (by assumption) ?_
      rotate_left
      · (intro wS hSw; (try dsimp only at hSw); go_simp <;> with_reducible rfl)
      try simp only [Act.put, List.getElem_toArray, List.getElem_cons_succ, List.getElem_cons_zero, List.setIfInBounds_toArray, List.set_cons_zero, List.set_cons_succ]
      refine wpAnyH_take (i := 14) (v := ?_) rfl (by kernel_rfl) (by kernel_rfl) (by kernel_rfl) (fun _ _ _ h => h) (Or.inl ⟨by kernel_rfl, ?_⟩) (by assumption) ?_
      rotate_left
      · (intro wS hSw; (try dsimp only at hSw); go_simp <;> with_reducible rfl)
      try simp only [Act.put, List.getElem_toArray, List.getElem_cons_succ, List.getElem_cons_zero, List.setIfInBounds_toArray, List.set_cons_zero, List.set_cons_succ]
      refine wpAnyH_take (i := 15) (v := ?_) rfl (by kernel_rfl) (by kernel_rfl) (by kernel_rfl) (fun _ _ _ h => h) (Or.inl ⟨by kernel_rfl, ?_⟩) (by assumption) ?_
      rotate_left
      · (intro wS hSw; (try dsimp only at hSw); go_simp <;> with_reducible rfl)
      try simp only [Act.put, List.getElem_toArray, List.getElem_cons_succ, List.getElem_cons_zero, List.setIfInBounds_toArray, List.set_cons_zero, List.set_cons_succ]
      refine wpAnyH_take (i := 16) (v := ?_) rfl (by kernel_rfl) (by kernel_rfl) (by kernel_rfl) (fun _ _ _ h => h) (Or.inl ⟨by kernel_rfl, ?_⟩) (by assumption) ?_
      rotate_left
      · (intro wS hSw; (try dsimp only at hSw); go_simp <;> with_reducible rfl)
      try simp only [Act.put, List.getElem_toArray, List.getElem_cons_succ, List.getElem_cons_zero, List.setIfInBounds_toArray, List.set_cons_zero, List.set_cons_succ]
      refine wpAnyH_take (i := 17) (v := ?_) rfl (by kernel_rfl) (by kernel_rfl) (by kernel_rfl) (fun _ _ _ h => h) (Or.inl ⟨by kernel_rfl, ?_⟩) (by assumption) ?_
      rotate_left
      · (intro wS hSw; (try dsimp only at hSw); go_simp <;> with_reducible rfl)
      try simp only [Act.put, List.getElem_toArray, List.getElem_cons_succ, List.getElem_cons_zero, List.setIfInBounds_toArray, List.set_cons_zero, List.set_cons_succ]
      refine wpAnyH_take (i := 18) (v := ?_) rfl (by kernel_rfl) (by kernel_rfl) (by kernel_rfl) (fun _ _ _ h => h) (Or.inl ⟨by kernel_rfl, ?_⟩) (by assumption) ?_
      rotate_left
      · (intro wS hSw; (try dsimp only at hSw); go_simp <;> with_reducible rfl)
      try simp only [Act.put, List.getElem_toArray, List.getElem_cons_succ, List.getElem_cons_zero, List.setIfInBounds_toArray, List.set_cons_zero, List.set_cons_succ]
      refine wpAnyH_take (i := 19) (v := ?_) rfl (by kernel_rfl) (by kernel_rfl) (by kernel_rfl) (fun _ _ _ h => h) (Or.inl ⟨by kernel_rfl, ?_⟩) (by assumption) ?_
      rotate_left
      · (intro wS hSw; (try dsimp only at hSw); go_simp <;> with_reducible rfl)
      try simp only [Act.put, List.getElem_toArray, List.getElem_cons_succ, List.getElem_cons_zero, List.setIfInBounds_toArray, List.set_cons_zero, List.set_cons_succ]
      refine wpAnyH_take (i := 20) (v := ?_) rfl (by kernel_rfl) (by kernel_rfl) (by kernel_rfl) (fun _ _ _ h => h) (Or.inl ⟨by kernel_rfl, ?_⟩) (by assumption) ?_
      rotate_left
      · (intro wS hSw; (try dsimp only at hSw); go_simp <;> with_reducible rfl)
      try simp only [Act.put, List.getElem_toArray, List.getElem_cons_succ, List.getElem_cons_zero, List.setIfInBounds_toArray, List.set_cons_zero, List.set_cons_succ]
      refine wpAnyH_take (i := 21) (v := ?_) rfl (by kernel_rfl) (by kernel_rfl) (by kernel_rfl) (fun _ _ _ h => h) (Or.inl ⟨by kernel_rfl, ?_⟩) (by assumption) ?_
      rotate_left
      · (intro wS hSw; (try dsimp only at hSw); go_simp <;> with_reducible rfl)
      try simp only [Act.put, List.getElem_toArray, List.getElem_cons_succ, List.getElem_cons_zero, List.setIfInBounds_toArray, List.set_cons_zero, List.set_cons_succ]
      refine wpAnyH_ready (rs := [22]) (by kernel_rfl) (by simp) (AllReadyH.cons rfl (fun K hK => ?_) AllReadyH.nil)
      go_simp
      (first | (go_at_call 77; refine (DO.out _ (by first | exact hx | exact hx.drew)).mono ?_; rintro e w1 ⟨rfl, hx⟩) | (go_at_call 78; refine (FT.out _ (by first | exact hx | exact hx.drew)).mono ?_; rintro e w2 ⟨rfl, hx⟩))
      refine hK.out _ _ ?_ (fun hHeld => ?_)
      · (first | exact CE.out _ hx | exact CE.out _ hx.drew)
      clear hK K
      try simp only [Act.put, List.getElem_toArray, List.getElem_cons_succ, List.getElem_cons_zero, List.setIfInBounds_toArray, List.set_cons_zero, List.set_cons_succ]
      refine wpAnyH_take (i := 23) (v := ?_) rfl (by kernel_rfl) (by kernel_rfl) (by kernel_rfl) (fun _ _ _ h => h) (Or.inl ⟨by kernel_rfl, ?_⟩) (by assumption) ?_
      rotate_left
      · (intro wS hSw; (try dsimp only at hSw); go_simp <;> with_reducible rfl)
      try simp only [Act.put, List.getElem_toArray, List.getElem_cons_succ, List.getElem_cons_zero, List.setIfInBounds_toArray, List.set_cons_zero, List.set_cons_succ]
      refine wpAnyH_take (i := 24) (v := ?_) rfl (by kernel_rfl) (by kernel_rfl) (by kernel_rfl) (fun _ _ _ h => h) (Or.inl ⟨by kernel_rfl, ?_⟩) (by assumption) ?_
      rotate_left
      · (intro wS hSw; (try dsimp only at hSw); go_simp <;> with_reducible rfl)
      try simp only [Act.put, List.getElem_toArray, List.getElem_cons_succ, List.getElem_cons_zero, List.setIfInBounds_toArray, List.set_cons_zero, List.set_cons_succ]
      refine wpAnyH_done (by kernel_rfl) ?_ _
      go_wp2_with fail
      go_roundw
      case rel => exact ⟨i + 1, by omega, by go_num, HG.out, by first | exact hx | exact hx.drew⟩
      case measure => simp [intOf]; omega
    have HP : Hid (rowB t id l = false) := row_no (fun h => hf (h.fit i hlt hlc).2)
    have f1 : (fitC t.cols[i] l[i] != 0) = true := by simpa using hf
    clear hf HW HSC HCA HD
    generalize fitC t.cols[i] l[i] = r at *
    generalize l[i] = s at *
    generalize t.cols[i] = z at *
    go_wp2_with fail
    refine wp_region_held_drew (S := (fun W => W.cell? ⟨w.heap.size, 1, none⟩ = some (.slice (some ⟨b, off, none⟩) t.cols.length cc) ∧ W.cell? ⟨pb, po + 1, none⟩ = some (.slice (some ⟨b2, off2, none⟩) l.length c) ∧ W.cell? ⟨b2, off2 + i, none⟩ = some (.slice (X i).a s.length (X i).c) ∧ W.cell? ⟨b, off + i * 8, none⟩ = some (.string ⟨z.nm.toArray⟩) ∧ W.cell? ⟨b, off + i * 8 + 1, none⟩ = some (.int .i64 z.k) ∧ W.cell? ⟨b, off + i * 8 + 2, none⟩ = some (.int .i64 z.mn) ∧ W.cell? ⟨b, off + i * 8 + 3, none⟩ = some (.int .i64 z.mx) ∧ W.cell? ⟨b, off + i * 8 + 4, none⟩ = some (.int .i64 z.lo) ∧ W.cell? ⟨b, off + i * 8 + 5, none⟩ = some (.int .i64 z.hi) ∧ W.cell? ⟨b, off + i * 8 + 6, none⟩ = some (.string ⟨z.rf.toArray⟩) ∧ W.cell? ⟨b, off + i * 8 + 7, none⟩ = some (.bool z.st))) (by kernel_rfl) ?_ (fun hHeld => ?_)
    · (first | exact CE.out _ hx | exact CE.out _ hx.drew)
    refine wpAnyH_take (i := 0) (v := ?_) rfl (by kernel_rfl) (by kernel_rfl) (by kernel_rfl) (fun _ _ _ h => h) (Or.inl ⟨by kernel_rfl, ?_⟩) (by assumption) ?_
    rotate_left
    · (intro wS hSw; (try dsimp only at hSw); go_simp <;> with_reducible rfl)
    try simp only [Act.put, List.getElem_toArray, List.getElem_cons_succ, List.getElem_cons_zero, List.setIfInBounds_toArray, List.set_cons_zero, List.set_cons_succ]
    refine wpAnyH_take (i := 1) (v := ?_) rfl (by kernel_rfl) (by kernel_rfl) (by kernel_rfl) (fun _ _ _ h => h) (Or.inl ⟨by kernel_rfl, ?_⟩) (by assumption) ?_
    rotate_left
    · (intro wS hSw; (try dsimp only at hSw); go_simp <;> with_reducible rfl)
    try simp only [Act.put, List.getElem_toArray, List.getElem_cons_succ, List.getElem_cons_zero, List.setIfInBounds_toArray, List.set_cons_zero, List.set_cons_succ]
    refine wpAnyH_take (i := 2) (v := ?_) rfl (by kernel_rfl) (by kernel_rfl) (by kernel_rfl) (fun _ _ _ h => h) (Or.inl ⟨by kernel_rfl, ?_⟩) (by assumption) ?_
    rotate_left
    · (intro wS hSw; (try dsimp only at hSw); go_simp <;> with_reducible rfl)
    try simp only [Act.put, List.getElem_toArray, List.getElem_cons_succ, List.getElem_cons_zero, List.setIfInBounds_toArray, List.set_cons_zero, List.set_cons_succ]
    refine wpAnyH_take (i := 3) (v := ?_) rfl (by kernel_rfl) (by kernel_rfl) (by kernel_rfl) (fun _ _ _ h => h) (Or.inl ⟨by kernel_rfl, ?_⟩) (by assumption) ?_
    rotate_left
    · (intro wS hSw; (try dsimp only at hSw); go_simp <;> with_reducible rfl)
    try simp only [Act.put, List.getElem_toArray, List.getElem_cons_succ, List.getElem_cons_zero, List.setIfInBounds_toArray, List.set_cons_zero, List.set_cons_succ]
    refine wpAnyH_take (i := 4) (v := ?_) rfl (by kernel_rfl) (by kernel_rfl) (by kernel_rfl) (fun _ _ _ h => h) (Or.inl ⟨by kernel_rfl, ?_⟩) (by assumption) ?_
    rotate_left
    · (intro wS hSw; (try dsimp only at hSw); go_simp <;> with_reducible rfl)
    try simp only [Act.put, List.getElem_toArray, List.getElem_cons_succ, List.getElem_cons_zero, List.setIfInBounds_toArray, List.set_cons_zero, List.set_cons_succ]
    refine wpAnyH_take (i := 5) (v := ?_) rfl (by kernel_rfl) (by kernel_rfl) (by kernel_rfl) (fun _ _ _ h => h) (Or.inl ⟨by kernel_rfl, ?_⟩) (by assumption) ?_
    rotate_left
    · (intro wS hSw; (try dsimp only at hSw); go_simp <;> with_reducible rfl)
    try simp only [Act.put, List.getElem_toArray, List.getElem_cons_succ, List.getElem_cons_zero, List.setIfInBounds_toArray, List.set_cons_zero, List.set_cons_succ]
    refine wpAnyH_take (i := 6) (v := ?_) rfl (by kernel_rfl) (by kernel_rfl) (by kernel_rfl) (fun _ _ _ h => h) (Or.inl ⟨by kernel_rfl, ?_⟩) (by assumption) ?_
    rotate_left
    · (intro wS hSw; (try dsimp only at hSw); go_simp <;> with_reducible rfl)
    try simp only [Act.put, List.getElem_toArray, List.getElem_cons_succ, List.getElem_cons_zero, List.setIfInBounds_toArray, List.set_cons_zero, List.set_cons_succ]
    refine wpAnyH_ready (rs := [7]) (by kernel_rfl) (by simp) (AllReadyH.cons rfl (fun K hK => ?_) AllReadyH.nil)
    go_simp
    (first | (go_at_call 77; refine (DO.out _ (by first | exact hx | exact hx.drew)).mono ?_; rintro e w1 ⟨rfl, hx⟩) | (go_at_call 78; refine (FT.out _ (by first | exact hx | exact hx.drew)).mono ?_; rintro e w2 ⟨rfl, hx⟩))
    refine hK.out _ _ ?_ (fun hHeld => ?_)
    · (first | exact CE.out _ hx | exact CE.out _ hx.drew)
    clear hK K
    try simp only [Act.put, List.getElem_toArray, List.getElem_cons_succ, List.getElem_cons_zero, List.setIfInBounds_toArray, List.set_cons_zero, List.set_cons_succ]
    refine wpAnyH_take (i := 8) (v := ?_) rfl (by kernel_rfl) (by kernel_rfl) (by kernel_rfl) (fun _ _ _ h => h) (Or.inl ⟨by kernel_rfl, ?_⟩) (by assumption) ?_
    rotate_left
    · (intro wS hSw; (try dsimp only at hSw); go_simp <;> with_reducible rfl)
    try simp only [Act.put, List.getElem_toArray, List.getElem_cons_succ, List.getElem_cons_zero, List.setIfInBounds_toArray, List.set_cons_zero, List.set_cons_succ]
    refine wpAnyH_take (i := 9) (v := ?_) rfl (by kernel_rfl) (by kernel_rfl) (by kernel_rfl) (fun _ _ _ h => h) (Or.inl ⟨by kernel_rfl, ?_⟩) (by assumption) ?_
    rotate_left
    · (intro wS hSw; (try dsimp only at hSw); go_simp <;> with_reducible rfl)
    try simp only [Act.put, List.getElem_toArray, List.getElem_cons_succ, List.getElem_cons_zero, List.setIfInBounds_toArray, List.set_cons_zero, List.set_cons_succ]
    refine wpAnyH_take (i := 10) (v := ?_) rfl (by kernel_rfl) (by kernel_rfl) (by kernel_rfl) (fun _ _ _ h => h) (Or.inl ⟨by kernel_rfl, ?_⟩) (by assumption) ?_
    rotate_left
    · (intro wS hSw; (try dsimp only at hSw); go_simp <;> with_reducible rfl)
    try simp only [Act.put, List.getElem_toArray, List.getElem_cons_succ, List.getElem_cons_zero, List.setIfInBounds_toArray, List.set_cons_zero, List.set_cons_succ]
    refine wpAnyH_take (i := 11) (v := ?_) rfl (by kernel_rfl) (by kernel_rfl) (by kernel_rfl) (fun _ _ _ h => h) (Or.inl ⟨by kernel_rfl, ?_⟩) (by assumption) ?_
    rotate_left
    · (intro wS hSw; (try dsimp only at hSw); go_simp <;> with_reducible rfl)
    try simp only [Act.put, List.getElem_toArray, List.getElem_cons_succ, List.getElem_cons_zero, List.setIfInBounds_toArray, List.set_cons_zero, List.set_cons_succ]
    refine wpAnyH_take (i := 12) (v := ?_) rfl (by kernel_rfl) (by kernel_rfl) (by kernel_rfl) (fun _ _ _ h => h) (Or.inl ⟨by kernel_rfl, ?_⟩) (by assumption) ?_
    rotate_left
    · (intro wS hSw; (try dsimp only at hSw); go_simp <;> with_reducible rfl)
    try simp only [Act.put, List.getElem_toArray, List.getElem_cons_succ, List.getElem_cons_zero, List.setIfInBounds_toArray, List.set_cons_zero, List.set_cons_succ]
    refine wpAnyH_take (i := 13) (v := ?_) rfl (by kernel_rfl) (by kernel_rfl) (by kernel_rfl) (fun _ _ _ h => h) (Or.inl ⟨by kernel_rfl, ?_⟩) (by assumption) ?_
    rotate_left
    · (intro wS hSw; (try dsimp only at hSw); go_simp <;> with_reducible rfl)
    try simp only [Act.put, List.getElem_toArray, List.getElem_cons_succ, List.getElem_cons_zero, List.setIfInBounds_toArray, List.set_cons_zero, List.set_cons_succ]
    refine wpAnyH_take (i := 14) (v := ?_) rfl (by kernel_rfl) (by kernel_rfl) (by kernel_rfl) (fun _ _ _ h => h) (Or.inl ⟨by kernel_rfl, ?_⟩) (by assumption) ?_
    rotate_left
    · (intro wS hSw; (try dsimp only at hSw); go_simp <;> with_reducible rfl)
    try simp only [Act.put, List.getElem_toArray, List.getElem_cons_succ, List.getElem_cons_zero, List.setIfInBounds_toArray, List.set_cons_zero, List.set_cons_succ]
    refine wpAnyH_take (i := 15) (v := ?_) rfl (by kernel_rfl) (by kernel_rfl) (by kernel_rfl) (fun _ _ _ h => h) (Or.inl ⟨by kernel_rfl, ?_⟩) (by assumption) ?_
    rotate_left
    · (intro wS hSw; (try dsimp only at hSw); go_simp <;> with_reducible rfl)
    try simp only [Act.put, List.getElem_toArray, List.getElem_cons_succ, List.getElem_cons_zero, List.setIfInBounds_toArray, List.set_cons_zero, List.set_cons_succ]
    refine wpAnyH_take (i := 16) (v := ?_) rfl (by kernel_rfl) (by kernel_rfl) (by kernel_rfl) (fun _ _ _ h => h) (Or.inl ⟨by kernel_rfl, ?_⟩) (by assumption) ?_
    rotate_left
    · (intro wS hSw; (try dsimp only at hSw); go_simp <;> with_reducible rfl)
    try simp only [Act.put, List.getElem_toArray, List.getElem_cons_succ, List.getElem_cons_zero, List.setIfInBounds_toArray, List.set_cons_zero, List.set_cons_succ]
    refine wpAnyH_take (i := 17) (v := ?_) rfl (by kernel_rfl) (by kernel_rfl) (by kernel_rfl) (fun _ _ _ h => h) (Or.inl ⟨by kernel_rfl, ?_⟩) (by assumption) ?_
    rotate_left
    · (intro wS hSw; (try dsimp only at hSw); go_simp <;> with_reducible rfl)
    try simp only [Act.put, List.getElem_toArray, List.getElem_cons_succ, List.getElem_cons_zero, List.setIfInBounds_toArray, List.set_cons_zero, List.set_cons_succ]
    refine wpAnyH_take (i := 18) (v := ?_) rfl (by kernel_rfl) (by kernel_rfl) (by kernel_rfl) (fun _ _ _ h => h) (Or.inl ⟨by kernel_rfl, ?_⟩) (by assumption) ?_
    rotate_left
    · (intro wS hSw; (try dsimp only at hSw); go_simp <;> with_reducible rfl)
    try simp only [Act.put, List.getElem_toArray, List.getElem_cons_succ, List.getElem_cons_zero, List.setIfInBounds_toArray, List.set_cons_zero, List.set_cons_succ]
    refine wpAnyH_take (i := 19) (v := ?_) rfl (by kernel_rfl) (by kernel_rfl) (by kernel_rfl) (fun _ _ _ h => h) (Or.inl ⟨by kernel_rfl, ?_⟩) (by assumption) ?_
    rotate_left
    · (intro wS hSw; (try dsimp only at hSw); go_simp <;> with_reducible rfl)
    try simp only [Act.put, List.getElem_toArray, List.getElem_cons_succ, List.getElem_cons_zero, List.setIfInBounds_toArray, List.set_cons_zero, List.set_cons_succ]
    refine wpAnyH_take (i := 20) (v := ?_) rfl (by kernel_rfl) (by kernel_rfl) (by kernel_rfl) (fun _ _ _ h => h) (Or.inl ⟨by kernel_rfl, ?_⟩) (by assumption) ?_
    rotate_left
    · (intro wS hSw; (try dsimp only at hSw); go_simp <;> with_reducible rfl)
    try simp only [Act.put, List.getElem_toArray, List.getElem_cons_succ, List.getElem_cons_zero, List.setIfInBounds_toArray, List.set_cons_zero, List.set_cons_succ]
    refine wpAnyH_take (i := 21) (v := ?_) rfl (by kernel_rfl) (by kernel_rfl) (by kernel_rfl) (fun _ _ _ h => h) (Or.inl ⟨by kernel_rfl, ?_⟩) (by assumption) ?_
    rotate_left
    · (intro wS hSw; (try dsimp only at hSw); go_simp <;> with_reducible rfl)
    try simp only [Act.put, List.getElem_toArray, List.getElem_cons_succ, List.getElem_cons_zero, List.setIfInBounds_toArray, List.set_cons_zero, List.set_cons_succ]
    refine wpAnyH_ready (rs := [22]) (by kernel_rfl) (by simp) (AllReadyH.cons rfl (fun K hK => ?_) AllReadyH.nil)
    go_simp
    (first | (go_at_call 77; refine (DO.out _ (by first | exact hx | exact hx.drew)).mono ?_; rintro e w1 ⟨rfl, hx⟩) | (go_at_call 78; refine (FT.out _ (by first | exact hx | exact hx.drew)).mono ?_; rintro e w2 ⟨rfl, hx⟩))
    refine hK.out _ _ ?_ (fun hHeld => ?_)
    · (first | exact CE.out _ hx | exact CE.out _ hx.drew)
    clear hK K
    try simp only [Act.put, List.getElem_toArray, List.getElem_cons_succ, List.getElem_cons_zero, List.setIfInBounds_toArray, List.set_cons_zero, List.set_cons_succ]
    refine wpAnyH_take (i := 23) (v := ?_) rfl (by kernel_rfl) (by kernel_rfl) (by kernel_rfl) (fun _ _ _ h => h) (Or.inl ⟨by kernel_rfl, ?_⟩) (by assumption) ?_
    rotate_left
    · (intro wS hSw; (try dsimp only at hSw); go_simp <;> with_reducible rfl)
    try simp only [Act.put, List.getElem_toArray, List.getElem_cons_succ, List.getElem_cons_zero, List.setIfInBounds_toArray, List.set_cons_zero, List.set_cons_succ]
    refine wpAnyH_take (i := 24) (v := ?_) rfl (by kernel_rfl) (by kernel_rfl) (by kernel_rfl) (fun _ _ _ h => h) (Or.inl ⟨by kernel_rfl, ?_⟩) (by assumption) ?_
    rotate_left
    · (intro wS hSw; (try dsimp only at hSw); go_simp <;> with_reducible rfl)
    try simp only [Act.put, List.getElem_toArray, List.getElem_cons_succ, List.getElem_cons_zero, List.setIfInBounds_toArray, List.set_cons_zero, List.set_cons_succ]
    refine wpAnyH_done (by kernel_rfl) ?_ _
    go_wp2_with fail
    go_ret
    exact ⟨ret_b HP.out.symm, by first | exact hx.bel | exact hx.drew.bel⟩
end Go.Proofs.Ytlkkmafnjdbofaa
namespace Go.Proofs.Ytlkkmafnjdbofaa
open Go.RowKit
/-! stores as lists -/
def riseIds (l : List RowV) : Prop := ∀ i (h : i + 1 < l.length), l[i].id < l[i + 1].id
def plainP (x : StV) : Prop := ∀ i (h : i < x.tables.length), riseIds x.tables[i]
noncomputable def plainB (x : StV) : Bool := @decide (plainP x) (Classical.propDecidable _)
theorem plain_yes {x : StV} (h : plainP x) : plainB x = true := @decide_eq_true _ (Classical.propDecidable _) h
theorem plain_no {x : StV} (h : ¬ plainP x) : plainB x = false := @decide_eq_false _ (Classical.propDecidable _) h
theorem plain_of {x : StV} (h : plainB x = true) : plainP x := @of_decide_eq_true _ (Classical.propDecidable _) h
def rowZ : RowV := ⟨0, []⟩
/-- the place of the first row with that Id, or -1 -/
def rplI : List RowV → Int → Int
  | [], _ => -1
  | r :: l, id => if r.id = id then 0 else if rplI l id < 0 then -1 else rplI l id + 1
theorem rpl_at {id : Int} : ∀ {l : List RowV} {k : Nat} (h : k < l.length), l[k].id = id → (∀ m (h : m < l.length), m < k → l[m].id ≠ id) → rplI l id = k
  | r :: l, 0, _, e, _ => by
    have e' : r.id = id := e
    simp [rplI, e']
  | r :: l, k + 1, h, e, hn => by
    have h0 : r.id ≠ id := hn 0 (by simp) (by omega)
    have ih := rpl_at (l := l) (k := k) (by simpa using h) (by simpa using e) (fun m hm hk => by have := hn (m + 1) (by simpa using hm) (by omega); simpa using this)
    simp only [rplI, if_neg h0, ih]
    rw [if_neg (by omega)]; omega
theorem rpl_none {id : Int} : ∀ {l : List RowV}, (∀ m (h : m < l.length), l[m].id ≠ id) → rplI l id = -1
  | [], _ => rfl
  | r :: l, hn => by
    have h0 : r.id ≠ id := hn 0 (by simp)
    have ih := rpl_none (l := l) (fun m hm => by have := hn (m + 1) (by simpa using hm); simpa using this)
    simp [rplI, if_neg h0, ih]
theorem rpl_cases (l : List RowV) (id : Int) : (rplI l id = -1 ∧ ∀ m (h : m < l.length), l[m].id ≠ id) ∨ ∃ k : Nat, ∃ h : k < l.length, rplI l id = k ∧ l[k].id = id ∧ ∀ m (h : m < l.length), m < k → l[m].id ≠ id := by
  by_cases h : ∃ k, ∃ h : k < l.length, l[k].id = id
  · obtain ⟨k, hk⟩ := h
    have hm : ∃ k, (∃ h : k < l.length, l[k].id = id) ∧ ∀ m, m < k → ¬ ∃ h : m < l.length, l[m].id = id := by
      have key : ∀ n k, k ≤ n → (∃ h : k < l.length, l[k].id = id) → ∃ k, (∃ h : k < l.length, l[k].id = id) ∧ ∀ m, m < k → ¬ ∃ h : m < l.length, l[m].id = id := by
        intro n
        induction n with
        | zero => intro k hk h; exact ⟨k, h, fun m hm => by omega⟩
        | succ n ih =>
          intro k hk h
          by_cases he : ∃ m, m < k ∧ ∃ h : m < l.length, l[m].id = id
          · obtain ⟨m, hm, h'⟩ := he
            exact ih m (by omega) h'
          · exact ⟨k, h, fun m hm h' => he ⟨m, hm, h'⟩⟩
      exact key k k (Nat.le_refl _) hk
    obtain ⟨k, ⟨hk, e⟩, hn⟩ := hm
    exact .inr ⟨k, hk, rpl_at hk e (fun m h hm e => hn m hm ⟨h, e⟩), e, fun m h hm e => hn m hm ⟨h, e⟩⟩
  · have hn : ∀ m (h : m < l.length), l[m].id ≠ id := fun m hm e => h ⟨m, hm, e⟩
    exact .inl ⟨rpl_none hn, hn⟩
/-- what RowAt answers -/
noncomputable def rowAtP (x : StV) (t id : Int) : Int × RowV :=
  if plainB x = true then
    if 0 ≤ t ∧ t < x.tables.length then
      if rplI (x.tables.getD t.toNat []) id < 0 then (5, rowZ) else (0, (x.tables.getD t.toNat []).getD (rplI (x.tables.getD t.toNat []) id).toNat rowZ)
    else (10, rowZ)
  else (1, rowZ)
theorem getD_tab {α : Type} {l : List α} {i : Nat} {z : α} (h : i < l.length) : l.getD i z = l[i] := by rw [List.getD_eq_getElem?_getD, List.getElem?_eq_getElem h]; rfl
/-- parts of what is bounded are bounded -/
theorem le_row {K : Nat} {x : StV} (h : (dRowSS x.tables).le K) {i : Nat} (hi : i < x.tables.length) {k : Nat} (hk : k < x.tables[i].length) : (dAtomSS x.tables[i][k].cells).le K := by
  have h1 : (dRowS x.tables[i]).le K := (Ls_le.1 h).2.2 i hi 0 (by omega)
  exact (Ls_le.1 h1).2.2 k hk 1 (by omega)
theorem szT_at {α : Type} {n : Nat} {d : α → Nat → D} {l : List α} {i j : Nat} (hi : i < l.length) (hj : j < n) : (d l[i] j).sz ≤ (Ls n d l).sz := by
  rw [Ls_sz]
  have h1 : szT n (lsF d l i) ≤ szL n d l l.length := sumN_le (g := fun i => szT n (lsF d l i)) hi
  rw [lsF_at hi] at h1
  have h2 : (d l[i] j).sz ≤ szT n (d l[i]) := sumN_le (g := fun j => (d l[i] j).sz) hj
  omega
theorem sz_row {x : StV} {i : Nat} (hi : i < x.tables.length) {k : Nat} (hk : k < x.tables[i].length) : (dAtomSS x.tables[i][k].cells).sz ≤ (dRowSS x.tables).sz := by
  have h1 : (dRowS x.tables[i]).sz ≤ (dRowSS x.tables).sz := szT_at (n := 1) (d := cRowS) (j := 0) hi (by omega)
  have h2 : (dAtomSS x.tables[i][k].cells).sz ≤ (dRowS x.tables[i]).sz := szT_at (n := 2) (d := dRow) (j := 1) hk (by omega)
  omega
theorem rowZ_le : (∀ j, j < 2 → (dRow rowZ j).le maxLen) ∧ (dAtomSS rowZ.cells).sz ≤ 100000000 := ⟨fun j hj => by
    rcases (by omega : j = 0 ∨ j = 1) with rfl | rfl
    · exact (by decide : (Lit.int .i64 0).wf = true)
    · exact Ls_le.2 ⟨by omega, by simp [rowZ], fun i h => absurd h (by simp [rowZ])⟩, by simp [dAtomSS, Ls_sz, rowZ, szL_zero]⟩
theorem rowAt_le {x : StV} (t id : Int) (h : (dRowSS x.tables).le maxLen) (hz : (dRowSS x.tables).sz ≤ 1048576) : (∀ j, j < 2 → (dRow (rowAtP x t id).2 j).le maxLen) ∧ (dAtomSS (rowAtP x t id).2.cells).sz ≤ 100000000 := by
  unfold rowAtP
  split
  · split
    · rename_i ht
      split
      · exact rowZ_le
      · rename_i hp
        have hi : t.toNat < x.tables.length := by omega
        rw [getD_tab hi] at hp ⊢
        rcases rpl_cases x.tables[t.toNat] id with ⟨e, -⟩ | ⟨k, hk, e, -, -⟩
        · omega
        · rw [e, Int.toNat_natCast]
          simp only []
          rw [getD_tab hk]
          have := sz_row hi hk
          exact ⟨fun j hj => (Ls_le.1 ((Ls_le.1 h).2.2 _ hi 0 (by omega))).2.2 k hk j hj, by omega⟩
    · exact rowZ_le
  · exact rowZ_le
end Go.Proofs.Ytlkkmafnjdbofaa
namespace Go.Proofs.Ytlkkmafnjdbofaa
open Go.RowKit
set_option linter.unusedSimpArgs false
def cmpR (x y : RowV) : Int := if x.id < y.id then -1 else if y.id < x.id then 1 else 0
set_option maxHeartbeats 1600000 in
theorem cmpRowsI (x y : RowV) (a : Option Addr) (c : Nat) (a' : Option Addr) (c' : Nat) (w : World) :
    Calls Try.prog 57 #[.agg #[.int .i64 x.id, .slice a x.cells.length c], .agg #[.int .i64 y.id, .slice a' y.cells.length c']] w fun e w' => e = .returned (.int .i64 (cmpR x y)) ∧ Below w.heap.size w w' := by
  have hb := box2D 76 w #[.int .i64 x.id, .slice a x.cells.length c] #[.int .i64 y.id, .slice a' y.cells.length c']
  have x0 := cell_at (o := 0) hb.a rfl
  have x1 := cell_at (o := 1) hb.a rfl
  have y0 := cell_at (o := 0) hb.b rfl
  have y1 := cell_at (o := 1) hb.b rfl
  have HC : Hid (cmpR x y = if x.id < y.id then -1 else if y.id < x.id then 1 else 0) := rfl
  generalize cmpR x y = r at *
  go_enter Try.func57, Try.ntmps57
  go_wp2_with (go_at_call 76; refine (cmpInt _ _ _).mono ?_; rintro e w' ⟨rfl, rfl⟩; rw [← HC.out])
  go_ret
  exact ⟨rfl, hb.bel⟩
noncomputable def riBR (l : List RowV) : Bool := @decide (riseIds l) (Classical.propDecidable _)
theorem riBR_yes {l : List RowV} (h : riseIds l) : riBR l = true := @decide_eq_true _ (Classical.propDecidable _) h
theorem riBR_no {l : List RowV} (h : ¬ riseIds l) : riBR l = false := @decide_eq_false _ (Classical.propDecidable _) h
theorem riBR_of {l : List RowV} (h : riBR l = true) : riseIds l := @of_decide_eq_true _ (Classical.propDecidable _) h
set_option maxRecDepth 100000 in
set_option maxHeartbeats 3200000 in
theorem risesR (l : List RowV) (a : Option Addr) (c : Nat) (B : Nat → Prop) (w : World) (hl : l.length ≤ maxLen) (hS : Rd w B (dRowS l) (.slice a l.length c)) :
    Calls Try.prog 56 #[.slice a l.length c, .func (.func 57) #[] #[]] w fun e w' => e = .returned (.bool (riBR l)) ∧ Below w.heap.size w w' := by
  unfold maxLen at hl
  have RA : Hid (∀ W, Below w.heap.size w W → Rd W B (Ls 2 dRow l) (.slice a l.length c)) := fun W h => Rd.later hS h
  clear hS
  go_enter Try.func56, Try.ntmps56
  go_wp2_with fail
  go_loopw [5] (fun i wr => ∃ k : Nat, 1 ≤ k ∧ k ≤ maxLen + 1 ∧ i = .int .i64 k ∧ Hid ((∀ m (h : m + 1 < l.length), m + 1 < k → l[m].id < l[m + 1].id) ∧ Below w.heap.size w wr)) (fun i _ => l.length - (intOf i).toNat)
  case atStart => exact ⟨1, by omega, by unfold maxLen; omega, rfl, fun m _ h => absurd h (by omega), Below.refl _ _⟩
  case round =>
    obtain ⟨k, hk1, hk, rfl, HW⟩ := hrel
    by_cases hkl : k < l.length
    case neg =>
      have HR : Hid (riBR l = true) := riBR_yes (fun m h => HW.out.1 m h (by omega))
      have hmi : decide ((k : Int) < (l.length : Int)) = false := by simp; omega
      go_wp2_with fail
      go_ret
      exact ⟨ret_b HR.out.symm, HW.out.2⟩
    obtain ⟨m, hm⟩ : ∃ m, k = m + 1 := ⟨k - 1, by omega⟩
    have hk2 : (k : Int) < (l.length : Int) := by omega
    have hml : m < l.length := by omega
    have hm1 : (m : Int) < (l.length : Int) := by omega
    have hkm : (k : Int) - 1 = (m : Int) := by omega
    have hwm : IntKind.i64.wrap (m : Int) = (m : Int) := by rw [IntKind.wrap_i64]; omega
    have hm2 : (0 : Int) ≤ (m : Int) := by omega
    obtain ⟨rb, roff, rfl, -, -⟩ := (RA.out _ HW.out.2).things k hkl
    have R0 := RA.out _ HW.out.2
    obtain ⟨u0, d0, r0⟩ := R0.spotT hml (j := 0) (by omega)
    obtain rfl : u0 = .int .i64 l[m].id := r0
    obtain ⟨u1, d1, r1⟩ := R0.spotT hml (j := 1) (by omega)
    replace r1 : Rd wr B (dAtomSS l[m].cells) u1 := r1
    obtain ⟨ya, yq, rfl⟩ := r1.lsSlice
    obtain ⟨v0, e0, s0⟩ := R0.spotT hkl (j := 0) (by omega)
    obtain rfl : v0 = .int .i64 l[k].id := s0
    obtain ⟨v1, e1, s1⟩ := R0.spotT hkl (j := 1) (by omega)
    replace s1 : Rd wr B (dAtomSS l[k].cells) v1 := s1
    obtain ⟨za, zq, rfl⟩ := s1.lsSlice
    replace d0 : wr.cell? ⟨rb, roff + m * 2, none⟩ = _ := d0
    replace e0 : wr.cell? ⟨rb, roff + k * 2, none⟩ = _ := e0
    have CE : Hid (∀ W, Below wr.heap.size wr W → W.cell? ⟨rb, roff + m * 2, none⟩ = some (.int .i64 l[m].id) ∧ W.cell? ⟨rb, roff + m * 2 + 1, none⟩ = some (.slice ya l[m].cells.length yq) ∧ W.cell? ⟨rb, roff + k * 2, none⟩ = some (.int .i64 l[k].id) ∧ W.cell? ⟨rb, roff + k * 2 + 1, none⟩ = some (.slice za l[k].cells.length zq)) := fun W h => ⟨(h.cell (p := ⟨rb, roff + m * 2, none⟩) (World.block_lt_of_cell? _ _ d0)).trans d0, (h.cell (p := ⟨rb, roff + m * 2 + 1, none⟩) (World.block_lt_of_cell? _ _ d1)).trans d1, (h.cell (p := ⟨rb, roff + k * 2, none⟩) (World.block_lt_of_cell? _ _ e0)).trans e0, (h.cell (p := ⟨rb, roff + k * 2 + 1, none⟩) (World.block_lt_of_cell? _ _ e1)).trans e1⟩
    have CC : Hid (∀ W, Below wr.heap.size wr W → Calls Try.prog 57 #[.agg #[.int .i64 l[m].id, .slice ya l[m].cells.length yq], .agg #[.int .i64 l[k].id, .slice za l[k].cells.length zq]] W fun e w' => e = .returned (.int .i64 (cmpR l[m] l[k])) ∧ Below wr.heap.size wr w') := fun W h => (cmpRowsI l[m] l[k] ya yq za zq W).mono (fun e w' ⟨he, hB⟩ => ⟨he, h.trans (hB.mono h.size)⟩)
    have hx := Below.refl wr.heap.size wr
    have HB1 := Lib.hid HW.out.2
    have hkk : Hid (k = m + 1) := hm
    by_cases hr : l[m].id < l[k].id
    case pos =>
      have HG : Hid (∀ m (h : m + 1 < l.length), m + 1 < k + 1 → l[m].id < l[m + 1].id) := fun q h hq => by
        by_cases e : q = m
        · subst e; have := hkk.out; subst this; exact hr
        · have := hkk.out; exact HW.out.1 q h (by omega)
      have hq : cmpR l[m] l[k] = -1 := by unfold cmpR; rw [if_pos hr]
      rw [hq] at CC
      clear hr hm HW hq R0 r1 s1
      generalize l[m] = y at *
      generalize l[k] = z at *
      go_wp2_with fail
      refine wp_region_held_drew (S := (fun W => W.cell? ⟨rb, roff + m * 2, none⟩ = some (.int .i64 y.id) ∧ W.cell? ⟨rb, roff + m * 2 + 1, none⟩ = some (.slice ya y.cells.length yq) ∧ W.cell? ⟨rb, roff + k * 2, none⟩ = some (.int .i64 z.id) ∧ W.cell? ⟨rb, roff + k * 2 + 1, none⟩ = some (.slice za z.cells.length zq))) (by kernel_rfl) ?_ (fun hHeld => ?_)
      · (first | exact CE.out _ hx | exact CE.out _ hx.drew)
      refine wpAnyH_take (i := 0) (v := ?_) rfl (by kernel_rfl) (by kernel_rfl) (by kernel_rfl) (fun _ _ _ h => h) (Or.inl ⟨by kernel_rfl, ?_⟩) (by assumption) ?_
      rotate_left
      · (intro wS hSw; (try dsimp only at hSw); go_simp <;> with_reducible rfl)
      try simp only [Act.put, List.getElem_toArray, List.getElem_cons_succ, List.getElem_cons_zero, List.setIfInBounds_toArray, List.set_cons_zero, List.set_cons_succ]
      refine wpAnyH_take (i := 1) (v := ?_) rfl (by kernel_rfl) (by kernel_rfl) (by kernel_rfl) (fun _ _ _ h => h) (Or.inl ⟨by kernel_rfl, ?_⟩) (by assumption) ?_
      rotate_left
      · (intro wS hSw; (try dsimp only at hSw); go_simp <;> with_reducible rfl)
      try simp only [Act.put, List.getElem_toArray, List.getElem_cons_succ, List.getElem_cons_zero, List.setIfInBounds_toArray, List.set_cons_zero, List.set_cons_succ]
      refine wpAnyH_take (i := 2) (v := ?_) rfl (by kernel_rfl) (by kernel_rfl) (by kernel_rfl) (fun _ _ _ h => h) (Or.inl ⟨by kernel_rfl, ?_⟩) (by assumption) ?_
      rotate_left
      · (intro wS hSw; (try dsimp only at hSw); go_simp <;> with_reducible rfl)
      try simp only [Act.put, List.getElem_toArray, List.getElem_cons_succ, List.getElem_cons_zero, List.setIfInBounds_toArray, List.set_cons_zero, List.set_cons_succ]
      refine wpAnyH_take (i := 3) (v := ?_) rfl (by kernel_rfl) (by kernel_rfl) (by kernel_rfl) (fun _ _ _ h => h) (Or.inl ⟨by kernel_rfl, ?_⟩) (by assumption) ?_
      rotate_left
      · (intro wS hSw; (try dsimp only at hSw); go_simp <;> with_reducible rfl)
      try simp only [Act.put, List.getElem_toArray, List.getElem_cons_succ, List.getElem_cons_zero, List.setIfInBounds_toArray, List.set_cons_zero, List.set_cons_succ]
      refine wpAnyH_take (i := 4) (v := ?_) rfl (by kernel_rfl) (by kernel_rfl) (by kernel_rfl) (fun _ _ _ h => h) (Or.inl ⟨by kernel_rfl, ?_⟩) (by assumption) ?_
      rotate_left
      · (intro wS hSw; (try dsimp only at hSw); go_simp <;> with_reducible rfl)
      try simp only [Act.put, List.getElem_toArray, List.getElem_cons_succ, List.getElem_cons_zero, List.setIfInBounds_toArray, List.set_cons_zero, List.set_cons_succ]
      refine wpAnyH_take (i := 5) (v := ?_) rfl (by kernel_rfl) (by kernel_rfl) (by kernel_rfl) (fun _ _ _ h => h) (Or.inl ⟨by kernel_rfl, ?_⟩) (by assumption) ?_
      rotate_left
      · (intro wS hSw; (try dsimp only at hSw); go_simp <;> with_reducible rfl)
      try simp only [Act.put, List.getElem_toArray, List.getElem_cons_succ, List.getElem_cons_zero, List.setIfInBounds_toArray, List.set_cons_zero, List.set_cons_succ]
      refine wpAnyH_take (i := 6) (v := ?_) rfl (by kernel_rfl) (by kernel_rfl) (by kernel_rfl) (fun _ _ _ h => h) (Or.inl ⟨by kernel_rfl, ?_⟩) (by assumption) ?_
      rotate_left
      · (intro wS hSw; (try dsimp only at hSw); go_simp <;> with_reducible rfl)
      try simp only [Act.put, List.getElem_toArray, List.getElem_cons_succ, List.getElem_cons_zero, List.setIfInBounds_toArray, List.set_cons_zero, List.set_cons_succ]
      refine wpAnyH_take (i := 7) (v := ?_) rfl (by kernel_rfl) (by kernel_rfl) (by kernel_rfl) (fun _ _ _ h => h) (Or.inl ⟨by kernel_rfl, ?_⟩) (by assumption) ?_
      rotate_left
      · (intro wS hSw; (try dsimp only at hSw); go_simp <;> with_reducible rfl)
      try simp only [Act.put, List.getElem_toArray, List.getElem_cons_succ, List.getElem_cons_zero, List.setIfInBounds_toArray, List.set_cons_zero, List.set_cons_succ]
      refine wpAnyH_take (i := 8) (v := ?_) rfl (by kernel_rfl) (by kernel_rfl) (by kernel_rfl) (fun _ _ _ h => h) (Or.inl ⟨by kernel_rfl, ?_⟩) (by assumption) ?_
      rotate_left
      · (intro wS hSw; (try dsimp only at hSw); go_simp <;> with_reducible rfl)
      try simp only [Act.put, List.getElem_toArray, List.getElem_cons_succ, List.getElem_cons_zero, List.setIfInBounds_toArray, List.set_cons_zero, List.set_cons_succ]
      refine wpAnyH_take (i := 9) (v := ?_) rfl (by kernel_rfl) (by kernel_rfl) (by kernel_rfl) (fun _ _ _ h => h) (Or.inl ⟨by kernel_rfl, ?_⟩) (by assumption) ?_
      rotate_left
      · (intro wS hSw; (try dsimp only at hSw); go_simp <;> with_reducible rfl)
      try simp only [Act.put, List.getElem_toArray, List.getElem_cons_succ, List.getElem_cons_zero, List.setIfInBounds_toArray, List.set_cons_zero, List.set_cons_succ]
      refine wpAnyH_ready (rs := [10]) (by kernel_rfl) (by simp) (AllReadyH.cons rfl (fun K hK => ?_) AllReadyH.nil)
      go_simp
      (go_at_call 57; refine (CC.out _ (by first | exact hx | exact hx.drew)).mono ?_; rintro e w1 ⟨rfl, hx⟩)
      refine hK.out _ _ ?_ (fun hHeld => ?_)
      · (first | exact CE.out _ hx | exact CE.out _ hx.drew)
      clear hK K
      try simp only [Act.put, List.getElem_toArray, List.getElem_cons_succ, List.getElem_cons_zero, List.setIfInBounds_toArray, List.set_cons_zero, List.set_cons_succ]
      refine wpAnyH_take (i := 11) (v := ?_) rfl (by kernel_rfl) (by kernel_rfl) (by kernel_rfl) (fun _ _ _ h => h) (Or.inl ⟨by kernel_rfl, ?_⟩) (by assumption) ?_
      rotate_left
      · (intro wS hSw; (try dsimp only at hSw); go_simp <;> with_reducible rfl)
      try simp only [Act.put, List.getElem_toArray, List.getElem_cons_succ, List.getElem_cons_zero, List.setIfInBounds_toArray, List.set_cons_zero, List.set_cons_succ]
      refine wpAnyH_done (by kernel_rfl) ?_ _
      go_wp2_with fail
      go_roundw
      case rel => exact ⟨k + 1, by omega, by unfold maxLen; omega, by go_num, HG.out, HB1.out.trans (Below.mono (by first | exact hx | exact hx.drew) HB1.out.size)⟩
      case measure => simp [intOf]; omega
    have HR : Hid (riBR l = false) := riBR_no (fun h => hr (by have := hkk.out; subst this; exact h m hkl))
    have hge : 0 ≤ cmpR l[m] l[k] := by unfold cmpR; rw [if_neg hr]; split <;> omega
    have hd : decide (cmpR l[m] l[k] ≥ 0) = true := decide_eq_true hge
    have hd2 : decide (0 ≤ cmpR l[m] l[k]) = true := decide_eq_true hge
    clear hr hm HW R0 r1 s1 hge
    generalize cmpR l[m] l[k] = q at *
    generalize l[m] = y at *
    generalize l[k] = z at *
    go_wp2_with fail
    refine wp_region_held_drew (S := (fun W => W.cell? ⟨rb, roff + m * 2, none⟩ = some (.int .i64 y.id) ∧ W.cell? ⟨rb, roff + m * 2 + 1, none⟩ = some (.slice ya y.cells.length yq) ∧ W.cell? ⟨rb, roff + k * 2, none⟩ = some (.int .i64 z.id) ∧ W.cell? ⟨rb, roff + k * 2 + 1, none⟩ = some (.slice za z.cells.length zq))) (by kernel_rfl) ?_ (fun hHeld => ?_)
    · (first | exact CE.out _ hx | exact CE.out _ hx.drew)
    refine wpAnyH_take (i := 0) (v := ?_) rfl (by kernel_rfl) (by kernel_rfl) (by kernel_rfl) (fun _ _ _ h => h) (Or.inl ⟨by kernel_rfl, ?_⟩) (by assumption) ?_
    rotate_left
    · (intro wS hSw; (try dsimp only at hSw); go_simp <;> with_reducible rfl)
    try simp only [Act.put, List.getElem_toArray, List.getElem_cons_succ, List.getElem_cons_zero, List.setIfInBounds_toArray, List.set_cons_zero, List.set_cons_succ]
    refine wpAnyH_take (i := 1) (v := ?_) rfl (by kernel_rfl) (by kernel_rfl) (by kernel_rfl) (fun _ _ _ h => h) (Or.inl ⟨by kernel_rfl, ?_⟩) (by assumption) ?_
    rotate_left
    · (intro wS hSw; (try dsimp only at hSw); go_simp <;> with_reducible rfl)
    try simp only [Act.put, List.getElem_toArray, List.getElem_cons_succ, List.getElem_cons_zero, List.setIfInBounds_toArray, List.set_cons_zero, List.set_cons_succ]
    refine wpAnyH_take (i := 2) (v := ?_) rfl (by kernel_rfl) (by kernel_rfl) (by kernel_rfl) (fun _ _ _ h => h) (Or.inl ⟨by kernel_rfl, ?_⟩) (by assumption) ?_
    rotate_left
    · (intro wS hSw; (try dsimp only at hSw); go_simp <;> with_reducible rfl)
    try simp only [Act.put, List.getElem_toArray, List.getElem_cons_succ, List.getElem_cons_zero, List.setIfInBounds_toArray, List.set_cons_zero, List.set_cons_succ]
    refine wpAnyH_take (i := 3) (v := ?_) rfl (by kernel_rfl) (by kernel_rfl) (by kernel_rfl) (fun _ _ _ h => h) (Or.inl ⟨by kernel_rfl, ?_⟩) (by assumption) ?_
    rotate_left
    · (intro wS hSw; (try dsimp only at hSw); go_simp <;> with_reducible rfl)
    try simp only [Act.put, List.getElem_toArray, List.getElem_cons_succ, List.getElem_cons_zero, List.setIfInBounds_toArray, List.set_cons_zero, List.set_cons_succ]
    refine wpAnyH_take (i := 4) (v := ?_) rfl (by kernel_rfl) (by kernel_rfl) (by kernel_rfl) (fun _ _ _ h => h) (Or.inl ⟨by kernel_rfl, ?_⟩) (by assumption) ?_
    rotate_left
    · (intro wS hSw; (try dsimp only at hSw); go_simp <;> with_reducible rfl)
    try simp only [Act.put, List.getElem_toArray, List.getElem_cons_succ, List.getElem_cons_zero, List.setIfInBounds_toArray, List.set_cons_zero, List.set_cons_succ]
    refine wpAnyH_take (i := 5) (v := ?_) rfl (by kernel_rfl) (by kernel_rfl) (by kernel_rfl) (fun _ _ _ h => h) (Or.inl ⟨by kernel_rfl, ?_⟩) (by assumption) ?_
    rotate_left
    · (intro wS hSw; (try dsimp only at hSw); go_simp <;> with_reducible rfl)
    try simp only [Act.put, List.getElem_toArray, List.getElem_cons_succ, List.getElem_cons_zero, List.setIfInBounds_toArray, List.set_cons_zero, List.set_cons_succ]
    refine wpAnyH_take (i := 6) (v := ?_) rfl (by kernel_rfl) (by kernel_rfl) (by kernel_rfl) (fun _ _ _ h => h) (Or.inl ⟨by kernel_rfl, ?_⟩) (by assumption) ?_
    rotate_left
    · (intro wS hSw; (try dsimp only at hSw); go_simp <;> with_reducible rfl)
    try simp only [Act.put, List.getElem_toArray, List.getElem_cons_succ, List.getElem_cons_zero, List.setIfInBounds_toArray, List.set_cons_zero, List.set_cons_succ]
    refine wpAnyH_take (i := 7) (v := ?_) rfl (by kernel_rfl) (by kernel_rfl) (by kernel_rfl) (fun _ _ _ h => h) (Or.inl ⟨by kernel_rfl, ?_⟩) (by assumption) ?_
    rotate_left
    · (intro wS hSw; (try dsimp only at hSw); go_simp <;> with_reducible rfl)
    try simp only [Act.put, List.getElem_toArray, List.getElem_cons_succ, List.getElem_cons_zero, List.setIfInBounds_toArray, List.set_cons_zero, List.set_cons_succ]
    refine wpAnyH_take (i := 8) (v := ?_) rfl (by kernel_rfl) (by kernel_rfl) (by kernel_rfl) (fun _ _ _ h => h) (Or.inl ⟨by kernel_rfl, ?_⟩) (by assumption) ?_
    rotate_left
    · (intro wS hSw; (try dsimp only at hSw); go_simp <;> with_reducible rfl)
    try simp only [Act.put, List.getElem_toArray, List.getElem_cons_succ, List.getElem_cons_zero, List.setIfInBounds_toArray, List.set_cons_zero, List.set_cons_succ]
    refine wpAnyH_take (i := 9) (v := ?_) rfl (by kernel_rfl) (by kernel_rfl) (by kernel_rfl) (fun _ _ _ h => h) (Or.inl ⟨by kernel_rfl, ?_⟩) (by assumption) ?_
    rotate_left
    · (intro wS hSw; (try dsimp only at hSw); go_simp <;> with_reducible rfl)
    try simp only [Act.put, List.getElem_toArray, List.getElem_cons_succ, List.getElem_cons_zero, List.setIfInBounds_toArray, List.set_cons_zero, List.set_cons_succ]
    refine wpAnyH_ready (rs := [10]) (by kernel_rfl) (by simp) (AllReadyH.cons rfl (fun K hK => ?_) AllReadyH.nil)
    go_simp
    (go_at_call 57; refine (CC.out _ (by first | exact hx | exact hx.drew)).mono ?_; rintro e w1 ⟨rfl, hx⟩)
    refine hK.out _ _ ?_ (fun hHeld => ?_)
    · (first | exact CE.out _ hx | exact CE.out _ hx.drew)
    clear hK K
    try simp only [Act.put, List.getElem_toArray, List.getElem_cons_succ, List.getElem_cons_zero, List.setIfInBounds_toArray, List.set_cons_zero, List.set_cons_succ]
    refine wpAnyH_take (i := 11) (v := ?_) rfl (by kernel_rfl) (by kernel_rfl) (by kernel_rfl) (fun _ _ _ h => h) (Or.inl ⟨by kernel_rfl, ?_⟩) (by assumption) ?_
    rotate_left
    · (intro wS hSw; (try dsimp only at hSw); go_simp <;> with_reducible rfl)
    try simp only [Act.put, List.getElem_toArray, List.getElem_cons_succ, List.getElem_cons_zero, List.setIfInBounds_toArray, List.set_cons_zero, List.set_cons_succ]
    refine wpAnyH_done (by kernel_rfl) ?_ _
    go_wp2_with fail
    go_ret
    exact ⟨ret_b HR.out.symm, HB1.out.trans (Below.mono (by first | exact hx | exact hx.drew) HB1.out.size)⟩
def hasT (x : StV) (t : Int) : Bool := decide (0 ≤ t ∧ t < x.tables.length)
set_option maxHeartbeats 1600000 in
theorem hasTableI (x : StV) (t : Int) (a : Option Addr) (c : Nat) (w : World) :
    Calls Try.prog 22 #[.agg #[.slice a x.tables.length c, .int .i64 x.next], .int .i64 t] w fun e w' => e = .returned (.bool (hasT x t)) ∧ Below w.heap.size w w' := by
  have hb := boxD 38 w #[.slice a x.tables.length c, .int .i64 x.next]
  have x0 := cell_at (o := 0) hb.1 rfl
  by_cases h1 : 0 ≤ t
  · have HR : Hid (hasT x t = decide (t < (x.tables.length : Int))) := by show hasT x t = _; unfold hasT; rw [Bool.eq_iff_iff]; simp; omega
    have d1 : decide (t ≥ 0) = true := decide_eq_true h1
    have d2 : decide (0 ≤ t) = true := decide_eq_true h1
    clear h1
    go_enter Try.func22, Try.ntmps22
    go_wp2_with fail
    go_ret
    exact ⟨ret_b HR.out.symm, hb.2⟩
  · have HR : Hid (hasT x t = false) := decide_eq_false (by omega)
    have d1 : decide (t ≥ 0) = false := decide_eq_false h1
    have d2 : decide (0 ≤ t) = false := decide_eq_false h1
    clear h1
    go_enter Try.func22, Try.ntmps22
    go_wp2_with fail
    go_ret
    exact ⟨ret_b HR.out.symm, hb.2⟩
/-- the first fault of a store and a place -/
noncomputable def rplC (x : StV) (t : Int) : Int := if plainB x = true then (if hasT x t = true then 0 else 10) else 1
end Go.Proofs.Ytlkkmafnjdbofaa
namespace Go.Proofs.Ytlkkmafnjdbofaa
open Go.RowKit
set_option linter.unusedSimpArgs false
set_option maxHeartbeats 3200000 in
theorem rplS (l : List RowV) (a : Option Addr) (c : Nat) (id : Int) (B : Nat → Prop) (w : World) (hl : l.length ≤ maxLen) (hS : Rd w B (dRowS l) (.slice a l.length c)) :
    Calls Try.prog 17 #[.slice a l.length c, .int .i64 id] w fun e w' => e = .returned (.int .i64 (rplI l id)) ∧ Below w.heap.size w w' := by
  unfold maxLen at hl
  have HS : Hid (Rd w B (Ls 2 dRow l) (.slice a l.length c)) := hS
  clear hS
  go_enter Try.func17, Try.ntmps17
  go_wp2_with fail
  go_loopw [5] (fun i wr => ∃ k : Nat, k ≤ l.length ∧ i = .int .i64 k ∧ Hid ((∀ m (h : m < l.length), m < k → l[m].id ≠ id) ∧ Below w.heap.size w wr)) (fun i _ => l.length - (intOf i).toNat)
  case atStart => exact ⟨0, Nat.zero_le _, rfl, fun m _ h => absurd h (by omega), Below.refl _ _⟩
  case round =>
    obtain ⟨k, hk, rfl, HW⟩ := hrel
    by_cases hlt : k < l.length
    case neg =>
      have hki : decide ((k : Int) < (l.length : Int)) = false := by simp; omega
      have HR : Hid (rplI l id = -1) := rpl_none (fun m h => HW.out.1 m h (by omega))
      go_wp2_with fail
      go_ret
      exact ⟨ret_i HR.out.symm, HW.out.2⟩
    have hki : (k : Int) < (l.length : Int) := by omega
    obtain ⟨b, off, rfl, -, hc⟩ := (HS.out.later HW.out.2).things k hlt
    obtain ⟨u0, c0, r0⟩ := hc 0 (by omega)
    obtain rfl : u0 = .int .i64 l[k].id := r0
    replace c0 : wr.cell? ⟨b, off + k * 2, none⟩ = _ := c0
    clear hc
    by_cases he : l[k].id = id
    · have HR : Hid (rplI l id = k) := rpl_at hlt he HW.out.1
      have hee : (l[k].id == id) = true := by simpa using he
      clear he
      generalize l[k].id = y at *
      go_wp2_with fail
      go_ret
      exact ⟨ret_i HR.out.symm, HW.out.2⟩
    · have HG : Hid (∀ m (h : m < l.length), m < k + 1 → l[m].id ≠ id) := fun m h hm => by
        by_cases e : m = k
        · subst e; exact he
        · exact HW.out.1 m h (by omega)
      have hee : (l[k].id == id) = false := by simpa using he
      clear he
      generalize l[k].id = y at *
      go_wp2_with fail
      go_roundw
      case rel => exact ⟨k + 1, by omega, by go_num, HG.out, HW.out.2⟩
      case measure => simp [intOf]; omega
end Go.Proofs.Ytlkkmafnjdbofaa
