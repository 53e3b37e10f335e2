import Derived.Test.YtdioppekeekilaaGreatDoorMao
import Derived.Test.YtdioppekeekilaaGreatDoorMai
import Derived.Test.YtdioppekeekilaaGreatDoorMaj
import Derived.Test.YtdioppekeekilaaGreatDoorMam
namespace Go.Proofs.YtdioppekeekilaaGreatDoor
open Go.RowKit
set_option linter.unusedSimpArgs false
theorem run_makeSs (n : Nat) (hn : n ≤ 1048576) (w : World) :
    (Instr.makeSlice 41 (.int .i64 (n : Int)) (.int .i64 (n : Int))).run Tryz.prog w = .ok (.slice (some ⟨w.heap.size, 0, none⟩) n n) (w.alloc (.cells (madeCells #[.slice none 0 0] n) 45)) := by
  have h : (Tryz.prog.info? 45).map (fun i => (i.zero, i.size, i.bytes)) = some (some (.slice none 0 0), 1, 24) := by kernel_rfl
  obtain ⟨i, hi, hzz⟩ := Option.map_eq_some_iff.1 h
  simp only [Prod.mk.injEq] at hzz
  obtain ⟨hz, hs, hb⟩ := hzz
  have hr := run_make (P := Tryz.prog) w 41 45 i _ Tryz.underlying41 hi hz .i64 .i64 n n (by omega) (Int.le_refl _) (by rw [hb]; omega) (by omega)
  rw [hr, hs]
  simp only [Int.toNat_natCast, Nat.mul_one]
  rfl
/-- the first k sets are copied -/
structure DoneS (w wr : World) (k : Nat) (l : List (List At)) (X : Nat → AdS) : Prop where
  row : ∃ f, wr.rowIs w.heap.size 45 l.length f ∧ ∀ m, m < k → f m = setF l X m
  has : ∀ i (h : i < l.length), i < k → Ats wr (fun b => w.heap.size < b ∧ b < wr.heap.size) (X i).a l[i]
def setAdS (X : Nat → AdS) (k : Nat) (a : AdS) : Nat → AdS := fun i => if i = k then a else X i
theorem DoneS.step {w wr w1 : World} {k : Nat} {l : List (List At)} {X : Nat → AdS} (h : DoneS w wr k l X) (hk : k < l.length) (hB : Below wr.heap.size wr w1) {a : Option Addr} {c : Nat} (hs : Ats w1 (fun b => w.heap.size < b ∧ b < w1.heap.size) a l[k]) : DoneS w (w1.setCell ⟨w.heap.size, k, none⟩ (.slice a l[k].length c)) (k + 1) l (setAdS X k ⟨a, c⟩) := by
  obtain ⟨f, hf, hd⟩ := h.row
  have hf1 := hf.of_block (hB.block _ hf.lt)
  have hsz : (w1.setCell ⟨w.heap.size, k, none⟩ (.slice a l[k].length c)).heap.size = w1.heap.size := by simp
  constructor
  · refine ⟨_, hf1.set k _, fun m hm => ?_⟩
    by_cases e : m = k
    · subst e
      simp only [if_true]
      unfold setF setAdS
      rw [set_getD hk, if_pos rfl]
    · simp only [e, if_false]
      rw [hd m (by omega)]
      unfold setF setAdS
      rw [if_neg e]
  · intro i hi hik
    by_cases e : i = k
    · subst e
      have e : setAdS X i ⟨a, c⟩ i = ⟨a, c⟩ := by unfold setAdS; rw [if_pos rfl]
      rw [e]
      exact hs.same (fun b hb => Below.heap_setCell _ _ _ _ (by simp; omega)) (fun b hb => by rw [hsz]; exact hb)
    · have e' : setAdS X k ⟨a, c⟩ i = X i := by unfold setAdS; rw [if_neg e]
      rw [e']
      refine (h.has i hi (by omega)).same (fun b hb => ?_) (fun b hb => ?_)
      · rw [Below.heap_setCell _ _ _ _ (by simp; omega), hB.block b hb.2]
      · rw [hsz]; have := hB.size; omega
/-- a copy of sets in memory of its own -/
def SetsAns (w : World) (l : List (List At)) (e : Ending) (w' : World) : Prop := ∃ X, e = .returned (.slice (some ⟨w.heap.size, 0, none⟩) l.length l.length) ∧ Sets w' (fun b => w.heap.size ≤ b ∧ b < w'.heap.size) (some ⟨w.heap.size, 0, none⟩) l X ∧ Below w.heap.size w w'
set_option maxRecDepth 100000 in
set_option maxHeartbeats 3200000 in
theorem toSets (l : List (List At)) (a : Option Addr) (c : Nat) (X0 : Nat → AdS) (S : Nat) (w : World) (hw : S ≤ w.heap.size) (hl : l.length ≤ 1048576) (hx : ∀ s ∈ l, s.length ≤ 1048576) (hS : Sets w (· < S) a l X0) :
    Calls Tryz.prog 31 #[.slice a l.length c] w (SetsAns w l) := by
  have HS : Hid (∀ W, Below w.heap.size w W → Sets W (· < S) a l X0) := fun W h => hS.same (fun b hb => h.block b (by omega)) (fun _ h => h)
  have HXL : Hid (∀ s ∈ l, s.length ≤ 1048576) := hx
  have HSW : Hid (S ≤ w.heap.size) := hw
  clear hS hx hw
  have hmk := run_makeSs l.length hl
  go_enter Tryz.func31, Tryz.ntmps31
  go_wp2_with fail
  clear hmk
  go_loopw [4] (fun i wr => ∃ k : Nat, k ≤ l.length ∧ i = .int .i64 k ∧ Below w.heap.size w wr ∧ Hid (w.heap.size < wr.heap.size ∧ ∃ X, DoneS w wr k l X)) (fun i _ => l.length - (intOf i).toNat)
  case atStart =>
    refine ⟨0, Nat.zero_le _, rfl, (Below.refl _ _).alloc (Nat.le_refl _) _, by simp, fun _ => ⟨none, 0⟩, ?_, fun i _ h => absurd h (by omega)⟩
    obtain ⟨f, hf⟩ := rowIs_made w #[.slice none 0 0] l.length 45
    exact ⟨f, hf, fun m h => absurd h (by omega)⟩
  case round =>
    obtain ⟨k, hk, rfl, hB, HD⟩ := hrel
    by_cases hlt : k < l.length
    · obtain ⟨b, off, rfl, -, hc⟩ := (HS.out _ hB).at k hlt
      have c0 := hc k hlt
      clear hc
      have hki : (k : Int) < (l.length : Int) := by omega
      obtain ⟨hsz, X, hd⟩ := HD.out
      have HDD := Lib.hid hd
      have HSZ := Lib.hid hsz
      have HT := Lib.hid (toAtoms l[k] (X0 k).a (X0 k).c S wr (Nat.le_trans HSW.out hB.size) (HXL.out _ (List.getElem_mem hlt)) ((HS.out _ hB).has k hlt))
      have HST : Hid (∀ w1 a c, Below wr.heap.size wr w1 → Ats w1 (fun b => w.heap.size < b ∧ b < w1.heap.size) a l[k] → ∃ X', DoneS w (w1.setCell ⟨w.heap.size, k, none⟩ (.slice a l[k].length c)) (k + 1) l X') := fun w1 a c hB1 h => ⟨_, HDD.out.step hlt hB1 h⟩
      have HROW : Hid (∃ f, wr.rowIs w.heap.size 45 l.length f) := by obtain ⟨f, hf, -⟩ := hd.row; exact ⟨f, hf⟩
      have HB := Lib.hid hB
      clear hd hsz HD HDD hB
      generalize l[k] = x at *
      go_wp2_with fail
      refine HT.out.mono ?_
      rintro e w1 ⟨rfl, oc, hB1⟩
      have HN := Lib.hid (HST.out w1 (some ⟨wr.heap.size, 0, none⟩) x.length hB1 (oc.ats.same (fun _ _ => rfl) (fun b hb => by have := HSZ.out; omega)))
      obtain ⟨f, hf⟩ := HROW.out
      have hf1 := hf.of_block (hB1.block _ hf.lt)
      have e0 := hf1.cell (i := k) (by omega)
      have z0 := hf1.frozen k
      have HW : Hid (Below w.heap.size w w1 ∧ w.heap.size < w1.heap.size) := ⟨HB.out.trans (hB1.mono HB.out.size), Nat.lt_of_lt_of_le HSZ.out hB1.size⟩
      clear hf hf1 hB1 oc HT HST HROW
      generalize wr.heap.size = q at *
      go_wp2_with fail
      go_roundw
      case rel => exact ⟨k + 1, by omega, by go_num, HW.out.1.setCell (Nat.le_refl _) _, by simpa using HW.out.2, HN.out⟩
      case measure => simp [intOf]; omega
    · have hk' : k = l.length := by omega
      obtain ⟨hsz, X, hd⟩ := HD.out
      have HDD := Lib.hid hd
      clear hd hsz HD
      go_wp2_with fail
      go_ret
      refine ⟨X, rfl, ⟨?_, fun i hi => (HDD.out.has i hi (by omega)).same (fun _ _ => rfl) (fun b hb => by omega)⟩, hB⟩
      obtain ⟨f, hf, hd⟩ := HDD.out.row
      refine .inr ⟨_, 0, rfl, ⟨Nat.le_refl _, hf.lt⟩, fun m hm => ?_⟩
      rw [Nat.zero_add, hf.cell hm, hd m (by omega)]
set_option maxRecDepth 100000 in
set_option maxHeartbeats 3200000 in
theorem eqSets (l : List (List At)) (a a' : Option Addr) (c c' : Nat) (X Y : Nat → AdS) (A B : Nat → Prop) (w : World) (ho : SetsOk l) (hA : Sets w A a l X) (hB : Sets w B a' l Y) :
    Calls Tryz.prog 35 #[.slice a l.length c, .slice a' l.length c'] w fun e w' => e = .returned (.bool true) ∧ Below w.heap.size w w' := by
  have hl := ho.1
  unfold maxLen at hl
  have HO : Hid (∀ s ∈ l, s.length ≤ maxLen) := fun s hs => (ho.2 s hs).1
  have HA : Hid (∀ W, Below w.heap.size w W → Sets W A a l X) := fun W h => hA.later h
  have HB : Hid (∀ W, Below w.heap.size w W → Sets W B a' l Y) := fun W h => hB.later h
  clear hA hB ho
  go_enter Tryz.func35, Tryz.ntmps35
  go_wp2_with fail
  go_loopw [5] (fun i wr => ∃ k : Nat, k ≤ l.length ∧ i = .int .i64 k ∧ Hid (Below w.heap.size w wr)) (fun i _ => l.length - (intOf i).toNat)
  case atStart => exact ⟨0, Nat.zero_le _, rfl, Below.refl _ _⟩
  case round =>
    obtain ⟨k, hk, rfl, HW⟩ := hrel
    by_cases hlt : k < l.length
    · obtain ⟨b, off, rfl, -, hc⟩ := (HA.out _ HW.out).at k hlt
      have c0 := hc k hlt
      obtain ⟨b', off', rfl, -, hd⟩ := (HB.out _ HW.out).at k hlt
      have d0 := hd k hlt
      clear hc hd
      have EQ : Hid (∀ W, Below w.heap.size w W → Calls Tryz.prog 36 #[.slice (X k).a l[k].length (X k).c, .slice (Y k).a l[k].length (Y k).c] W fun e w' => e = .returned (.bool true) ∧ Below W.heap.size W w') := fun W h => eqAtoms l[k] _ _ _ _ A B W (HO.out _ (List.getElem_mem hlt)) ((HA.out _ h).has k hlt) ((HB.out _ h).has k hlt)
      generalize l[k] = x at *
      have hki : (k : Int) < (l.length : Int) := by omega
      go_wp2_with fail
      go_region_with (go_at_call 36; refine (EQ.out _ (by first | exact HW.out | exact HW.out.drew)).mono ?_; rintro e w1 ⟨rfl, hB1⟩)
      all_goals
        go_wp2_with fail
        go_roundw
        case rel => exact ⟨k + 1, by omega, by go_num, HW.out.trans ((Below.refl _ _).drew.trans (hB1.mono (by first | exact HW.out.size | (have := HW.out.size; simpa using this))))⟩
        case measure => simp [intOf]; omega
    · have hki : decide ((k : Int) < (l.length : Int)) = false := by simp; omega
      go_wp2_with fail
      go_ret
      exact ⟨rfl, HW.out⟩
set_option maxHeartbeats 1600000 in
theorem eqRow (id : Int) (l : List (List At)) (a a' : Option Addr) (c c' : Nat) (X Y : Nat → AdS) (A B : Nat → Prop) (w : World) (ho : SetsOk l) (hA : Sets w A a l X) (hB : Sets w B a' l Y) :
    Calls Tryz.prog 14 #[.agg #[.int .i64 id, .slice a l.length c], .agg #[.int .i64 id, .slice a' l.length c']] w fun e w' => e = .returned (.bool true) ∧ Below w.heap.size w w' := by
  have hb : Below w.heap.size w ((w.alloc (.cells #[.int .i64 id, .slice a l.length c] 43)).alloc (.cells #[.int .i64 id, .slice a' l.length c'] 43)) := ((Below.refl _ _).alloc (Nat.le_refl _) _).alloc (by simp) _
  have ST := Lib.hid (eqSets l a a' c c' X Y A B _ ho (hA.later hb) (hB.later hb))
  have HB := Lib.hid hb
  clear ho hA hB hb
  go_enter Tryz.func14, Tryz.ntmps14
  go_wp2_with (go_at_call 35; refine ST.out.mono ?_; rintro e w1 ⟨rfl, hB1⟩)
  go_ret
  exact ⟨rfl, HB.out.trans (hB1.mono HB.out.size)⟩
end Go.Proofs.YtdioppekeekilaaGreatDoor
namespace Go.Proofs.YtdioppekeekilaaGreatDoor
open Go.RowKit
set_option linter.unusedSimpArgs false
set_option maxRecDepth 100000 in
set_option maxHeartbeats 3200000 in
theorem toRow (id : Int) (l : List (List At)) (a : Option Addr) (c : Nat) (X0 : Nat → AdS) (S : Nat) (w : World) (hw : S ≤ w.heap.size) (hl : l.length ≤ 1048576) (hx : ∀ s ∈ l, s.length ≤ 1048576) (hS : Sets w (· < S) a l X0) :
    Calls Tryz.prog 10 #[.agg #[.int .i64 id, .slice a l.length c]] w fun e w' => ∃ q X, e = .returned (.agg #[.int .i64 id, .slice (some ⟨q, 0, none⟩) l.length l.length]) ∧ w.heap.size ≤ q ∧ Sets w' (fun b => q ≤ b ∧ b < w'.heap.size) (some ⟨q, 0, none⟩) l X ∧ Below w.heap.size w w' := by
  have al : ∀ (V : World) (o : Obj), Below V.heap.size V (V.alloc o) := fun V o => (Below.refl _ _).alloc (Nat.le_refl _) _
  have sz : ∀ (V : World) (o : Obj), (V.alloc o).heap.size = V.heap.size + 1 := fun V o => by simp
  obtain ⟨V, hV⟩ : ∃ V, V = ((w.alloc (.cells #[.int .i64 id, .slice a l.length c] 28)).alloc (.cells #[.int .i64 0, .slice none 0 0] 43)).alloc (.cells #[.int .i64 id, .slice none 0 0] 43) := ⟨_, rfl⟩
  have hb : Below w.heap.size w V := by rw [hV]; exact (((al _ _).trans ((al _ _).mono (by rw [sz]; omega))).trans ((al _ _).mono (by rw [sz, sz]; omega)))
  have hvs : V.heap.size = w.heap.size + 1 + 1 + 1 := by rw [hV, sz, sz, sz]
  have h1 : V.heap[w.heap.size + 1]? = some (.cells #[.int .i64 0, .slice none 0 0] 43) := by
    have h := heap_keptC (heap_newC (w.alloc (.cells #[.int .i64 id, .slice a l.length c] 28)) (.cells #[.int .i64 0, .slice none 0 0] 43)) (al _ (.cells #[.int .i64 id, .slice none 0 0] 43))
    rw [sz] at h
    rw [hV]; exact h
  have h2 : V.heap[w.heap.size + 1 + 1]? = some (.cells #[.int .i64 id, .slice none 0 0] 43) := by
    have h := heap_newC ((w.alloc (.cells #[.int .i64 id, .slice a l.length c] 28)).alloc (.cells #[.int .i64 0, .slice none 0 0] 43)) (.cells #[.int .i64 id, .slice none 0 0] 43)
    rw [sz, sz] at h
    rw [hV]; exact h
  have TT := Lib.hid (toSets l a c X0 S V (by omega) hl hx (hS.same (fun b hb' => hb.block b (by omega)) (fun _ h => h)))
  have HV := Lib.hid hV
  have M0 := Lib.hid (And.intro hb (And.intro hvs (And.intro h1 h2)))
  clear hl hx hS hb h1 h2 al sz hvs hV hw
  go_enter Tryz.func10, Tryz.ntmps10
  go_wp2_with fail
  rw [← HV.out]
  refine TT.out.mono ?_
  rintro e w1 ⟨X, rfl, hT, hB1⟩
  have r0 := cell_at (o := 0) (heap_keptC M0.out.2.2.1 hB1) rfl
  have r1 := cell_at (o := 1) (heap_keptC M0.out.2.2.1 hB1) rfl
  have g0 := frozen_at 0 (heap_keptC M0.out.2.2.1 hB1)
  have g1 := frozen_at 1 (heap_keptC M0.out.2.2.1 hB1)
  have x0 := cell_at (o := 0) (heap_keptC M0.out.2.2.2 hB1) rfl
  have x1 := cell_at (o := 1) (heap_keptC M0.out.2.2.2 hB1) rfl
  have z1 := frozen_at 1 (heap_keptC M0.out.2.2.2 hB1)
  have HT := Lib.hid hT
  have HB := Lib.hid (And.intro (M0.out.1.trans (hB1.mono M0.out.1.size)) hB1.size)
  clear hT hB1 TT
  generalize V.heap.size = q at *
  go_wp2_with fail
  refine bodyPost_ret (v := .agg #[.int .i64 id, .slice (some ⟨q, 0, none⟩) l.length l.length]) (by simp [results, Tryz.results10, go_sem, *]) rfl ?_
  have hq := M0.out.2.1
  refine ⟨q, X, rfl, by omega, ?_, ?_⟩
  · refine HT.out.same (fun b hb => ?_) (fun b hb => by simpa using hb)
    iterate 3 rw [Below.heap_setCell _ _ _ _ (by simp; omega)]
  · exact ((HB.out.1.setCell (by simp <;> omega) _).setCell (by simp <;> omega) _).setCell (by simp <;> omega) _
end Go.Proofs.YtdioppekeekilaaGreatDoor
namespace Go.Proofs.YtdioppekeekilaaGreatDoor
open Go.RowKit
set_option linter.unusedSimpArgs false
/-- a number that is out of a column's bounds -/
def outB (c : Cl) (x : At) : Bool := (c.k == 1) && !(inB c.lo x.n c.hi)
/-- what hinders a set from being a column's -/
def fitC (c : Cl) (l : List At) : Int :=
  if 0 < l.length ∧ (l.getD 0 atZ).k ≠ c.k then 9
  else if inB c.mn l.length c.mx = false then 6
  else if l.any (outB c) then 4 else 0
theorem fit9 {c : Cl} {l : List At} (h : 0 < l.length) (hk : ¬ l[0].k = c.k) : fitC c l = 9 := by
  unfold fitC; rw [at_getD h, if_pos ⟨h, hk⟩]
theorem fit6 {c : Cl} {l : List At} (h : ¬ (0 < l.length ∧ (l.getD 0 atZ).k ≠ c.k)) (hm : inB c.mn l.length c.mx = false) : fitC c l = 6 := by
  unfold fitC; rw [if_neg h, if_pos hm]
theorem fit4 {c : Cl} {l : List At} (h : ¬ (0 < l.length ∧ (l.getD 0 atZ).k ≠ c.k)) (hm : inB c.mn l.length c.mx = true) {k : Nat} (hk : k < l.length) (ho : outB c l[k] = true) : fitC c l = 4 := by
  unfold fitC; rw [if_neg h, if_neg (by simp [hm]), if_pos]
  rw [List.any_eq_true]; exact ⟨_, List.getElem_mem hk, ho⟩
theorem fit0 {c : Cl} {l : List At} (h : ¬ (0 < l.length ∧ (l.getD 0 atZ).k ≠ c.k)) (hm : inB c.mn l.length c.mx = true) (ho : ∀ k (hk : k < l.length), outB c l[k] = false) : fitC c l = 0 := by
  unfold fitC; rw [if_neg h, if_neg (by simp [hm]), if_neg]
  rw [List.any_eq_true]; rintro ⟨x, hx, h⟩
  obtain ⟨k, hk, rfl⟩ := List.mem_iff_getElem.1 hx
  rw [ho k hk] at h; cases h
set_option maxRecDepth 100000 in
set_option maxHeartbeats 1600000 in
theorem fitsS (c : Cl) (l : List At) (a : Option Addr) (cp : Nat) (S : Nat) (w : World) (hl : l.length ≤ maxLen) (hw : S ≤ w.heap.size) (hA : Ats w (· < S) a l) :
    Calls Tryz.prog 67 #[.agg #[.string ⟨c.nm.toArray⟩, .int .i64 c.k, .int .i64 c.mn, .int .i64 c.mx, .int .i64 c.lo, .int .i64 c.hi, .string ⟨c.rf.toArray⟩, .bool c.st], .slice a l.length cp] w fun e w' => e = .returned (.int .i64 (fitC c l)) ∧ Below w.heap.size w w' := by
  unfold maxLen at hl
  have HA : Hid (∀ W, Below w.heap.size w W → Ats W (· < S) a l) := fun W h => hA.below (h.mono hw)
  have hx := boxC 91 w c
  clear hA hw
  have x0 := cell_at (o := 0) hx.1 rfl
  have x1 := cell_at (o := 1) hx.1 rfl
  have x2 := cell_at (o := 2) hx.1 rfl
  have x3 := cell_at (o := 3) hx.1 rfl
  have x4 := cell_at (o := 4) hx.1 rfl
  have x5 := cell_at (o := 5) hx.1 rfl
  have x6 := cell_at (o := 6) hx.1 rfl
  have x7 := cell_at (o := 7) hx.1 rfl
  by_cases h0 : 0 < l.length ∧ (l.getD 0 atZ).k ≠ c.k
  case pos =>
    have hln := h0.1
    have HC : Hid (fitC c l = 9) := fit9 hln (by rw [← at_getD hln]; exact h0.2)
    have hk0 : (l[0].k != c.k) = true := by have := h0.2; rw [at_getD hln] at this; simpa using this
    obtain ⟨b, off, rfl, -, f0, -, -⟩ := (HA.out _ hx.2).item 0 hln
    rw [Nat.zero_mul, Nat.add_zero] at f0
    have hd : decide (0 < (l.length : Int)) = true := decide_eq_true (by omega)
    have hki0 : (0 : Int) < (l.length : Int) := by omega
    clear h0 HA
    generalize l[0] = z at *
    go_enter Tryz.func67, Tryz.ntmps67
    go_wp2_with fail
    go_quiet (fail)
    go_wp2_with fail
    go_ret
    exact ⟨ret_i HC.out.symm, below_drewN hx.2 _⟩
  have HN := Lib.hid h0
  have hq : l.length = 0 ∨ ∃ b off, a = some ⟨b, off, none⟩ ∧ 0 < l.length ∧ (w.alloc (.cells #[.string ⟨c.nm.toArray⟩, .int .i64 c.k, .int .i64 c.mn, .int .i64 c.mx, .int .i64 c.lo, .int .i64 c.hi, .string ⟨c.rf.toArray⟩, .bool c.st] 91)).cell? ⟨b, off, none⟩ = some (.int .i64 c.k) := by
    by_cases h : l.length = 0
    · exact .inl h
    · obtain ⟨b, off, e, -, f0, -, -⟩ := (HA.out _ hx.2).item 0 (by omega)
      rw [Nat.zero_mul, Nat.add_zero] at f0
      have hk0 : l[0].k = c.k := by
        by_cases hh : l[0].k = c.k
        · exact hh
        · exact absurd ⟨by omega, by rw [at_getD (by omega)]; exact hh⟩ h0
      rw [hk0] at f0
      exact .inr ⟨b, off, e, by omega, f0⟩
  have HQ := Lib.hid hq
  clear h0 hq
  cases hm : inB c.mn l.length c.mx
  case false =>
    have HC : Hid (fitC c l = 6) := fit6 HN.out hm
    rcases HQ.out with h | ⟨b, off, rfl, hln, f0⟩
    · obtain rfl := List.length_eq_zero_iff.1 h
      clear h HQ HN HA hl
      simp only [List.length_nil, Int.natCast_zero] at hm ⊢
      go_enter Tryz.func67, Tryz.ntmps67
      go_wp2_with fail
      go_quiet (fail)
      go_wp2_with (go_at_call 48; refine (inS _ _ _ _).mono ?_; rintro e w' ⟨rfl, rfl⟩)
      go_ret
      exact ⟨ret_i HC.out.symm, by first | exact hx.2 | exact hx.2.drew | exact below_drewN hx.2 _⟩
    · have hd : decide (0 < (l.length : Int)) = true := decide_eq_true (by omega)
      have hki0 : (0 : Int) < (l.length : Int) := by omega
      have hkk : (c.k != c.k) = false := by simp
      clear HQ HN HA
      go_enter Tryz.func67, Tryz.ntmps67
      go_wp2_with fail
      go_quiet (fail)
      go_wp2_with (go_at_call 48; refine (inS _ _ _ _).mono ?_; rintro e w' ⟨rfl, rfl⟩)
      go_ret
      exact ⟨ret_i HC.out.symm, below_drewN hx.2 _⟩
  rcases HQ.out with h | ⟨b, off, rfl, hln, f0⟩
  · obtain rfl := List.length_eq_zero_iff.1 h
    have HC : Hid (fitC c [] = 0) := fit0 HN.out hm (fun m hm => absurd hm (by simp))
    clear h HQ HN HA hl
    simp only [List.length_nil, Int.natCast_zero] at hm ⊢
    go_enter Tryz.func67, Tryz.ntmps67
    go_wp2_with fail
    go_quiet (fail)
    go_wp2_with (go_at_call 48; refine (inS _ _ _ _).mono ?_; rintro e w' ⟨rfl, rfl⟩)
    go_loopw [5] (fun i wr => i = .int .i64 0 ∧ BoxC 91 w wr c) (fun _ _ => 0)
    case atStart => exact ⟨rfl, by first | exact hx | exact hx.drew | exact hx.drewN _⟩
    case round =>
      clear hx x0 x1 x2 x3 x4 x5 x6 x7
      obtain ⟨rfl, hx⟩ := hrel
      go_wp2_with fail
      go_ret
      exact ⟨ret_i HC.out.symm, hx.2⟩
  · have hd : decide (0 < (l.length : Int)) = true := decide_eq_true (by omega)
    have hki0 : (0 : Int) < (l.length : Int) := by omega
    have hkk : (c.k != c.k) = false := by simp
    clear HQ
    go_enter Tryz.func67, Tryz.ntmps67
    go_wp2_with fail
    go_quiet (fail)
    clear f0
    go_wp2_with (go_at_call 48; refine (inS _ _ _ _).mono ?_; rintro e w' ⟨rfl, rfl⟩)
    go_loopw [5] (fun i wr => ∃ k : Nat, k ≤ l.length ∧ i = .int .i64 k ∧ Hid ((∀ m (hm : m < l.length), m < k → outB c l[m] = false) ∧ BoxC 91 w wr c)) (fun i _ => l.length - (intOf i).toNat)
    case atStart => exact ⟨0, Nat.zero_le _, rfl, fun m _ h => absurd h (by omega), by first | exact hx | exact hx.drew | exact hx.drewN _⟩
    case round =>
      clear hx x0 x1 x2 x3 x4 x5 x6 x7
      obtain ⟨k, hk, rfl, HW⟩ := hrel
      have hx := HW.out.2
      by_cases hlt : k < l.length
      case neg =>
        have HC : Hid (fitC c l = 0) := fit0 HN.out hm (fun m hm => HW.out.1 m hm (by omega))
        have hki : decide ((k : Int) < (l.length : Int)) = false := by simp; omega
        go_wp2_with fail
        go_ret
        exact ⟨ret_i HC.out.symm, hx.2⟩
      have hki : (k : Int) < (l.length : Int) := by omega
      obtain ⟨b, off, ea, -, -⟩ := (HA.out _ hx.2).item k hlt
      simp only [Option.some.injEq, Addr.mk.injEq, and_true] at ea
      obtain ⟨rfl, rfl⟩ := ea
      have CE0 : Hid (∀ W, BoxC 91 w W c → W.cell? ⟨w.heap.size, 1, none⟩ = some (.int .i64 c.k) ∧ W.cell? ⟨w.heap.size, 4, none⟩ = some (.int .i64 c.lo) ∧ W.cell? ⟨w.heap.size, 5, none⟩ = some (.int .i64 c.hi) ∧ W.cell? ⟨b, off + k * 3 + 1, none⟩ = some (.int .i64 l[k].n)) := fun W hb => ⟨cell_at (o := 1) hb.1 rfl, cell_at (o := 4) hb.1 rfl, cell_at (o := 5) hb.1 rfl, ((HA.out _ hb.2).three k hlt).2.1⟩
      have CE := CE0
      have HNX : Hid (outB c l[k] = false → ∀ m (hm : m < l.length), m < k + 1 → outB c l[m] = false) := fun h m hm hmk => by
        by_cases e : m = k
        · subst e; exact h
        · exact HW.out.1 m hm (by omega)
      have HF4 : Hid (outB c l[k] = true → fitC c l = 4) := fun h => fit4 HN.out hm hlt h
      clear HW CE0
      cases hk1 : (c.k == 1)
      case false =>
        have HN1 := Lib.hid (HNX.out (by unfold outB; rw [hk1]; rfl))
        clear HNX HF4
        generalize l[k] = x at *
        go_wp2_with fail
        refine wp_region_held_drew (S := (fun W => W.cell? ⟨w.heap.size, 1, none⟩ = some (.int .i64 c.k) ∧ W.cell? ⟨w.heap.size, 4, none⟩ = some (.int .i64 c.lo) ∧ W.cell? ⟨w.heap.size, 5, none⟩ = some (.int .i64 c.hi) ∧ W.cell? ⟨b, off + k * 3 + 1, none⟩ = some (.int .i64 x.n))) (by kernel_rfl) ?_ (fun hHeld => ?_)
        · (first | exact CE.out _ hx | exact CE.out _ hx.drew)
        refine wpAnyH_take (i := 0) (v := ?_) rfl (by kernel_rfl) (by kernel_rfl) (by kernel_rfl) (fun _ _ _ h => h) (Or.inl ⟨by kernel_rfl, ?_⟩) (by assumption) ?_
        rotate_left
        · (intro wS hSw; (try dsimp only at hSw); go_simp <;> with_reducible rfl)
        try simp only [Act.put, List.getElem_toArray, List.getElem_cons_succ, List.getElem_cons_zero, List.setIfInBounds_toArray, List.set_cons_zero, List.set_cons_succ]
        refine wpAnyH_take (i := 1) (v := ?_) rfl (by kernel_rfl) (by kernel_rfl) (by kernel_rfl) (fun _ _ _ h => h) (Or.inl ⟨by kernel_rfl, ?_⟩) (by assumption) ?_
        rotate_left
        · (intro wS hSw; (try dsimp only at hSw); go_simp <;> with_reducible rfl)
        try simp only [Act.put, List.getElem_toArray, List.getElem_cons_succ, List.getElem_cons_zero, List.setIfInBounds_toArray, List.set_cons_zero, List.set_cons_succ]
        refine wpAnyH_take (i := 2) (v := ?_) rfl (by kernel_rfl) (by kernel_rfl) (by kernel_rfl) (fun _ _ _ h => h) (Or.inl ⟨by kernel_rfl, ?_⟩) (by assumption) ?_
        rotate_left
        · (intro wS hSw; (try dsimp only at hSw); go_simp <;> with_reducible rfl)
        try simp only [Act.put, List.getElem_toArray, List.getElem_cons_succ, List.getElem_cons_zero, List.setIfInBounds_toArray, List.set_cons_zero, List.set_cons_succ]
        refine wpAnyH_take (i := 3) (v := ?_) rfl (by kernel_rfl) (by kernel_rfl) (by kernel_rfl) (fun _ _ _ h => h) (Or.inl ⟨by kernel_rfl, ?_⟩) (by assumption) ?_
        rotate_left
        · (intro wS hSw; (try dsimp only at hSw); go_simp <;> with_reducible rfl)
        try simp only [Act.put, List.getElem_toArray, List.getElem_cons_succ, List.getElem_cons_zero, List.setIfInBounds_toArray, List.set_cons_zero, List.set_cons_succ]
        refine wpAnyH_take (i := 4) (v := undef) rfl (by kernel_rfl) (by kernel_rfl) (by kernel_rfl) (fun _ _ _ h => h) (Or.inr ⟨by kernel_rfl, rfl⟩) (by assumption) ?_
        try simp only [Act.put, List.getElem_toArray, List.getElem_cons_succ, List.getElem_cons_zero, List.setIfInBounds_toArray, List.set_cons_zero, List.set_cons_succ]
        refine wpAnyH_take (i := 5) (v := undef) rfl (by kernel_rfl) (by kernel_rfl) (by kernel_rfl) (fun _ _ _ h => h) (Or.inr ⟨by kernel_rfl, rfl⟩) (by assumption) ?_
        try simp only [Act.put, List.getElem_toArray, List.getElem_cons_succ, List.getElem_cons_zero, List.setIfInBounds_toArray, List.set_cons_zero, List.set_cons_succ]
        refine wpAnyH_take (i := 6) (v := undef) rfl (by kernel_rfl) (by kernel_rfl) (by kernel_rfl) (fun _ _ _ h => h) (Or.inr ⟨by kernel_rfl, rfl⟩) (by assumption) ?_
        try simp only [Act.put, List.getElem_toArray, List.getElem_cons_succ, List.getElem_cons_zero, List.setIfInBounds_toArray, List.set_cons_zero, List.set_cons_succ]
        refine wpAnyH_take (i := 7) (v := undef) rfl (by kernel_rfl) (by kernel_rfl) (by kernel_rfl) (fun _ _ _ h => h) (Or.inr ⟨by kernel_rfl, rfl⟩) (by assumption) ?_
        try simp only [Act.put, List.getElem_toArray, List.getElem_cons_succ, List.getElem_cons_zero, List.setIfInBounds_toArray, List.set_cons_zero, List.set_cons_succ]
        refine wpAnyH_take (i := 8) (v := undef) rfl (by kernel_rfl) (by kernel_rfl) (by kernel_rfl) (fun _ _ _ h => h) (Or.inr ⟨by kernel_rfl, rfl⟩) (by assumption) ?_
        try simp only [Act.put, List.getElem_toArray, List.getElem_cons_succ, List.getElem_cons_zero, List.setIfInBounds_toArray, List.set_cons_zero, List.set_cons_succ]
        refine wpAnyH_take (i := 9) (v := undef) rfl (by kernel_rfl) (by kernel_rfl) (by kernel_rfl) (fun _ _ _ h => h) (Or.inr ⟨by kernel_rfl, rfl⟩) (by assumption) ?_
        try simp only [Act.put, List.getElem_toArray, List.getElem_cons_succ, List.getElem_cons_zero, List.setIfInBounds_toArray, List.set_cons_zero, List.set_cons_succ]
        refine wpAnyH_take (i := 10) (v := undef) rfl (by kernel_rfl) (by kernel_rfl) (by kernel_rfl) (fun _ _ _ h => h) (Or.inr ⟨by kernel_rfl, rfl⟩) (by assumption) ?_
        try simp only [Act.put, List.getElem_toArray, List.getElem_cons_succ, List.getElem_cons_zero, List.setIfInBounds_toArray, List.set_cons_zero, List.set_cons_succ]
        refine wpAnyH_take (i := 11) (v := undef) rfl (by kernel_rfl) (by kernel_rfl) (by kernel_rfl) (fun _ _ _ h => h) (Or.inr ⟨by kernel_rfl, rfl⟩) (by assumption) ?_
        try simp only [Act.put, List.getElem_toArray, List.getElem_cons_succ, List.getElem_cons_zero, List.setIfInBounds_toArray, List.set_cons_zero, List.set_cons_succ]
        refine wpAnyH_take (i := 12) (v := undef) rfl (by kernel_rfl) (by kernel_rfl) (by kernel_rfl) (fun _ _ _ h => h) (Or.inr ⟨by kernel_rfl, rfl⟩) (by assumption) ?_
        try simp only [Act.put, List.getElem_toArray, List.getElem_cons_succ, List.getElem_cons_zero, List.setIfInBounds_toArray, List.set_cons_zero, List.set_cons_succ]
        refine wpAnyH_take (i := 13) (v := undef) rfl (by kernel_rfl) (by kernel_rfl) (by kernel_rfl) (fun _ _ _ h => h) (Or.inr ⟨by kernel_rfl, rfl⟩) (by assumption) ?_
        try simp only [Act.put, List.getElem_toArray, List.getElem_cons_succ, List.getElem_cons_zero, List.setIfInBounds_toArray, List.set_cons_zero, List.set_cons_succ]
        refine wpAnyH_take (i := 14) (v := undef) rfl (by kernel_rfl) (by kernel_rfl) (by kernel_rfl) (fun _ _ _ h => h) (Or.inr ⟨by kernel_rfl, rfl⟩) (by assumption) ?_
        try simp only [Act.put, List.getElem_toArray, List.getElem_cons_succ, List.getElem_cons_zero, List.setIfInBounds_toArray, List.set_cons_zero, List.set_cons_succ]
        refine wpAnyH_take (i := 15) (v := ?_) rfl (by kernel_rfl) (by kernel_rfl) (by kernel_rfl) (fun _ _ _ h => h) (Or.inl ⟨by kernel_rfl, ?_⟩) (by assumption) ?_
        rotate_left
        · (intro wS hSw; (try dsimp only at hSw); go_simp <;> with_reducible rfl)
        try simp only [Act.put, List.getElem_toArray, List.getElem_cons_succ, List.getElem_cons_zero, List.setIfInBounds_toArray, List.set_cons_zero, List.set_cons_succ]
        refine wpAnyH_done (by kernel_rfl) ?_ _
        go_wp2_with fail
        go_roundw
        case rel => exact ⟨k + 1, by omega, by go_num, HN1.out, by first | exact hx | exact hx.drew | exact hx.drewN _⟩
        case measure => simp [intOf]; omega
      cases hin : inB c.lo l[k].n c.hi
      case true =>
        have HN1 := Lib.hid (HNX.out (by unfold outB; rw [hk1, hin]; rfl))
        clear HNX HF4
        generalize l[k] = x at *
        go_wp2_with fail
        refine wp_region_held_drew (S := (fun W => W.cell? ⟨w.heap.size, 1, none⟩ = some (.int .i64 c.k) ∧ W.cell? ⟨w.heap.size, 4, none⟩ = some (.int .i64 c.lo) ∧ W.cell? ⟨w.heap.size, 5, none⟩ = some (.int .i64 c.hi) ∧ W.cell? ⟨b, off + k * 3 + 1, none⟩ = some (.int .i64 x.n))) (by kernel_rfl) ?_ (fun hHeld => ?_)
        · (first | exact CE.out _ hx | exact CE.out _ hx.drew)
        refine wpAnyH_take (i := 0) (v := ?_) rfl (by kernel_rfl) (by kernel_rfl) (by kernel_rfl) (fun _ _ _ h => h) (Or.inl ⟨by kernel_rfl, ?_⟩) (by assumption) ?_
        rotate_left
        · (intro wS hSw; (try dsimp only at hSw); go_simp <;> with_reducible rfl)
        try simp only [Act.put, List.getElem_toArray, List.getElem_cons_succ, List.getElem_cons_zero, List.setIfInBounds_toArray, List.set_cons_zero, List.set_cons_succ]
        refine wpAnyH_take (i := 1) (v := ?_) rfl (by kernel_rfl) (by kernel_rfl) (by kernel_rfl) (fun _ _ _ h => h) (Or.inl ⟨by kernel_rfl, ?_⟩) (by assumption) ?_
        rotate_left
        · (intro wS hSw; (try dsimp only at hSw); go_simp <;> with_reducible rfl)
        try simp only [Act.put, List.getElem_toArray, List.getElem_cons_succ, List.getElem_cons_zero, List.setIfInBounds_toArray, List.set_cons_zero, List.set_cons_succ]
        refine wpAnyH_take (i := 2) (v := ?_) rfl (by kernel_rfl) (by kernel_rfl) (by kernel_rfl) (fun _ _ _ h => h) (Or.inl ⟨by kernel_rfl, ?_⟩) (by assumption) ?_
        rotate_left
        · (intro wS hSw; (try dsimp only at hSw); go_simp <;> with_reducible rfl)
        try simp only [Act.put, List.getElem_toArray, List.getElem_cons_succ, List.getElem_cons_zero, List.setIfInBounds_toArray, List.set_cons_zero, List.set_cons_succ]
        refine wpAnyH_take (i := 3) (v := ?_) rfl (by kernel_rfl) (by kernel_rfl) (by kernel_rfl) (fun _ _ _ h => h) (Or.inl ⟨by kernel_rfl, ?_⟩) (by assumption) ?_
        rotate_left
        · (intro wS hSw; (try dsimp only at hSw); go_simp <;> with_reducible rfl)
        try simp only [Act.put, List.getElem_toArray, List.getElem_cons_succ, List.getElem_cons_zero, List.setIfInBounds_toArray, List.set_cons_zero, List.set_cons_succ]
        refine wpAnyH_take (i := 4) (v := ?_) rfl (by kernel_rfl) (by kernel_rfl) (by kernel_rfl) (fun _ _ _ h => h) (Or.inl ⟨by kernel_rfl, ?_⟩) (by assumption) ?_
        rotate_left
        · (intro wS hSw; (try dsimp only at hSw); go_simp <;> with_reducible rfl)
        try simp only [Act.put, List.getElem_toArray, List.getElem_cons_succ, List.getElem_cons_zero, List.setIfInBounds_toArray, List.set_cons_zero, List.set_cons_succ]
        refine wpAnyH_take (i := 5) (v := ?_) rfl (by kernel_rfl) (by kernel_rfl) (by kernel_rfl) (fun _ _ _ h => h) (Or.inl ⟨by kernel_rfl, ?_⟩) (by assumption) ?_
        rotate_left
        · (intro wS hSw; (try dsimp only at hSw); go_simp <;> with_reducible rfl)
        try simp only [Act.put, List.getElem_toArray, List.getElem_cons_succ, List.getElem_cons_zero, List.setIfInBounds_toArray, List.set_cons_zero, List.set_cons_succ]
        refine wpAnyH_take (i := 6) (v := ?_) rfl (by kernel_rfl) (by kernel_rfl) (by kernel_rfl) (fun _ _ _ h => h) (Or.inl ⟨by kernel_rfl, ?_⟩) (by assumption) ?_
        rotate_left
        · (intro wS hSw; (try dsimp only at hSw); go_simp <;> with_reducible rfl)
        try simp only [Act.put, List.getElem_toArray, List.getElem_cons_succ, List.getElem_cons_zero, List.setIfInBounds_toArray, List.set_cons_zero, List.set_cons_succ]
        refine wpAnyH_take (i := 7) (v := ?_) rfl (by kernel_rfl) (by kernel_rfl) (by kernel_rfl) (fun _ _ _ h => h) (Or.inl ⟨by kernel_rfl, ?_⟩) (by assumption) ?_
        rotate_left
        · (intro wS hSw; (try dsimp only at hSw); go_simp <;> with_reducible rfl)
        try simp only [Act.put, List.getElem_toArray, List.getElem_cons_succ, List.getElem_cons_zero, List.setIfInBounds_toArray, List.set_cons_zero, List.set_cons_succ]
        refine wpAnyH_take (i := 8) (v := ?_) rfl (by kernel_rfl) (by kernel_rfl) (by kernel_rfl) (fun _ _ _ h => h) (Or.inl ⟨by kernel_rfl, ?_⟩) (by assumption) ?_
        rotate_left
        · (intro wS hSw; (try dsimp only at hSw); go_simp <;> with_reducible rfl)
        try simp only [Act.put, List.getElem_toArray, List.getElem_cons_succ, List.getElem_cons_zero, List.setIfInBounds_toArray, List.set_cons_zero, List.set_cons_succ]
        refine wpAnyH_take (i := 9) (v := ?_) rfl (by kernel_rfl) (by kernel_rfl) (by kernel_rfl) (fun _ _ _ h => h) (Or.inl ⟨by kernel_rfl, ?_⟩) (by assumption) ?_
        rotate_left
        · (intro wS hSw; (try dsimp only at hSw); go_simp <;> with_reducible rfl)
        try simp only [Act.put, List.getElem_toArray, List.getElem_cons_succ, List.getElem_cons_zero, List.setIfInBounds_toArray, List.set_cons_zero, List.set_cons_succ]
        refine wpAnyH_take (i := 10) (v := ?_) rfl (by kernel_rfl) (by kernel_rfl) (by kernel_rfl) (fun _ _ _ h => h) (Or.inl ⟨by kernel_rfl, ?_⟩) (by assumption) ?_
        rotate_left
        · (intro wS hSw; (try dsimp only at hSw); go_simp <;> with_reducible rfl)
        try simp only [Act.put, List.getElem_toArray, List.getElem_cons_succ, List.getElem_cons_zero, List.setIfInBounds_toArray, List.set_cons_zero, List.set_cons_succ]
        refine wpAnyH_take (i := 11) (v := ?_) rfl (by kernel_rfl) (by kernel_rfl) (by kernel_rfl) (fun _ _ _ h => h) (Or.inl ⟨by kernel_rfl, ?_⟩) (by assumption) ?_
        rotate_left
        · (intro wS hSw; (try dsimp only at hSw); go_simp <;> with_reducible rfl)
        try simp only [Act.put, List.getElem_toArray, List.getElem_cons_succ, List.getElem_cons_zero, List.setIfInBounds_toArray, List.set_cons_zero, List.set_cons_succ]
        refine wpAnyH_take (i := 12) (v := ?_) rfl (by kernel_rfl) (by kernel_rfl) (by kernel_rfl) (fun _ _ _ h => h) (Or.inl ⟨by kernel_rfl, ?_⟩) (by assumption) ?_
        rotate_left
        · (intro wS hSw; (try dsimp only at hSw); go_simp <;> with_reducible rfl)
        try simp only [Act.put, List.getElem_toArray, List.getElem_cons_succ, List.getElem_cons_zero, List.setIfInBounds_toArray, List.set_cons_zero, List.set_cons_succ]
        refine wpAnyH_ready (rs := [13]) (by kernel_rfl) (by simp) (AllReadyH.cons rfl (fun K hK => ?_) AllReadyH.nil)
        go_simp
        (go_at_call 48; refine (inS _ _ _ _).mono ?_; rintro e w' ⟨rfl, rfl⟩)
        refine hK.out _ _ ?_ (fun hHeld => ?_)
        · (first | exact CE.out _ hx | exact CE.out _ hx.drew)
        clear hK K
        try simp only [Act.put, List.getElem_toArray, List.getElem_cons_succ, List.getElem_cons_zero, List.setIfInBounds_toArray, List.set_cons_zero, List.set_cons_succ]
        refine wpAnyH_take (i := 14) (v := ?_) rfl (by kernel_rfl) (by kernel_rfl) (by kernel_rfl) (fun _ _ _ h => h) (Or.inl ⟨by kernel_rfl, ?_⟩) (by assumption) ?_
        rotate_left
        · (intro wS hSw; (try dsimp only at hSw); go_simp <;> with_reducible rfl)
        try simp only [Act.put, List.getElem_toArray, List.getElem_cons_succ, List.getElem_cons_zero, List.setIfInBounds_toArray, List.set_cons_zero, List.set_cons_succ]
        refine wpAnyH_take (i := 15) (v := ?_) rfl (by kernel_rfl) (by kernel_rfl) (by kernel_rfl) (fun _ _ _ h => h) (Or.inl ⟨by kernel_rfl, ?_⟩) (by assumption) ?_
        rotate_left
        · (intro wS hSw; (try dsimp only at hSw); go_simp <;> with_reducible rfl)
        try simp only [Act.put, List.getElem_toArray, List.getElem_cons_succ, List.getElem_cons_zero, List.setIfInBounds_toArray, List.set_cons_zero, List.set_cons_succ]
        refine wpAnyH_done (by kernel_rfl) ?_ _
        go_wp2_with fail
        go_roundw
        case rel => exact ⟨k + 1, by omega, by go_num, HN1.out, by first | exact hx | exact hx.drew | exact hx.drewN _⟩
        case measure => simp [intOf]; omega
      · have HC := Lib.hid (HF4.out (by unfold outB; rw [hk1, hin]; rfl))
        clear HNX HF4
        generalize l[k] = x at *
        go_wp2_with fail
        refine wp_region_held_drew (S := (fun W => W.cell? ⟨w.heap.size, 1, none⟩ = some (.int .i64 c.k) ∧ W.cell? ⟨w.heap.size, 4, none⟩ = some (.int .i64 c.lo) ∧ W.cell? ⟨w.heap.size, 5, none⟩ = some (.int .i64 c.hi) ∧ W.cell? ⟨b, off + k * 3 + 1, none⟩ = some (.int .i64 x.n))) (by kernel_rfl) ?_ (fun hHeld => ?_)
        · (first | exact CE.out _ hx | exact CE.out _ hx.drew)
        refine wpAnyH_take (i := 0) (v := ?_) rfl (by kernel_rfl) (by kernel_rfl) (by kernel_rfl) (fun _ _ _ h => h) (Or.inl ⟨by kernel_rfl, ?_⟩) (by assumption) ?_
        rotate_left
        · (intro wS hSw; (try dsimp only at hSw); go_simp <;> with_reducible rfl)
        try simp only [Act.put, List.getElem_toArray, List.getElem_cons_succ, List.getElem_cons_zero, List.setIfInBounds_toArray, List.set_cons_zero, List.set_cons_succ]
        refine wpAnyH_take (i := 1) (v := ?_) rfl (by kernel_rfl) (by kernel_rfl) (by kernel_rfl) (fun _ _ _ h => h) (Or.inl ⟨by kernel_rfl, ?_⟩) (by assumption) ?_
        rotate_left
        · (intro wS hSw; (try dsimp only at hSw); go_simp <;> with_reducible rfl)
        try simp only [Act.put, List.getElem_toArray, List.getElem_cons_succ, List.getElem_cons_zero, List.setIfInBounds_toArray, List.set_cons_zero, List.set_cons_succ]
        refine wpAnyH_take (i := 2) (v := ?_) rfl (by kernel_rfl) (by kernel_rfl) (by kernel_rfl) (fun _ _ _ h => h) (Or.inl ⟨by kernel_rfl, ?_⟩) (by assumption) ?_
        rotate_left
        · (intro wS hSw; (try dsimp only at hSw); go_simp <;> with_reducible rfl)
        try simp only [Act.put, List.getElem_toArray, List.getElem_cons_succ, List.getElem_cons_zero, List.setIfInBounds_toArray, List.set_cons_zero, List.set_cons_succ]
        refine wpAnyH_take (i := 3) (v := ?_) rfl (by kernel_rfl) (by kernel_rfl) (by kernel_rfl) (fun _ _ _ h => h) (Or.inl ⟨by kernel_rfl, ?_⟩) (by assumption) ?_
        rotate_left
        · (intro wS hSw; (try dsimp only at hSw); go_simp <;> with_reducible rfl)
        try simp only [Act.put, List.getElem_toArray, List.getElem_cons_succ, List.getElem_cons_zero, List.setIfInBounds_toArray, List.set_cons_zero, List.set_cons_succ]
        refine wpAnyH_take (i := 4) (v := ?_) rfl (by kernel_rfl) (by kernel_rfl) (by kernel_rfl) (fun _ _ _ h => h) (Or.inl ⟨by kernel_rfl, ?_⟩) (by assumption) ?_
        rotate_left
        · (intro wS hSw; (try dsimp only at hSw); go_simp <;> with_reducible rfl)
        try simp only [Act.put, List.getElem_toArray, List.getElem_cons_succ, List.getElem_cons_zero, List.setIfInBounds_toArray, List.set_cons_zero, List.set_cons_succ]
        refine wpAnyH_take (i := 5) (v := ?_) rfl (by kernel_rfl) (by kernel_rfl) (by kernel_rfl) (fun _ _ _ h => h) (Or.inl ⟨by kernel_rfl, ?_⟩) (by assumption) ?_
        rotate_left
        · (intro wS hSw; (try dsimp only at hSw); go_simp <;> with_reducible rfl)
        try simp only [Act.put, List.getElem_toArray, List.getElem_cons_succ, List.getElem_cons_zero, List.setIfInBounds_toArray, List.set_cons_zero, List.set_cons_succ]
        refine wpAnyH_take (i := 6) (v := ?_) rfl (by kernel_rfl) (by kernel_rfl) (by kernel_rfl) (fun _ _ _ h => h) (Or.inl ⟨by kernel_rfl, ?_⟩) (by assumption) ?_
        rotate_left
        · (intro wS hSw; (try dsimp only at hSw); go_simp <;> with_reducible rfl)
        try simp only [Act.put, List.getElem_toArray, List.getElem_cons_succ, List.getElem_cons_zero, List.setIfInBounds_toArray, List.set_cons_zero, List.set_cons_succ]
        refine wpAnyH_take (i := 7) (v := ?_) rfl (by kernel_rfl) (by kernel_rfl) (by kernel_rfl) (fun _ _ _ h => h) (Or.inl ⟨by kernel_rfl, ?_⟩) (by assumption) ?_
        rotate_left
        · (intro wS hSw; (try dsimp only at hSw); go_simp <;> with_reducible rfl)
        try simp only [Act.put, List.getElem_toArray, List.getElem_cons_succ, List.getElem_cons_zero, List.setIfInBounds_toArray, List.set_cons_zero, List.set_cons_succ]
        refine wpAnyH_take (i := 8) (v := ?_) rfl (by kernel_rfl) (by kernel_rfl) (by kernel_rfl) (fun _ _ _ h => h) (Or.inl ⟨by kernel_rfl, ?_⟩) (by assumption) ?_
        rotate_left
        · (intro wS hSw; (try dsimp only at hSw); go_simp <;> with_reducible rfl)
        try simp only [Act.put, List.getElem_toArray, List.getElem_cons_succ, List.getElem_cons_zero, List.setIfInBounds_toArray, List.set_cons_zero, List.set_cons_succ]
        refine wpAnyH_take (i := 9) (v := ?_) rfl (by kernel_rfl) (by kernel_rfl) (by kernel_rfl) (fun _ _ _ h => h) (Or.inl ⟨by kernel_rfl, ?_⟩) (by assumption) ?_
        rotate_left
        · (intro wS hSw; (try dsimp only at hSw); go_simp <;> with_reducible rfl)
        try simp only [Act.put, List.getElem_toArray, List.getElem_cons_succ, List.getElem_cons_zero, List.setIfInBounds_toArray, List.set_cons_zero, List.set_cons_succ]
        refine wpAnyH_take (i := 10) (v := ?_) rfl (by kernel_rfl) (by kernel_rfl) (by kernel_rfl) (fun _ _ _ h => h) (Or.inl ⟨by kernel_rfl, ?_⟩) (by assumption) ?_
        rotate_left
        · (intro wS hSw; (try dsimp only at hSw); go_simp <;> with_reducible rfl)
        try simp only [Act.put, List.getElem_toArray, List.getElem_cons_succ, List.getElem_cons_zero, List.setIfInBounds_toArray, List.set_cons_zero, List.set_cons_succ]
        refine wpAnyH_take (i := 11) (v := ?_) rfl (by kernel_rfl) (by kernel_rfl) (by kernel_rfl) (fun _ _ _ h => h) (Or.inl ⟨by kernel_rfl, ?_⟩) (by assumption) ?_
        rotate_left
        · (intro wS hSw; (try dsimp only at hSw); go_simp <;> with_reducible rfl)
        try simp only [Act.put, List.getElem_toArray, List.getElem_cons_succ, List.getElem_cons_zero, List.setIfInBounds_toArray, List.set_cons_zero, List.set_cons_succ]
        refine wpAnyH_take (i := 12) (v := ?_) rfl (by kernel_rfl) (by kernel_rfl) (by kernel_rfl) (fun _ _ _ h => h) (Or.inl ⟨by kernel_rfl, ?_⟩) (by assumption) ?_
        rotate_left
        · (intro wS hSw; (try dsimp only at hSw); go_simp <;> with_reducible rfl)
        try simp only [Act.put, List.getElem_toArray, List.getElem_cons_succ, List.getElem_cons_zero, List.setIfInBounds_toArray, List.set_cons_zero, List.set_cons_succ]
        refine wpAnyH_ready (rs := [13]) (by kernel_rfl) (by simp) (AllReadyH.cons rfl (fun K hK => ?_) AllReadyH.nil)
        go_simp
        (go_at_call 48; refine (inS _ _ _ _).mono ?_; rintro e w' ⟨rfl, rfl⟩)
        refine hK.out _ _ ?_ (fun hHeld => ?_)
        · (first | exact CE.out _ hx | exact CE.out _ hx.drew)
        clear hK K
        try simp only [Act.put, List.getElem_toArray, List.getElem_cons_succ, List.getElem_cons_zero, List.setIfInBounds_toArray, List.set_cons_zero, List.set_cons_succ]
        refine wpAnyH_take (i := 14) (v := ?_) rfl (by kernel_rfl) (by kernel_rfl) (by kernel_rfl) (fun _ _ _ h => h) (Or.inl ⟨by kernel_rfl, ?_⟩) (by assumption) ?_
        rotate_left
        · (intro wS hSw; (try dsimp only at hSw); go_simp <;> with_reducible rfl)
        try simp only [Act.put, List.getElem_toArray, List.getElem_cons_succ, List.getElem_cons_zero, List.setIfInBounds_toArray, List.set_cons_zero, List.set_cons_succ]
        refine wpAnyH_take (i := 15) (v := ?_) rfl (by kernel_rfl) (by kernel_rfl) (by kernel_rfl) (fun _ _ _ h => h) (Or.inl ⟨by kernel_rfl, ?_⟩) (by assumption) ?_
        rotate_left
        · (intro wS hSw; (try dsimp only at hSw); go_simp <;> with_reducible rfl)
        try simp only [Act.put, List.getElem_toArray, List.getElem_cons_succ, List.getElem_cons_zero, List.setIfInBounds_toArray, List.set_cons_zero, List.set_cons_succ]
        refine wpAnyH_done (by kernel_rfl) ?_ _
        go_wp2_with fail
        go_ret
        exact ⟨ret_i HC.out.symm, by first | exact hx.2 | exact hx.2.drew | exact below_drewN hx.2 _⟩
end Go.Proofs.YtdioppekeekilaaGreatDoor
