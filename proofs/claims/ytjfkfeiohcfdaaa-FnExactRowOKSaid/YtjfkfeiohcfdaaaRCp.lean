import Derived.Test.YtjfkfeiohcfdaaaRMem
namespace Go.Proofs.Ytjfkfeiohcfdaaa
open Go.RowKit
set_option linter.unusedSimpArgs false
theorem run_makeSs (n : Nat) (hn : n ≤ 1048576) (w : World) :
    (Instr.makeSlice 54 (.int .i64 (n : Int)) (.int .i64 (n : Int))).run Try.prog w = .ok (.slice (some ⟨w.heap.size, 0, none⟩) n n) (w.alloc (.cells (madeCells #[.slice none 0 0] n) 99)) := by
  have h : (Try.prog.info? 99).map (fun i => (i.zero, i.size, i.bytes)) = some (some (.slice none 0 0), 1, 24) := by kernel_rfl
  obtain ⟨i, hi, hzz⟩ := Option.map_eq_some_iff.1 h
  simp only [Prod.mk.injEq] at hzz
  obtain ⟨hz, hs, hb⟩ := hzz
  have hr := run_make (P := Try.prog) w 54 99 i _ Try.underlying54 hi hz .i64 .i64 n n (by omega) (Int.le_refl _) (by rw [hb]; omega) (by omega)
  rw [hr, hs]
  simp only [Int.toNat_natCast, Nat.mul_one]
  rfl
/-- the first k sets are copied -/
structure DoneS (w wr : World) (k : Nat) (l : List (List At)) (X : Nat → AdS) : Prop where
  row : ∃ f, wr.rowIs w.heap.size 99 l.length f ∧ ∀ m, m < k → f m = setF l X m
  has : ∀ i (h : i < l.length), i < k → Ats wr (fun b => w.heap.size < b ∧ b < wr.heap.size) (X i).a l[i]
def setAdS (X : Nat → AdS) (k : Nat) (a : AdS) : Nat → AdS := fun i => if i = k then a else X i
theorem DoneS.step {w wr w1 : World} {k : Nat} {l : List (List At)} {X : Nat → AdS} (h : DoneS w wr k l X) (hk : k < l.length) (hB : Below wr.heap.size wr w1) {a : Option Addr} {c : Nat} (hs : Ats w1 (fun b => w.heap.size < b ∧ b < w1.heap.size) a l[k]) : DoneS w (w1.setCell ⟨w.heap.size, k, none⟩ (.slice a l[k].length c)) (k + 1) l (setAdS X k ⟨a, c⟩) := by
  obtain ⟨f, hf, hd⟩ := h.row
  have hf1 := hf.of_block (hB.block _ hf.lt)
  have hsz : (w1.setCell ⟨w.heap.size, k, none⟩ (.slice a l[k].length c)).heap.size = w1.heap.size := by simp
  constructor
  · refine ⟨_, hf1.set k _, fun m hm => ?_⟩
    by_cases e : m = k
    · subst e
      simp only [if_true]
      unfold setF setAdS
      rw [set_getD hk, if_pos rfl]
    · simp only [e, if_false]
      rw [hd m (by omega)]
      unfold setF setAdS
      rw [if_neg e]
  · intro i hi hik
    by_cases e : i = k
    · subst e
      have e : setAdS X i ⟨a, c⟩ i = ⟨a, c⟩ := by unfold setAdS; rw [if_pos rfl]
      rw [e]
      exact hs.same (fun b hb => Below.heap_setCell _ _ _ _ (by simp; omega)) (fun b hb => by rw [hsz]; exact hb)
    · have e' : setAdS X k ⟨a, c⟩ i = X i := by unfold setAdS; rw [if_neg e]
      rw [e']
      refine (h.has i hi (by omega)).same (fun b hb => ?_) (fun b hb => ?_)
      · rw [Below.heap_setCell _ _ _ _ (by simp; omega), hB.block b hb.2]
      · rw [hsz]; have := hB.size; omega
/-- a copy of sets in memory of its own -/
def SetsAns (w : World) (l : List (List At)) (e : Ending) (w' : World) : Prop := ∃ X, e = .returned (.slice (some ⟨w.heap.size, 0, none⟩) l.length l.length) ∧ Sets w' (fun b => w.heap.size ≤ b ∧ b < w'.heap.size) (some ⟨w.heap.size, 0, none⟩) l X ∧ Below w.heap.size w w'
set_option maxRecDepth 100000 in
set_option maxHeartbeats 3200000 in
theorem toSets (l : List (List At)) (a : Option Addr) (c : Nat) (X0 : Nat → AdS) (S : Nat) (w : World) (hw : S ≤ w.heap.size) (hl : l.length ≤ 1048576) (hx : ∀ s ∈ l, s.length ≤ 1048576) (hS : Sets w (· < S) a l X0) :
    Calls Try.prog 39 #[.slice a l.length c] w (SetsAns w l) := by
  have HS : Hid (∀ W, Below w.heap.size w W → Sets W (· < S) a l X0) := fun W h => hS.same (fun b hb => h.block b (by omega)) (fun _ h => h)
  have HXL : Hid (∀ s ∈ l, s.length ≤ 1048576) := hx
  have HSW : Hid (S ≤ w.heap.size) := hw
  clear hS hx hw
  have hmk := run_makeSs l.length hl
  go_enter Try.func39, Try.ntmps39
  go_wp2_with fail
  clear hmk
  go_loopw [4] (fun i wr => ∃ k : Nat, k ≤ l.length ∧ i = .int .i64 k ∧ Below w.heap.size w wr ∧ Hid (w.heap.size < wr.heap.size ∧ ∃ X, DoneS w wr k l X)) (fun i _ => l.length - (intOf i).toNat)
  case atStart =>
    refine ⟨0, Nat.zero_le _, rfl, (Below.refl _ _).alloc (Nat.le_refl _) _, by simp, fun _ => ⟨none, 0⟩, ?_, fun i _ h => absurd h (by omega)⟩
    obtain ⟨f, hf⟩ := rowIs_made w #[.slice none 0 0] l.length 99
    exact ⟨f, hf, fun m h => absurd h (by omega)⟩
  case round =>
    obtain ⟨k, hk, rfl, hB, HD⟩ := hrel
    by_cases hlt : k < l.length
    · obtain ⟨b, off, rfl, -, hc⟩ := (HS.out _ hB).at k hlt
      have c0 := hc k hlt
      clear hc
      have hki : (k : Int) < (l.length : Int) := by omega
      obtain ⟨hsz, X, hd⟩ := HD.out
      have HDD := Lib.hid hd
      have HSZ := Lib.hid hsz
      have HT := Lib.hid (toAtoms l[k] (X0 k).a (X0 k).c S wr (Nat.le_trans HSW.out hB.size) (HXL.out _ (List.getElem_mem hlt)) ((HS.out _ hB).has k hlt))
      have HST : Hid (∀ w1 a c, Below wr.heap.size wr w1 → Ats w1 (fun b => w.heap.size < b ∧ b < w1.heap.size) a l[k] → ∃ X', DoneS w (w1.setCell ⟨w.heap.size, k, none⟩ (.slice a l[k].length c)) (k + 1) l X') := fun w1 a c hB1 h => ⟨_, HDD.out.step hlt hB1 h⟩
      have HROW : Hid (∃ f, wr.rowIs w.heap.size 99 l.length f) := by obtain ⟨f, hf, -⟩ := hd.row; exact ⟨f, hf⟩
      have HB := Lib.hid hB
      clear hd hsz HD HDD hB
      generalize l[k] = x at *
      go_wp2_with fail
      refine HT.out.mono ?_
      rintro e w1 ⟨rfl, oc, hB1⟩
      have HN := Lib.hid (HST.out w1 (some ⟨wr.heap.size, 0, none⟩) x.length hB1 (oc.ats.same (fun _ _ => rfl) (fun b hb => by have := HSZ.out; omega)))
      obtain ⟨f, hf⟩ := HROW.out
      have hf1 := hf.of_block (hB1.block _ hf.lt)
      have e0 := hf1.cell (i := k) (by omega)
      have z0 := hf1.frozen k
      have HW : Hid (Below w.heap.size w w1 ∧ w.heap.size < w1.heap.size) := ⟨HB.out.trans (hB1.mono HB.out.size), Nat.lt_of_lt_of_le HSZ.out hB1.size⟩
      clear hf hf1 hB1 oc HT HST HROW
      generalize wr.heap.size = q at *
      go_wp2_with fail
      go_roundw
      case rel => exact ⟨k + 1, by omega, by go_num, HW.out.1.setCell (Nat.le_refl _) _, by simpa using HW.out.2, HN.out⟩
      case measure => simp [intOf]; omega
    · have hk' : k = l.length := by omega
      obtain ⟨hsz, X, hd⟩ := HD.out
      have HDD := Lib.hid hd
      clear hd hsz HD
      go_wp2_with fail
      go_ret
      refine ⟨X, rfl, ⟨?_, fun i hi => (HDD.out.has i hi (by omega)).same (fun _ _ => rfl) (fun b hb => by omega)⟩, hB⟩
      obtain ⟨f, hf, hd⟩ := HDD.out.row
      refine .inr ⟨_, 0, rfl, ⟨Nat.le_refl _, hf.lt⟩, fun m hm => ?_⟩
      rw [Nat.zero_add, hf.cell hm, hd m (by omega)]
set_option maxRecDepth 100000 in
set_option maxHeartbeats 3200000 in
theorem eqSets (l : List (List At)) (a a' : Option Addr) (c c' : Nat) (X Y : Nat → AdS) (A B : Nat → Prop) (w : World) (ho : SetsOk l) (hA : Sets w A a l X) (hB : Sets w B a' l Y) :
    Calls Try.prog 44 #[.slice a l.length c, .slice a' l.length c'] w fun e w' => e = .returned (.bool true) ∧ Below w.heap.size w w' := by
  have hl := ho.1
  unfold maxLen at hl
  have HO : Hid (∀ s ∈ l, s.length ≤ maxLen) := fun s hs => (ho.2 s hs).1
  have HA : Hid (∀ W, Below w.heap.size w W → Sets W A a l X) := fun W h => hA.later h
  have HB : Hid (∀ W, Below w.heap.size w W → Sets W B a' l Y) := fun W h => hB.later h
  clear hA hB ho
  go_enter Try.func44, Try.ntmps44
  go_wp2_with fail
  go_loopw [5] (fun i wr => ∃ k : Nat, k ≤ l.length ∧ i = .int .i64 k ∧ Hid (Below w.heap.size w wr)) (fun i _ => l.length - (intOf i).toNat)
  case atStart => exact ⟨0, Nat.zero_le _, rfl, Below.refl _ _⟩
  case round =>
    obtain ⟨k, hk, rfl, HW⟩ := hrel
    by_cases hlt : k < l.length
    · obtain ⟨b, off, rfl, -, hc⟩ := (HA.out _ HW.out).at k hlt
      have c0 := hc k hlt
      obtain ⟨b', off', rfl, -, hd⟩ := (HB.out _ HW.out).at k hlt
      have d0 := hd k hlt
      clear hc hd
      have EQ : Hid (∀ W, Below w.heap.size w W → Calls Try.prog 72 #[.slice (X k).a l[k].length (X k).c, .slice (Y k).a l[k].length (Y k).c] W fun e w' => e = .returned (.bool true) ∧ Below W.heap.size W w') := fun W h => eqAtoms l[k] _ _ _ _ A B W (HO.out _ (List.getElem_mem hlt)) ((HA.out _ h).has k hlt) ((HB.out _ h).has k hlt)
      generalize l[k] = x at *
      have hki : (k : Int) < (l.length : Int) := by omega
      go_wp2_with fail
      go_region_with (go_at_call 72; refine (EQ.out _ (by first | exact HW.out | exact HW.out.drew)).mono ?_; rintro e w1 ⟨rfl, hB1⟩)
      all_goals
        go_wp2_with fail
        go_roundw
        case rel => exact ⟨k + 1, by omega, by go_num, HW.out.trans ((Below.refl _ _).drew.trans (hB1.mono (by first | exact HW.out.size | (have := HW.out.size; simpa using this))))⟩
        case measure => simp [intOf]; omega
    · have hki : decide ((k : Int) < (l.length : Int)) = false := by simp; omega
      go_wp2_with fail
      go_ret
      exact ⟨rfl, HW.out⟩
set_option maxHeartbeats 1600000 in
theorem eqRow (id : Int) (l : List (List At)) (a a' : Option Addr) (c c' : Nat) (X Y : Nat → AdS) (A B : Nat → Prop) (w : World) (ho : SetsOk l) (hA : Sets w A a l X) (hB : Sets w B a' l Y) :
    Calls Try.prog 21 #[.agg #[.int .i64 id, .slice a l.length c], .agg #[.int .i64 id, .slice a' l.length c']] w fun e w' => e = .returned (.bool true) ∧ Below w.heap.size w w' := by
  have hb : Below w.heap.size w ((w.alloc (.cells #[.int .i64 id, .slice a l.length c] 56)).alloc (.cells #[.int .i64 id, .slice a' l.length c'] 56)) := ((Below.refl _ _).alloc (Nat.le_refl _) _).alloc (by simp) _
  have ST := Lib.hid (eqSets l a a' c c' X Y A B _ ho (hA.later hb) (hB.later hb))
  have HB := Lib.hid hb
  clear ho hA hB hb
  go_enter Try.func21, Try.ntmps21
  go_wp2_with (go_at_call 44; refine ST.out.mono ?_; rintro e w1 ⟨rfl, hB1⟩)
  go_ret
  exact ⟨rfl, HB.out.trans (hB1.mono HB.out.size)⟩
end Go.Proofs.Ytjfkfeiohcfdaaa
