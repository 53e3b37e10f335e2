import Derived.Test.YtlkkmafnjdbofaaSMem
namespace Go.Proofs.Ytlkkmafnjdbofaa
open Go.RowKit
set_option linter.unusedSimpArgs false
theorem infoTb : (Try.prog.info? 70).map (fun i => (i.zero, i.size, i.bytes)) = some (some (.agg #[.string ⟨#[]⟩, .slice none 0 0, .slice none 0 0, .bool false]), 4, 72) := by kernel_rfl
def zeroTb : Array Value := #[.string ⟨#[]⟩, .slice none 0 0, .slice none 0 0, .bool false]
theorem run_makeTb (n : Nat) (hn : n ≤ 1048576) (w : World) :
    (Instr.makeSlice 32 (.int .i64 (n : Int)) (.int .i64 (n : Int))).run Try.prog w = .ok (.slice (some ⟨w.heap.size, 0, none⟩) n n) (w.alloc (.cells (madeCells zeroTb (n * 4)) 70)) := by
  obtain ⟨i, hi, hzz⟩ := Option.map_eq_some_iff.1 infoTb
  simp only [Prod.mk.injEq] at hzz
  obtain ⟨hz, hs, hb⟩ := hzz
  have hr := run_make (P := Try.prog) w 32 70 i _ Try.underlying32 hi hz .i64 .i64 n n (by omega) (Int.le_refl _) (by rw [hb]; omega) (by omega)
  rw [hr, hs]
  simp only [Int.toNat_natCast]
  rfl
/-- the first k tables are copied -/
structure DoneT (w wr : World) (k : Nat) (l : List Tb) (A : Nat → Ad) : Prop where
  row : ∃ f, wr.rowIs w.heap.size 70 (l.length * 4) f ∧ ∀ m, m < k * 4 → f m = tbF l A m
  has : ∀ i (h : i < l.length), i < k → l[i].Has wr (fun b => w.heap.size < b ∧ b < wr.heap.size) (A i).ca (A i).ua
def putT (w : World) (b k : Nat) (t : Tb) (a : Ad) : World := (((w.setCell ⟨b, k * 4, none⟩ (.string ⟨t.nm.toArray⟩)).setCell ⟨b, k * 4 + 1, none⟩ (.slice a.ca t.cols.length a.cc)).setCell ⟨b, k * 4 + 2, none⟩ (.slice a.ua t.uq.length a.uc)).setCell ⟨b, k * 4 + 3, none⟩ (.bool t.rt)
def setAd (A : Nat → Ad) (k : Nat) (a : Ad) : Nat → Ad := fun i => if i = k then a else A i
theorem putT_block {w : World} {b k c : Nat} {t : Tb} {a : Ad} (h : c ≠ b) : (putT w b k t a).heap[c]? = w.heap[c]? := by
  unfold putT
  rw [Below.heap_setCell _ _ _ _ (by simpa using h), Below.heap_setCell _ _ _ _ (by simpa using h), Below.heap_setCell _ _ _ _ (by simpa using h), Below.heap_setCell _ _ _ _ (by simpa using h)]
theorem putT_size {w : World} {b k : Nat} {t : Tb} {a : Ad} : (putT w b k t a).heap.size = w.heap.size := by unfold putT; simp
theorem below_putT {w w1 : World} {S b k : Nat} {t : Tb} {a : Ad} (h : Below S w w1) (hb : S ≤ b) : Below S w (putT w1 b k t a) := (((h.setCell hb _).setCell hb _).setCell hb _).setCell hb _
theorem DoneT.step {w wr w1 : World} {k : Nat} {l : List Tb} {A : Nat → Ad} (h : DoneT w wr k l A) (hk : k < l.length) (hB : Below wr.heap.size wr w1) {ca ua : Option Addr} {cc uc : Nat} (hs : l[k].Has w1 (fun b => w.heap.size < b ∧ b < w1.heap.size) ca ua) : DoneT w (putT w1 w.heap.size k l[k] ⟨ca, cc, ua, uc⟩) (k + 1) l (setAd A k ⟨ca, cc, ua, uc⟩) := by
  obtain ⟨f, hf, hd⟩ := h.row
  have hf1 := hf.of_block (hB.block _ hf.lt)
  constructor
  · refine ⟨_, (((hf1.set (k * 4) _).set (k * 4 + 1) _).set (k * 4 + 2) _).set (k * 4 + 3) _, fun m hm => ?_⟩
    by_cases h4 : m < k * 4
    · simp only [show ¬ m = k * 4 + 3 by omega, show ¬ m = k * 4 + 2 by omega, show ¬ m = k * 4 + 1 by omega, show ¬ m = k * 4 by omega, if_false]
      rw [hd m h4]
      unfold tbF setAd
      rw [if_neg (show ¬ m / 4 = k by omega)]
    · obtain ⟨j, rfl⟩ : ∃ j, m = k * 4 + j := ⟨m - k * 4, by omega⟩
      rw [tbF_at hk (by omega)]
      have e : setAd A k ⟨ca, cc, ua, uc⟩ k = ⟨ca, cc, ua, uc⟩ := by unfold setAd; rw [if_pos rfl]
      rw [e]
      rcases (by omega : j = 0 ∨ j = 1 ∨ j = 2 ∨ j = 3) with rfl | rfl | rfl | rfl <;> simp [tbC]
  · intro i hi hik
    by_cases e : i = k
    · subst e
      have e : setAd A i ⟨ca, cc, ua, uc⟩ i = ⟨ca, cc, ua, uc⟩ := by unfold setAd; rw [if_pos rfl]
      rw [e]
      exact hs.same (fun b hb => putT_block (by omega)) (fun b hb => by rw [putT_size]; exact hb)
    · have e' : setAd A k ⟨ca, cc, ua, uc⟩ i = A i := by unfold setAd; rw [if_neg e]
      rw [e']
      refine (h.has i hi (by omega)).same (fun b hb => ?_) (fun b hb => ?_)
      · rw [putT_block (by omega), hB.block b hb.2]
      · rw [putT_size]; have := hB.size; omega
/-- a copy of tables in memory of its own -/
def TbsAns (w : World) (l : List Tb) (e : Ending) (w' : World) : Prop := ∃ A, e = .returned (.slice (some ⟨w.heap.size, 0, none⟩) l.length l.length) ∧ Tabs w' (fun b => w.heap.size ≤ b ∧ b < w'.heap.size) (some ⟨w.heap.size, 0, none⟩) l A ∧ Below w.heap.size w w'
set_option maxRecDepth 100000 in
set_option maxHeartbeats 3200000 in
theorem toTables (l : List Tb) (a : Option Addr) (c : Nat) (A0 : Nat → Ad) (B : Nat → Prop) (w : World) (hl : l.length ≤ 1048576) (hx : ∀ t ∈ l, t.cols.length ≤ 1048576 ∧ t.uq.length ≤ 1048576) (hS : Tabs w B a l A0) :
    Calls Try.prog 19 #[.slice a l.length c] w (TbsAns w l) := by
  have HS : Hid (Tabs w B a l A0) := hS
  have HXL : Hid (∀ t ∈ l, t.cols.length ≤ 1048576 ∧ t.uq.length ≤ 1048576) := hx
  clear hS hx
  have hmk := run_makeTb l.length hl
  go_enter Try.func19, Try.ntmps19
  go_wp2_with fail
  clear hmk
  go_loopw [4] (fun i wr => ∃ k : Nat, k ≤ l.length ∧ i = .int .i64 k ∧ Below w.heap.size w wr ∧ Hid (w.heap.size < wr.heap.size ∧ ∃ A, DoneT w wr k l A)) (fun i _ => l.length - (intOf i).toNat)
  case atStart =>
    refine ⟨0, Nat.zero_le _, rfl, (Below.refl _ _).alloc (Nat.le_refl _) _, by simp, fun _ => ⟨none, 0, none, 0⟩, ?_, fun i _ h => absurd h (by omega)⟩
    obtain ⟨f, hf⟩ := rowIs_made w zeroTb (l.length * 4) 70
    exact ⟨f, hf, fun m h => absurd h (by omega)⟩
  case round =>
    obtain ⟨k, hk, rfl, hB, HD⟩ := hrel
    by_cases hlt : k < l.length
    · obtain ⟨b, off, rfl, -, hc⟩ := (HS.out.later hB).at k hlt
      obtain ⟨c0, c1, c2, c3⟩ := hc k hlt
      clear hc
      obtain ⟨hsz, A, hd⟩ := HD.out
      have HDD := Lib.hid hd
      have HSZ := Lib.hid hsz
      have HT := Lib.hid (toTable l[k] (A0 k).ca (A0 k).cc (A0 k).ua (A0 k).uc B wr (HXL.out _ (List.getElem_mem hlt)).1 (HXL.out _ (List.getElem_mem hlt)).2 ((HS.out.later hB).has k hlt))
      have HST : Hid (∀ w1 q1 q2 cc uc, Below wr.heap.size wr w1 → l[k].Has w1 (fun b => w.heap.size < b ∧ b < w1.heap.size) (some ⟨q1, 0, none⟩) (some ⟨q2, 0, none⟩) → ∃ A', DoneT w (putT w1 w.heap.size k l[k] ⟨some ⟨q1, 0, none⟩, cc, some ⟨q2, 0, none⟩, uc⟩) (k + 1) l A') := fun w1 q1 q2 cc uc hB1 h => ⟨_, HDD.out.step hlt hB1 h⟩
      have HROW : Hid (∃ f, wr.rowIs w.heap.size 70 (l.length * 4) f) := by obtain ⟨f, hf, -⟩ := hd.row; exact ⟨f, hf⟩
      have HB := Lib.hid hB
      clear hd hsz HD HDD hB
      generalize l[k] = x at *
      go_wp2_with fail
      refine HT.out.mono ?_
      rintro e w1 ⟨q1, q2, rfl, g1, g2, g3, oc, ou, hB1⟩
      have hN := HST.out w1 q1 q2 x.cols.length x.uq.length hB1 ⟨Rw.same (OwnRw.rw oc) (fun _ _ => rfl) (fun b hb => by have := HSZ.out; omega), Rw.same (OwnRw.rw ou) (fun _ _ => rfl) (fun b hb => by have := HSZ.out; omega)⟩
      have HN := Lib.hid hN
      obtain ⟨f, hf⟩ := HROW.out
      have hf1 := hf.of_block (hB1.block _ hf.lt)
      have e0 := hf1.cell (i := k * 4) (by omega)
      have e1 := hf1.cell (i := k * 4 + 1) (by omega)
      have e2 := hf1.cell (i := k * 4 + 2) (by omega)
      have e3 := hf1.cell (i := k * 4 + 3) (by omega)
      have z0 := hf1.frozen (k * 4)
      have z1 := hf1.frozen (k * 4 + 1)
      have z2 := hf1.frozen (k * 4 + 2)
      have z3 := hf1.frozen (k * 4 + 3)
      have HW : Hid (Below w.heap.size w w1 ∧ w.heap.size < w1.heap.size) := ⟨HB.out.trans (hB1.mono HB.out.size), Nat.lt_of_lt_of_le HSZ.out hB1.size⟩
      clear hf hf1 hB1 oc ou g1 g2 g3 hN HT HST HROW
      go_wp2_with fail
      go_roundw
      case rel => exact ⟨k + 1, by omega, by go_num, below_putT (t := x) (a := ⟨some ⟨q1, 0, none⟩, x.cols.length, some ⟨q2, 0, none⟩, x.uq.length⟩) HW.out.1 (Nat.le_refl _), by simpa using HW.out.2, HN.out⟩
      case measure => simp [intOf]; omega
    · have hk' : k = l.length := by omega
      obtain ⟨hsz, A, hd⟩ := HD.out
      have HDD := Lib.hid hd
      have HSZ := Lib.hid hsz
      clear hd hsz HD
      go_wp2_with fail
      go_ret
      refine ⟨A, rfl, ⟨?_, fun i hi => (HDD.out.has i hi (by omega)).same (fun _ _ => rfl) (fun b hb => by omega)⟩, hB⟩
      obtain ⟨f, hf, hd⟩ := HDD.out.row
      refine .inr ⟨_, 0, rfl, ⟨Nat.le_refl _, hf.lt⟩, fun m hm => ?_⟩
      rw [Nat.zero_add, hf.cell hm, hd m (by omega)]
set_option maxRecDepth 100000 in
set_option maxHeartbeats 3200000 in
theorem eqTables (l : List Tb) (a a' : Option Addr) (c c' : Nat) (X Y : Nat → Ad) (A B : Nat → Prop) (w : World) (ho : TbsOk l) (hA : Tabs w A a l X) (hB : Tabs w B a' l Y) :
    Calls Try.prog 25 #[.slice a l.length c, .slice a' l.length c'] w fun e w' => e = .returned (.bool true) ∧ Below w.heap.size w w' := by
  have hl := ho.1
  unfold maxLen at hl
  have HO : Hid (∀ t ∈ l, t.ok) := ho.2
  have HA : Hid (∀ W, Below w.heap.size w W → Tabs W A a l X) := fun W h => hA.later h
  have HB : Hid (∀ W, Below w.heap.size w W → Tabs W B a' l Y) := fun W h => hB.later h
  clear hA hB ho
  go_enter Try.func25, Try.ntmps25
  go_wp2_with fail
  go_loopw [5] (fun i wr => ∃ k : Nat, k ≤ l.length ∧ i = .int .i64 k ∧ Hid (Below w.heap.size w wr)) (fun i _ => l.length - (intOf i).toNat)
  case atStart => exact ⟨0, Nat.zero_le _, rfl, Below.refl _ _⟩
  case round =>
    obtain ⟨k, hk, rfl, HW⟩ := hrel
    by_cases hlt : k < l.length
    · obtain ⟨b, off, rfl, -, hc⟩ := (HA.out _ HW.out).at k hlt
      obtain ⟨c0, c1, c2, c3⟩ := hc k hlt
      obtain ⟨b', off', rfl, -, hd⟩ := (HB.out _ HW.out).at k hlt
      obtain ⟨d0, d1, d2, d3⟩ := hd k hlt
      clear hc hd
      have EQ : Hid (∀ W, Below w.heap.size w W → Calls Try.prog 40 #[.agg #[.string ⟨l[k].nm.toArray⟩, .slice (X k).ca l[k].cols.length (X k).cc, .slice (X k).ua l[k].uq.length (X k).uc, .bool l[k].rt], .agg #[.string ⟨l[k].nm.toArray⟩, .slice (Y k).ca l[k].cols.length (Y k).cc, .slice (Y k).ua l[k].uq.length (Y k).uc, .bool l[k].rt]] W fun e w' => e = .returned (.bool true) ∧ Below W.heap.size W w') := fun W h => eqTable l[k] _ _ _ _ _ _ _ _ A B W (HO.out _ (List.getElem_mem hlt)) ((HA.out _ h).has k hlt) ((HB.out _ h).has k hlt)
      generalize l[k] = x at *
      have hki : (k : Int) < (l.length : Int) := by omega
      go_wp2_with fail
      go_region_with (go_at_call 40; refine (EQ.out _ (by first | exact HW.out | exact HW.out.drew)).mono ?_; rintro e w1 ⟨rfl, hB1⟩)
      all_goals
        go_wp2_with fail
        go_roundw
        case rel => exact ⟨k + 1, by omega, by go_num, HW.out.trans ((Below.refl _ _).drew.trans (hB1.mono (by first | exact HW.out.size | (have := HW.out.size; simpa using this))))⟩
        case measure => simp [intOf]; omega
    · have hki : decide ((k : Int) < (l.length : Int)) = false := by simp; omega
      go_wp2_with fail
      go_ret
      exact ⟨rfl, HW.out⟩
set_option maxHeartbeats 1600000 in
theorem toSchema (l : List Tb) (a : Option Addr) (c : Nat) (A0 : Nat → Ad) (B : Nat → Prop) (w : World) (hl : l.length ≤ 1048576) (hx : ∀ t ∈ l, t.cols.length ≤ 1048576 ∧ t.uq.length ≤ 1048576) (hS : Tabs w B a l A0) :
    Calls Try.prog 7 #[.agg #[.slice a l.length c]] w fun e w' => ∃ q A, e = .returned (.agg #[.slice (some ⟨q, 0, none⟩) l.length l.length]) ∧ w.heap.size ≤ q ∧ Tabs w' (fun b => q ≤ b ∧ b < w'.heap.size) (some ⟨q, 0, none⟩) l A ∧ Below w.heap.size w w' := by
  have al : ∀ (V : World) (o : Obj), Below V.heap.size V (V.alloc o) := fun V o => (Below.refl _ _).alloc (Nat.le_refl _) _
  have sz : ∀ (V : World) (o : Obj), (V.alloc o).heap.size = V.heap.size + 1 := fun V o => by simp
  obtain ⟨V, hV⟩ : ∃ V, V = ((w.alloc (.cells #[.slice a l.length c] 24)).alloc (.cells #[.slice none 0 0] 34)).alloc (.cells #[.slice none 0 0] 34) := ⟨_, rfl⟩
  have hb : Below w.heap.size w V := by rw [hV]; exact (((al _ _).trans ((al _ _).mono (by rw [sz]; omega))).trans ((al _ _).mono (by rw [sz, sz]; omega)))
  have hvs : V.heap.size = w.heap.size + 1 + 1 + 1 := by rw [hV, sz, sz, sz]
  have h1 : V.heap[w.heap.size + 1]? = some (.cells #[.slice none 0 0] 34) := by
    have h := heap_keptC (heap_newC (w.alloc (.cells #[.slice a l.length c] 24)) (.cells #[.slice none 0 0] 34)) (al _ (.cells #[.slice none 0 0] 34))
    rw [sz] at h
    rw [hV]; exact h
  have h2 : V.heap[w.heap.size + 1 + 1]? = some (.cells #[.slice none 0 0] 34) := by
    have h := heap_newC ((w.alloc (.cells #[.slice a l.length c] 24)).alloc (.cells #[.slice none 0 0] 34)) (.cells #[.slice none 0 0] 34)
    rw [sz, sz] at h
    rw [hV]; exact h
  have TT := Lib.hid (toTables l a c A0 B V hl hx (hS.later hb))
  have HV := Lib.hid hV
  have M0 := Lib.hid (And.intro hb (And.intro hvs (And.intro h1 h2)))
  clear hl hx hS hb h1 h2 al sz hvs hV
  go_enter Try.func7, Try.ntmps7
  go_wp2_with fail
  rw [← HV.out]
  refine TT.out.mono ?_
  rintro e w1 ⟨A, rfl, hT, hB1⟩
  have r0 := cell_at (o := 0) (heap_keptC M0.out.2.2.1 hB1) rfl
  have g0 := frozen_at 0 (heap_keptC M0.out.2.2.1 hB1)
  have x0 := cell_at (o := 0) (heap_keptC M0.out.2.2.2 hB1) rfl
  have z0 := frozen_at 0 (heap_keptC M0.out.2.2.2 hB1)
  have HT := Lib.hid hT
  have HB := Lib.hid (And.intro (M0.out.1.trans (hB1.mono M0.out.1.size)) hB1.size)
  clear hT hB1 TT
  generalize V.heap.size = q at *
  go_wp2_with fail
  refine bodyPost_ret (v := .agg #[.slice (some ⟨q, 0, none⟩) l.length l.length]) (by simp [results, Try.results7, go_sem, *]) rfl ?_
  have hq := M0.out.2.1
  refine ⟨q, A, rfl, by omega, ?_, ?_⟩
  · refine HT.out.same (fun b hb => ?_) (fun b hb => by simpa using hb)
    rw [Below.heap_setCell _ _ _ _ (by simp; omega), Below.heap_setCell _ _ _ _ (by simp; omega)]
  · exact (HB.out.1.setCell (by simp <;> omega) _).setCell (by simp <;> omega) _
set_option maxHeartbeats 1600000 in
theorem eqSchema (l : List Tb) (a a' : Option Addr) (c c' : Nat) (X Y : Nat → Ad) (A B : Nat → Prop) (w : World) (ho : TbsOk l) (hA : Tabs w A a l X) (hB : Tabs w B a' l Y) :
    Calls Try.prog 10 #[.agg #[.slice a l.length c], .agg #[.slice a' l.length c']] w fun e w' => e = .returned (.bool true) ∧ Below w.heap.size w w' := by
  have hb : Below w.heap.size w ((w.alloc (.cells #[.slice a l.length c] 34)).alloc (.cells #[.slice a' l.length c'] 34)) := ((Below.refl _ _).alloc (Nat.le_refl _) _).alloc (by simp) _
  have ST := Lib.hid (eqTables l a a' c c' X Y A B _ ho (hA.later hb) (hB.later hb))
  have HB := Lib.hid hb
  clear ho hA hB hb
  go_enter Try.func10, Try.ntmps10
  go_wp2_with (go_at_call 25; refine ST.out.mono ?_; rintro e w1 ⟨rfl, hB1⟩)
  go_ret
  exact ⟨rfl, HB.out.trans (hB1.mono HB.out.size)⟩
end Go.Proofs.Ytlkkmafnjdbofaa
