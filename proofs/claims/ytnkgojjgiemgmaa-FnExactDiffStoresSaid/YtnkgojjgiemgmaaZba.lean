import Derived.Test.YtnkgojjgiemgmaaZav
import Derived.Test.YtnkgojjgiemgmaaZay
import Derived.Test.YtnkgojjgiemgmaaZaz
import Derived.Maps.RangeWalk
import Derived.Sort.OwnSortedInts
namespace Go.Proofs.Ytnkgojjgiemgmaa
open Go.RowKit Go.Maps
set_option linter.unusedSimpArgs false
theorem size_le {w : World} {m n : Nat} {D : DataW Value} (h : w.ownsMap Try.prog 3 ptrR m n D) : Maps.size D ≤ n := by
  obtain ⟨es, clock, hb, F, hs, rfl⟩ := h
  exact Nat.le_trans (Nat.le_of_eq (length_read (P := Try.prog) (k := 3) (R0 := ptrR) es)) hs
def Coll (D : DataW Value) (left : Lit → Bool) (F : List Int) : Prop := F.Nodup ∧ ∀ id : Int, id ∈ F ↔ (has D (.int .i64 id) = true ∧ left (.int .i64 id) = false)
theorem coll_start (D : DataW Value) : Coll D (has D) [] := ⟨List.nodup_nil, fun id => by simp⟩
theorem coll_step {D : DataW Value} {left : Lit → Bool} {F : List Int} {x : Int} (h : Coll D left F) (hl : left (.int .i64 x) = true) (hD : has D (.int .i64 x) = true) : Coll D (fun z => left z && !z.sameKey (.int .i64 x)) (F ++ [x]) := by
  refine ⟨?_, fun id => ?_⟩
  · rw [List.nodup_append]
    refine ⟨h.1, by simp, fun a ha b hb => ?_⟩
    obtain rfl := List.mem_singleton.1 hb
    intro e
    subst e
    have := ((h.2 a).1 ha).2
    rw [hl] at this
    cases this
  · rw [List.mem_append, h.2 id, List.mem_singleton]
    by_cases e : id = x
    · subst e
      simp [hD, Lit.sameKey]
    · simp only [e, or_false]
      have : (Lit.int .i64 id).sameKey (.int .i64 x) = false := by simp [Lit.sameKey]; exact e
      simp [this]
theorem coll_end {D : DataW Value} {left : Lit → Bool} {F : List Int} (h : Coll D left F) (hl : ∀ kl, left kl = false) (id : Int) : id ∈ F ↔ has D (.int .i64 id) = true := by
  rw [h.2 id]
  simp [hl]
def AscI (l : List Int) : Prop := l.Pairwise (· < ·)
theorem sort_asc {F : List Int} (h : F.Nodup) : AscI (F.mergeSort fun x y => decide (x ≤ y)) := by
  have h1 := List.pairwise_mergeSort (le := fun x y : Int => decide (x ≤ y)) (fun a b c h1 h2 => by simp at *; omega) (fun a b => by simp; omega) F
  have h2 : (F.mergeSort fun x y => decide (x ≤ y)).Nodup := (List.mergeSort_perm F _).nodup_iff.2 h
  have h3 := h1.and h2
  exact h3.imp (fun {a b} h => by have h4 := h.1; have h5 := h.2; simp at h4; omega)
def RisAns (s : Int → Prop) (w : World) (e : Ending) (w' : World) : Prop := ∃ (l : List Int) (a : Option Addr) (c : Nat), e = .returned (.slice a l.length c) ∧ AscI l ∧ (∀ id, id ∈ l ↔ s id) ∧ Rd w' (fun d => w.heap.size ≤ d ∧ d < w'.heap.size) (dIntS l) (.slice a l.length c) ∧ l.length ≤ 1000 * 1048576 ∧ Below w.heap.size w w'
theorem sort_mem {F : List Int} (id : Int) : id ∈ (F.mergeSort fun x y => decide (x ≤ y)) ↔ id ∈ F := (List.mergeSort_perm F _).mem_iff
theorem rd_ints {w' : World} {base g cap : Nat} {l : List Int} (h : w'.ownsRow base 3 1 (.slice (some ⟨g, 0, none⟩) l.length cap) l.length (l.map (Value.int .i64))) : Rd w' (fun d => base ≤ d ∧ d < w'.heap.size) (dIntS l) (.slice (some ⟨g, 0, none⟩) l.length cap) := by
  refine ⟨_, _, rfl, ?_⟩
  by_cases h0 : l.length = 0
  · exact .inl h0
  rcases h.2 with ⟨e, -⟩ | ⟨g', cp, cu, e, hb, hh, h1, h2, h3, h4⟩
  · cases e
  simp only [Value.slice.injEq, Option.some.injEq, Addr.mk.injEq, and_true, true_and] at e
  obtain ⟨rfl, rfl⟩ := e
  refine .inr ⟨g, 0, rfl, ⟨hb, (Array.getElem?_eq_some_iff.1 hh).1⟩, by omega, fun i j hi hj => ?_⟩
  obtain rfl : j = 0 := by omega
  refine ⟨.int .i64 l[i], ?_, by rw [lsF_at hi]; rfl⟩
  rw [Nat.zero_add, Nat.mul_one, Nat.add_zero]
  rw [Nat.mul_one] at h4
  have h5 : (cu.toList.take l.length)[i]? = (l.map (Value.int .i64))[i]? := by rw [h4]
  rw [List.getElem?_take_of_lt hi, Array.getElem?_toList, List.getElem?_map, List.getElem?_eq_getElem hi] at h5
  simp only [World.cell?, hh]
  exact h5
set_option maxRecDepth 100000 in
set_option maxHeartbeats 6400000 in
theorem risingI (m n : Nat) (s : Int → Prop) (w : World) (hm : MapI w m n s) (hn : n ≤ 1000 * 1048576) :
    Calls Try.prog 20 #[.map (some m)] w (RisAns s w) := by
  obtain ⟨iI, hi1, hi2, hi3, hi4⟩ := infoIntN
  obtain ⟨D, hD, hown, hs⟩ := hm
  have hml : m < w.heap.size := by obtain ⟨es, clock, hb, -⟩ := hown; exact (Array.getElem?_eq_some_iff.1 hb).1
  have hsz := size_le hown
  have hlen := hown.len (t := 48) Try.underlying48 3
  obtain ⟨w1, hmk, hrow1, hg1⟩ := run_make_own (P := Try.prog) w w.heap.size 46 3 iI (.int .i64 0) 1 Try.underlying46 hi1 hi2 hi3 .i64 .i64 (Maps.size D) (by rw [hi4]; omega) (by unfold maxLen; omega) (Nat.le_refl _)
  have hown1 := hown.kept hg1 (by simp)
  have hB1 : Below w.heap.size w w1 := (Below.refl _ _).grown hg1 (Nat.le_refl _) (fun q hq => by cases hq)
  have HML : Hid (m < w.heap.size ∧ Maps.size D ≤ 1000 * 1048576) := ⟨hml, by omega⟩
  have HS := Lib.hid hs
  have HB1 := Lib.hid hB1
  have HR1 := Lib.hid hrow1
  have HII : Hid (Try.prog.info? 3 = some iI ∧ iI.zero = some (.int .i64 0) ∧ iI.size = 1 ∧ iI.bytes = 8) := ⟨hi1, hi2, hi3, hi4⟩
  clear hs hD hown hml hsz hn hi1 hi2 hi3 hi4 hB1 hg1 hrow1
  go_enter Try.func20, Try.ntmps20
  go_wp2_with (at_range; refine wpList_range_own _ rfl _ 48 rfl 3 86 intK Try.underlying48 _ m n _ rfl hown1 ?_; intro w0 hrg0 hg0 hs0)
  go_frame
  have HG0 : Hid (w0.ownsRow w.heap.size 3 1 (.slice (some ⟨w.heap.size, 0, none⟩) 0 (Maps.size D)) 0 [] ∧ w0.ranges Try.prog 3 ptrR m w1.heap.size n D (has D) (Maps.size D) ∧ Below w.heap.size w w0 ∧ w.heap.size < w1.heap.size) := by
    have hsz1 : w.heap.size < w1.heap.size := by
      rcases HR1.out.2 with ⟨e, -⟩ | ⟨g, cp, cu, e, -, hh, -⟩
      · cases e
      · simp only [Value.slice.injEq, Option.some.injEq, Addr.mk.injEq, and_true, true_and] at e
        obtain ⟨rfl, -⟩ := e
        exact (Array.getElem?_eq_some_iff.1 hh).1
    refine ⟨ownsRow_later HR1.out ⟨hg0.os, hg0.tape, hg0.output, hg0.size, fun b hb => hg0.block b hb (by simp)⟩, hrg0, HB1.out.grown hg0 HB1.out.size (fun q hq => by cases hq), hsz1⟩
  clear hrg0 hg0 hs0 hlen hmk hown1
  go_loopw [3] (fun v wr => ∃ (F : List Int) (g cap : Nat), v = .slice (some ⟨g, 0, none⟩) F.length cap ∧ Hid (∃ left cnt, wr.ownsRow w.heap.size 3 1 (.slice (some ⟨g, 0, none⟩) F.length cap) F.length (F.map (Value.int .i64)) ∧ wr.ranges Try.prog 3 ptrR m w1.heap.size n D left cnt ∧ F.length + cnt ≤ Maps.size D ∧ Coll D left F ∧ g ≠ w1.heap.size ∧ Below w.heap.size w wr)) (fun _ wr => wr.rangeLeft m w1.heap.size)
  case atStart => exact ⟨[], w.heap.size, Maps.size D, rfl, _, _, HG0.out.1, HG0.out.2.1, by simp, coll_start D, by have := HG0.out.2.2.2; omega, HG0.out.2.2.1⟩
  case round =>
    obtain ⟨F, g, cap, rfl, HW⟩ := hrel
    obtain ⟨left, cnt, hrow, hrg, hcnt, hcol, hgr, hbel⟩ := HW.out
    have HROW := Lib.hid hrow
    have HCNT := Lib.hid (And.intro hcnt (And.intro hcol (And.intro hgr hbel)))
    have HRG := Lib.hid hrg
    clear hrow hcnt hcol hgr hbel HW HG0
    go_wp2_with (at_next; refine wpList_next_ranges _ rfl _ rfl 3 intK ptrR (Value.int .i64) (fun v : Value => v) (fun key kl hkey => by obtain ⟨x, rfl, _⟩ := Maps.keyOf_int_inv Try.underlying3 hkey; exact ⟨x, rfl⟩) (fun v y _ => ⟨v, rfl⟩) m w1.heap.size n _ _ _ rfl hrg ?_ ?_)
    · intro hc0 hl0
      have HMEM : Hid (∀ id, id ∈ F ↔ s id) := fun id => (coll_end HCNT.out.2.1 hl0 id).trans (HS.out id)
      have HFL : Hid (F.length ≤ 1000 * 1048576) := by have h1 := HCNT.out.1; have h2 := HML.out.2; show F.length ≤ _; omega
      obtain ⟨cur, hh, hx, hcap, hcm, hsz⟩ : ∃ cur, wr.heap[g]? = some (.cells cur 3 (0, 0)) ∧ cur.toList.take F.length = F.map (Value.int .i64) ∧ F.length ≤ cap ∧ cap ≤ maxLen ∧ cur.size = cap * 1 := by
        rcases HROW.out.2 with ⟨e, -⟩ | ⟨g', cp, cu, e, -, hh, h1, h2, h3, h4⟩
        · cases e
        · simp only [Value.slice.injEq, Option.some.injEq, Addr.mk.injEq, and_true, true_and] at e
          obtain ⟨rfl, rfl⟩ := e
          rw [Nat.mul_one] at h4
          exact ⟨cu, hh, h4, h1, h2, h3⟩
      have hbase : w.heap.size ≤ g := by
        rcases HROW.out.2 with ⟨e, -⟩ | ⟨g', cp, cu, e, hb, -⟩
        · cases e
        · simp only [Value.slice.injEq, Option.some.injEq, Addr.mk.injEq, and_true, true_and] at e
          obtain ⟨rfl, -⟩ := e
          exact hb
      have SO := Lib.hid (Try.slices_Sort_int g 0 cap F wr (holds_of_blockI hh hx) (Array.getElem?_eq_some_iff.1 hh).1 (by have := HFL.out; omega))
      have FIN : Hid (∀ k os, RisAns s w (.returned (.slice (some ⟨g, 0, none⟩) F.length cap)) (Sort.grow (Sort.putRow (Value.int .i64) (Sort.ahead wr k) g 0 (F.mergeSort fun x y => decide (x ≤ y)).toArray) os)) := fun k os => by
        have hl : (F.mergeSort fun x y => decide (x ≤ y)).length = F.length := List.length_mergeSort F
        have hgB := grownBy_sortedI (w := wr) (g := g) (n := k) (os := os) (F.mergeSort fun x y => decide (x ≤ y)).toArray
        have hB : Below w.heap.size w (Sort.grow (Sort.putRow (Value.int .i64) (Sort.ahead wr k) g 0 (F.mergeSort fun x y => decide (x ≤ y)).toArray) os) := HCNT.out.2.2.2.grown hgB HCNT.out.2.2.2.size (fun q hq => by cases hq; exact hbase)
        have hrw := ownsRow_sortedI (n := k) (os := os) hl hbase hh hcap hcm hsz
        refine ⟨F.mergeSort fun x y => decide (x ≤ y), some ⟨g, 0, none⟩, cap, by rw [hl], sort_asc HCNT.out.2.1.1, fun id => (sort_mem id).trans (HMEM.out id), ?_, by rw [hl]; exact HFL.out, hB⟩
        rw [← hl] at hrw
        exact rd_ints hrw
      clear hh hx hcap hcm hsz hrg hc0 hl0
      go_wp2_with (go_at_call 36; refine SO.out.mono ?_; rintro e w2 ⟨rfl, k, os, rfl⟩)
      go_ret
      exact FIN.out _ _
    · intro x c kl y y2 w3 cnt3 hkl hlx hcy hat hrg3 hlt3 hg3 hs3 hen
      obtain ⟨x', ex, rfl, hwx⟩ := Maps.keyOf_int_inv Try.underlying3 hkl
      cases ex
      have hhas : has D (.int .i64 x) = true := has_true_of_atKey hat
      have hgb : w.heap.size ≤ g ∧ g < wr.heap.size := by
        rcases HROW.out.2 with ⟨e, -⟩ | ⟨g', cp, cu, e, hb, hh, -⟩
        · cases e
        · simp only [Value.slice.injEq, Option.some.injEq, Addr.mk.injEq, and_true, true_and] at e
          obtain ⟨rfl, -⟩ := e
          exact ⟨hb, (Array.getElem?_eq_some_iff.1 hh).1⟩
      have hrow3 : w3.ownsRow w.heap.size 3 1 (.slice (some ⟨g, 0, none⟩) F.length cap) F.length (F.map (Value.int .i64)) := ownsRow_same HROW.out (fun b hb => by
        simp only [Value.ownBlock, Option.some.injEq] at hb
        refine hg3.block b (by omega) (fun e => ?_)
        simp only [Option.some.injEq] at e
        have := HCNT.out.2.2.1
        omega)
      have hb3 : Below w.heap.size w w3 := HCNT.out.2.2.2.grown hg3 HCNT.out.2.2.2.size (fun q hq => by cases hq; have := HB1.out.size; omega)
      have hrow4 := ownsRow_later hrow3 (below_allocD w3 (.cells #[.int .i64 x] 3))
      obtain ⟨v', w5, hr5, hrow5, hg5, g5, hg5b, hg5c⟩ := run_append_own3 (P := Try.prog) (w3.alloc (.cells #[.int .i64 x] 3)) w.heap.size 46 46 3 iI (.int .i64 0) 1 8 Try.underlying46 HII.out.1 HII.out.2.1 HII.out.2.2.1 HII.out.2.2.2 rfl (by omega) _ F.length _ hrow4 ⟨w3.heap.size, 0, none⟩ 1 1 [.int .i64 x] rfl (fun j u hj => by
        rw [Addr.add_mid]
        have hnw := heap_newD w3 (.cells #[.int .i64 x] 3)
        cases j with
        | zero =>
          simp only [List.getElem?_cons_zero, Option.some.injEq] at hj
          subst hj
          exact cell_at (o := 0) hnw rfl
        | succ j => simp at hj) (fun u hu => by simp only [List.mem_singleton] at hu; subst hu; rfl) (by have h1 := HCNT.out.1; have h2 := HML.out.2; unfold maxLen; omega) (by have h1 := HCNT.out.1; have h2 := HML.out.2; omega) (by rw [size_allocD]; have := hb3.size; omega) (by omega)
      obtain ⟨g', cap', rfl⟩ : ∃ g' cap', v' = .slice (some ⟨g', 0, none⟩) (F.length + 1) cap' := by
        rcases hrow5.2 with ⟨-, h0⟩ | ⟨g', cp, cu, e, -⟩
        · omega
        · exact ⟨g', cp, e⟩
      have hgr3 := hrg3.lt
      have HN : Hid (w5.ownsRow w.heap.size 3 1 (.slice (some ⟨g', 0, none⟩) (F ++ [x]).length cap') (F ++ [x]).length ((F ++ [x]).map (Value.int .i64)) ∧ w5.ranges Try.prog 3 ptrR m w1.heap.size n D (fun z => left z && !z.sameKey (.int .i64 x)) cnt3 ∧ (F ++ [x]).length + cnt3 ≤ Maps.size D ∧ Coll D (fun z => left z && !z.sameKey (.int .i64 x)) (F ++ [x]) ∧ g' ≠ w1.heap.size ∧ Below w.heap.size w w5) := by
        have hB4 : Below w.heap.size w (w3.alloc (.cells #[.int .i64 x] 3)) := hb3.trans ((below_allocD _ _).mono hb3.size)
        have hg5' : g' = g5 := by simpa [Value.ownBlock] using hg5b
        refine ⟨by simpa using hrow5, (hrg3.alloc _).kept hg5 (fun e => ?_) (fun e => ?_), ?_, coll_step HCNT.out.2.1 hlx hhas, ?_, hB4.grown hg5 hB4.size (fun q hq => ?_)⟩
        · simp only [Value.ownBlock, Option.some.injEq] at e
          have := HML.out.1; omega
        · simp only [Value.ownBlock, Option.some.injEq] at e
          have := HCNT.out.2.2.1; omega
        · have := HCNT.out.1; simp only [List.length_append, List.length_singleton]; omega
        · have h1 := HCNT.out.2.2.1
          rcases hg5c with e | e
          · simp only [Value.ownBlock, Option.some.injEq] at e; omega
          · rw [size_allocD] at e; omega
        · simp only [Value.ownBlock, Option.some.injEq] at hq; omega
      have HME : Hid (w5.rangeLeft m w1.heap.size < wr.rangeLeft m w1.heap.size) := by
        show _ < _
        rw [HN.out.2.1.left_eq, HRG.out.left_eq]; exact hlt3
      have HR5 := Lib.hid hr5
      clear hr5 hrow5 hg5 hg5b hg5c hrow3 hrow4 hb3 hrg3 hrg hg3 hs3 hat hcy hkl hlx hhas hwx hgr3 hlt3 hgb
      go_wp2_with (at_builtin; go_must (refine wpList_append_is rfl (.tmp 14) (.tmp 16) 46 rfl _ _ rfl rfl _ _ HR5.out ?_))
      go_roundw
      case rel => exact ⟨F ++ [x], g', cap', by simp, _, _, HN.out⟩
      case measure => exact HME.out
end Go.Proofs.Ytnkgojjgiemgmaa
