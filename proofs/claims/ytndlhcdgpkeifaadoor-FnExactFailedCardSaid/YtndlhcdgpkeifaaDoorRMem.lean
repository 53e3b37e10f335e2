import Derived.Test.YtndlhcdgpkeifaaDoorTEq
import Derived.Test.YtndlhcdgpkeifaaDoorKTo
namespace Go.Proofs.YtndlhcdgpkeifaaDoor
open Go.RowKit
set_option linter.unusedSimpArgs false
/-- where a set of a row lies -/
structure AdS where
  a : Option Addr
  c : Nat
def setF (l : List (List At)) (X : Nat → AdS) (m : Nat) : Value := .slice (X m).a (l.getD m []).length (X m).c
theorem set_getD {l : List (List At)} {i : Nat} (h : i < l.length) : l.getD i [] = l[i] := by rw [List.getD_eq_getElem?_getD, List.getElem?_eq_getElem h]; rfl
/-- the sets of a row in memory -/
structure Sets (w : World) (B : Nat → Prop) (a : Option Addr) (l : List (List At)) (X : Nat → AdS) : Prop where
  row : Rw w B a l.length (setF l X)
  has : ∀ i (h : i < l.length), Ats w B (X i).a l[i]
theorem Sets.at {w : World} {B : Nat → Prop} {a : Option Addr} {l : List (List At)} {X : Nat → AdS} (h : Sets w B a l X) (k : Nat) (hk : k < l.length) : ∃ b off, a = some ⟨b, off, none⟩ ∧ B b ∧ ∀ i (h : i < l.length), w.cell? ⟨b, off + i, none⟩ = some (.slice (X i).a l[i].length (X i).c) := by
  obtain ⟨b, off, e, hb, hc⟩ := Rw.at h.row k hk
  refine ⟨b, off, e, hb, fun i hi => ?_⟩
  rw [hc i hi]
  unfold setF
  rw [set_getD hi]
theorem Sets.same {w w' : World} {B B' : Nat → Prop} {a : Option Addr} {l : List (List At)} {X : Nat → AdS} (h : Sets w B a l X) (hs : ∀ b, B b → w'.heap[b]? = w.heap[b]?) (hB : ∀ b, B b → B' b) : Sets w' B' a l X := ⟨h.row.same hs hB, fun i hi => (h.has i hi).same hs hB⟩
theorem Sets.later {w w' : World} {B : Nat → Prop} {a : Option Addr} {l : List (List At)} {X : Nat → AdS} (h : Sets w B a l X) (hb : Below w.heap.size w w') : Sets w' B a l X := ⟨h.row.inside.same (fun b hb' => hb.block b hb'.2) (fun _ h => h.1), fun i hi => (h.has i hi).later hb⟩
theorem Sets.spot {w : World} {B : Nat → Prop} {b off : Nat} {l : List (List At)} {X : Nat → AdS} (h : Sets w B (some ⟨b, off, none⟩) l X) (i : Nat) (hi : i < l.length) : w.cell? ⟨b, off + i, none⟩ = some (.slice (X i).a l[i].length (X i).c) := by
  obtain ⟨b', off', e, -, hc⟩ := h.at i hi
  simp only [Option.some.injEq, Addr.mk.injEq, and_true] at e
  obtain ⟨rfl, rfl⟩ := e
  exact hc i hi
def szSs (l : List (List At)) : Nat := l.length + (l.map szA).sum
/-- what came in is no longer than can be held -/
def SetsOk (l : List (List At)) : Prop := l.length ≤ maxLen ∧ ∀ s ∈ l, s.length ≤ maxLen ∧ ∀ x ∈ s, x.t.length ≤ maxLen
set_option maxHeartbeats 1600000 in
theorem szSets (l : List (List At)) (a : Option Addr) (c : Nat) (X : Nat → AdS) (L : Int) (w : World) (h0 : 0 ≤ L) (h1 : L ≤ 1048576) (ho : SetsOk l) (hS : Sets w (· < w.heap.size) a l X) :
    Calls Tryd.prog 40 #[.slice a l.length c, .int .i64 L] w fun e w' => e = .returned (.int .i64 (lessI L (szSs l))) ∧ Below w.heap.size w w' := by
  have hl := ho.1
  unfold maxLen at hl
  have HX : Hid (∀ s ∈ l, s.length ≤ maxLen ∧ ∀ x ∈ s, x.t.length ≤ maxLen) := ho.2
  have HS : Hid (∀ W, Below w.heap.size w W → Sets W (· < w.heap.size) a l X) := fun W h => hS.same (fun b hb => h.block b hb) (fun _ h => h)
  clear ho hS
  by_cases hn : L - (l.length : Int) < 0
  · have HR : Hid (lessI L (szSs l) = -1) := by show lessI L (szSs l) = -1; unfold lessI szSs; rw [if_neg (by omega)]
    go_enter Tryd.func40, Tryd.ntmps40
    go_wp2_with fail
    go_ret
    exact ⟨ret_i HR.out.symm, Below.refl _ _⟩
  · go_enter Tryd.func40, Tryd.ntmps40
    go_wp2_with fail
    go_loopw [1, 5] (fun t i wr => ∃ k : Nat, k ≤ l.length ∧ i = .int .i64 k ∧ ∃ m : Int, t = .int .i64 m ∧ 0 ≤ m ∧ m ≤ L ∧ Hid (m = L - (l.length + sumTo szA l k : Nat) ∧ Below w.heap.size w wr)) (fun _ i _ => l.length - (intOf i).toNat)
    case atStart => exact ⟨0, Nat.zero_le _, rfl, L - l.length, rfl, by omega, by omega, by show _ = _; rw [sumTo_zero]; omega, Below.refl _ _⟩
    case round =>
      obtain ⟨k, hk, rfl, m, rfl, hm0, hmL, HM⟩ := hrel
      by_cases hlt : k < l.length
      · obtain ⟨b, off, rfl, -, hc⟩ := (HS.out _ HM.out.2).at k hlt
        have c0 := hc k hlt
        clear hc
        have HLX := Lib.hid (HX.out _ (List.getElem_mem hlt))
        have HAT : Hid (∀ W, Below w.heap.size w W → Ats W (· < w.heap.size) (X k).a l[k]) := fun W h => (HS.out _ h).has k hlt
        have HSU : Hid (sumTo szA l (k + 1) = sumTo szA l k + szA l[k]) := sumTo_succ _ _ _ hlt
        have HLE : Hid (sumTo szA l (k + 1) ≤ (l.map szA).sum) := sumTo_le _ _ _
        generalize l[k] = x at *
        by_cases hz : m - (szA x : Int) < 0
        · have HR : Hid (lessI L (szSs l) = -1) := by
            have h1 := HM.out.1; have h2 := HSU.out; have h3 := HLE.out
            show lessI L (szSs l) = -1
            unfold lessI szSs; rw [if_neg (by omega)]
          have HQ : Hid (lessI m (szA x) = -1) := less_no hz
          go_wp2_with (go_at_call 50; refine (szAtoms x _ _ m w.heap.size _ hm0 (by omega) HLX.out.1 HLX.out.2 HM.out.2.size (HAT.out _ HM.out.2)).mono ?_; rintro e w1 ⟨rfl, hB1⟩; rw [HQ.out])
          go_ret
          exact ⟨ret_i HR.out.symm, HM.out.2.trans (hB1.mono HM.out.2.size)⟩
        · have HQ : Hid (lessI m (szA x) = m - szA x) := less_yes (by omega)
          obtain ⟨m', hm'⟩ : ∃ m' : Int, m' = m - szA x := ⟨_, rfl⟩
          have hm'0 : 0 ≤ m' := by omega
          have hd : decide (m' < 0) = false := by simp; omega
          have HM' : Hid (m' = m - szA x) := hm'
          clear hm'
          go_wp2_with (go_at_call 50; refine (szAtoms x _ _ m w.heap.size _ hm0 (by omega) HLX.out.1 HLX.out.2 HM.out.2.size (HAT.out _ HM.out.2)).mono ?_; rintro e w1 ⟨rfl, hB1⟩; rw [HQ.out, ← HM'.out])
          go_roundw
          case rel =>
            have h1 := HM.out.1; have h2 := HSU.out; have h3 := HM'.out
            exact ⟨k + 1, by omega, by go_num, m', rfl, by omega, by omega, by show _ = _; omega, HM.out.2.trans (hB1.mono HM.out.2.size)⟩
          case measure => simp [intOf]; omega
      · have HR : Hid (lessI L (szSs l) = m) := by
          have h1 := HM.out.1
          have hk' : k = l.length := by omega
          rw [hk', sumTo_all] at h1
          show lessI L (szSs l) = m
          unfold lessI szSs; rw [if_pos (by omega)]; omega
        go_wp2_with fail
        go_ret
        exact ⟨ret_i HR.out.symm, HM.out.2⟩
set_option maxHeartbeats 1600000 in
theorem szRow (id : Int) (l : List (List At)) (a : Option Addr) (c : Nat) (X : Nat → AdS) (L : Int) (w : World) (h0 : 0 ≤ L) (h1 : L ≤ 1048576) (ho : SetsOk l) (hS : Sets w (· < w.heap.size) a l X) :
    Calls Tryd.prog 31 #[.agg #[.int .i64 id, .slice a l.length c], .int .i64 L] w fun e w' => e = .returned (.int .i64 (lessI L (szSs l))) ∧ Below w.heap.size w w' := by
  have hb : Below w.heap.size w (w.alloc (.cells #[.int .i64 id, .slice a l.length c] 64)) := (Below.refl _ _).alloc (Nat.le_refl _) _
  have ST := Lib.hid (szSets l a c X L (w.alloc (.cells #[.int .i64 id, .slice a l.length c] 64)) h0 h1 ho (hS.same (fun b h => hb.block b h) (fun b h => Nat.lt_of_lt_of_le h hb.size)))
  have HB := Lib.hid hb
  clear ho hS hb
  by_cases hz : L - (szSs l : Int) < 0
  · rw [less_no hz] at ST ⊢
    clear hz
    go_enter Tryd.func31, Tryd.ntmps31
    go_wp2_with (go_at_call 40; refine ST.out.mono ?_; rintro e w1 ⟨rfl, hB1⟩)
    go_ret
    exact ⟨rfl, HB.out.trans (hB1.mono HB.out.size)⟩
  · rw [less_yes (by omega)] at ST ⊢
    obtain ⟨M, hM⟩ : ∃ M : Int, M = L - (szSs l : Int) := ⟨_, rfl⟩
    rw [← hM] at ST ⊢
    have hd : decide (M < 0) = false := decide_eq_false (by omega)
    clear hM hz
    go_enter Tryd.func31, Tryd.ntmps31
    go_wp2_with (go_at_call 40; refine ST.out.mono ?_; rintro e w1 ⟨rfl, hB1⟩)
    go_ret
    exact ⟨rfl, HB.out.trans (hB1.mono HB.out.size)⟩
end Go.Proofs.YtndlhcdgpkeifaaDoor
