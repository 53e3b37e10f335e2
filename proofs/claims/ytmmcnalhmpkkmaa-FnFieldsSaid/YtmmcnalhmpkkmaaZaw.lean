import Derived.Test.YtmmcnalhmpkkmaaZad
import Derived.Deep.QuietTactic
import Derived.BigQuiet
import Derived.Deep.RegionWith
import Derived.Test.YtmmcnalhmpkkmaaZav
namespace Go.Proofs.Ytmmcnalhmpkkmaa
open Go.RowKit
set_option linter.unusedSimpArgs false
def dfl : J := ⟨0, 0, [], [], []⟩
noncomputable def sameB (a b : J) : Bool := @decide (a = b) (Classical.propDecidable _)
noncomputable def sameL (a b : List J) : Bool := @decide (a = b) (Classical.propDecidable _)
theorem sameB_iff {a b : J} : sameB a b = true ↔ a = b := @decide_eq_true_iff _ (Classical.propDecidable _)
theorem sameL_iff {a b : List J} : sameL a b = true ↔ a = b := @decide_eq_true_iff _ (Classical.propDecidable _)
theorem sameB_no {a b : J} (h : a ≠ b) : sameB a b = false := by
  cases e : sameB a b
  · rfl
  · exact absurd (sameB_iff.1 e) h
theorem sameL_no {a b : List J} (h : a ≠ b) : sameL a b = false := by
  cases e : sameL a b
  · rfl
  · exact absurd (sameL_iff.1 e) h
theorem getD_eq {α : Type} {l l' : List α} {d : α} (hl : l.length = l'.length) (h : ∀ q, q < l.length → l.getD q d = l'.getD q d) : l = l' := by
  apply List.ext_getElem hl
  intro i h1 h2
  have := h i h1
  simpa [List.getD_eq_getElem?_getD, List.getElem?_eq_getElem h1, List.getElem?_eq_getElem h2] using this
theorem strs_cell {w : World} {A : Nat → Prop} {a : Option Addr} {keys : List (List UInt8)} (h : Strs w A a keys) (k : Nat) (hk : k < keys.length) : ∃ b off, a = some ⟨b, off, none⟩ ∧ w.cell? ⟨b, off + k, none⟩ = some (.string ⟨(keys.getD k []).toArray⟩) := by
  rcases h with h | ⟨b, off, ha, _, hc⟩
  · omega
  · exact ⟨b, off, ha, by rw [List.getD_eq_getElem?_getD, List.getElem?_eq_getElem hk]; exact hc k hk⟩
set_option maxRecDepth 100000 in
set_option maxHeartbeats 1600000 in
theorem eqKeys (keys keys' : List (List UInt8)) (a b : Option Addr) (ca cb : Nat) (A B : Nat → Prop) (w : World) (hl : keys.length ≤ maxLen) (ha : Strs w A a keys) (hb : Strs w B b keys') :
    Calls Try.prog 22 #[.slice a keys.length ca, .slice b keys'.length cb] w fun e w' => e = .returned (.bool (decide (keys = keys'))) ∧ Below w.heap.size w w' := by
  unfold maxLen at hl
  have HA : Hid (Strs w A a keys) := ha
  have HB : Hid (Strs w B b keys') := hb
  clear ha hb
  by_cases hlen : keys.length = keys'.length
  case neg =>
    have hne : ((keys.length : Int) != (keys'.length : Int)) = true := by simp; omega
    have HD : Hid (decide (keys = keys') = false) := decide_eq_false (fun e => hlen (by rw [e]))
    clear hlen
    go_enter Try.func22, Try.ntmps22
    go_wp2_with fail
    go_ret
    exact ⟨ret_b HD.out.symm, Below.refl _ _⟩
  case pos =>
    have hne : ((keys.length : Int) != (keys.length : Int)) = false := by simp
    have HLEN : Hid (keys.length = keys'.length) := hlen
    rw [← hlen]
    clear hlen
    go_enter Try.func22, Try.ntmps22
    go_wp2_with fail
    go_loopw [13] (fun i wr => ∃ k : Nat, k ≤ keys.length ∧ i = .int .i64 k ∧ Below w.heap.size w wr ∧ Hid (∀ q, q < k → keys.getD q [] = keys'.getD q [])) (fun i _ => keys.length - (intOf i).toNat)
    case atStart => exact ⟨0, Nat.zero_le _, rfl, Below.refl _ _, fun q h => absurd h (by omega)⟩
    case round =>
      obtain ⟨k, hk, rfl, hw, HQ⟩ := hrel
      by_cases hlt : k < keys.length
      · obtain ⟨b1, o1, rfl, c1⟩ := strs_cell (HA.out.later hw) k hlt
        obtain ⟨b2, o2, rfl, c2⟩ := strs_cell (HB.out.later hw) k (by have := HLEN.out; omega)
        have hki : (k : Int) < (keys.length : Int) := by omega
        by_cases he : keys.getD k [] = keys'.getD k []
        · have HQ2 : Hid (∀ q, q < k + 1 → keys.getD q [] = keys'.getD q []) := fun q hq => by
            by_cases e : q = k
            · subst e; exact he
            · exact HQ.out q (by omega)
          rw [← he] at c2
          clear he
          generalize keys.getD k [] = x at *
          have hx : (x != x) = false := by simp
          go_wp2_with fail
          go_quiet (fail)
          go_wp2_with fail
          go_roundw
          case rel => exact ⟨k + 1, by omega, by go_num, below_drewN hw _, HQ2.out⟩
          case measure => simp [intOf]; omega
        · have HD : Hid (decide (keys = keys') = false) := decide_eq_false (fun e => he (by rw [e]))
          generalize keys.getD k [] = x at *
          generalize keys'.getD k [] = y at *
          have hx : (x != y) = true := by simpa using he
          have hx2 : (x == y) = false := by simpa using he
          clear he
          go_wp2_with fail
          go_quiet (fail)
          go_wp2_with fail
          go_ret
          exact ⟨ret_b HD.out.symm, below_drewN hw _⟩
      · have HD : Hid (decide (keys = keys') = true) := decide_eq_true (getD_eq HLEN.out (fun q hq => HQ.out q (by omega)))
        have hki : decide ((k : Int) < (keys.length : Int)) = false := by simp; omega
        go_wp2_with fail
        go_ret
        exact ⟨ret_b HD.out.symm, hw⟩
def AlSaid (x : J) : Prop := ∀ (y : J) (cs cs' : List Value) (A B : Nat → Prop) (w : World), RJ w A x cs → RJ w B y cs' →
    Calls Try.prog 14 #[.agg cs.toArray, .agg cs'.toArray] w fun e w' => e = .returned (.bool (sameB x y)) ∧ Below w.heap.size w w'
set_option maxRecDepth 100000 in
set_option maxHeartbeats 3200000 in
theorem eqItems (la lb : List J) (ih : ∀ x ∈ la, AlSaid x) (a b : Option Addr) (ca cb : Nat) (A B : Nat → Prop) (w : World) (hl : la.length ≤ maxLen) (ha : Jsons w A a la) (hb : Jsons w B b lb) :
    Calls Try.prog 23 #[.slice a la.length ca, .slice b lb.length cb, .func (.func 14) #[] #[]] w fun e w' => e = .returned (.bool (sameL la lb)) ∧ Below w.heap.size w w' := by
  unfold maxLen at hl
  have IH : Hid (∀ x ∈ la, AlSaid x) := ih
  have HA : Hid (Jsons w A a la) := ha
  have HB : Hid (Jsons w B b lb) := hb
  clear ha hb ih
  by_cases hlen : la.length = lb.length
  case neg =>
    have hne : ((la.length : Int) != (lb.length : Int)) = true := by simp; omega
    have HD : Hid (sameL la lb = false) := sameL_no (fun e => hlen (by rw [e]))
    clear hlen
    go_enter Try.func23, Try.ntmps23
    go_wp2_with fail
    go_ret
    exact ⟨ret_b HD.out.symm, Below.refl _ _⟩
  case pos =>
    have hne : ((la.length : Int) != (la.length : Int)) = false := by simp
    have HLEN : Hid (la.length = lb.length) := hlen
    rw [← hlen]
    clear hlen
    go_enter Try.func23, Try.ntmps23
    go_wp2_with fail
    go_loopw [17] (fun i wr => ∃ k : Nat, k ≤ la.length ∧ i = .int .i64 k ∧ Below w.heap.size w wr ∧ Hid (∀ q, q < k → la.getD q dfl = lb.getD q dfl)) (fun i _ => la.length - (intOf i).toNat)
    case atStart => exact ⟨0, Nat.zero_le _, rfl, Below.refl _ _, fun q h => absurd h (by omega)⟩
    case round =>
      obtain ⟨k, hk, rfl, hw, HQ⟩ := hrel
      by_cases hlt : k < la.length
      · have hlt' : k < lb.length := by have := HLEN.out; omega
        obtain ⟨b1, o1, k1, kc1, i1, ic1, rfl, _, c0, c1, c2, c3, c4, hr⟩ := (HA.out.later hw).item k hlt
        obtain ⟨b2, o2, k2, kc2, i2, ic2, rfl, _, d0, d1, d2, d3, d4, hr'⟩ := (HB.out.later hw).item k hlt'
        have HR : Hid (RJ wr A la[k] _) := hr
        have HR' : Hid (RJ wr B lb[k] _) := hr'
        have HX : Hid (AlSaid la[k]) := IH.out _ (List.getElem_mem hlt)
        have hki : (k : Int) < (la.length : Int) := by omega
        have HGA : Hid (la.getD k dfl = la[k] ∧ lb.getD k dfl = lb[k]) := by
          constructor <;> simp [List.getD_eq_getElem?_getD, List.getElem?_eq_getElem hlt, List.getElem?_eq_getElem hlt']
        clear hr hr'
        generalize la[k] = x at *
        generalize lb[k] = y at *
        have HBW : Hid (Below w.heap.size w wr) := hw
        have HAL : Hid (Below wr.heap.size wr _) := ((Below.refl wr.heap.size wr).alloc (Nat.le_refl _) (.cells #[.int .i64 x.k, .int .i64 x.n, .string ⟨x.t.toArray⟩, .slice k1 x.keys.length kc1, .slice i1 x.items.length ic1] 26)).alloc (by simp) (.cells #[.int .i64 y.k, .int .i64 y.n, .string ⟨y.t.toArray⟩, .slice k2 y.keys.length kc2, .slice i2 y.items.length ic2] 26)
        have d0' := keep_cell ((Below.refl wr.heap.size wr).alloc (Nat.le_refl _) (.cells #[.int .i64 x.k, .int .i64 x.n, .string ⟨x.t.toArray⟩, .slice k1 x.keys.length kc1, .slice i1 x.items.length ic1] 26)) d0
        have d1' := keep_cell ((Below.refl wr.heap.size wr).alloc (Nat.le_refl _) (.cells #[.int .i64 x.k, .int .i64 x.n, .string ⟨x.t.toArray⟩, .slice k1 x.keys.length kc1, .slice i1 x.items.length ic1] 26)) d1
        have d2' := keep_cell ((Below.refl wr.heap.size wr).alloc (Nat.le_refl _) (.cells #[.int .i64 x.k, .int .i64 x.n, .string ⟨x.t.toArray⟩, .slice k1 x.keys.length kc1, .slice i1 x.items.length ic1] 26)) d2
        have d3' := keep_cell ((Below.refl wr.heap.size wr).alloc (Nat.le_refl _) (.cells #[.int .i64 x.k, .int .i64 x.n, .string ⟨x.t.toArray⟩, .slice k1 x.keys.length kc1, .slice i1 x.items.length ic1] 26)) d3
        have d4' := keep_cell ((Below.refl wr.heap.size wr).alloc (Nat.le_refl _) (.cells #[.int .i64 x.k, .int .i64 x.n, .string ⟨x.t.toArray⟩, .slice k1 x.keys.length kc1, .slice i1 x.items.length ic1] 26)) d4
        clear d0 d1 d2 d3 d4
        by_cases he : x = y
        · have HS : Hid (sameB x y = true) := sameB_iff.2 he
          have HQ2 : Hid (∀ q, q < k + 1 → la.getD q dfl = lb.getD q dfl) := fun q hq => by
            by_cases e : q = k
            · subst e; rw [HGA.out.1, HGA.out.2]; exact he
            · exact HQ.out q (by omega)
          clear he hw
          go_wp2_with (go_at_call 14; refine (HX.out y _ _ A B _ (HR.out.later HAL.out) (HR'.out.later HAL.out)).mono ?_; rintro e w1 ⟨rfl, hB1⟩; rw [HS.out])
          go_roundw
          case rel => exact ⟨k + 1, by omega, by go_num, (HBW.out.trans (HAL.out.mono HBW.out.size)).trans (hB1.mono (by have := HBW.out.size; simp; omega)), HQ2.out⟩
          case measure => simp [intOf]; omega
        · have HS : Hid (sameB x y = false) := sameB_no he
          have HD : Hid (sameL la lb = false) := sameL_no (fun e => he (by rw [← HGA.out.1, ← HGA.out.2, e]))
          clear he hw
          go_wp2_with (go_at_call 14; refine (HX.out y _ _ A B _ (HR.out.later HAL.out) (HR'.out.later HAL.out)).mono ?_; rintro e w1 ⟨rfl, hB1⟩; rw [HS.out])
          go_ret
          exact ⟨ret_b HD.out.symm, (HBW.out.trans (HAL.out.mono HBW.out.size)).trans (hB1.mono (by have := HBW.out.size; simp; omega))⟩
      · have HD : Hid (sameL la lb = true) := sameL_iff.2 (getD_eq HLEN.out (fun q hq => HQ.out q (by omega)))
        have hki : decide ((k : Int) < (la.length : Int)) = false := by simp; omega
        go_wp2_with fail
        go_ret
        exact ⟨ret_b HD.out.symm, hw⟩
end Go.Proofs.Ytmmcnalhmpkkmaa
