import Derived.Test.YthpenliecgpedaaYah
import Derived.Test.YthpenliecgpedaaYae
import Derived.Test.YthpenliecgpedaaProg
import Derived.ProofKit
import Derived.OpenShut
import Derived.Deep.Slices
import Derived.Test.YthpenliecgpedaaYag
import Derived.Test.YthpenliecgpedaaYal
import Derived.Test.YthpenliecgpedaaYab
import Derived.BigQuiet
import Derived.Deep.RegionWith
import Derived.Test.YthpenliecgpedaaYaj
import Derived.Test.YthpenliecgpedaaYam
import Derived.Deep.RegionHeld3
import Derived.Laws.LoneSync
import Derived.Test.YthpenliecgpedaaYTk
namespace Go.Proofs.Ythpenliecgpedaa
open Go.RowKit
set_option linter.unusedSimpArgs false
def sesB (n : Int) : Bool := inB 0 n 2
structure QuP (q : List Int) : Prop where
  len : 1 ≤ q.length ∧ q.length ≤ 3
  ses : ∀ m (h : m < q.length), sesB q[m] = true
  once : ∀ m (h : m < q.length) j (hj : j < m), q[j] ≠ q[m]
structure LksP (l : List LkV) : Prop where
  len : l.length ≤ 6
  nam : ∀ k (h : k < l.length), nameB l[k].nm = true
  que : ∀ k (h : k < l.length), QuP l[k].qu
  up : ∀ i (h : i + 1 < l.length), Op.bytesLess l[i].nm l[i + 1].nm = true
noncomputable def lksB (l : List LkV) : Bool := @decide (LksP l) (Classical.propDecidable _)
theorem lks_yes {l : List LkV} (h : LksP l) : lksB l = true := @decide_eq_true _ (Classical.propDecidable _) h
theorem lks_no {l : List LkV} (h : ¬ LksP l) : lksB l = false := @decide_eq_false _ (Classical.propDecidable _) h
theorem lks_of {l : List LkV} (h : lksB l = true) : LksP l := @of_decide_eq_true _ (Classical.propDecidable _) h
theorem ses_in {n : Int} (h : sesB n = true) : 0 ≤ n ∧ n ≤ 2 := by unfold sesB inB at h; simpa using h
theorem le_lock {l : List LkV} (h : (dLockS l).le maxLen) {k : Nat} (hk : k < l.length) : l[k].nm.length ≤ maxLen ∧ (dIntS l[k].qu).le maxLen := ⟨(Ls_le.1 h).2.2 k hk 0 (by omega), (Ls_le.1 h).2.2 k hk 1 (by omega)⟩
theorem lockAt {l : List LkV} {a : Option Addr} {c : Nat} {B : Nat → Prop} {w : World} (h : Rd w B (dLockS l) (.slice a l.length c)) {k : Nat} (hk : k < l.length) : ∃ b off qa qc, a = some ⟨b, off, none⟩ ∧ B b ∧ Rd w B (dIntS l[k].qu) (.slice qa l[k].qu.length qc) ∧
    ∀ W, Below w.heap.size w W → W.cell? ⟨b, off + k * 2, none⟩ = some (.string ⟨l[k].nm.toArray⟩) ∧ W.cell? ⟨b, off + k * 2 + 1, none⟩ = some (.slice qa l[k].qu.length qc) := by
  have hR : ∀ W, Below w.heap.size w W → Rd W B (Ls 2 dLock l) (.slice a l.length c) := fun W hW => Rd.later h hW
  obtain ⟨b, off, rfl, hb, hc⟩ := Rd.things h k hk
  obtain ⟨u1, c1, r1⟩ := hc 1 (by omega)
  replace r1 : Rd w B (dIntS l[k].qu) u1 := r1
  obtain ⟨qa, qc, rfl⟩ := r1.lsSlice
  refine ⟨b, off, qa, qc, rfl, hb, r1, fun W hW => ?_⟩
  obtain ⟨u0, c0, r0⟩ := hc 0 (by omega)
  obtain rfl : u0 = .string ⟨l[k].nm.toArray⟩ := r0
  rw [Nat.add_zero] at c0
  exact ⟨by rw [hW.cell (p := ⟨b, off + k * 2, none⟩) (World.block_lt_of_cell? _ _ c0)]; exact c0, by rw [hW.cell (p := ⟨b, off + k * 2 + 1, none⟩) (World.block_lt_of_cell? _ _ c1)]; exact c1⟩
theorem intAt {l : List Int} {a : Option Addr} {c : Nat} {B : Nat → Prop} {w : World} (h : Rd w B (dIntS l) (.slice a l.length c)) {k : Nat} (hk : k < l.length) : ∃ b off, a = some ⟨b, off, none⟩ ∧ B b ∧ ∀ m (hm : m < l.length) W, Below w.heap.size w W → W.cell? ⟨b, off + m, none⟩ = some (.int .i64 l[m]) := by
  obtain ⟨b, off, rfl, hb, -⟩ := Rd.things h k hk
  refine ⟨b, off, rfl, hb, fun m hm W hW => ?_⟩
  obtain ⟨u, hu, r⟩ := Rd.spotT h hm (j := 0) (by omega)
  obtain rfl : u = .int .i64 l[m] := r
  rw [Nat.add_zero, Nat.mul_one] at hu
  rw [hW.cell (p := ⟨b, off + m, none⟩) (World.block_lt_of_cell? _ _ hu)]; exact hu
theorem sesS (n : Int) (w : World) : Calls Try.prog 52 #[.int .i64 n] w fun e w' => e = .returned (.bool (sesB n)) ∧ w' = w := by
  have HC : Hid (inB 0 n 2 = sesB n) := rfl
  generalize sesB n = r at *
  go_enter Try.func52, Try.ntmps52
  go_wp2_with (go_at_call 74; refine (inS _ _ _ _).mono ?_; rintro e w' ⟨rfl, rfl⟩; rw [HC.out])
  go_ret
  exact ⟨rfl, rfl⟩
theorem sesI (n : Int) (w : World) : Calls Try.prog 43 #[.int .i64 n] w fun e w' => e = .returned (.bool (sesB n)) ∧ w' = w := by
  by_cases h0 : 0 ≤ n
  case neg =>
    have HR : Hid (sesB n = false) := by show sesB n = false; unfold sesB inB; simp; omega
    have d0 : decide (0 ≤ n) = false := decide_eq_false h0
    clear h0
    go_enter Try.func43, Try.ntmps43
    go_wp2_with fail
    go_ret
    exact ⟨ret_b HR.out.symm, rfl⟩
  have d0 : decide (0 ≤ n) = true := decide_eq_true h0
  by_cases h3 : n < 3
  · have HR : Hid (sesB n = true) := by show sesB n = true; unfold sesB inB; simp; omega
    have d3 : decide (n < 3) = true := decide_eq_true h3
    clear h3 h0
    go_enter Try.func43, Try.ntmps43
    go_wp2_with fail
    go_ret
    exact ⟨ret_b HR.out.symm, rfl⟩
  · have HR : Hid (sesB n = false) := by show sesB n = false; unfold sesB inB; simp; omega
    have d3 : decide (n < 3) = false := decide_eq_false h3
    clear h3 h0
    go_enter Try.func43, Try.ntmps43
    go_wp2_with fail
    go_ret
    exact ⟨ret_b HR.out.symm, rfl⟩
def inK (l : List Int) (k : Nat) (n : Int) : Bool := decide (n ∈ l.take k)
theorem inK_no {l : List Int} {k : Nat} {n : Int} (hk : k ≤ l.length) (h : ∀ m (hm : m < l.length), m < k → l[m] ≠ n) : inK l k n = false := by
  unfold inK
  refine decide_eq_false fun hc => ?_
  obtain ⟨m, hm, rfl⟩ := List.getElem_of_mem hc
  rw [List.length_take] at hm
  exact h m (by omega) (by omega) (List.getElem_take ..).symm
theorem inK_yes {l : List Int} {k m : Nat} {n : Int} (hm : m < l.length) (hk : m < k) (h : l[m] = n) : inK l k n = true := by
  unfold inK
  refine decide_eq_true ?_
  subst h
  exact List.mem_iff_getElem.2 ⟨m, by rw [List.length_take]; omega, List.getElem_take ..⟩
theorem inK_of {l : List Int} {k : Nat} {n : Int} (h : inK l k n = true) : ∃ m, ∃ hm : m < l.length, m < k ∧ l[m] = n := by
  unfold inK at h
  obtain ⟨m, hm, e⟩ := List.getElem_of_mem (of_decide_eq_true h)
  rw [List.length_take] at hm
  exact ⟨m, by omega, by omega, by rw [← e, List.getElem_take]⟩
theorem inK_not {l : List Int} {k : Nat} {n : Int} (h : inK l k n = false) {m : Nat} (hm : m < l.length) (hk : m < k) : l[m] ≠ n := fun e => by rw [inK_yes hm hk e] at h; cases h
set_option maxRecDepth 100000 in
set_option maxHeartbeats 3200000 in
theorem inIntS (l : List Int) (z : Nat) (n : Int) (a : Option Addr) (c : Nat) (B : Nat → Prop) (w : World) (hl : l.length ≤ maxLen) (hz : z ≤ l.length) (hA : Rd w B (dIntS l) (.slice a l.length c)) :
    Calls Try.prog 55 #[.slice a z c, .int .i64 n] w fun e w' => e = .returned (.bool (inK l z n)) ∧ w' = w := by
  unfold maxLen at hl
  have HA : Hid (Rd w B (dIntS l) (.slice a l.length c)) := hA
  clear hA
  go_enter Try.func55, Try.ntmps55
  go_wp2_with fail
  go_loopw [5] (fun i wr => ∃ k : Nat, k ≤ z ∧ i = .int .i64 k ∧ Hid ((∀ m (h : m < l.length), m < k → l[m] ≠ n) ∧ wr = w)) (fun i _ => z - (intOf i).toNat)
  case atStart => exact ⟨0, Nat.zero_le _, rfl, fun m _ h => absurd h (by omega), rfl⟩
  case round =>
    obtain ⟨k, hk, rfl, HW⟩ := hrel
    obtain rfl := HW.out.2
    by_cases hlt : k < z
    case neg =>
      have hki : decide ((k : Int) < (z : Int)) = false := by simp; omega
      have HR : Hid (inK l z n = false) := inK_no hz (fun m h hm => HW.out.1 m h (by omega))
      go_wp2_with fail
      go_ret
      exact ⟨ret_b HR.out.symm, rfl⟩
    have hki : (k : Int) < (z : Int) := by omega
    obtain ⟨b, off, rfl, -, hc⟩ := intAt HA.out (k := k) (by omega)
    have c0 := hc k (by omega) _ (Below.refl _ _)
    clear hc
    cases he : (l[k]'(by omega) == n)
    case true =>
      have HR : Hid (inK l z n = true) := inK_yes (by omega) hlt (by simpa using he)
      clear HW HA
      generalize l[k]'(by omega) = x at *
      go_wp2_with fail
      go_ret
      exact ⟨ret_b HR.out.symm, rfl⟩
    case false =>
      have HN : Hid (∀ m (h : m < l.length), m < k + 1 → l[m] ≠ n) := fun m h hm => by
        by_cases e : m = k
        · subst e; simpa using he
        · exact HW.out.1 m h (by omega)
      clear HW
      generalize l[k]'(by omega) = x at *
      go_wp2_with fail
      go_roundw
      case rel => exact ⟨k + 1, by omega, by go_num, HN.out, by first | rfl | trivial⟩
      case measure => simp [intOf]; omega
def DonL (l : List LkV) (i : Nat) : Prop := (∀ k (h : k < l.length), k < i → nameB l[k].nm = true ∧ QuP l[k].qu) ∧ ∀ m (h : m + 1 < l.length), m + 1 < i → Op.bytesLess l[m].nm l[m + 1].nm = true
set_option maxRecDepth 100000 in
set_option maxHeartbeats 12800000 in
theorem locksS (l : List LkV) (a : Option Addr) (c : Nat) (B : Nat → Prop) (w : World) (ho : (dLockS l).le maxLen) (hS : Rd w B (dLockS l) (.slice a l.length c)) :
    Calls Try.prog 51 #[.slice a l.length c] w fun e w' => e = .returned (.bool (lksB l)) ∧ Below w.heap.size w w' := by
  have hl : l.length ≤ maxLen := (Ls_le.1 ho).2.1
  unfold maxLen at hl
  have HO := Lib.hid ho
  have HS : Hid (∀ W, Below w.heap.size w W → Rd W B (dLockS l) (.slice a l.length c)) := fun W h => Rd.later hS h
  clear ho hS
  by_cases h4 : 4096 < l.length
  case pos =>
    have HR : Hid (lksB l = false) := lks_no (fun h => by have := h.len; omega)
    have hd : decide (4096 < (l.length : Int)) = true := decide_eq_true (by omega)
    clear h4
    go_enter Try.func51, Try.ntmps51
    go_wp2_with fail
    go_ret
    exact ⟨ret_b HR.out.symm, Below.refl _ _⟩
  have hd : decide (4096 < (l.length : Int)) = false := decide_eq_false (by omega)
  clear h4
  go_enter Try.func51, Try.ntmps51
  go_wp2_with fail
  clear hd
  go_loopw [3] (fun i wr => ∃ k : Nat, k ≤ l.length ∧ i = .int .i64 k ∧ Hid (DonL l k ∧ Below w.heap.size w wr)) (fun i _ => l.length - (intOf i).toNat)
  case atStart => exact ⟨0, Nat.zero_le _, rfl, ⟨fun k _ h => absurd h (by omega), fun m _ h => absurd h (by omega)⟩, Below.refl _ _⟩
  case round =>
    obtain ⟨k, hk, rfl, HW⟩ := hrel
    by_cases hlt : k < l.length
    case neg =>
      have hki : decide ((k : Int) < (l.length : Int)) = false := by simp; omega
      by_cases h6 : l.length ≤ 6
      · have h6d : decide ((l.length : Int) ≤ 6) = true := decide_eq_true (by omega)
        have HR : Hid (lksB l = true) := lks_yes ⟨h6, fun m h => (HW.out.1.1 m h (by omega)).1, fun m h => (HW.out.1.1 m h (by omega)).2, fun m h => HW.out.1.2 m h (by omega)⟩
        clear h6
        go_wp2_with fail
        go_ret
        exact ⟨ret_b HR.out.symm, HW.out.2⟩
      · have h6d : decide ((l.length : Int) ≤ 6) = false := decide_eq_false (by omega)
        have HR : Hid (lksB l = false) := lks_no (fun h => h6 h.len)
        clear h6
        go_wp2_with fail
        go_ret
        exact ⟨ret_b HR.out.symm, HW.out.2⟩
    have hki : (k : Int) < (l.length : Int) := by omega
    obtain ⟨b, off, qa, qc, rfl, -, hq, hc⟩ := lockAt (HS.out _ HW.out.2) hlt
    have HQ := Lib.hid hq
    have HC := Lib.hid hc
    have HNL := Lib.hid (le_lock HO.out hlt)
    have hql : l[k].qu.length ≤ maxLen := (Ls_le.1 (le_lock HO.out hlt).2).2.1
    unfold maxLen at hql
    clear hq hc
    cases hnm : nameB l[k].nm
    case false =>
      have HR : Hid (lksB l = false) := lks_no (fun h => by have := h.nam k hlt; rw [hnm] at this; cases this)
      have CE : Hid (∀ W, Below wr.heap.size wr W → W.cell? ⟨b, off + k * 2, none⟩ = some (.string ⟨l[k].nm.toArray⟩) ∧ W.cell? ⟨b, off + k * 2 + 1, none⟩ = some (.slice qa l[k].qu.length qc)) := fun W h => HC.out W h
      have HNX : Hid (l[k].nm.length ≤ maxLen) := HNL.out.1
      have HBW : Hid (Below w.heap.size w wr) := HW.out.2
      clear HC HNL HQ HW
      generalize l[k] = x at *
      go_wp2_with fail
      refine wp_region_held_drew (S := (fun W => W.cell? ⟨b, off + k * 2, none⟩ = some (.string ⟨x.nm.toArray⟩) ∧ W.cell? ⟨b, off + k * 2 + 1, none⟩ = some (.slice qa x.qu.length qc))) (by kernel_rfl) ?_ (fun hHeld => ?_)
      · (first | exact CE.out _ (Below.refl _ _) | exact CE.out _ (Below.refl _ _).drew)
      refine tkB (i := 0) ?_
      refine tkB (i := 1) ?_
      refine tkB (i := 2) ?_
      refine tkB (i := 3) ?_
      refine tkB (i := 4) ?_
      refine tkR (i := 5) (fun K hK => ?_)
      go_simp
      (go_at_call 53; (with_reducible refine (nameS _ _ HNX.out).mono ?_); rintro e w1 ⟨rfl, rfl⟩; rw [hnm])
      refine hK.out _ _ ?_ (fun hHeld => ?_)
      · (first | exact CE.out _ (Below.refl _ _) | exact CE.out _ (Below.refl _ _).drew)
      clear hK K
      try simp only [Act.put, tkS]
      refine tkB (i := 6) ?_
      refine tkB (i := 7) ?_
      refine tkV (i := 8) ?_
      refine tkV (i := 9) ?_
      refine tkV (i := 10) ?_
      refine tkV (i := 11) ?_
      refine tkV (i := 12) ?_
      refine tkV (i := 13) ?_
      refine tkV (i := 14) ?_
      refine tkV (i := 15) ?_
      refine tkV (i := 16) ?_
      refine tkV (i := 17) ?_
      refine tkV (i := 18) ?_
      refine tkV (i := 19) ?_
      refine tkV (i := 20) ?_
      refine tkV (i := 21) ?_
      refine tkV (i := 22) ?_
      refine tkV (i := 23) ?_
      refine tkB (i := 24) ?_
      refine tkB (i := 25) ?_
      refine tkV (i := 26) ?_
      refine tkV (i := 27) ?_
      refine tkV (i := 28) ?_
      refine tkV (i := 29) ?_
      refine tkV (i := 30) ?_
      refine tkV (i := 31) ?_
      refine tkV (i := 32) ?_
      refine tkV (i := 33) ?_
      refine tkB (i := 34) ?_
      refine wpAnyH_done (by kernel_rfl) ?_ _
      go_wp2_with fail
      go_ret
      exact ⟨ret_b HR.out.symm, by first | exact HBW.out | exact HBW.out.drew⟩
    have HNM := Lib.hid hnm
    by_cases hup : 0 < k ∧ ∀ m (h : m + 1 = k), Op.bytesLess (l[m]'(by omega)).nm l[k].nm = false
    case pos =>
      obtain ⟨m, hm⟩ : ∃ m, k = m + 1 := ⟨k - 1, by omega⟩
      have hml : m < l.length := by omega
      have hbl : Op.bytesLess l[m].nm l[k].nm = false := hup.2 m hm.symm
      have HR : Hid (lksB l = false) := lks_no (fun h => by have h1 := h.up m (by omega); subst hm; rw [hbl] at h1; cases h1)
      obtain ⟨b', off', qa', qc', e', -, -, hc'⟩ := lockAt (HS.out _ HW.out.2) hml
      simp only [Option.some.injEq, Addr.mk.injEq, and_true] at e'
      obtain ⟨rfl, rfl⟩ := e'
      have CE : Hid (∀ W, Below wr.heap.size wr W → W.cell? ⟨b, off + k * 2, none⟩ = some (.string ⟨l[k].nm.toArray⟩) ∧ W.cell? ⟨b, off + k * 2 + 1, none⟩ = some (.slice qa l[k].qu.length qc) ∧ W.cell? ⟨b, off + m * 2, none⟩ = some (.string ⟨l[m].nm.toArray⟩)) := fun W h => ⟨(HC.out W h).1, (HC.out W h).2, (hc' W h).1⟩
      have HNX : Hid (l[k].nm.length ≤ maxLen) := HNL.out.1
      have HBW : Hid (Below w.heap.size w wr) := HW.out.2
      have hk0 : decide (0 < (k : Int)) = true := decide_eq_true (by omega)
      have hk0n : decide (0 < k) = true := decide_eq_true (by omega)
      have hkn : (0 : Int) < (k : Int) := by omega
      have hkm : (k : Int) - 1 = (m : Int) := by omega
      have hwm : IntKind.i64.wrap (m : Int) = (m : Int) := by rw [IntKind.wrap_i64]; omega
      have hm1 : (m : Int) < (l.length : Int) := by omega
      have hm0 : (0 : Int) ≤ (m : Int) := by omega
      clear HC HNL HQ HW hc' hup hm
      generalize l[k] = x at *
      generalize l[m] = y at *
      go_wp2_with fail
      refine wp_region_held_drew (S := (fun W => W.cell? ⟨b, off + k * 2, none⟩ = some (.string ⟨x.nm.toArray⟩) ∧ W.cell? ⟨b, off + k * 2 + 1, none⟩ = some (.slice qa x.qu.length qc) ∧ W.cell? ⟨b, off + m * 2, none⟩ = some (.string ⟨y.nm.toArray⟩))) (by kernel_rfl) ?_ (fun hHeld => ?_)
      · (first | exact CE.out _ (Below.refl _ _) | exact CE.out _ (Below.refl _ _).drew)
      refine tkB (i := 0) ?_
      refine tkB (i := 1) ?_
      refine tkB (i := 2) ?_
      refine tkB (i := 3) ?_
      refine tkB (i := 4) ?_
      refine tkR (i := 5) (fun K hK => ?_)
      go_simp
      (go_at_call 53; (with_reducible refine (nameS _ _ HNX.out).mono ?_); rintro e w1 ⟨rfl, rfl⟩; rw [hnm])
      refine hK.out _ _ ?_ (fun hHeld => ?_)
      · (first | exact CE.out _ (Below.refl _ _) | exact CE.out _ (Below.refl _ _).drew)
      clear hK K
      try simp only [Act.put, tkS]
      refine tkB (i := 6) ?_
      refine tkB (i := 7) ?_
      refine tkB (i := 8) ?_
      refine tkB (i := 9) ?_
      refine tkB (i := 10) ?_
      refine tkB (i := 11) ?_
      refine tkB (i := 12) ?_
      refine tkB (i := 13) ?_
      refine tkB (i := 14) ?_
      refine tkB (i := 15) ?_
      refine tkB (i := 16) ?_
      refine tkB (i := 17) ?_
      refine tkB (i := 18) ?_
      refine tkB (i := 19) ?_
      refine tkB (i := 20) ?_
      refine tkB (i := 21) ?_
      refine tkB (i := 22) ?_
      refine tkB (i := 23) ?_
      refine tkB (i := 24) ?_
      refine tkB (i := 25) ?_
      refine tkV (i := 26) ?_
      refine tkV (i := 27) ?_
      refine tkV (i := 28) ?_
      refine tkV (i := 29) ?_
      refine tkV (i := 30) ?_
      refine tkV (i := 31) ?_
      refine tkV (i := 32) ?_
      refine tkV (i := 33) ?_
      refine tkB (i := 34) ?_
      refine wpAnyH_done (by kernel_rfl) ?_ _
      go_wp2_with fail
      go_ret
      exact ⟨ret_b HR.out.symm, by first | exact HBW.out | exact HBW.out.drew⟩
    have HUP : Hid (∀ m (h : m + 1 < l.length), m + 1 < k + 1 → Op.bytesLess l[m].nm l[m + 1].nm = true) := fun m h hm => by
      by_cases e : m + 1 = k
      · subst e; cases hb : Op.bytesLess l[m].nm l[m + 1].nm
        · exact absurd ⟨Nat.succ_pos m, fun m' h' => by have e9 : m' = m := (by omega); subst e9; exact hb⟩ hup
        · rfl
      · exact HW.out.1.2 m h (by omega)
    have HND : Hid (∀ j (h : j < l.length), j < k → nameB l[j].nm = true ∧ QuP l[j].qu) := HW.out.1.1
    clear hup
    have HBW : Hid (Below w.heap.size w wr) := HW.out.2
    clear HW
    cases hib : inB 1 (l[k].qu.length : Int) 3
    case false =>
      have HR : Hid (lksB l = false) := lks_no (fun h => by have h1 := (h.que k hlt).len; unfold inB at hib; simp at hib; omega)
      have hq1 : IntKind.i64.wrap (l[k].qu.length : Int) = (l[k].qu.length : Int) := by rw [IntKind.wrap_i64]; omega
      rcases ((Nat.eq_zero_or_pos k).imp id (fun h => ⟨k - 1, by omega⟩) : k = 0 ∨ ∃ m, k = m + 1) with hk0 | ⟨m, hm⟩
      · have HK0 := Lib.hid hk0
        have hkd : decide (0 < (k : Int)) = false := decide_eq_false (by omega)
        have hkdn : decide (0 < k) = false := decide_eq_false (by omega)
        have hkn : ¬ (0 : Int) < (k : Int) := by omega
        have CE : Hid (∀ W, Below wr.heap.size wr W → W.cell? ⟨b, off + k * 2, none⟩ = some (.string ⟨l[k].nm.toArray⟩) ∧ W.cell? ⟨b, off + k * 2 + 1, none⟩ = some (.slice qa l[k].qu.length qc)) := fun W h => HC.out W h
        clear hk0
        have HNX : Hid (l[k].nm.length ≤ maxLen) := HNL.out.1
        clear HC HNL HQ HUP HND
        generalize l[k] = x at *
        go_wp2_with fail
        refine wp_region_held_drew (S := (fun W => W.cell? ⟨b, off + k * 2, none⟩ = some (.string ⟨x.nm.toArray⟩) ∧ W.cell? ⟨b, off + k * 2 + 1, none⟩ = some (.slice qa x.qu.length qc))) (by kernel_rfl) ?_ (fun hHeld => ?_)
        · (first | exact CE.out _ (Below.refl _ _) | exact CE.out _ (Below.refl _ _).drew)
        refine tkB (i := 0) ?_
        refine tkB (i := 1) ?_
        refine tkB (i := 2) ?_
        refine tkB (i := 3) ?_
        refine tkB (i := 4) ?_
        refine tkR (i := 5) (fun K hK => ?_)
        go_simp
        (go_at_call 53; (with_reducible refine (nameS _ _ HNX.out).mono ?_); rintro e w1 ⟨rfl, rfl⟩; rw [hnm])
        refine hK.out _ _ ?_ (fun hHeld => ?_)
        · (first | exact CE.out _ (Below.refl _ _) | exact CE.out _ (Below.refl _ _).drew)
        clear hK K
        try simp only [Act.put, tkS]
        refine tkB (i := 6) ?_
        refine tkB (i := 7) ?_
        refine tkB (i := 8) ?_
        refine tkB (i := 9) ?_
        refine tkB (i := 10) ?_
        refine tkV (i := 11) ?_
        refine tkV (i := 12) ?_
        refine tkV (i := 13) ?_
        refine tkV (i := 14) ?_
        refine tkV (i := 15) ?_
        refine tkV (i := 16) ?_
        refine tkV (i := 17) ?_
        refine tkV (i := 18) ?_
        refine tkV (i := 19) ?_
        refine tkV (i := 20) ?_
        refine tkV (i := 21) ?_
        refine tkV (i := 22) ?_
        refine tkB (i := 23) ?_
        refine tkB (i := 24) ?_
        refine tkB (i := 25) ?_
        refine tkB (i := 26) ?_
        refine tkB (i := 27) ?_
        refine tkB (i := 28) ?_
        refine tkB (i := 29) ?_
        refine tkB (i := 30) ?_
        refine tkB (i := 31) ?_
        refine tkR (i := 32) (fun K hK => ?_)
        go_simp
        (go_at_call 74; (with_reducible refine (inS _ _ _ _).mono ?_); rintro e w1 ⟨rfl, rfl⟩; rw [hib])
        refine hK.out _ _ ?_ (fun hHeld => ?_)
        · (first | exact CE.out _ (Below.refl _ _) | exact CE.out _ (Below.refl _ _).drew)
        clear hK K
        try simp only [Act.put, tkS]
        refine tkB (i := 33) ?_
        refine tkB (i := 34) ?_
        refine wpAnyH_done (by kernel_rfl) ?_ _
        go_wp2_with fail
        go_ret
        exact ⟨ret_b HR.out.symm, by first | exact HBW.out | exact HBW.out.drew⟩
      · have hml : m < l.length := by omega
        obtain ⟨b', off', qa', qc', e', -, -, hc'⟩ := lockAt (HS.out _ HBW.out) hml
        simp only [Option.some.injEq, Addr.mk.injEq, and_true] at e'
        obtain ⟨rfl, rfl⟩ := e'
        have CE : Hid (∀ W, Below wr.heap.size wr W → W.cell? ⟨b, off + k * 2, none⟩ = some (.string ⟨l[k].nm.toArray⟩) ∧ W.cell? ⟨b, off + k * 2 + 1, none⟩ = some (.slice qa l[k].qu.length qc) ∧ W.cell? ⟨b, off + m * 2, none⟩ = some (.string ⟨l[m].nm.toArray⟩)) := fun W h => ⟨(HC.out W h).1, (HC.out W h).2, (hc' W h).1⟩
        have hbl : Op.bytesLess l[m].nm l[k].nm = true := by have h1 := HUP.out m (by omega) (by omega); subst hm; exact h1
        have hkd : decide (0 < (k : Int)) = true := decide_eq_true (by omega)
        have hkdn : decide (0 < k) = true := decide_eq_true (by omega)
        have hkn : (0 : Int) < (k : Int) := by omega
        have hkm : (k : Int) - 1 = (m : Int) := by omega
        have hwm : IntKind.i64.wrap (m : Int) = (m : Int) := by rw [IntKind.wrap_i64]; omega
        have hm1 : (m : Int) < (l.length : Int) := by omega
        have hm0 : (0 : Int) ≤ (m : Int) := by omega
        clear hc' hm
        generalize l[m] = y at *
        have HNX : Hid (l[k].nm.length ≤ maxLen) := HNL.out.1
        clear HC HNL HQ HUP HND
        generalize l[k] = x at *
        go_wp2_with fail
        refine wp_region_held_drew (S := (fun W => W.cell? ⟨b, off + k * 2, none⟩ = some (.string ⟨x.nm.toArray⟩) ∧ W.cell? ⟨b, off + k * 2 + 1, none⟩ = some (.slice qa x.qu.length qc) ∧ W.cell? ⟨b, off + m * 2, none⟩ = some (.string ⟨y.nm.toArray⟩))) (by kernel_rfl) ?_ (fun hHeld => ?_)
        · (first | exact CE.out _ (Below.refl _ _) | exact CE.out _ (Below.refl _ _).drew)
        refine tkB (i := 0) ?_
        refine tkB (i := 1) ?_
        refine tkB (i := 2) ?_
        refine tkB (i := 3) ?_
        refine tkB (i := 4) ?_
        refine tkR (i := 5) (fun K hK => ?_)
        go_simp
        (go_at_call 53; (with_reducible refine (nameS _ _ HNX.out).mono ?_); rintro e w1 ⟨rfl, rfl⟩; rw [hnm])
        refine hK.out _ _ ?_ (fun hHeld => ?_)
        · (first | exact CE.out _ (Below.refl _ _) | exact CE.out _ (Below.refl _ _).drew)
        clear hK K
        try simp only [Act.put, tkS]
        refine tkB (i := 6) ?_
        refine tkB (i := 7) ?_
        refine tkB (i := 8) ?_
        refine tkB (i := 9) ?_
        refine tkB (i := 10) ?_
        refine tkB (i := 11) ?_
        refine tkB (i := 12) ?_
        refine tkB (i := 13) ?_
        refine tkB (i := 14) ?_
        refine tkB (i := 15) ?_
        refine tkB (i := 16) ?_
        refine tkB (i := 17) ?_
        refine tkB (i := 18) ?_
        refine tkB (i := 19) ?_
        refine tkB (i := 20) ?_
        refine tkB (i := 21) ?_
        refine tkB (i := 22) ?_
        refine tkB (i := 23) ?_
        refine tkB (i := 24) ?_
        refine tkB (i := 25) ?_
        refine tkB (i := 26) ?_
        refine tkB (i := 27) ?_
        refine tkB (i := 28) ?_
        refine tkB (i := 29) ?_
        refine tkB (i := 30) ?_
        refine tkB (i := 31) ?_
        refine tkR (i := 32) (fun K hK => ?_)
        go_simp
        (go_at_call 74; (with_reducible refine (inS _ _ _ _).mono ?_); rintro e w1 ⟨rfl, rfl⟩; rw [hib])
        refine hK.out _ _ ?_ (fun hHeld => ?_)
        · (first | exact CE.out _ (Below.refl _ _) | exact CE.out _ (Below.refl _ _).drew)
        clear hK K
        try simp only [Act.put, tkS]
        refine tkB (i := 33) ?_
        refine tkB (i := 34) ?_
        refine wpAnyH_done (by kernel_rfl) ?_ _
        go_wp2_with fail
        go_ret
        exact ⟨ret_b HR.out.symm, by first | exact HBW.out | exact HBW.out.drew⟩
    case true =>
      have HIB : Hid (1 ≤ l[k].qu.length ∧ l[k].qu.length ≤ 3) := by unfold inB at hib; simp at hib; show _ ∧ _; omega
      have hq1 : IntKind.i64.wrap (l[k].qu.length : Int) = (l[k].qu.length : Int) := by rw [IntKind.wrap_i64]; omega
      rcases ((Nat.eq_zero_or_pos k).imp id (fun h => ⟨k - 1, by omega⟩) : k = 0 ∨ ∃ m, k = m + 1) with hk0 | ⟨m, hm⟩
      · have HK0 := Lib.hid hk0
        have hkd : decide (0 < (k : Int)) = false := decide_eq_false (by omega)
        have hkdn : decide (0 < k) = false := decide_eq_false (by omega)
        have hkn : ¬ (0 : Int) < (k : Int) := by omega
        have CE : Hid (∀ W, Below wr.heap.size wr W → W.cell? ⟨b, off + k * 2, none⟩ = some (.string ⟨l[k].nm.toArray⟩) ∧ W.cell? ⟨b, off + k * 2 + 1, none⟩ = some (.slice qa l[k].qu.length qc)) := fun W h => HC.out W h
        clear hk0
        have HNX : Hid (l[k].nm.length ≤ maxLen) := HNL.out.1
        have HNQ : Hid (QuP l[k].qu → DonL l (k + 1)) := fun hq => ⟨fun j h hj => by
          by_cases e : j = k
          · subst e; exact ⟨HNM.out, hq⟩
          · exact HND.out j h (by omega), HUP.out⟩
        have HQN : Hid (¬ QuP l[k].qu → lksB l = false) := fun hq => lks_no (fun h => hq (h.que k hlt))
        clear HC HNL HUP HND HNM
        generalize l[k] = x at *
        go_wp2_with fail
        refine wp_region_held_drew (S := (fun W => W.cell? ⟨b, off + k * 2, none⟩ = some (.string ⟨x.nm.toArray⟩) ∧ W.cell? ⟨b, off + k * 2 + 1, none⟩ = some (.slice qa x.qu.length qc))) (by kernel_rfl) ?_ (fun hHeld => ?_)
        · (first | exact CE.out _ (Below.refl _ _) | exact CE.out _ (Below.refl _ _).drew)
        refine tkB (i := 0) ?_
        refine tkB (i := 1) ?_
        refine tkB (i := 2) ?_
        refine tkB (i := 3) ?_
        refine tkB (i := 4) ?_
        refine tkR (i := 5) (fun K hK => ?_)
        go_simp
        (go_at_call 53; (with_reducible refine (nameS _ _ HNX.out).mono ?_); rintro e w1 ⟨rfl, rfl⟩; rw [hnm])
        refine hK.out _ _ ?_ (fun hHeld => ?_)
        · (first | exact CE.out _ (Below.refl _ _) | exact CE.out _ (Below.refl _ _).drew)
        clear hK K
        try simp only [Act.put, tkS]
        refine tkB (i := 6) ?_
        refine tkB (i := 7) ?_
        refine tkB (i := 8) ?_
        refine tkB (i := 9) ?_
        refine tkB (i := 10) ?_
        refine tkV (i := 11) ?_
        refine tkV (i := 12) ?_
        refine tkV (i := 13) ?_
        refine tkV (i := 14) ?_
        refine tkV (i := 15) ?_
        refine tkV (i := 16) ?_
        refine tkV (i := 17) ?_
        refine tkV (i := 18) ?_
        refine tkV (i := 19) ?_
        refine tkV (i := 20) ?_
        refine tkV (i := 21) ?_
        refine tkV (i := 22) ?_
        refine tkB (i := 23) ?_
        refine tkB (i := 24) ?_
        refine tkB (i := 25) ?_
        refine tkB (i := 26) ?_
        refine tkB (i := 27) ?_
        refine tkB (i := 28) ?_
        refine tkB (i := 29) ?_
        refine tkB (i := 30) ?_
        refine tkB (i := 31) ?_
        refine tkR (i := 32) (fun K hK => ?_)
        go_simp
        (go_at_call 74; (with_reducible refine (inS _ _ _ _).mono ?_); rintro e w1 ⟨rfl, rfl⟩; rw [hib])
        refine hK.out _ _ ?_ (fun hHeld => ?_)
        · (first | exact CE.out _ (Below.refl _ _) | exact CE.out _ (Below.refl _ _).drew)
        clear hK K
        try simp only [Act.put, tkS]
        refine tkB (i := 33) ?_
        refine tkB (i := 34) ?_
        refine wpAnyH_done (by kernel_rfl) ?_ _
        have HBD : Hid (Below wr.heap.size wr wr.drew) := (Below.refl _ _).drew
        go_wp2_with fail
        generalize wr = wo at *
        go_loopw [4] (fun i wr => ∃ m : Nat, m ≤ x.qu.length ∧ i = .int .i64 m ∧ Hid ((∀ j (h : j < x.qu.length), j < m → sesB x.qu[j] = true ∧ inK x.qu j x.qu[j] = false) ∧ Below wo.heap.size wo wr)) (fun i _ => x.qu.length - (intOf i).toNat)
        case atStart => exact ⟨0, Nat.zero_le _, rfl, fun j _ h => absurd h (by omega), HBD.out⟩
        case round =>
          obtain ⟨n, hn, rfl, HV⟩ := hrel
          have c1 := (CE.out _ HV.out.2).2
          by_cases hnl : n < x.qu.length
          case neg =>
            have hnd : decide ((n : Int) < (x.qu.length : Int)) = false := by simp; omega
            have HN := Lib.hid (HNQ.out ⟨HIB.out, fun j h => (HV.out.1 j h (by omega)).1, fun j h i hi e => by have h1 := (HV.out.1 j h (by omega)).2; rw [inK_yes (m := i) (by omega) hi e] at h1; cases h1⟩)
            clear HNQ HQN HIB
            go_wp2_with fail
            go_roundw
            case rel => exact ⟨k + 1, by omega, by go_num, HN.out, HBW.out.trans (HV.out.2.mono HBW.out.size)⟩
            case measure => simp [intOf]; omega
          have hni : (n : Int) < (x.qu.length : Int) := by omega
          have hqc : x.qu.length ≤ qc := Rd.room HQ.out
          have hnc : n ≤ qc := by omega
          have hnci : (n : Int) ≤ (qc : Int) := by omega
          clear hqc
          have hn0 : (0 : Int) ≤ (n : Int) := by omega
          have hnl2 : (n : Int) ≤ (x.qu.length : Int) := by omega
          obtain ⟨g, o, rfl, -, hcq⟩ := intAt HQ.out hnl
          have CQ : Hid (∀ W, Below wr.heap.size wr W → W.cell? ⟨b, off + k * 2 + 1, none⟩ = some (.slice (some ⟨g, o, none⟩) x.qu.length qc) ∧ W.cell? ⟨g, o + n, none⟩ = some (.int .i64 x.qu[n])) := fun W h => ⟨(CE.out _ (HV.out.2.trans (h.mono HV.out.2.size))).2, hcq n hnl _ (HV.out.2.trans (h.mono HV.out.2.size))⟩
          have CN : Hid (∀ W, Below wr.heap.size wr W → Calls Try.prog 55 #[.slice (some ⟨g, o, none⟩) n qc, .int .i64 x.qu[n]] W fun e w' => e = .returned (.bool (inK x.qu n x.qu[n])) ∧ w' = W) := fun W h => inIntS x.qu n x.qu[n] (some ⟨g, o, none⟩) qc B W (by unfold maxLen; omega) (by omega) ((HQ.out.later HV.out.2).later h)
          clear hcq c1
          cases hse : sesB x.qu[n]
          case false =>
            have HR := Lib.hid (HQN.out (fun h => by have h1 := h.ses n hnl; rw [hse] at h1; cases h1))
            have HBF := Lib.hid (HBW.out.trans (HV.out.2.mono HBW.out.size))
            have c1 := (CQ.out _ (Below.refl _ _)).1
            clear HNQ HQN HIB HV HQ CN CE
            generalize x.qu[n] = u at *
            go_wp2_with fail
            refine wp_region_held_drew (S := (fun W => W.cell? ⟨b, off + k * 2 + 1, none⟩ = some (.slice (some ⟨g, o, none⟩) x.qu.length qc) ∧ W.cell? ⟨g, o + n, none⟩ = some (.int .i64 u))) (by kernel_rfl) ?_ (fun hHeld => ?_)
            · (first | exact CQ.out _ (Below.refl _ _) | exact CQ.out _ (Below.refl _ _).drew)
            refine tkB (i := 0) ?_
            refine tkB (i := 1) ?_
            refine tkB (i := 2) ?_
            refine tkB (i := 3) ?_
            refine tkB (i := 4) ?_
            refine tkB (i := 5) ?_
            refine tkB (i := 6) ?_
            refine tkB (i := 7) ?_
            refine tkR (i := 8) (fun K hK => ?_)
            go_simp
            (go_at_call 52; (with_reducible refine (sesS _ _).mono ?_); rintro e w1 ⟨rfl, rfl⟩; rw [hse])
            refine hK.out _ _ ?_ (fun hHeld => ?_)
            · (first | exact CQ.out _ (Below.refl _ _) | exact CQ.out _ (Below.refl _ _).drew)
            clear hK K
            try simp only [Act.put, tkS]
            refine tkB (i := 9) ?_
            refine tkB (i := 10) ?_
            refine tkV (i := 11) ?_
            refine tkV (i := 12) ?_
            refine tkV (i := 13) ?_
            refine tkV (i := 14) ?_
            refine tkV (i := 15) ?_
            refine tkV (i := 16) ?_
            refine tkV (i := 17) ?_
            refine tkV (i := 18) ?_
            refine tkV (i := 19) ?_
            refine tkV (i := 20) ?_
            refine tkV (i := 21) ?_
            refine tkV (i := 22) ?_
            refine tkV (i := 23) ?_
            refine tkV (i := 24) ?_
            refine tkV (i := 25) ?_
            refine tkV (i := 26) ?_
            refine tkB (i := 27) ?_
            refine wpAnyH_done (by kernel_rfl) ?_ _
            go_wp2_with fail
            go_ret
            exact ⟨ret_b HR.out.symm, by first | exact HBF.out | exact HBF.out.drew⟩
          have HSE := Lib.hid hse
          cases hin : inK x.qu n x.qu[n]
          case true =>
            have HR := Lib.hid (HQN.out (fun h => by obtain ⟨m', hm', hlt', e'⟩ := inK_of hin; exact h.once n hnl m' hlt' e'))
            have HBF := Lib.hid (HBW.out.trans (HV.out.2.mono HBW.out.size))
            rw [hin] at CN
            have c1 := (CQ.out _ (Below.refl _ _)).1
            clear HNQ HQN HIB HV HQ CE HSE hin
            generalize x.qu[n] = u at *
            go_wp2_with fail
            refine wp_region_held_drew (S := (fun W => W.cell? ⟨b, off + k * 2 + 1, none⟩ = some (.slice (some ⟨g, o, none⟩) x.qu.length qc) ∧ W.cell? ⟨g, o + n, none⟩ = some (.int .i64 u))) (by kernel_rfl) ?_ (fun hHeld => ?_)
            · (first | exact CQ.out _ (Below.refl _ _) | exact CQ.out _ (Below.refl _ _).drew)
            refine tkB (i := 0) ?_
            refine tkB (i := 1) ?_
            refine tkB (i := 2) ?_
            refine tkB (i := 3) ?_
            refine tkB (i := 4) ?_
            refine tkB (i := 5) ?_
            refine tkB (i := 6) ?_
            refine tkB (i := 7) ?_
            refine tkR (i := 8) (fun K hK => ?_)
            go_simp
            (go_at_call 52; (with_reducible refine (sesS _ _).mono ?_); rintro e w1 ⟨rfl, rfl⟩; rw [hse])
            refine hK.out _ _ ?_ (fun hHeld => ?_)
            · (first | exact CQ.out _ (Below.refl _ _) | exact CQ.out _ (Below.refl _ _).drew)
            clear hK K
            try simp only [Act.put, tkS]
            refine tkB (i := 9) ?_
            refine tkB (i := 10) ?_
            refine tkB (i := 11) ?_
            refine tkB (i := 12) ?_
            refine tkB (i := 13) ?_
            refine tkB (i := 14) ?_
            refine tkB (i := 15) ?_
            refine tkB (i := 16) ?_
            refine tkB (i := 17) ?_
            refine tkB (i := 18) ?_
            refine tkB (i := 19) ?_
            refine tkB (i := 20) ?_
            refine tkB (i := 21) ?_
            refine tkB (i := 22) ?_
            refine tkB (i := 23) ?_
            refine tkB (i := 24) ?_
            refine tkB (i := 25) ?_
            refine tkR (i := 26) (fun K hK => ?_)
            go_simp
            (go_at_call 55; (with_reducible refine (CN.out _ ?_).mono ?_); (first | exact Below.refl _ _ | exact (Below.refl _ _).drew); rintro e w1 ⟨rfl, rfl⟩)
            refine hK.out _ _ ?_ (fun hHeld => ?_)
            · (first | exact CQ.out _ (Below.refl _ _) | exact CQ.out _ (Below.refl _ _).drew)
            clear hK K
            try simp only [Act.put, tkS]
            refine tkB (i := 27) ?_
            refine wpAnyH_done (by kernel_rfl) ?_ _
            go_wp2_with fail
            go_ret
            exact ⟨ret_b HR.out.symm, by first | exact HBF.out | exact HBF.out.drew⟩
          have HNN : Hid (∀ j (h : j < x.qu.length), j < n + 1 → sesB x.qu[j] = true ∧ inK x.qu j x.qu[j] = false) := fun j h hj => by
            by_cases e : j = n
            · subst e; exact ⟨HSE.out, hin⟩
            · exact HV.out.1 j h (by omega)
          have HBV : Hid (Below wo.heap.size wo wr) := HV.out.2
          rw [hin] at CN
          have c1 := (CQ.out _ (Below.refl _ _)).1
          clear HV hin HSE
          generalize hu : x.qu[n] = u at *
          clear hu
          go_wp2_with fail
          refine wp_region_held_drew (S := (fun W => W.cell? ⟨b, off + k * 2 + 1, none⟩ = some (.slice (some ⟨g, o, none⟩) x.qu.length qc) ∧ W.cell? ⟨g, o + n, none⟩ = some (.int .i64 u))) (by kernel_rfl) ?_ (fun hHeld => ?_)
          · (first | exact CQ.out _ (Below.refl _ _) | exact CQ.out _ (Below.refl _ _).drew)
          refine tkB (i := 0) ?_
          refine tkB (i := 1) ?_
          refine tkB (i := 2) ?_
          refine tkB (i := 3) ?_
          refine tkB (i := 4) ?_
          refine tkB (i := 5) ?_
          refine tkB (i := 6) ?_
          refine tkB (i := 7) ?_
          refine tkR (i := 8) (fun K hK => ?_)
          go_simp
          (go_at_call 52; (with_reducible refine (sesS _ _).mono ?_); rintro e w1 ⟨rfl, rfl⟩; rw [hse])
          refine hK.out _ _ ?_ (fun hHeld => ?_)
          · (first | exact CQ.out _ (Below.refl _ _) | exact CQ.out _ (Below.refl _ _).drew)
          clear hK K
          try simp only [Act.put, tkS]
          refine tkB (i := 9) ?_
          refine tkB (i := 10) ?_
          refine tkB (i := 11) ?_
          refine tkB (i := 12) ?_
          refine tkB (i := 13) ?_
          refine tkB (i := 14) ?_
          refine tkB (i := 15) ?_
          refine tkB (i := 16) ?_
          refine tkB (i := 17) ?_
          refine tkB (i := 18) ?_
          refine tkB (i := 19) ?_
          refine tkB (i := 20) ?_
          refine tkB (i := 21) ?_
          refine tkB (i := 22) ?_
          refine tkB (i := 23) ?_
          refine tkB (i := 24) ?_
          refine tkB (i := 25) ?_
          refine tkR (i := 26) (fun K hK => ?_)
          go_simp
          (go_at_call 55; (with_reducible refine (CN.out _ ?_).mono ?_); (first | exact Below.refl _ _ | exact (Below.refl _ _).drew); rintro e w1 ⟨rfl, rfl⟩)
          refine hK.out _ _ ?_ (fun hHeld => ?_)
          · (first | exact CQ.out _ (Below.refl _ _) | exact CQ.out _ (Below.refl _ _).drew)
          clear hK K
          try simp only [Act.put, tkS]
          refine tkB (i := 27) ?_
          refine wpAnyH_done (by kernel_rfl) ?_ _
          go_wp2_with fail
          go_roundw
          case rel => exact ⟨n + 1, by omega, by go_num, HNN.out, by first | exact HBV.out | exact HBV.out.drew⟩
          case measure => simp [intOf]; omega
      · have hml : m < l.length := by omega
        obtain ⟨b', off', qa', qc', e', -, -, hc'⟩ := lockAt (HS.out _ HBW.out) hml
        simp only [Option.some.injEq, Addr.mk.injEq, and_true] at e'
        obtain ⟨rfl, rfl⟩ := e'
        have CE : Hid (∀ W, Below wr.heap.size wr W → W.cell? ⟨b, off + k * 2, none⟩ = some (.string ⟨l[k].nm.toArray⟩) ∧ W.cell? ⟨b, off + k * 2 + 1, none⟩ = some (.slice qa l[k].qu.length qc) ∧ W.cell? ⟨b, off + m * 2, none⟩ = some (.string ⟨l[m].nm.toArray⟩)) := fun W h => ⟨(HC.out W h).1, (HC.out W h).2, (hc' W h).1⟩
        have hbl : Op.bytesLess l[m].nm l[k].nm = true := by have h1 := HUP.out m (by omega) (by omega); subst hm; exact h1
        have hkd : decide (0 < (k : Int)) = true := decide_eq_true (by omega)
        have hkdn : decide (0 < k) = true := decide_eq_true (by omega)
        have hkn : (0 : Int) < (k : Int) := by omega
        have hkm : (k : Int) - 1 = (m : Int) := by omega
        have hwm : IntKind.i64.wrap (m : Int) = (m : Int) := by rw [IntKind.wrap_i64]; omega
        have hm1 : (m : Int) < (l.length : Int) := by omega
        have hm0 : (0 : Int) ≤ (m : Int) := by omega
        clear hc' hm
        generalize l[m] = y at *
        have HNX : Hid (l[k].nm.length ≤ maxLen) := HNL.out.1
        have HNQ : Hid (QuP l[k].qu → DonL l (k + 1)) := fun hq => ⟨fun j h hj => by
          by_cases e : j = k
          · subst e; exact ⟨HNM.out, hq⟩
          · exact HND.out j h (by omega), HUP.out⟩
        have HQN : Hid (¬ QuP l[k].qu → lksB l = false) := fun hq => lks_no (fun h => hq (h.que k hlt))
        clear HC HNL HUP HND HNM
        generalize l[k] = x at *
        go_wp2_with fail
        refine wp_region_held_drew (S := (fun W => W.cell? ⟨b, off + k * 2, none⟩ = some (.string ⟨x.nm.toArray⟩) ∧ W.cell? ⟨b, off + k * 2 + 1, none⟩ = some (.slice qa x.qu.length qc) ∧ W.cell? ⟨b, off + m * 2, none⟩ = some (.string ⟨y.nm.toArray⟩))) (by kernel_rfl) ?_ (fun hHeld => ?_)
        · (first | exact CE.out _ (Below.refl _ _) | exact CE.out _ (Below.refl _ _).drew)
        refine tkB (i := 0) ?_
        refine tkB (i := 1) ?_
        refine tkB (i := 2) ?_
        refine tkB (i := 3) ?_
        refine tkB (i := 4) ?_
        refine tkR (i := 5) (fun K hK => ?_)
        go_simp
        (go_at_call 53; (with_reducible refine (nameS _ _ HNX.out).mono ?_); rintro e w1 ⟨rfl, rfl⟩; rw [hnm])
        refine hK.out _ _ ?_ (fun hHeld => ?_)
        · (first | exact CE.out _ (Below.refl _ _) | exact CE.out _ (Below.refl _ _).drew)
        clear hK K
        try simp only [Act.put, tkS]
        refine tkB (i := 6) ?_
        refine tkB (i := 7) ?_
        refine tkB (i := 8) ?_
        refine tkB (i := 9) ?_
        refine tkB (i := 10) ?_
        refine tkB (i := 11) ?_
        refine tkB (i := 12) ?_
        refine tkB (i := 13) ?_
        refine tkB (i := 14) ?_
        refine tkB (i := 15) ?_
        refine tkB (i := 16) ?_
        refine tkB (i := 17) ?_
        refine tkB (i := 18) ?_
        refine tkB (i := 19) ?_
        refine tkB (i := 20) ?_
        refine tkB (i := 21) ?_
        refine tkB (i := 22) ?_
        refine tkB (i := 23) ?_
        refine tkB (i := 24) ?_
        refine tkB (i := 25) ?_
        refine tkB (i := 26) ?_
        refine tkB (i := 27) ?_
        refine tkB (i := 28) ?_
        refine tkB (i := 29) ?_
        refine tkB (i := 30) ?_
        refine tkB (i := 31) ?_
        refine tkR (i := 32) (fun K hK => ?_)
        go_simp
        (go_at_call 74; (with_reducible refine (inS _ _ _ _).mono ?_); rintro e w1 ⟨rfl, rfl⟩; rw [hib])
        refine hK.out _ _ ?_ (fun hHeld => ?_)
        · (first | exact CE.out _ (Below.refl _ _) | exact CE.out _ (Below.refl _ _).drew)
        clear hK K
        try simp only [Act.put, tkS]
        refine tkB (i := 33) ?_
        refine tkB (i := 34) ?_
        refine wpAnyH_done (by kernel_rfl) ?_ _
        have HBD : Hid (Below wr.heap.size wr wr.drew) := (Below.refl _ _).drew
        go_wp2_with fail
        generalize wr = wo at *
        go_loopw [4] (fun i wr => ∃ m : Nat, m ≤ x.qu.length ∧ i = .int .i64 m ∧ Hid ((∀ j (h : j < x.qu.length), j < m → sesB x.qu[j] = true ∧ inK x.qu j x.qu[j] = false) ∧ Below wo.heap.size wo wr)) (fun i _ => x.qu.length - (intOf i).toNat)
        case atStart => exact ⟨0, Nat.zero_le _, rfl, fun j _ h => absurd h (by omega), HBD.out⟩
        case round =>
          obtain ⟨n, hn, rfl, HV⟩ := hrel
          have c1 := (CE.out _ HV.out.2).2.1
          by_cases hnl : n < x.qu.length
          case neg =>
            have hnd : decide ((n : Int) < (x.qu.length : Int)) = false := by simp; omega
            have HN := Lib.hid (HNQ.out ⟨HIB.out, fun j h => (HV.out.1 j h (by omega)).1, fun j h i hi e => by have h1 := (HV.out.1 j h (by omega)).2; rw [inK_yes (m := i) (by omega) hi e] at h1; cases h1⟩)
            clear HNQ HQN HIB
            go_wp2_with fail
            go_roundw
            case rel => exact ⟨k + 1, by omega, by go_num, HN.out, HBW.out.trans (HV.out.2.mono HBW.out.size)⟩
            case measure => simp [intOf]; omega
          have hni : (n : Int) < (x.qu.length : Int) := by omega
          have hqc : x.qu.length ≤ qc := Rd.room HQ.out
          have hnc : n ≤ qc := by omega
          have hnci : (n : Int) ≤ (qc : Int) := by omega
          clear hqc
          have hn0 : (0 : Int) ≤ (n : Int) := by omega
          have hnl2 : (n : Int) ≤ (x.qu.length : Int) := by omega
          obtain ⟨g, o, rfl, -, hcq⟩ := intAt HQ.out hnl
          have CQ : Hid (∀ W, Below wr.heap.size wr W → W.cell? ⟨b, off + k * 2 + 1, none⟩ = some (.slice (some ⟨g, o, none⟩) x.qu.length qc) ∧ W.cell? ⟨g, o + n, none⟩ = some (.int .i64 x.qu[n])) := fun W h => ⟨(CE.out _ (HV.out.2.trans (h.mono HV.out.2.size))).2.1, hcq n hnl _ (HV.out.2.trans (h.mono HV.out.2.size))⟩
          have CN : Hid (∀ W, Below wr.heap.size wr W → Calls Try.prog 55 #[.slice (some ⟨g, o, none⟩) n qc, .int .i64 x.qu[n]] W fun e w' => e = .returned (.bool (inK x.qu n x.qu[n])) ∧ w' = W) := fun W h => inIntS x.qu n x.qu[n] (some ⟨g, o, none⟩) qc B W (by unfold maxLen; omega) (by omega) ((HQ.out.later HV.out.2).later h)
          clear hcq c1
          cases hse : sesB x.qu[n]
          case false =>
            have HR := Lib.hid (HQN.out (fun h => by have h1 := h.ses n hnl; rw [hse] at h1; cases h1))
            have HBF := Lib.hid (HBW.out.trans (HV.out.2.mono HBW.out.size))
            have c1 := (CQ.out _ (Below.refl _ _)).1
            clear HNQ HQN HIB HV HQ CN CE
            generalize x.qu[n] = u at *
            go_wp2_with fail
            refine wp_region_held_drew (S := (fun W => W.cell? ⟨b, off + k * 2 + 1, none⟩ = some (.slice (some ⟨g, o, none⟩) x.qu.length qc) ∧ W.cell? ⟨g, o + n, none⟩ = some (.int .i64 u))) (by kernel_rfl) ?_ (fun hHeld => ?_)
            · (first | exact CQ.out _ (Below.refl _ _) | exact CQ.out _ (Below.refl _ _).drew)
            refine tkB (i := 0) ?_
            refine tkB (i := 1) ?_
            refine tkB (i := 2) ?_
            refine tkB (i := 3) ?_
            refine tkB (i := 4) ?_
            refine tkB (i := 5) ?_
            refine tkB (i := 6) ?_
            refine tkB (i := 7) ?_
            refine tkR (i := 8) (fun K hK => ?_)
            go_simp
            (go_at_call 52; (with_reducible refine (sesS _ _).mono ?_); rintro e w1 ⟨rfl, rfl⟩; rw [hse])
            refine hK.out _ _ ?_ (fun hHeld => ?_)
            · (first | exact CQ.out _ (Below.refl _ _) | exact CQ.out _ (Below.refl _ _).drew)
            clear hK K
            try simp only [Act.put, tkS]
            refine tkB (i := 9) ?_
            refine tkB (i := 10) ?_
            refine tkV (i := 11) ?_
            refine tkV (i := 12) ?_
            refine tkV (i := 13) ?_
            refine tkV (i := 14) ?_
            refine tkV (i := 15) ?_
            refine tkV (i := 16) ?_
            refine tkV (i := 17) ?_
            refine tkV (i := 18) ?_
            refine tkV (i := 19) ?_
            refine tkV (i := 20) ?_
            refine tkV (i := 21) ?_
            refine tkV (i := 22) ?_
            refine tkV (i := 23) ?_
            refine tkV (i := 24) ?_
            refine tkV (i := 25) ?_
            refine tkV (i := 26) ?_
            refine tkB (i := 27) ?_
            refine wpAnyH_done (by kernel_rfl) ?_ _
            go_wp2_with fail
            go_ret
            exact ⟨ret_b HR.out.symm, by first | exact HBF.out | exact HBF.out.drew⟩
          have HSE := Lib.hid hse
          cases hin : inK x.qu n x.qu[n]
          case true =>
            have HR := Lib.hid (HQN.out (fun h => by obtain ⟨m', hm', hlt', e'⟩ := inK_of hin; exact h.once n hnl m' hlt' e'))
            have HBF := Lib.hid (HBW.out.trans (HV.out.2.mono HBW.out.size))
            rw [hin] at CN
            have c1 := (CQ.out _ (Below.refl _ _)).1
            clear HNQ HQN HIB HV HQ CE HSE hin
            generalize x.qu[n] = u at *
            go_wp2_with fail
            refine wp_region_held_drew (S := (fun W => W.cell? ⟨b, off + k * 2 + 1, none⟩ = some (.slice (some ⟨g, o, none⟩) x.qu.length qc) ∧ W.cell? ⟨g, o + n, none⟩ = some (.int .i64 u))) (by kernel_rfl) ?_ (fun hHeld => ?_)
            · (first | exact CQ.out _ (Below.refl _ _) | exact CQ.out _ (Below.refl _ _).drew)
            refine tkB (i := 0) ?_
            refine tkB (i := 1) ?_
            refine tkB (i := 2) ?_
            refine tkB (i := 3) ?_
            refine tkB (i := 4) ?_
            refine tkB (i := 5) ?_
            refine tkB (i := 6) ?_
            refine tkB (i := 7) ?_
            refine tkR (i := 8) (fun K hK => ?_)
            go_simp
            (go_at_call 52; (with_reducible refine (sesS _ _).mono ?_); rintro e w1 ⟨rfl, rfl⟩; rw [hse])
            refine hK.out _ _ ?_ (fun hHeld => ?_)
            · (first | exact CQ.out _ (Below.refl _ _) | exact CQ.out _ (Below.refl _ _).drew)
            clear hK K
            try simp only [Act.put, tkS]
            refine tkB (i := 9) ?_
            refine tkB (i := 10) ?_
            refine tkB (i := 11) ?_
            refine tkB (i := 12) ?_
            refine tkB (i := 13) ?_
            refine tkB (i := 14) ?_
            refine tkB (i := 15) ?_
            refine tkB (i := 16) ?_
            refine tkB (i := 17) ?_
            refine tkB (i := 18) ?_
            refine tkB (i := 19) ?_
            refine tkB (i := 20) ?_
            refine tkB (i := 21) ?_
            refine tkB (i := 22) ?_
            refine tkB (i := 23) ?_
            refine tkB (i := 24) ?_
            refine tkB (i := 25) ?_
            refine tkR (i := 26) (fun K hK => ?_)
            go_simp
            (go_at_call 55; (with_reducible refine (CN.out _ ?_).mono ?_); (first | exact Below.refl _ _ | exact (Below.refl _ _).drew); rintro e w1 ⟨rfl, rfl⟩)
            refine hK.out _ _ ?_ (fun hHeld => ?_)
            · (first | exact CQ.out _ (Below.refl _ _) | exact CQ.out _ (Below.refl _ _).drew)
            clear hK K
            try simp only [Act.put, tkS]
            refine tkB (i := 27) ?_
            refine wpAnyH_done (by kernel_rfl) ?_ _
            go_wp2_with fail
            go_ret
            exact ⟨ret_b HR.out.symm, by first | exact HBF.out | exact HBF.out.drew⟩
          have HNN : Hid (∀ j (h : j < x.qu.length), j < n + 1 → sesB x.qu[j] = true ∧ inK x.qu j x.qu[j] = false) := fun j h hj => by
            by_cases e : j = n
            · subst e; exact ⟨HSE.out, hin⟩
            · exact HV.out.1 j h (by omega)
          have HBV : Hid (Below wo.heap.size wo wr) := HV.out.2
          rw [hin] at CN
          have c1 := (CQ.out _ (Below.refl _ _)).1
          clear HV hin HSE
          generalize hu : x.qu[n] = u at *
          clear hu
          go_wp2_with fail
          refine wp_region_held_drew (S := (fun W => W.cell? ⟨b, off + k * 2 + 1, none⟩ = some (.slice (some ⟨g, o, none⟩) x.qu.length qc) ∧ W.cell? ⟨g, o + n, none⟩ = some (.int .i64 u))) (by kernel_rfl) ?_ (fun hHeld => ?_)
          · (first | exact CQ.out _ (Below.refl _ _) | exact CQ.out _ (Below.refl _ _).drew)
          refine tkB (i := 0) ?_
          refine tkB (i := 1) ?_
          refine tkB (i := 2) ?_
          refine tkB (i := 3) ?_
          refine tkB (i := 4) ?_
          refine tkB (i := 5) ?_
          refine tkB (i := 6) ?_
          refine tkB (i := 7) ?_
          refine tkR (i := 8) (fun K hK => ?_)
          go_simp
          (go_at_call 52; (with_reducible refine (sesS _ _).mono ?_); rintro e w1 ⟨rfl, rfl⟩; rw [hse])
          refine hK.out _ _ ?_ (fun hHeld => ?_)
          · (first | exact CQ.out _ (Below.refl _ _) | exact CQ.out _ (Below.refl _ _).drew)
          clear hK K
          try simp only [Act.put, tkS]
          refine tkB (i := 9) ?_
          refine tkB (i := 10) ?_
          refine tkB (i := 11) ?_
          refine tkB (i := 12) ?_
          refine tkB (i := 13) ?_
          refine tkB (i := 14) ?_
          refine tkB (i := 15) ?_
          refine tkB (i := 16) ?_
          refine tkB (i := 17) ?_
          refine tkB (i := 18) ?_
          refine tkB (i := 19) ?_
          refine tkB (i := 20) ?_
          refine tkB (i := 21) ?_
          refine tkB (i := 22) ?_
          refine tkB (i := 23) ?_
          refine tkB (i := 24) ?_
          refine tkB (i := 25) ?_
          refine tkR (i := 26) (fun K hK => ?_)
          go_simp
          (go_at_call 55; (with_reducible refine (CN.out _ ?_).mono ?_); (first | exact Below.refl _ _ | exact (Below.refl _ _).drew); rintro e w1 ⟨rfl, rfl⟩)
          refine hK.out _ _ ?_ (fun hHeld => ?_)
          · (first | exact CQ.out _ (Below.refl _ _) | exact CQ.out _ (Below.refl _ _).drew)
          clear hK K
          try simp only [Act.put, tkS]
          refine tkB (i := 27) ?_
          refine wpAnyH_done (by kernel_rfl) ?_ _
          go_wp2_with fail
          go_roundw
          case rel => exact ⟨n + 1, by omega, by go_num, HNN.out, by first | exact HBV.out | exact HBV.out.drew⟩
          case measure => simp [intOf]; omega
end Go.Proofs.Ythpenliecgpedaa
