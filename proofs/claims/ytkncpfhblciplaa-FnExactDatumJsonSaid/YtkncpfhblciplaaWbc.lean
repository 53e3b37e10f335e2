import Derived.Test.YtkncpfhblciplaaWao
import Derived.Deep.CutRange
import Derived.Deep.RegionHeld3
import Derived.Test.YtkncpfhblciplaaWTk
namespace Go.Proofs.Ytkncpfhblciplaa
open Go.RowKit
set_option linter.unusedSimpArgs false
def stepB (l : List At) (i : Nat) : Bool := atOK (l.getD i atZ) && (((l.getD i atZ).k == (l.getD 0 atZ).k) && (decide (i = 0) || decide (cmpA (l.getD (i - 1) atZ) (l.getD i atZ) < 0)))
def datumB (l : List At) : Bool := decide (l.length ≤ 8) && (List.range l.length).all (stepB l)
theorem datumB_no {l : List At} {i : Nat} (hi : i < l.length) (h : stepB l i = false) : datumB l = false := by
  unfold datumB
  rw [Bool.and_eq_false_iff]
  right
  rw [List.all_eq_false]
  exact ⟨i, List.mem_range.2 hi, by simp [h]⟩
theorem datumB_yes {l : List At} (h : ∀ i, i < l.length → stepB l i = true) : datumB l = decide (l.length ≤ 8) := by
  unfold datumB
  rw [List.all_eq_true.2 (fun i hi => h i (List.mem_range.1 hi)), Bool.and_true]
theorem datumB_long {l : List At} (h : 8 < l.length) : datumB l = false := by
  unfold datumB
  simp; omega
theorem Ats.three {w : World} {B : Nat → Prop} {b off : Nat} {l : List At} (h : Ats w B (some ⟨b, off, none⟩) l) (k : Nat) (hk : k < l.length) :
    w.cell? ⟨b, off + k * 3, none⟩ = some (.int .i64 l[k].k) ∧ w.cell? ⟨b, off + k * 3 + 1, none⟩ = some (.int .i64 l[k].n) ∧ w.cell? ⟨b, off + k * 3 + 2, none⟩ = some (.string ⟨l[k].t.toArray⟩) := by
  obtain ⟨b', off', e, -, h0, h1, h2⟩ := h.item k hk
  injection e with e
  injection e with e1 e2
  subst e1 e2
  exact ⟨h0, h1, h2⟩
theorem step_ok {l : List At} {i : Nat} (hi : i < l.length) (h : atOK l[i] = false) : stepB l i = false := by unfold stepB; rw [at_getD hi, h]; rfl
theorem step_kind {l : List At} {i : Nat} (hi : i < l.length) (h : ¬ l[i].k = (l[0]'(by omega)).k) : stepB l i = false := by
  unfold stepB; rw [at_getD hi, at_getD (show 0 < l.length by omega)]; simp [h]
theorem step_zero {l : List At} (hi : 0 < l.length) (h : atOK l[0] = true) : stepB l 0 = true := by unfold stepB; rw [at_getD hi, h]; simp
theorem step_up {l : List At} {m : Nat} (hi : m + 1 < l.length) (h : atOK l[m + 1] = true) (hk : l[m + 1].k = (l[0]'(by omega)).k) : stepB l (m + 1) = decide (cmpA (l[m]'(by omega)) l[m + 1] < 0) := by
  unfold stepB; rw [at_getD hi, h, at_getD (show 0 < l.length by omega), Nat.add_sub_cancel, at_getD (show m < l.length by omega), hk]; simp
set_option maxRecDepth 100000 in
set_option maxHeartbeats 6400000 in
theorem datumOKs (l : List At) (a : Option Addr) (c : Nat) (S : Nat) (w : World) (hl : l.length ≤ maxLen) (hx : ∀ x ∈ l, x.t.length ≤ maxLen) (hw : S ≤ w.heap.size) (hA : Ats w (· < S) a l) :
    Calls Try.prog 54 #[.slice a l.length c] w fun e w' => e = .returned (.bool (datumB l)) ∧ Below w.heap.size w w' := by
  unfold maxLen at hl
  have HA : Hid (Ats w (· < S) a l) := hA
  have HX : Hid (∀ x ∈ l, x.t.length ≤ maxLen) := hx
  clear hA hx
  by_cases hlong : 4096 < l.length
  · have HR : Hid (datumB l = false) := datumB_long (by omega)
    have hd : decide (4096 < (l.length : Int)) = true := by simp; omega
    go_enter Try.func54, Try.ntmps54
    go_wp2_with fail
    go_ret
    exact ⟨ret_b HR.out.symm, Below.refl _ _⟩
  have hd : decide (4096 < (l.length : Int)) = false := by simp; omega
  clear hlong
  go_enter Try.func54, Try.ntmps54
  go_wp2_with fail
  go_loopw [3] (fun i wr => ∃ k : Nat, k ≤ l.length ∧ i = .int .i64 k ∧ Hid ((∀ m, m < l.length → m < k → stepB l m = true) ∧ Below w.heap.size w wr)) (fun i _ => l.length - (intOf i).toNat)
  case atStart => exact ⟨0, Nat.zero_le _, rfl, fun m _ h => absurd h (by omega), Below.refl _ _⟩
  case round =>
    obtain ⟨k, hk, rfl, HW⟩ := hrel
    by_cases hlt : k < l.length
    case neg =>
      have HR : Hid (datumB l = decide (l.length ≤ 8)) := datumB_yes (fun m h => HW.out.1 m h (by omega))
      have hki : decide ((k : Int) < (l.length : Int)) = false := by simp; omega
      go_wp2_with fail
      go_ret
      exact ⟨ret_b (by rw [HR.out]; exact decide_eq_decide.2 (by omega)), HW.out.2⟩
    obtain ⟨b, off, rfl, -, -⟩ := HA.out.item k hlt
    have hki : (k : Int) < (l.length : Int) := by omega
    have hki0 : (0 : Int) < (l.length : Int) := by omega
    have AT : Hid (∀ W, Below w.heap.size w W → Ats W (· < S) (some ⟨b, off, none⟩) l) := fun W h => HA.out.below (h.mono hw)
    have HTX : Hid (l[k].t.length ≤ maxLen) := HX.out _ (List.getElem_mem hlt)
    have HX0 : Hid (Below w.heap.size w wr) := HW.out.2
    have hx := HW.out.2
    have AO : Hid (∀ W, Below w.heap.size w W → Calls Try.prog 39 #[.agg #[.int .i64 l[k].k, .int .i64 l[k].n, .string ⟨l[k].t.toArray⟩]] W fun e w' => e = .returned (.bool (atOK l[k])) ∧ Below w.heap.size w w') := fun W h => (atomOKs l[k] W HTX.out).mono (fun e w' ⟨he, hB⟩ => ⟨he, h.trans (hB.mono h.size)⟩)
    have CE : Hid (∀ W, Below w.heap.size w W → W.cell? ⟨b, off + k * 3, none⟩ = some (.int .i64 l[k].k) ∧ W.cell? ⟨b, off + k * 3 + 1, none⟩ = some (.int .i64 l[k].n) ∧ W.cell? ⟨b, off + k * 3 + 2, none⟩ = some (.string ⟨l[k].t.toArray⟩) ∧ W.cell? ⟨b, off, none⟩ = some (.int .i64 (l[0]'(by omega)).k)) := fun W hb => by
      have f := (AT.out _ hb).three 0 (by omega)
      rw [Nat.zero_mul, Nat.add_zero] at f
      obtain ⟨h0, h1, h2⟩ := (AT.out _ hb).three k hlt
      exact ⟨h0, h1, h2, f.1⟩
    cases hok : atOK l[k]
    case false =>
      have HR : Hid (datumB l = false) := datumB_no hlt (step_ok hlt hok)
      rw [hok] at AO
      clear hok AT HTX
      generalize l[k] = x at *
      generalize l[0]'(by omega) = z at *
      go_wp2_with fail
      refine wp_region_held_drew (S := (fun W => W.cell? ⟨b, off + k * 3, none⟩ = some (.int .i64 x.k) ∧ W.cell? ⟨b, off + k * 3 + 1, none⟩ = some (.int .i64 x.n) ∧ W.cell? ⟨b, off + k * 3 + 2, none⟩ = some (.string ⟨x.t.toArray⟩) ∧ W.cell? ⟨b, off, none⟩ = some (.int .i64 z.k))) (by kernel_rfl) ?_ (fun hHeld => ?_)
      · (first | exact CE.out _ hx | exact CE.out _ hx.drew)
      refine tkB (i := 0) ?_
      refine tkB (i := 1) ?_
      refine tkB (i := 2) ?_
      refine tkB (i := 3) ?_
      refine tkR (i := 4) (fun K hK => ?_)
      go_simp
      (go_at_call 39; (with_reducible refine (AO.out _ ?_).mono ?_); (first | exact hx | exact hx.drew); rintro e w1 ⟨rfl, hx⟩)
      refine hK.out _ _ ?_ (fun hHeld => ?_)
      · (first | exact CE.out _ hx | exact CE.out _ hx.drew)
      clear hK K
      try simp only [Act.put, tkS]
      refine tkB (i := 5) ?_
      refine tkB (i := 6) ?_
      refine tkV (i := 7) ?_
      refine tkV (i := 8) ?_
      refine tkV (i := 9) ?_
      refine tkV (i := 10) ?_
      refine tkV (i := 11) ?_
      refine tkV (i := 12) ?_
      refine tkV (i := 13) ?_
      refine tkV (i := 14) ?_
      refine tkV (i := 15) ?_
      refine tkV (i := 16) ?_
      refine tkB (i := 17) ?_
      refine tkB (i := 18) ?_
      refine tkV (i := 19) ?_
      refine tkV (i := 20) ?_
      refine tkV (i := 21) ?_
      refine tkV (i := 22) ?_
      refine tkV (i := 23) ?_
      refine tkV (i := 24) ?_
      refine tkV (i := 25) ?_
      refine tkV (i := 26) ?_
      refine tkV (i := 27) ?_
      refine tkV (i := 28) ?_
      refine tkV (i := 29) ?_
      refine tkV (i := 30) ?_
      refine tkV (i := 31) ?_
      refine tkV (i := 32) ?_
      refine tkV (i := 33) ?_
      refine tkB (i := 34) ?_
      refine wpAnyH_done (by kernel_rfl) ?_ _
      go_wp2_with fail
      go_ret
      exact ⟨ret_b HR.out.symm, hx⟩
    rw [hok] at AO
    by_cases h0 : k = 0
    case pos =>
      subst h0
      have HN : Hid (∀ m, m < l.length → m < 0 + 1 → stepB l m = true) := fun m hm hmk => by
        obtain rfl : m = 0 := by omega
        exact step_zero hm hok
      have CE0 : Hid (∀ W, Below w.heap.size w W → W.cell? ⟨b, off, none⟩ = some (.int .i64 l[0].k) ∧ W.cell? ⟨b, off + 1, none⟩ = some (.int .i64 l[0].n) ∧ W.cell? ⟨b, off + 2, none⟩ = some (.string ⟨l[0].t.toArray⟩)) := fun W hb => by
        have f := (AT.out _ hb).three 0 hlt
        rw [Nat.zero_mul, Nat.add_zero] at f
        exact f
      clear hok AT HTX CE
      generalize l[0] = x at *
      go_wp2_with fail
      refine wp_region_held_drew (S := (fun W => W.cell? ⟨b, off, none⟩ = some (.int .i64 x.k) ∧ W.cell? ⟨b, off + 1, none⟩ = some (.int .i64 x.n) ∧ W.cell? ⟨b, off + 2, none⟩ = some (.string ⟨x.t.toArray⟩))) (by kernel_rfl) ?_ (fun hHeld => ?_)
      · (first | exact CE0.out _ hx | exact CE0.out _ hx.drew)
      refine tkB (i := 0) ?_
      refine tkB (i := 1) ?_
      refine tkB (i := 2) ?_
      refine tkB (i := 3) ?_
      refine tkR (i := 4) (fun K hK => ?_)
      go_simp
      (go_at_call 39; (with_reducible refine (AO.out _ ?_).mono ?_); (first | exact hx | exact hx.drew); rintro e w1 ⟨rfl, hx⟩)
      refine hK.out _ _ ?_ (fun hHeld => ?_)
      · (first | exact CE0.out _ hx | exact CE0.out _ hx.drew)
      clear hK K
      try simp only [Act.put, tkS]
      refine tkB (i := 5) ?_
      refine tkB (i := 6) ?_
      refine tkB (i := 7) ?_
      refine tkB (i := 8) ?_
      refine tkB (i := 9) ?_
      refine tkB (i := 10) ?_
      refine tkB (i := 11) ?_
      refine tkB (i := 12) ?_
      refine tkB (i := 13) ?_
      refine tkB (i := 14) ?_
      refine tkB (i := 15) ?_
      refine tkB (i := 16) ?_
      refine tkB (i := 17) ?_
      refine tkB (i := 18) ?_
      refine tkB (i := 19) ?_
      refine tkB (i := 20) ?_
      refine tkB (i := 21) ?_
      refine tkV (i := 22) ?_
      refine tkV (i := 23) ?_
      refine tkV (i := 24) ?_
      refine tkV (i := 25) ?_
      refine tkV (i := 26) ?_
      refine tkV (i := 27) ?_
      refine tkV (i := 28) ?_
      refine tkV (i := 29) ?_
      refine tkV (i := 30) ?_
      refine tkV (i := 31) ?_
      refine tkV (i := 32) ?_
      refine tkB (i := 33) ?_
      refine tkB (i := 34) ?_
      refine wpAnyH_done (by kernel_rfl) ?_ _
      · go_wp2_with fail
        go_roundw
        case rel => exact ⟨1, by omega, by first | rfl | go_num, HN.out, hx⟩
        case measure => simp [intOf]; omega
    obtain ⟨m, hkm'⟩ : ∃ m, k = m + 1 := ⟨k - 1, by omega⟩
    have hkm : (k : Int) - 1 = (m : Int) := by omega
    have hmlt : m < l.length := by omega
    have hln : 0 < l.length := by omega
    have hwm : IntKind.i64.wrap (m : Int) = (m : Int) := by rw [IntKind.wrap_i64]; omega
    have CE2 : Hid (∀ W, Below w.heap.size w W → W.cell? ⟨b, off + k * 3, none⟩ = some (.int .i64 l[k].k) ∧ W.cell? ⟨b, off + k * 3 + 1, none⟩ = some (.int .i64 l[k].n) ∧ W.cell? ⟨b, off + k * 3 + 2, none⟩ = some (.string ⟨l[k].t.toArray⟩) ∧ W.cell? ⟨b, off, none⟩ = some (.int .i64 (l[0]'(by omega)).k) ∧
        W.cell? ⟨b, off + m * 3, none⟩ = some (.int .i64 (l[m]'hmlt).k) ∧ W.cell? ⟨b, off + m * 3 + 1, none⟩ = some (.int .i64 (l[m]'hmlt).n) ∧ W.cell? ⟨b, off + m * 3 + 2, none⟩ = some (.string ⟨(l[m]'hmlt).t.toArray⟩)) := fun W hb => by
      obtain ⟨h1, h2, h3, h4⟩ := CE.out W hb
      exact ⟨h1, h2, h3, h4, (AT.out _ hb).three m (by omega)⟩
    have hm1 : (m : Int) < (l.length : Int) := by omega
    have hk1 : decide ((0 : Int) < (k : Int)) = true := by simp; omega
    have hk1' : decide (0 < k) = true := by simp; omega
    have HNX : Hid (stepB l k = true → ∀ i, i < l.length → i < k + 1 → stepB l i = true) := fun h i hi him => by
      by_cases e : i = k
      · subst e; exact h
      · exact HW.out.1 i hi (by omega)
    have HDN : Hid (stepB l k = false → datumB l = false) := fun h => datumB_no hlt h
    by_cases hkd : l[k].k = (l[0]'(by omega)).k
    case neg =>
      have HR : Hid (datumB l = false) := HDN.out (step_kind hlt hkd)
      have hkn : (l[k].k != (l[0]'(by omega)).k) = true := by simpa using hkd
      clear hok hkd AT HTX CE HNX HDN h0 hkm'
      generalize l[k] = x at *
      generalize l[0]'(by omega) = z at *
      generalize l[m]'hmlt = y at *
      go_wp2_with fail
      refine wp_region_held_drew (S := (fun W => W.cell? ⟨b, off + k * 3, none⟩ = some (.int .i64 x.k) ∧ W.cell? ⟨b, off + k * 3 + 1, none⟩ = some (.int .i64 x.n) ∧ W.cell? ⟨b, off + k * 3 + 2, none⟩ = some (.string ⟨x.t.toArray⟩) ∧ W.cell? ⟨b, off, none⟩ = some (.int .i64 z.k) ∧ W.cell? ⟨b, off + m * 3, none⟩ = some (.int .i64 y.k) ∧ W.cell? ⟨b, off + m * 3 + 1, none⟩ = some (.int .i64 y.n) ∧ W.cell? ⟨b, off + m * 3 + 2, none⟩ = some (.string ⟨y.t.toArray⟩))) (by kernel_rfl) ?_ (fun hHeld => ?_)
      · (first | exact CE2.out _ hx | exact CE2.out _ hx.drew)
      refine tkB (i := 0) ?_
      refine tkB (i := 1) ?_
      refine tkB (i := 2) ?_
      refine tkB (i := 3) ?_
      refine tkR (i := 4) (fun K hK => ?_)
      go_simp
      (go_at_call 39; (with_reducible refine (AO.out _ ?_).mono ?_); (first | exact hx | exact hx.drew); rintro e w1 ⟨rfl, hx⟩)
      refine hK.out _ _ ?_ (fun hHeld => ?_)
      · (first | exact CE2.out _ hx | exact CE2.out _ hx.drew)
      clear hK K
      try simp only [Act.put, tkS]
      refine tkB (i := 5) ?_
      refine tkB (i := 6) ?_
      refine tkB (i := 7) ?_
      refine tkB (i := 8) ?_
      refine tkB (i := 9) ?_
      refine tkB (i := 10) ?_
      refine tkB (i := 11) ?_
      refine tkB (i := 12) ?_
      refine tkB (i := 13) ?_
      refine tkB (i := 14) ?_
      refine tkB (i := 15) ?_
      refine tkB (i := 16) ?_
      refine tkB (i := 17) ?_
      refine tkB (i := 18) ?_
      refine tkV (i := 19) ?_
      refine tkV (i := 20) ?_
      refine tkV (i := 21) ?_
      refine tkV (i := 22) ?_
      refine tkV (i := 23) ?_
      refine tkV (i := 24) ?_
      refine tkV (i := 25) ?_
      refine tkV (i := 26) ?_
      refine tkV (i := 27) ?_
      refine tkV (i := 28) ?_
      refine tkV (i := 29) ?_
      refine tkV (i := 30) ?_
      refine tkV (i := 31) ?_
      refine tkV (i := 32) ?_
      refine tkV (i := 33) ?_
      refine tkB (i := 34) ?_
      refine wpAnyH_done (by kernel_rfl) ?_ _
      · go_wp2_with fail
        go_ret
        exact ⟨ret_b HR.out.symm, hx⟩
    have HU : Hid (stepB l k = decide (cmpA (l[m]'hmlt) l[k] < 0)) := (by subst hkm'; exact step_up hlt hok hkd)
    have hkn : (l[k].k != (l[0]'(by omega)).k) = false := by simpa using hkd
    have OR : Hid (∀ W, Below w.heap.size w W → Calls Try.prog 87 #[.agg #[.int .i64 (l[m]'hmlt).k, .int .i64 (l[m]'hmlt).n, .string ⟨(l[m]'hmlt).t.toArray⟩], .agg #[.int .i64 l[k].k, .int .i64 l[k].n, .string ⟨l[k].t.toArray⟩]] W fun e w' => e = .returned (.int .i64 (cmpA (l[m]'hmlt) l[k])) ∧ Below w.heap.size w w') := fun W h => (orderS _ _ W).mono (fun e w' ⟨he, hB⟩ => ⟨he, h.trans (hB.mono h.size)⟩)
    clear hok hkd AT HTX CE h0 hkm'
    generalize l[k] = x at *
    generalize l[0]'(by omega) = z at *
    generalize l[m]'hmlt = y at *
    by_cases hcmp : cmpA y x < 0
    case pos =>
      have HN : Hid (∀ i, i < l.length → i < k + 1 → stepB l i = true) := HNX.out (by rw [HU.out]; simpa using hcmp)
      have hq : decide (0 ≤ cmpA y x) = false := by simp; omega
      clear HU HNX HDN hcmp
      generalize cmpA y x = q at *
      go_wp2_with fail
      refine wp_region_held_drew (S := (fun W => W.cell? ⟨b, off + k * 3, none⟩ = some (.int .i64 x.k) ∧ W.cell? ⟨b, off + k * 3 + 1, none⟩ = some (.int .i64 x.n) ∧ W.cell? ⟨b, off + k * 3 + 2, none⟩ = some (.string ⟨x.t.toArray⟩) ∧ W.cell? ⟨b, off, none⟩ = some (.int .i64 z.k) ∧ W.cell? ⟨b, off + m * 3, none⟩ = some (.int .i64 y.k) ∧ W.cell? ⟨b, off + m * 3 + 1, none⟩ = some (.int .i64 y.n) ∧ W.cell? ⟨b, off + m * 3 + 2, none⟩ = some (.string ⟨y.t.toArray⟩))) (by kernel_rfl) ?_ (fun hHeld => ?_)
      · (first | exact CE2.out _ hx | exact CE2.out _ hx.drew)
      refine tkB (i := 0) ?_
      refine tkB (i := 1) ?_
      refine tkB (i := 2) ?_
      refine tkB (i := 3) ?_
      refine tkR (i := 4) (fun K hK => ?_)
      go_simp
      (go_at_call 39; (with_reducible refine (AO.out _ ?_).mono ?_); (first | exact hx | exact hx.drew); rintro e w1 ⟨rfl, hx⟩)
      refine hK.out _ _ ?_ (fun hHeld => ?_)
      · (first | exact CE2.out _ hx | exact CE2.out _ hx.drew)
      clear hK K
      try simp only [Act.put, tkS]
      refine tkB (i := 5) ?_
      refine tkB (i := 6) ?_
      refine tkB (i := 7) ?_
      refine tkB (i := 8) ?_
      refine tkB (i := 9) ?_
      refine tkB (i := 10) ?_
      refine tkB (i := 11) ?_
      refine tkB (i := 12) ?_
      refine tkB (i := 13) ?_
      refine tkB (i := 14) ?_
      refine tkB (i := 15) ?_
      refine tkB (i := 16) ?_
      refine tkB (i := 17) ?_
      refine tkB (i := 18) ?_
      refine tkB (i := 19) ?_
      refine tkB (i := 20) ?_
      refine tkB (i := 21) ?_
      refine tkB (i := 22) ?_
      refine tkB (i := 23) ?_
      refine tkB (i := 24) ?_
      refine tkB (i := 25) ?_
      refine tkB (i := 26) ?_
      refine tkB (i := 27) ?_
      refine tkB (i := 28) ?_
      refine tkB (i := 29) ?_
      refine tkB (i := 30) ?_
      refine tkR (i := 31) (fun K hK => ?_)
      go_simp
      (go_at_call 87; (with_reducible refine (OR.out _ ?_).mono ?_); (first | exact hx | exact hx.drew); rintro e w2 ⟨rfl, hx⟩)
      refine hK.out _ _ ?_ (fun hHeld => ?_)
      · (first | exact CE2.out _ hx | exact CE2.out _ hx.drew)
      clear hK K
      try simp only [Act.put, tkS]
      refine tkB (i := 32) ?_
      refine tkB (i := 33) ?_
      refine tkB (i := 34) ?_
      refine wpAnyH_done (by kernel_rfl) ?_ _
      · go_wp2_with fail
        go_roundw
        case rel => exact ⟨k + 1, by omega, by go_num, HN.out, hx⟩
        case measure => simp [intOf]; omega
    case neg =>
      have HN : Hid (datumB l = false) := HDN.out (by rw [HU.out]; simpa using hcmp)
      have hq : decide (0 ≤ cmpA y x) = true := by simp; omega
      clear HU HNX HDN hcmp
      generalize cmpA y x = q at *
      go_wp2_with fail
      refine wp_region_held_drew (S := (fun W => W.cell? ⟨b, off + k * 3, none⟩ = some (.int .i64 x.k) ∧ W.cell? ⟨b, off + k * 3 + 1, none⟩ = some (.int .i64 x.n) ∧ W.cell? ⟨b, off + k * 3 + 2, none⟩ = some (.string ⟨x.t.toArray⟩) ∧ W.cell? ⟨b, off, none⟩ = some (.int .i64 z.k) ∧ W.cell? ⟨b, off + m * 3, none⟩ = some (.int .i64 y.k) ∧ W.cell? ⟨b, off + m * 3 + 1, none⟩ = some (.int .i64 y.n) ∧ W.cell? ⟨b, off + m * 3 + 2, none⟩ = some (.string ⟨y.t.toArray⟩))) (by kernel_rfl) ?_ (fun hHeld => ?_)
      · (first | exact CE2.out _ hx | exact CE2.out _ hx.drew)
      refine tkB (i := 0) ?_
      refine tkB (i := 1) ?_
      refine tkB (i := 2) ?_
      refine tkB (i := 3) ?_
      refine tkR (i := 4) (fun K hK => ?_)
      go_simp
      (go_at_call 39; (with_reducible refine (AO.out _ ?_).mono ?_); (first | exact hx | exact hx.drew); rintro e w1 ⟨rfl, hx⟩)
      refine hK.out _ _ ?_ (fun hHeld => ?_)
      · (first | exact CE2.out _ hx | exact CE2.out _ hx.drew)
      clear hK K
      try simp only [Act.put, tkS]
      refine tkB (i := 5) ?_
      refine tkB (i := 6) ?_
      refine tkB (i := 7) ?_
      refine tkB (i := 8) ?_
      refine tkB (i := 9) ?_
      refine tkB (i := 10) ?_
      refine tkB (i := 11) ?_
      refine tkB (i := 12) ?_
      refine tkB (i := 13) ?_
      refine tkB (i := 14) ?_
      refine tkB (i := 15) ?_
      refine tkB (i := 16) ?_
      refine tkB (i := 17) ?_
      refine tkB (i := 18) ?_
      refine tkB (i := 19) ?_
      refine tkB (i := 20) ?_
      refine tkB (i := 21) ?_
      refine tkB (i := 22) ?_
      refine tkB (i := 23) ?_
      refine tkB (i := 24) ?_
      refine tkB (i := 25) ?_
      refine tkB (i := 26) ?_
      refine tkB (i := 27) ?_
      refine tkB (i := 28) ?_
      refine tkB (i := 29) ?_
      refine tkB (i := 30) ?_
      refine tkR (i := 31) (fun K hK => ?_)
      go_simp
      (go_at_call 87; (with_reducible refine (OR.out _ ?_).mono ?_); (first | exact hx | exact hx.drew); rintro e w2 ⟨rfl, hx⟩)
      refine hK.out _ _ ?_ (fun hHeld => ?_)
      · (first | exact CE2.out _ hx | exact CE2.out _ hx.drew)
      clear hK K
      try simp only [Act.put, tkS]
      refine tkB (i := 32) ?_
      refine tkB (i := 33) ?_
      refine tkB (i := 34) ?_
      refine wpAnyH_done (by kernel_rfl) ?_ _
      · go_wp2_with fail
        go_ret
        exact ⟨ret_b HN.out.symm, hx⟩
end Go.Proofs.Ytkncpfhblciplaa
