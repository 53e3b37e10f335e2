import Derived.Test.YtkncpfhblciplaaYbs
namespace Go.Proofs.Ytkncpfhblciplaa
open Go.RowKit
set_option linter.unusedSimpArgs false
theorem pt_at {j : J} {x : At} (h : paA j = some x) {w w' : World} (hB : Below w.heap.size w w') : PtAns (paA j) (paN j) (paL j) w (.returned (.iface 31 (atV x))) w' := by
  rw [h]; exact ⟨_, rfl, rfl, hB⟩
theorem pt_nil {j : J} (h : paA j = none) (hp : pairB j = false) {w w' : World} (hB : Below w.heap.size w w') : PtAns (paA j) (paN j) (paL j) w (.returned .nilIface) w' := by
  rw [h, show paN j = none by unfold paN; rw [hp]; rfl, show paL j = none by unfold paL; rw [hp]; rfl]; exact ⟨_, rfl, rfl, hB⟩
theorem pt_pair {j : J} (h2 : j.k ≠ 2) (h3 : j.k ≠ 3) (h1 : j.k ≠ 1) (hp : pairB j = true) {w : World} {e : Ending} {w' : World} (h : PtAns (wdA (it0 j).t (it1 j)) (wdN (it0 j).t (it1 j)) (wdL (it0 j).t (it1 j)) w e w') : PtAns (paA j) (paN j) (paL j) w e w' := by
  rw [paA4 h2 h3 h1, hp, if_pos rfl, show paN j = wdN (it0 j).t (it1 j) by unfold paN; rw [hp]; rfl, show paL j = wdL (it0 j).t (it1 j) by unfold paL; rw [hp]; rfl]; exact h
set_option maxRecDepth 100000 in
set_option maxHeartbeats 12800000 in
theorem partI (j : J) (ih : ∀ y ∈ j.items, WSaid y) : PSaid j := by
  intro cs B w hz hr
  have HJ : Hid (RJ w B j cs) := hr
  rw [RJ_eq] at hr
  obtain ⟨ka, kc, ia, ic, rfl, -, -, -, -, -, hjs⟩ := hr
  have HI : Hid (Jsons w B ia j.items) := hjs
  have HIH := Lib.hid ih
  have HZ : Hid (∀ y ∈ j.items, y.sz ≤ 1048576) := fun y hy => Nat.le_trans (J.sz_item j y hy) hz
  clear hjs ih hz HJ
  go_enter Try.func86, Try.ntmps86
  go_upto_region 1 with fail
  have hb := heap_new' w (.cells #[.int .i64 j.k, .int .i64 j.n, .string ⟨j.t.toArray⟩, .slice ka j.keys.length kc, .slice ia j.items.length ic] 28) rfl
  have HB0 : Hid (Below w.heap.size w (w.alloc (.cells #[.int .i64 j.k, .int .i64 j.n, .string ⟨j.t.toArray⟩, .slice ka j.keys.length kc, .slice ia j.items.length ic] 28)) ∧ (w.alloc (.cells #[.int .i64 j.k, .int .i64 j.n, .string ⟨j.t.toArray⟩, .slice ka j.keys.length kc, .slice ia j.items.length ic] 28)).heap[w.heap.size]? = some (.cells #[.int .i64 j.k, .int .i64 j.n, .string ⟨j.t.toArray⟩, .slice ka j.keys.length kc, .slice ia j.items.length ic] 28)) := ⟨(Below.refl _ _).alloc (Nat.le_refl _) _, hb⟩
  obtain ⟨W0, hW0⟩ : ∃ W, W = (w.alloc (.cells #[.int .i64 j.k, .int .i64 j.n, .string ⟨j.t.toArray⟩, .slice ka j.keys.length kc, .slice ia j.items.length ic] 28)) := ⟨_, rfl⟩
  rw [← hW0] at HB0 ⊢
  clear hW0 hb
  have x0 := cell_at (o := 0) HB0.out.2 rfl
  have x1 := cell_at (o := 1) HB0.out.2 rfl
  have x2 := cell_at (o := 2) HB0.out.2 rfl
  have x3 := cell_at (o := 3) HB0.out.2 rfl
  have x4 := cell_at (o := 4) HB0.out.2 rfl
  by_cases h2 : j.k = 2
  case pos =>
    have e2 : (j.k == 2) = true := by rw [h2]; rfl
    have e3 : (j.k == 3) = false := by rw [h2]; rfl
    have e1 : (j.k == 1) = false := by rw [h2]; rfl
    have HP := Lib.hid (paA2 h2)
    clear h2
    go_wp2_with fail
    go_ret
    exact pt_at HP.out HB0.out.1
  by_cases h3 : j.k = 3
  case pos =>
    have e2 : (j.k == 2) = false := by rw [h3]; rfl
    have e3 : (j.k == 3) = true := by rw [h3]; rfl
    have e1 : (j.k == 1) = false := by rw [h3]; rfl
    have HP := Lib.hid (paA3 h3)
    clear h3
    go_wp2_with fail
    go_ret
    exact pt_at HP.out HB0.out.1
  by_cases h1 : j.k = 1
  case pos =>
    have e2 : (j.k == 2) = false := by rw [h1]; rfl
    have e3 : (j.k == 3) = false := by rw [h1]; rfl
    have e1 : (j.k == 1) = true := by rw [h1]; rfl
    have HP := Lib.hid (paA1 h1)
    clear h1
    go_wp2_with fail
    go_ret
    exact pt_at HP.out HB0.out.1
  have e2 : (j.k == 2) = false := by simpa using h2
  have e3 : (j.k == 3) = false := by simpa using h3
  have e1 : (j.k == 1) = false := by simpa using h1
  have HA : Hid (paA j = if pairB j = true then wdA (it0 j).t (it1 j) else none) := paA4 h2 h3 h1
  have HN : Hid (j.k ≠ 2 ∧ j.k ≠ 3 ∧ j.k ≠ 1) := ⟨h2, h3, h1⟩
  clear h1 h2 h3
  by_cases h4 : j.k = 4
  case neg =>
    have h4' : (j.k != 4) = true := by simpa using h4
    have HP : Hid (pairB j = false) := decide_eq_false (fun h => h4 h.1)
    go_wp2_with fail
    go_ret
    exact pt_nil (by rw [HA.out, HP.out]; rfl) HP.out HB0.out.1
  have h4' : (j.k != 4) = false := by rw [h4]; rfl
  by_cases hl : j.items.length = 2
  case neg =>
    have hl' : ((j.items.length : Int) != 2) = true := by simp; omega
    have HP : Hid (pairB j = false) := decide_eq_false (fun h => hl h.2.1)
    go_wp2_with fail
    go_ret
    exact pt_nil (by rw [HA.out, HP.out]; rfl) HP.out HB0.out.1
  have hl' : ((j.items.length : Int) != 2) = false := by rw [hl]; rfl
  have hi0 : (0 : Int) < (j.items.length : Int) := by omega
  have hi1 : (1 : Int) < (j.items.length : Int) := by omega
  obtain ⟨b, off, kx, kcx, ix, icx, rfl, -, c0, -, c2, -, -, -⟩ := (HI.out.later HB0.out.1).item 0 (by omega)
  obtain ⟨b', off', ky, kcy, iy, icy, e, -, d0, d1, d2, d3, d4, hr1⟩ := (HI.out.later HB0.out.1).item 1 (by omega)
  simp only [Option.some.injEq, Addr.mk.injEq, and_true] at e
  obtain ⟨rfl, rfl⟩ := e
  rw [it_at0 (by omega)] at c0 c2
  rw [it_at1 (by omega)] at d0 d1 d2 d3 d4 hr1
  simp only [Nat.zero_mul, Nat.one_mul, Nat.add_zero] at c0 c2 d0 d1 d2 d3 d4
  have HM : Hid (WSaid (it1 j) ∧ (it1 j).sz ≤ 1048576) := ⟨HIH.out _ (it1_mem (by omega)), HZ.out _ (it1_mem (by omega))⟩
  have HW : Hid (Calls Try.prog 104 #[.string ⟨(it0 j).t.toArray⟩, .agg #[.int .i64 (it1 j).k, .int .i64 (it1 j).n, .string ⟨(it1 j).t.toArray⟩, .slice ky (it1 j).keys.length kcy, .slice iy (it1 j).items.length icy]] W0 (PtAns (wdA (it0 j).t (it1 j)) (wdN (it0 j).t (it1 j)) (wdL (it0 j).t (it1 j)) W0)) := HM.out.1 _ _ _ _ HM.out.2 hr1
  have HWD : Hid (Calls Try.prog 104 #[.string ⟨(it0 j).t.toArray⟩, .agg #[.int .i64 (it1 j).k, .int .i64 (it1 j).n, .string ⟨(it1 j).t.toArray⟩, .slice ky (it1 j).keys.length kcy, .slice iy (it1 j).items.length icy]] W0.drew (PtAns (wdA (it0 j).t (it1 j)) (wdN (it0 j).t (it1 j)) (wdL (it0 j).t (it1 j)) W0.drew)) := HM.out.1 _ _ _ _ HM.out.2 (hr1.later (Below.refl _ _).drew)
  clear hr1
  by_cases hk : (it0 j).k = 3
  case neg =>
    have hk' : ((it0 j).k != 3) = true := by simpa using hk
    have HP : Hid (pairB j = false) := decide_eq_false (fun h => hk h.2.2)
    go_wp2_with fail
    go_ret
    exact pt_nil (by rw [HA.out, HP.out]; rfl) HP.out HB0.out.1
  have hk' : ((it0 j).k != 3) = false := by rw [hk]; rfl
  have HP : Hid (pairB j = true) := decide_eq_true ⟨h4, hl, hk⟩
  clear h4 hl hk
  go_wp2_with fail
  go_region_with (go_at_call 104; first | (refine HW.out.mono ?_; rintro e w3 ⟨v, rfl, hv, hB3⟩; have HF : Hid (PtAns (wdA (it0 j).t (it1 j)) (wdN (it0 j).t (it1 j)) (wdL (it0 j).t (it1 j)) w (.returned v) w3) := PtAns.up ⟨v, rfl, hv, hB3⟩ HB0.out.1) | (refine HWD.out.mono ?_; rintro e w3 ⟨v, rfl, hv, hB3⟩; have HF : Hid (PtAns (wdA (it0 j).t (it1 j)) (wdN (it0 j).t (it1 j)) (wdL (it0 j).t (it1 j)) w (.returned v) w3) := PtAns.up ⟨v, rfl, hv, hB3⟩ HB0.out.1.drew); clear hv hB3)
  all_goals
    go_wp2_with fail
    go_ret
    exact pt_pair HN.out.1 HN.out.2.1 HN.out.2.2 HP.out HF.out
theorem partsI (j : J) : PSaid j ∧ WSaid j := J.induct (P := fun j => PSaid j ∧ WSaid j) (fun j ih => ⟨partI j (fun y hy => (ih y hy).2), wordedI j (fun y hy => (ih y hy).1)⟩) j
end Go.Proofs.Ytkncpfhblciplaa
