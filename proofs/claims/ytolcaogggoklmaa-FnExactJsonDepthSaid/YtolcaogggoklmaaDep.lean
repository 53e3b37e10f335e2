import Derived.Test.YtolcaogggoklmaaOk5
namespace Go.Proofs.Ytolcaogggoklmaa
open Go.RowKit
set_option linter.unusedSimpArgs false
/-! how deep -/
def mx {α : Type} (f : α → Nat) (l : List α) (i : Nat) : Nat := (l.take i).foldl (fun a x => max a (f x)) 0
theorem mx_zero {α : Type} (f : α → Nat) (l : List α) : mx f l 0 = 0 := by simp [mx]
theorem mx_succ {α : Type} (f : α → Nat) (l : List α) (i : Nat) (h : i < l.length) : mx f l (i + 1) = max (mx f l i) (f l[i]) := by
  unfold mx
  rw [List.take_succ_eq_append_getElem h, List.foldl_append]; rfl
theorem foldl_max_le {α : Type} (f : α → Nat) (c : Nat) : ∀ (l : List α) (a : Nat), a ≤ c → (∀ x ∈ l, f x ≤ c) → l.foldl (fun a x => max a (f x)) a ≤ c
  | [], _, h, _ => h
  | x :: l, a, h, hx => by
    have h1 := hx x (List.mem_cons_self ..)
    exact foldl_max_le f c l (max a (f x)) (by omega) (fun y hy => hx y (List.mem_cons_of_mem _ hy))
theorem mx_le {α : Type} (f : α → Nat) (l : List α) (i c : Nat) (h : ∀ x, f x ≤ c) : mx f l i ≤ c := foldl_max_le f c _ 0 (by omega) (fun x _ => h x)
def depD : Nat → J → Nat
  | 0, _ => 0
  | d + 1, j => mx (depD d) j.items j.items.length + (if 4 ≤ j.k then 1 else 0)
theorem depD_le : ∀ (d : Nat) (j : J), depD d j ≤ d
  | 0, _ => Nat.le_refl _
  | d + 1, j => by
    have := mx_le (depD d) j.items j.items.length d (depD_le d)
    unfold depD; split <;> omega
/-- all within it are right -/
def Fine (d : Nat) (j : J) : Prop := ∃ n, cnt d j = some n
theorem sumO_mem (d : Nat) : ∀ (l : List J) (n : Nat), sumO (l.map (cnt d)) = some n → ∀ x ∈ l, Fine d x
  | [], _, _, x, hx => absurd hx (List.not_mem_nil)
  | y :: l, n, h, x, hx => by
    simp only [List.map_cons, sumO] at h
    cases e1 : cnt d y with
    | none => rw [e1] at h; simp [addO] at h
    | some a =>
      cases e2 : sumO (l.map (cnt d)) with
      | none => rw [e1, e2] at h; simp [addO] at h
      | some m =>
        rcases List.mem_cons.1 hx with rfl | hx
        · exact ⟨a, e1⟩
        · exact sumO_mem d l m e2 x hx
theorem fine_part {d : Nat} {j : J} (h : Fine (d + 1) j) : partB j = true ∧ ∀ x ∈ j.items, Fine d x := by
  obtain ⟨n, h⟩ := h
  unfold cnt at h
  split at h
  · rename_i hp
    refine ⟨hp, ?_⟩
    cases e : sumO (j.items.map (cnt d)) with
    | none => rw [e] at h; simp [addO] at h
    | some m => exact sumO_mem d _ m e
  · cases h
theorem fine_leaf {d : Nat} {j : J} (h : Fine (d + 1) j) (h4 : j.k ≠ 4) (h5 : j.k ≠ 5) : j.k < 4 ∧ j.items = [] := by
  obtain ⟨hp, _⟩ := fine_part h
  by_cases hN : j.k < 0 ∨ 5 < j.k
  · rw [partN hN] at hp; cases hp
  · have h6 : j.k = 0 ∨ j.k = 1 ∨ j.k = 2 ∨ j.k = 3 := by omega
    have : noItems j = true := by
      rcases h6 with h | h | h | h
      · rw [part0 h] at hp; simp at hp; exact hp.2.2.2
      · rw [part1 h] at hp; simp at hp; exact hp.2.2.2
      · rw [part2 h] at hp; simp at hp; exact hp.2.2.2
      · rw [part3 h] at hp; simp at hp; exact hp.2.2.2
    unfold noItems at this
    exact ⟨by omega, by simpa using this⟩
theorem fine_of_ok {j : J} (h : okB j = true) : Fine 12 j := by
  unfold okB at h
  have := of_decide_eq_true h
  cases e : cnt 12 j with
  | none => rw [e] at this; simp [left] at this
  | some n => exact ⟨n, e⟩

set_option maxHeartbeats 400000 in
theorem bitS (b : Bool) (w : World) : Calls Try.prog 28 #[.bool b] w fun e w' => e = .returned (.int .i64 (if b then 1 else 0)) ∧ w' = w := by
  cases b
  all_goals
    go_enter Try.func28, Try.ntmps28
    go_wp2_with fail
    go_ret
    exact ⟨rfl, rfl⟩

theorem max_val (m y : Nat) : Value.int .i64 (if m < y then (y : Int) else (m : Int)) = .int .i64 ((max m y : Nat) : Int) := by
  have : (if m < y then (y : Int) else (m : Int)) = ((max m y : Nat) : Int) := by split <;> omega
  rw [this]
/-- what the two walks over a right value answer -/
def DepSaid (f : Nat) (d : Nat) : Prop := ∀ (j : J) (cs : List Value) (B : Nat → Prop) (w : World), Fine d j → RJ w B j cs →
    Calls Try.prog f #[.agg cs.toArray] w fun e w' => e = .returned (.int .i64 (depD d j)) ∧ Below w.heap.size w w'
theorem dep0 (f : Nat) : DepSaid f 0 := fun j _ _ _ h => by obtain ⟨n, h⟩ := h; simp [cnt] at h

set_option maxHeartbeats 3200000 in
theorem depS (d : Nat) (hd : d ≤ 12) (ih : DepSaid 23 d) : DepSaid 23 (d + 1) := by
  intro j cs B w hf hr
  have HF : Hid (∀ x ∈ j.items, Fine d x) := (fine_part hf).2
  rw [RJ_eq] at hr
  obtain ⟨ka, kc, ia, ic, rfl, ht, hkl, hil, hkx, hk, hi⟩ := hr
  have HI : Hid (Jsons w B ia j.items) := hi
  have hil' : j.items.length ≤ 9223372036854775807 := hil
  have HD : Hid (depD (d + 1) j = mx (depD d) j.items j.items.length + (if 4 ≤ j.k then 1 else 0)) := rfl
  clear ht hkl hkx hk hi hil hf
  go_enter Try.func23, Try.ntmps23
  go_wp2_with fail
  go_loopw [3, 4] (fun q i wr => ∃ k : Nat, k ≤ j.items.length ∧ i = .int .i64 k ∧ ∃ m : Nat, q = .int .i64 m ∧ m ≤ d ∧ Hid (m = mx (depD d) j.items k) ∧ Below (w.heap.size + 1) (w.alloc (.cells #[.int .i64 j.k, .int .i64 j.n, .string ⟨j.t.toArray⟩, .slice ka j.keys.length kc, .slice ia j.items.length ic] 30)) wr) (fun _ i _ => j.items.length - (intOf i).toNat)
  case atStart => exact ⟨0, Nat.zero_le _, rfl, 0, rfl, by omega, (mx_zero _ _).symm, Below.refl _ _⟩
  case round =>
    obtain ⟨k, hk, rfl, m, rfl, hm, HM, hw⟩ := hrel
    have hB : Below w.heap.size w wr := ((Below.refl _ _).alloc (Nat.le_refl _) _).trans (hw.mono (by omega))
    have hx0 : wr.cell? ⟨w.heap.size, 0, none⟩ = some (.int .i64 j.k) := by rw [hw.cell (p := ⟨w.heap.size, 0, none⟩) (by simp)]; simp [go_sem]
    have hx4 : wr.cell? ⟨w.heap.size, 4, none⟩ = some (.slice ia j.items.length ic) := by rw [hw.cell (p := ⟨w.heap.size, 4, none⟩) (by simp)]; simp [go_sem]
    by_cases hlt : k < j.items.length
    · obtain ⟨b, off, ka', kc', ia', ic', rfl, _, c0, c1, c2, c3, c4, hr⟩ := (HI.out.later hB).item k hlt
      have HR : Hid (RJ wr B j.items[k] _) := hr
      have HFX : Hid (Fine d j.items[k]) := HF.out _ (List.getElem_mem hlt)
      have HS : Hid (mx (depD d) j.items (k + 1) = max (mx (depD d) j.items k) (depD d j.items[k])) := mx_succ _ _ _ hlt
      have hx : depD d j.items[k] ≤ d := depD_le _ _
      clear hr
      generalize j.items[k] = x at *
      go_wp2_with fail
      refine (ih x _ B _ HFX.out HR.out).mono ?_
      rintro e w2 ⟨rfl, hB3⟩
      have hw2 : Below (w.heap.size + 1) (w.alloc (.cells #[.int .i64 j.k, .int .i64 j.n, .string ⟨j.t.toArray⟩, .slice ka j.keys.length kc, .slice (some ⟨b, off, none⟩) j.items.length ic] 30)) w2 := hw.trans (hB3.mono (by have := hw.size; simp at this; omega))
      clear hB3 c0 c1 c2 c3 c4 hx4 hx0 hw hB
      generalize depD d x = y at *
      go_wp2_with fail
      go_roundw
      case rel => exact ⟨k + 1, by omega, by go_num, max m y, max_val m y, by omega, by show max m y = _; rw [HS.out, ← HM.out], hw2⟩
      case measure => simp [intOf]; omega
    · have hk' : k = j.items.length := by omega
      have HE : Hid (depD (d + 1) j = m + (if 4 ≤ j.k then 1 else 0)) := by show depD (d + 1) j = _; rw [HD.out, HM.out, hk']
      clear hk'
      by_cases h4 : 4 ≤ j.k
      · have HE1 : Hid (depD (d + 1) j = m + 1) := by show depD (d + 1) j = _; rw [HE.out, if_pos h4]
        have hb4 : decide (4 ≤ j.k) = true := decide_eq_true h4
        go_wp2_with (go_at_call 28; refine (bitS _ _).mono ?_; rintro e w' ⟨rfl, rfl⟩)
        go_ret
        exact ⟨ret_i (by rw [HE1.out]; simp), hB⟩
      · have HE1 : Hid (depD (d + 1) j = m) := by show depD (d + 1) j = _; rw [HE.out, if_neg h4]; omega
        have hb4 : decide (4 ≤ j.k) = false := decide_eq_false h4
        go_wp2_with (go_at_call 28; refine (bitS _ _).mono ?_; rintro e w' ⟨rfl, rfl⟩)
        go_ret
        exact ⟨ret_i (by rw [HE1.out]), hB⟩

set_option maxHeartbeats 3200000 in
theorem depI (d : Nat) (hd : d ≤ 12) (ih : DepSaid 24 d) : DepSaid 24 (d + 1) := by
  intro j cs B w hf hr
  have HF : Hid (∀ x ∈ j.items, Fine d x) := (fine_part hf).2
  have HLF : Hid (j.k ≠ 4 → j.k ≠ 5 → j.k < 4 ∧ j.items = []) := fine_leaf hf
  have HDD : Hid (depD (d + 1) j = mx (depD d) j.items j.items.length + (if 4 ≤ j.k then 1 else 0)) := rfl
  rw [RJ_eq] at hr
  obtain ⟨ka, kc, ia, ic, rfl, ht, hkl, hil, hkx, hk, hi⟩ := hr
  have HI : Hid (Jsons w B ia j.items) := hi
  have hil' : j.items.length ≤ 9223372036854775807 := hil
  clear ht hkl hkx hk hi hil hf
  by_cases hlf : j.k ≠ 4 ∧ j.k ≠ 5
  · have HD : Hid (depD (d + 1) j = 0) := by
      obtain ⟨h1, h2⟩ := HLF.out hlf.1 hlf.2
      show depD (d + 1) j = 0
      rw [HDD.out, h2, if_neg (by omega)]; rfl
    have q4 : (j.k != 4) = true := by simp; exact hlf.1
    have q5 : (j.k != 5) = true := by simp; exact hlf.2
    clear hlf
    go_enter Try.func24, Try.ntmps24
    go_wp2_with fail
    go_ret
    exact ⟨ret_i (by rw [HD.out]; rfl), (Below.refl _ _).alloc (Nat.le_refl _) _⟩
  · have h45 : j.k = 4 ∨ j.k = 5 := by omega
    have HD : Hid (depD (d + 1) j = mx (depD d) j.items j.items.length + 1) := by
      show depD (d + 1) j = _
      rw [HDD.out, if_pos (by omega)]
    clear hlf
    rcases h45 with h45 | h45
    all_goals
      rw [h45]
      clear h45
      go_enter Try.func24, Try.ntmps24
      go_wp2_with fail
      go_loopw [3, 16] (fun q i wr => ∃ k : Nat, k ≤ j.items.length ∧ i = .int .i64 k ∧ ∃ m : Nat, q = .int .i64 m ∧ m ≤ d ∧ Hid (m = mx (depD d) j.items k) ∧ Below w.heap.size w wr ∧ Hid (w.heap.size < wr.heap.size ∧ wr.cell? ⟨w.heap.size, 4, none⟩ = some (.slice ia j.items.length ic))) (fun _ i _ => j.items.length - (intOf i).toNat)
      case atStart => exact ⟨0, Nat.zero_le _, rfl, 0, rfl, by omega, (mx_zero _ _).symm, (Below.refl _ _).alloc (Nat.le_refl _) _, by simp, by simp [go_sem]⟩
      case round =>
        obtain ⟨k, hk, rfl, m, rfl, hm, HM, hB, H4⟩ := hrel
        have hx4 := H4.out.2
        by_cases hlt : k < j.items.length
        · obtain ⟨b, off, ka', kc', ia', ic', rfl, _, c0, c1, c2, c3, c4, hr⟩ := (HI.out.later hB).item k hlt
          have HR : Hid (RJ wr B j.items[k] _) := hr
          have HFX : Hid (Fine d j.items[k]) := HF.out _ (List.getElem_mem hlt)
          have HS : Hid (mx (depD d) j.items (k + 1) = max (mx (depD d) j.items k) (depD d j.items[k])) := mx_succ _ _ _ hlt
          have hx : depD d j.items[k] ≤ d := depD_le _ _
          clear hr
          generalize j.items[k] = x at *
          go_wp2_with fail
          refine (ih x _ B _ HFX.out HR.out).mono ?_
          rintro e w2 ⟨rfl, hB3⟩
          have hB4 : Below w.heap.size w w2 := hB.trans (hB3.mono hB.size)
          have H42 : Hid (w.heap.size < w2.heap.size ∧ w2.cell? ⟨w.heap.size, 4, none⟩ = some (.slice (some ⟨b, off, none⟩) j.items.length ic)) :=
            ⟨Nat.lt_of_lt_of_le H4.out.1 hB3.size, by rw [hB3.cell (p := ⟨w.heap.size, 4, none⟩) H4.out.1]; exact H4.out.2⟩
          clear hB3 c0 c1 c2 c3 c4 hx4 hB
          generalize depD d x = y at *
          go_wp2_with fail
          go_roundw
          case rel => exact ⟨k + 1, by omega, by go_num, max m y, max_val m y, by omega, by show max m y = _; rw [HS.out, ← HM.out], hB4, H42.out⟩
          case measure => simp [intOf]; omega
        · have hk' : k = j.items.length := by omega
          have HE : Hid (depD (d + 1) j = m + 1) := by show depD (d + 1) j = _; rw [HD.out, HM.out, hk']
          clear hk'
          go_wp2_with fail
          go_ret
          exact ⟨ret_i (by rw [HE.out]; simp), hB⟩
theorem depthS : ∀ d, d ≤ 12 → DepSaid 23 d
  | 0, _ => dep0 23
  | d + 1, h => depS d (by omega) (depthS d (by omega))
theorem depthI : ∀ d, d ≤ 12 → DepSaid 24 d
  | 0, _ => dep0 24
  | d + 1, h => depI d (by omega) (depthI d (by omega))

/-- what JsonDepth answers -/
def depI12 (j : J) : Int := if okB j then depD 12 j else 0

set_option maxHeartbeats 800000 in
theorem jsonDepthS (j : J) (cs : List Value) (B : Nat → Prop) (w : World) (hr : RJ w B j cs) :
    Calls Try.prog 11 #[.agg cs.toArray] w fun e w' => e = .returned (.tuple #[.int .i64 (depI12 j), .int .i64 (codeI j)]) ∧ Below w.heap.size w w' := by
  have HJ : Hid (RJ w B j cs) := hr
  rw [RJ_eq] at hr
  obtain ⟨ka, kc, ia, ic, rfl, -⟩ := hr
  have hB0 : Below w.heap.size w (w.alloc (.cells #[.int .i64 j.k, .int .i64 j.n, .string ⟨j.t.toArray⟩, .slice ka j.keys.length kc, .slice ia j.items.length ic] 30)) := (Below.refl _ _).alloc (Nat.le_refl _) _
  go_enter Try.func11, Try.ntmps11
  go_wp2_with fail
  refine (jsonOKs j _ B _ (HJ.out.later hB0)).mono ?_
  rintro e w1 ⟨rfl, hB1⟩
  have hB2 : Below w.heap.size w w1 := hB0.trans (hB1.mono (by simp))
  have hz : w.heap.size < w1.heap.size := by have := hB1.size; simp at this; omega
  have x0 : w1.cell? ⟨w.heap.size, 0, none⟩ = some (.int .i64 j.k) := by rw [hB1.cell (p := ⟨w.heap.size, 0, none⟩) (by simp)]; simp [go_sem]
  have x1 : w1.cell? ⟨w.heap.size, 1, none⟩ = some (.int .i64 j.n) := by rw [hB1.cell (p := ⟨w.heap.size, 1, none⟩) (by simp)]; simp [go_sem]
  have x2 : w1.cell? ⟨w.heap.size, 2, none⟩ = some (.string ⟨j.t.toArray⟩) := by rw [hB1.cell (p := ⟨w.heap.size, 2, none⟩) (by simp)]; simp [go_sem]
  have x3 : w1.cell? ⟨w.heap.size, 3, none⟩ = some (.slice ka j.keys.length kc) := by rw [hB1.cell (p := ⟨w.heap.size, 3, none⟩) (by simp)]; simp [go_sem]
  have x4 : w1.cell? ⟨w.heap.size, 4, none⟩ = some (.slice ia j.items.length ic) := by rw [hB1.cell (p := ⟨w.heap.size, 4, none⟩) (by simp)]; simp [go_sem]
  clear hB1 hB0
  cases hq : okB j
  · have H1 : Hid (depI12 j = 0) := by show depI12 j = 0; unfold depI12; rw [hq]; rfl
    have H2 : Hid (codeI j = 1) := by show codeI j = 1; unfold codeI; rw [hq]; rfl
    go_wp2_with fail
    go_ret2
    exact ⟨ret_ii H1.out.symm H2.out.symm, hB2⟩
  · have H1 : Hid (depI12 j = depD 12 j) := by show depI12 j = depD 12 j; unfold depI12; rw [hq]; rfl
    have H2 : Hid (codeI j = 0) := by show codeI j = 0; unfold codeI; rw [hq]; rfl
    have HF : Hid (Fine 12 j) := fine_of_ok hq
    go_wp2_with fail
    refine (depthS 12 (by omega) j _ B _ HF.out (HJ.out.later hB2)).mono ?_
    rintro e w2 ⟨rfl, hB3⟩
    have hB4 : Below w.heap.size w w2 := hB2.trans (hB3.mono hB2.size)
    clear hB3
    go_wp2_with fail
    go_ret2
    exact ⟨ret_ii H1.out.symm H2.out.symm, hB4⟩

set_option maxHeartbeats 800000 in
theorem jsonDepthI (j : J) (cs : List Value) (B : Nat → Prop) (w : World) (hr : RJ w B j cs) :
    Calls Try.prog 12 #[.agg cs.toArray] w fun e w' => e = .returned (.tuple #[.int .i64 (depI12 j), .int .i64 (codeI j)]) ∧ Below w.heap.size w w' := by
  have HJ : Hid (RJ w B j cs) := hr
  rw [RJ_eq] at hr
  obtain ⟨ka, kc, ia, ic, rfl, -⟩ := hr
  have hB0 : Below w.heap.size w (w.alloc (.cells #[.int .i64 j.k, .int .i64 j.n, .string ⟨j.t.toArray⟩, .slice ka j.keys.length kc, .slice ia j.items.length ic] 30)) := (Below.refl _ _).alloc (Nat.le_refl _) _
  go_enter Try.func12, Try.ntmps12
  go_wp2_with fail
  refine (jsonOK j _ B _ (HJ.out.later hB0)).mono ?_
  rintro e w1 ⟨rfl, hB1⟩
  have hB2 : Below w.heap.size w w1 := hB0.trans (hB1.mono (by simp))
  have hz : w.heap.size < w1.heap.size := by have := hB1.size; simp at this; omega
  have x0 : w1.cell? ⟨w.heap.size, 0, none⟩ = some (.int .i64 j.k) := by rw [hB1.cell (p := ⟨w.heap.size, 0, none⟩) (by simp)]; simp [go_sem]
  have x1 : w1.cell? ⟨w.heap.size, 1, none⟩ = some (.int .i64 j.n) := by rw [hB1.cell (p := ⟨w.heap.size, 1, none⟩) (by simp)]; simp [go_sem]
  have x2 : w1.cell? ⟨w.heap.size, 2, none⟩ = some (.string ⟨j.t.toArray⟩) := by rw [hB1.cell (p := ⟨w.heap.size, 2, none⟩) (by simp)]; simp [go_sem]
  have x3 : w1.cell? ⟨w.heap.size, 3, none⟩ = some (.slice ka j.keys.length kc) := by rw [hB1.cell (p := ⟨w.heap.size, 3, none⟩) (by simp)]; simp [go_sem]
  have x4 : w1.cell? ⟨w.heap.size, 4, none⟩ = some (.slice ia j.items.length ic) := by rw [hB1.cell (p := ⟨w.heap.size, 4, none⟩) (by simp)]; simp [go_sem]
  clear hB1 hB0
  cases hq : okB j
  · have H1 : Hid (depI12 j = 0) := by show depI12 j = 0; unfold depI12; rw [hq]; rfl
    have H2 : Hid (codeI j = 1) := by show codeI j = 1; unfold codeI; rw [hq]; rfl
    go_wp2_with fail
    go_ret2
    exact ⟨ret_ii H1.out.symm H2.out.symm, hB2⟩
  · have H1 : Hid (depI12 j = depD 12 j) := by show depI12 j = depD 12 j; unfold depI12; rw [hq]; rfl
    have H2 : Hid (codeI j = 0) := by show codeI j = 0; unfold codeI; rw [hq]; rfl
    have HF : Hid (Fine 12 j) := fine_of_ok hq
    go_wp2_with fail
    refine (depthI 12 (by omega) j _ B _ HF.out (HJ.out.later hB2)).mono ?_
    rintro e w2 ⟨rfl, hB3⟩
    have hB4 : Below w.heap.size w w2 := hB2.trans (hB3.mono hB2.size)
    clear hB3
    go_wp2_with fail
    go_ret2
    exact ⟨ret_ii H1.out.symm H2.out.symm, hB4⟩
end Go.Proofs.Ytolcaogggoklmaa
