import Derived.Test.YtnkgojjgiemgmaaZay
import Derived.Deep.RegionHeld3
import Derived.Test.YtnkgojjgiemgmaaZTk
namespace Go.Proofs.Ytnkgojjgiemgmaa
open Go.RowKit
set_option linter.unusedSimpArgs false
def posI : List Int → Int → Nat
  | [], _ => 0
  | m :: r, n => if m < n then posI r n + 1 else 0
def putI (F : List Int) (n : Int) : List Int := if F[posI F n]? = some n then F else F.take (posI F n) ++ [n] ++ F.drop (posI F n)
theorem posI_at {n : Int} : ∀ {F : List Int} {k : Nat}, k ≤ F.length → (∀ m (h : m < F.length), m < k → F[m] < n) → (∀ h : k < F.length, ¬ F[k] < n) → posI F n = k
  | [], k, hk, _, _ => by
    have : k = 0 := by simpa using hk
    subst this; rfl
  | m :: r, 0, _, _, h => by
    have h0 : ¬ m < n := h (by simp)
    simp [posI, h0]
  | m :: r, k + 1, hk, hl, h => by
    have h0 : m < n := hl 0 (by simp) (by omega)
    have ih := posI_at (F := r) (k := k) (by simpa using hk) (fun j hj hjk => by have := hl (j + 1) (by simpa using hj) (by omega); simpa using this) (fun hj => by have := h (by simpa using hj); simpa using this)
    simp [posI, h0, ih]
theorem putI_no {F : List Int} {n : Int} {k : Nat} (hp : posI F n = k) (hk : k < F.length) (h : F[k] = n) : putI F n = F := by
  unfold putI; rw [hp, List.getElem?_eq_getElem hk, h, if_pos rfl]
theorem putI_end {F : List Int} {n : Int} {k : Nat} (hp : posI F n = k) (hk : ¬ k < F.length) : putI F n = F.take k ++ [n] ++ F.drop k := by
  unfold putI; rw [hp, List.getElem?_eq_none (by omega), if_neg (by simp)]
theorem putI_mid {F : List Int} {n : Int} {k : Nat} (hp : posI F n = k) (hk : k < F.length) (h : F[k] ≠ n) : putI F n = F.take k ++ [n] ++ F.drop k := by
  unfold putI; rw [hp, List.getElem?_eq_getElem hk, if_neg (by simpa using h)]
def PutIns (w : World) (B : Nat → Prop) (F : List Int) (e : Ending) (w' : World) : Prop := ∃ (b off c : Nat), e = .returned (.slice (some ⟨b, off, none⟩) F.length c) ∧ Rd w' (fun d => B d ∨ w.heap.size ≤ d) (dIntS F) (.slice (some ⟨b, off, none⟩) F.length c) ∧ F.length ≤ c ∧ Below w.heap.size w w'
theorem IH.ans {w W : World} {B : Nat → Prop} {F : List Int} {a : Option Addr} {c : Nat} (h : IH w W F (.slice a F.length c)) : PutIns w B F (.returned (.slice a F.length c)) W := by
  obtain ⟨g, hg, hgl⟩ := h.own
  obtain ⟨g', rfl⟩ : ∃ g', a = some ⟨g', 0, none⟩ := SG.blk h.gr ⟨g, hg⟩
  refine ⟨g', 0, c, rfl, ?_, SG.cap h.gr, h.bel⟩
  refine Rd.mono (B := fun d => w.heap.size ≤ d) ?_ (fun d hd => .inr hd)
  obtain ⟨xs, h1, h2⟩ := h.gr
  rcases h1.2 with ⟨e, -⟩ | ⟨g2, cap, cur, e, hg2, hh, r1, r2, r3, r4⟩
  · cases e
  · simp only [Value.slice.injEq, Option.some.injEq, Addr.mk.injEq, true_and, and_true] at e
    obtain ⟨rfl, rfl⟩ := e
    refine ⟨_, _, rfl, ?_⟩
    by_cases h0 : F.length = 0
    · exact .inl h0
    · refine .inr ⟨g', 0, rfl, hg2, by omega, fun i j hi hj => ?_⟩
      obtain ⟨u, hu, hr⟩ := h2 i j hi hj
      have hlt := spot_lt hi hj
      refine ⟨u, ?_, ?_⟩
      · rw [← r4, List.getElem?_take_of_lt hlt, Array.getElem?_toList] at hu
        rw [Nat.zero_add]
        rw [Nat.mul_one] at hu ⊢
        simp [World.cell?, hh, hu]
      · rw [lsI_at hi]
        have hr' : u = .int .i64 (F.getD i 0) := hr
        rw [hr']; rfl
set_option maxRecDepth 100000 in
set_option maxHeartbeats 12800000 in
theorem putIs (F : List Int) (n : Int) (b off c : Nat) (B : Nat → Prop) (w : World) (hl : F.length ≤ 4000000) (hS : Rd w B (dIntS F) (.slice (some ⟨b, off, none⟩) F.length c)) (hcap : F.length ≤ c) :
    Calls Try.prog 29 #[.slice (some ⟨b, off, none⟩) F.length c, .int .i64 n] w (PutIns w B (putI F n)) := by
  have CF : Hid (∀ W, Below w.heap.size w W → ∀ j (h : j < F.length), W.cell? ⟨b, off + j, none⟩ = some (.int .i64 F[j])) := fun W h j hj => by
    obtain ⟨u, e, r⟩ := (hS.later h).spotT (d := cInt) (n := 1) hj (j := 0) (by omega)
    obtain rfl : u = .int .i64 F[j] := r
    rw [Nat.mul_one, Nat.add_zero] at e
    exact e
  have HS := Lib.hid hS
  have HC := Lib.hid hcap
  clear hS hcap
  go_enter Try.func29, Try.ntmps29
  go_wp2_with fail
  go_loopw [5] (fun i wr => ∃ k : Nat, k ≤ F.length ∧ i = .int .i64 k ∧ Hid ((∀ m (h : m < F.length), m < k → F[m] < n) ∧ wr = w)) (fun i _ => F.length - (intOf i).toNat)
  case atStart => exact ⟨0, Nat.zero_le _, rfl, fun m _ h => absurd h (by omega), rfl⟩
  case round =>
    obtain ⟨k, hk, rfl, HW⟩ := hrel
    have hwr := HW.out.2
    subst hwr
    by_cases hgo : ∃ h : k < F.length, F[k] < n
    case pos =>
      obtain ⟨hlt, hn⟩ := hgo
      have hki : decide ((k : Int) < (F.length : Int)) = true := decide_eq_true (by omega)
      have hki2 : (k : Int) < (F.length : Int) := by omega
      have c0 := CF.out wr (Below.refl _ _) k hlt
      have dn : decide (F[k] < n) = true := decide_eq_true hn
      have HN : Hid (∀ m (h : m < F.length), m < k + 1 → F[m] < n) := fun m h hm => by
        by_cases e : m = k
        · subst e; exact hn
        · exact HW.out.1 m h (by omega)
      clear hn
      generalize F[k] = y at *
      go_wp2_with fail
      go_roundw
      case rel => exact ⟨k + 1, by omega, by go_num, HN.out, trivial⟩
      case measure => simp [intOf]; omega
    have HP : Hid (posI F n = k) := posI_at hk HW.out.1 (fun h hn => hgo ⟨h, hn⟩)
    clear HW
    by_cases hlt : k < F.length
    case neg =>
      have hki : decide ((k : Int) < (F.length : Int)) = false := decide_eq_false (by omega)
      have hki3 : ¬ (k : Int) < (F.length : Int) := by omega
      have HPT : Hid (putI F n = [] ++ F.take k ++ [n] ++ F.drop k) := by rw [List.nil_append]; exact putI_end HP.out hlt
      obtain ⟨ad, hif⟩ : ∃ ad, (if c = k then some (⟨b, off, none⟩ : Addr) else some ⟨b, off + k, none⟩) = some ad := by
        by_cases e : c = k
        · exact ⟨_, by rw [if_pos e]⟩
        · exact ⟨_, by rw [if_neg e]⟩
      have HD : Hid (∀ W, Below wr.heap.size wr W → ∀ j, j < (F.drop k).length → W.cell? (ad.add j) = some (.int .i64 ((F.drop k).getD j 0))) := fun W h j hj => by
        have hj2 : k + j < F.length := by rw [List.length_drop] at hj; omega
        have hne : ¬ c = k := by have := HC.out; omega
        rw [if_neg hne, Option.some.injEq] at hif
        rw [← hif, Addr.add_mid, List.getD_eq_getElem?_getD, List.getElem?_drop, List.getElem?_eq_getElem hj2, Nat.add_assoc]
        exact CF.out W h (k + j) hj2
      have HT : Hid (∀ W, Below wr.heap.size wr W → ∀ j, j < (F.take k).length → W.cell? ((⟨b, off, none⟩ : Addr).add j) = some (.int .i64 ((F.take k).getD j 0))) := fun W h j hj => by
        have hj2 : j < k ∧ j < F.length := by rw [List.length_take] at hj; omega
        rw [Addr.add_mid, List.getD_eq_getElem?_getD, List.getElem?_take_of_lt hj2.1, List.getElem?_eq_getElem hj2.2]
        exact CF.out W h j hj2.2
      have HLN : Hid ((F.take k).length = k ∧ (F.drop k).length = F.length - k ∧ F.length ≤ 4000000) := ⟨by rw [List.length_take]; omega, List.length_drop, hl⟩
      have HI1 : Hid (IH wr (wr.alloc (.cells #[] 3)).drew [] (.slice (some ⟨wr.heap.size, 0, none⟩) 0 0)) := (IH.new (Below.refl _ _)).later (Below.refl _ _).drew
      have HI2 : Hid (IH wr ((wr.alloc (.cells #[] 3)).alloc (.cells #[.int .i64 n] 3)).drew [] (.slice (some ⟨wr.heap.size, 0, none⟩) 0 0) ∧ ((wr.alloc (.cells #[] 3)).alloc (.cells #[.int .i64 n] 3)).drew.heap[wr.heap.size + 1]? = some (.cells #[.int .i64 n] 3)) := ⟨((IH.new (Below.refl _ _)).later (below_allocD _ _)).later (Below.refl _ _).drew, by have h := heap_newD (wr.alloc (.cells #[] 3)) (.cells #[.int .i64 n] 3); rw [size_allocD] at h; exact h⟩
      have HI3 : Hid (IH wr ((wr.alloc (.cells #[.int .i64 n] 3)).alloc (.cells #[] 3)).drew [] (.slice (some ⟨wr.heap.size + 1, 0, none⟩) 0 0) ∧ ((wr.alloc (.cells #[.int .i64 n] 3)).alloc (.cells #[] 3)).drew.heap[wr.heap.size]? = some (.cells #[.int .i64 n] 3)) := ⟨by
        have h := (IH.new (w := wr) (below_allocD wr (.cells #[.int .i64 n] 3))).later (Below.refl _ _).drew
        rw [size_allocD] at h
        exact h, heap_keptD (heap_newD _ _) (below_allocD _ _).drew⟩
      have hk00 : (0 : Int) ≤ (k : Int) := by omega
      have hkn : (k : Int) ≤ (F.length : Int) := by omega
      have hkc : (k : Int) ≤ (c : Int) := by have := HC.out; omega
      have hnc : (F.length : Int) ≤ (c : Int) := by have := HC.out; omega
      clear hgo hlt
      go_wp2_with fail
      refine wp_region_held_drew (S := (fun _ => True)) (by kernel_rfl) ?_ (fun hHeld => ?_)
      · trivial
      refine wpAnyH_take (i := 1) (v := ?_) rfl (by kernel_rfl) (by kernel_rfl) (by kernel_rfl) (fun _ _ _ h => h) (Or.inl ⟨by kernel_rfl, ?_⟩) (by assumption) ?_
      rotate_left
      · (intro wS hSw; (try dsimp only at hSw); go_simp <;> with_reducible rfl)
      try simp only [Act.put, tkS]
      refine wpAnyH_take (i := 2) (v := ?_) rfl (by kernel_rfl) (by kernel_rfl) (by kernel_rfl) (fun _ _ _ h => h) (Or.inl ⟨by kernel_rfl, ?_⟩) (by assumption) ?_
      rotate_left
      · (intro wS hSw; (try dsimp only at hSw); go_simp <;> with_reducible rfl)
      try simp only [Act.put, tkS]
      refine wpAnyH_take (i := 3) (v := ?_) rfl (by kernel_rfl) (by kernel_rfl) (by kernel_rfl) (fun _ _ _ h => h) (Or.inl ⟨by kernel_rfl, ?_⟩) (by assumption) ?_
      rotate_left
      · (intro wS hSw; (try dsimp only at hSw); go_simp <;> with_reducible rfl)
      try simp only [Act.put, tkS]
      refine wpAnyH_take (i := 5) (v := ?_) rfl (by kernel_rfl) (by kernel_rfl) (by kernel_rfl) (fun _ _ _ h => h) (Or.inl ⟨by kernel_rfl, ?_⟩) (by assumption) ?_
      rotate_left
      · (intro wS hSw; (try dsimp only at hSw); go_simp <;> with_reducible rfl)
      try simp only [Act.put, tkS]
      refine wpAnyH_take (i := 8) (v := ?_) rfl (by kernel_rfl) (by kernel_rfl) (by kernel_rfl) (fun _ _ _ h => h) (Or.inl ⟨by kernel_rfl, ?_⟩) (by assumption) ?_
      rotate_left
      · (intro wS hSw; (try dsimp only at hSw); go_simp <;> with_reducible rfl)
      try simp only [Act.put, tkS]
      refine wpAnyH_take (i := 9) (v := ?_) rfl (by kernel_rfl) (by kernel_rfl) (by kernel_rfl) (fun _ _ _ h => h) (Or.inl ⟨by kernel_rfl, ?_⟩) (by assumption) ?_
      rotate_left
      · (intro wS hSw; (try dsimp only at hSw); go_simp <;> with_reducible rfl)
      try simp only [Act.put, tkS]
      refine wpAnyH_take (i := 10) (v := ?_) rfl (by kernel_rfl) (by kernel_rfl) (by kernel_rfl) (fun _ _ _ h => h) (Or.inl ⟨by kernel_rfl, ?_⟩) (by assumption) ?_
      rotate_left
      · (intro wS hSw; (try dsimp only at hSw); go_simp <;> with_reducible rfl)
      try simp only [Act.put, tkS]
      refine wpAnyH_ready (rs := [0, 6]) (by kernel_rfl) (by simp) (AllReadyH.cons rfl (fun K hK => ?_) (AllReadyH.cons rfl (fun K hK => ?_) AllReadyH.nil))
      ·
        go_simp
        refine hK.out _ _ trivial (fun hHeld => ?_)
        clear hK K
        try simp only [Act.put, tkS]
        refine wpAnyH_ready (rs := [4, 6]) (by kernel_rfl) (by simp) (AllReadyH.cons rfl (fun K hK => ?_) (AllReadyH.cons rfl (fun K hK => ?_) AllReadyH.nil))
        ·
          obtain ⟨a1, c1, W2, hr1, hi1, hk1⟩ := IH.app HI1.out 46 (F.take k) ⟨b, off, none⟩ c (HT.out _ HI1.out.bel) (by have := HLN.out; simp; omega)
          obtain ⟨L1, hL1⟩ : ∃ m, m = ([] ++ F.take k).length := ⟨_, rfl⟩
          rw [← hL1] at hr1 hi1
          have HL1 := Lib.hid hL1
          clear hL1
          rw [HLN.out.1] at hr1
          refine step_append_is rfl (.tmp 33) (.tmp 36) 46 rfl _ _ (by rfl) (by rfl) _ _ hr1 ?_
          refine hK.out _ _ trivial (fun hHeld => ?_)
          clear hK K
          try simp only [Act.put, tkS]
          refine wpAnyH_ready (rs := [6]) (by kernel_rfl) (by simp) (AllReadyH.cons rfl (fun K hK => ?_) AllReadyH.nil)
          go_simp
          refine hK.out _ _ trivial (fun hHeld => ?_)
          clear hK K
          try simp only [Act.put, tkS]
          have hn9 := heap_newD W2 (.cells #[.int .i64 n] 3)
          have hi1b := hi1.later (below_allocD W2 (.cells #[.int .i64 n] 3))
          refine wpAnyH_ready (rs := [7]) (by kernel_rfl) (by simp) (AllReadyH.cons rfl (fun K hK => ?_) AllReadyH.nil)
          obtain ⟨a2, c2, W3, hr2, hi2, hk2⟩ := IH.app hi1b 46 [n] ⟨W2.heap.size, 0, none⟩ 1 (fun j hj => by
              obtain rfl : j = 0 := by simpa using hj
              exact cell_at (o := 0) hn9 rfl) (by have := HLN.out; simp; omega)
          obtain ⟨L2, hL2⟩ : ∃ m, m = ([] ++ F.take k ++ [n]).length := ⟨_, rfl⟩
          rw [← hL2] at hr2 hi2
          have HL2 := Lib.hid hL2
          clear hL2
          refine step_append_is rfl (.tmp 37) (.tmp 39) 46 rfl _ _ (by rfl) (by rfl) _ _ hr2 ?_
          refine hK.out _ _ trivial (fun hHeld => ?_)
          clear hK K
          try simp only [Act.put, tkS]
          refine wpAnyH_ready (rs := [11]) (by kernel_rfl) (by simp) (AllReadyH.cons rfl (fun K hK => ?_) AllReadyH.nil)
          obtain ⟨a3, c3, W4, hr3, hi3, hk3⟩ := IH.app hi2 46 (F.drop k) ad (c - k) (HD.out _ hi2.bel) (by have := HLN.out; simp; omega)
          obtain ⟨L3, hL3⟩ : ∃ m, m = ([] ++ F.take k ++ [n] ++ F.drop k).length := ⟨_, rfl⟩
          rw [← hL3] at hr3 hi3
          have HL3 := Lib.hid hL3
          clear hL3
          rw [HLN.out.2.1] at hr3
          refine step_append_is rfl (.tmp 40) (.tmp 43) 46 rfl _ _ (by rfl) (by rfl) _ _ hr3 ?_
          refine hK.out _ _ trivial (fun hHeld => ?_)
          clear hK K
          try simp only [Act.put, tkS]
          clear hn9 hi1b
          refine wpAnyH_take (i := 12) (v := ?_) rfl (by kernel_rfl) (by kernel_rfl) (by kernel_rfl) (fun _ _ _ h => h) (Or.inl ⟨by kernel_rfl, ?_⟩) (by assumption) ?_
          rotate_left
          · (intro wS hSw; (try dsimp only at hSw); go_simp <;> with_reducible rfl)
          try simp only [Act.put, tkS]
          refine wpAnyH_done (by kernel_rfl) ?_ _
          have HF : Hid (PutIns wr B ([] ++ F.take k ++ [n] ++ F.drop k) (.returned (.slice a3 L3 c3)) W4) := by rw [HL3.out]; exact IH.ans (by rw [← HL3.out]; exact hi3)
          clear hi1 hi2 hi3 hr1 hr2 hr3 hk1 hk2 hk3
          go_wp2_with fail
          go_ret
          rw [HPT.out]; exact HF.out
        ·
          go_simp
          refine hK.out _ _ trivial (fun hHeld => ?_)
          clear hK K
          try simp only [Act.put, tkS]
          refine wpAnyH_ready (rs := [4]) (by kernel_rfl) (by simp) (AllReadyH.cons rfl (fun K hK => ?_) AllReadyH.nil)
          obtain ⟨a1, c1, W2, hr1, hi1, hk1⟩ := IH.app HI2.out.1 46 (F.take k) ⟨b, off, none⟩ c (HT.out _ HI2.out.1.bel) (by have := HLN.out; simp; omega)
          obtain ⟨L1, hL1⟩ : ∃ m, m = ([] ++ F.take k).length := ⟨_, rfl⟩
          rw [← hL1] at hr1 hi1
          have HL1 := Lib.hid hL1
          clear hL1
          rw [HLN.out.1] at hr1
          refine step_append_is rfl (.tmp 33) (.tmp 36) 46 rfl _ _ (by rfl) (by rfl) _ _ hr1 ?_
          refine hK.out _ _ trivial (fun hHeld => ?_)
          clear hK K
          try simp only [Act.put, tkS]
          have hn9 := hk1 _ _ HI2.out.2 (by simp [Value.ownBlock])
          refine wpAnyH_ready (rs := [7]) (by kernel_rfl) (by simp) (AllReadyH.cons rfl (fun K hK => ?_) AllReadyH.nil)
          obtain ⟨a2, c2, W3, hr2, hi2, hk2⟩ := IH.app hi1 46 [n] ⟨wr.heap.size + 1, 0, none⟩ 1 (fun j hj => by
              obtain rfl : j = 0 := by simpa using hj
              exact cell_at (o := 0) hn9 rfl) (by have := HLN.out; simp; omega)
          obtain ⟨L2, hL2⟩ : ∃ m, m = ([] ++ F.take k ++ [n]).length := ⟨_, rfl⟩
          rw [← hL2] at hr2 hi2
          have HL2 := Lib.hid hL2
          clear hL2
          refine step_append_is rfl (.tmp 37) (.tmp 39) 46 rfl _ _ (by rfl) (by rfl) _ _ hr2 ?_
          refine hK.out _ _ trivial (fun hHeld => ?_)
          clear hK K
          try simp only [Act.put, tkS]
          refine wpAnyH_ready (rs := [11]) (by kernel_rfl) (by simp) (AllReadyH.cons rfl (fun K hK => ?_) AllReadyH.nil)
          obtain ⟨a3, c3, W4, hr3, hi3, hk3⟩ := IH.app hi2 46 (F.drop k) ad (c - k) (HD.out _ hi2.bel) (by have := HLN.out; simp; omega)
          obtain ⟨L3, hL3⟩ : ∃ m, m = ([] ++ F.take k ++ [n] ++ F.drop k).length := ⟨_, rfl⟩
          rw [← hL3] at hr3 hi3
          have HL3 := Lib.hid hL3
          clear hL3
          rw [HLN.out.2.1] at hr3
          refine step_append_is rfl (.tmp 40) (.tmp 43) 46 rfl _ _ (by rfl) (by rfl) _ _ hr3 ?_
          refine hK.out _ _ trivial (fun hHeld => ?_)
          clear hK K
          try simp only [Act.put, tkS]
          clear hn9
          refine wpAnyH_take (i := 12) (v := ?_) rfl (by kernel_rfl) (by kernel_rfl) (by kernel_rfl) (fun _ _ _ h => h) (Or.inl ⟨by kernel_rfl, ?_⟩) (by assumption) ?_
          rotate_left
          · (intro wS hSw; (try dsimp only at hSw); go_simp <;> with_reducible rfl)
          try simp only [Act.put, tkS]
          refine wpAnyH_done (by kernel_rfl) ?_ _
          have HF : Hid (PutIns wr B ([] ++ F.take k ++ [n] ++ F.drop k) (.returned (.slice a3 L3 c3)) W4) := by rw [HL3.out]; exact IH.ans (by rw [← HL3.out]; exact hi3)
          clear hi1 hi2 hi3 hr1 hr2 hr3 hk1 hk2 hk3
          go_wp2_with fail
          go_ret
          rw [HPT.out]; exact HF.out
      ·
        go_simp
        refine hK.out _ _ trivial (fun hHeld => ?_)
        clear hK K
        try simp only [Act.put, tkS]
        refine wpAnyH_ready (rs := [0]) (by kernel_rfl) (by simp) (AllReadyH.cons rfl (fun K hK => ?_) AllReadyH.nil)
        go_simp
        refine hK.out _ _ trivial (fun hHeld => ?_)
        clear hK K
        try simp only [Act.put, tkS]
        refine wpAnyH_ready (rs := [4]) (by kernel_rfl) (by simp) (AllReadyH.cons rfl (fun K hK => ?_) AllReadyH.nil)
        obtain ⟨a1, c1, W2, hr1, hi1, hk1⟩ := IH.app HI3.out.1 46 (F.take k) ⟨b, off, none⟩ c (HT.out _ HI3.out.1.bel) (by have := HLN.out; simp; omega)
        obtain ⟨L1, hL1⟩ : ∃ m, m = ([] ++ F.take k).length := ⟨_, rfl⟩
        rw [← hL1] at hr1 hi1
        have HL1 := Lib.hid hL1
        clear hL1
        rw [HLN.out.1] at hr1
        refine step_append_is rfl (.tmp 33) (.tmp 36) 46 rfl _ _ (by rfl) (by rfl) _ _ hr1 ?_
        refine hK.out _ _ trivial (fun hHeld => ?_)
        clear hK K
        try simp only [Act.put, tkS]
        have hn9 := hk1 _ _ HI3.out.2 (by simp [Value.ownBlock])
        refine wpAnyH_ready (rs := [7]) (by kernel_rfl) (by simp) (AllReadyH.cons rfl (fun K hK => ?_) AllReadyH.nil)
        obtain ⟨a2, c2, W3, hr2, hi2, hk2⟩ := IH.app hi1 46 [n] ⟨wr.heap.size, 0, none⟩ 1 (fun j hj => by
            obtain rfl : j = 0 := by simpa using hj
            exact cell_at (o := 0) hn9 rfl) (by have := HLN.out; simp; omega)
        obtain ⟨L2, hL2⟩ : ∃ m, m = ([] ++ F.take k ++ [n]).length := ⟨_, rfl⟩
        rw [← hL2] at hr2 hi2
        have HL2 := Lib.hid hL2
        clear hL2
        refine step_append_is rfl (.tmp 37) (.tmp 39) 46 rfl _ _ (by rfl) (by rfl) _ _ hr2 ?_
        refine hK.out _ _ trivial (fun hHeld => ?_)
        clear hK K
        try simp only [Act.put, tkS]
        refine wpAnyH_ready (rs := [11]) (by kernel_rfl) (by simp) (AllReadyH.cons rfl (fun K hK => ?_) AllReadyH.nil)
        obtain ⟨a3, c3, W4, hr3, hi3, hk3⟩ := IH.app hi2 46 (F.drop k) ad (c - k) (HD.out _ hi2.bel) (by have := HLN.out; simp; omega)
        obtain ⟨L3, hL3⟩ : ∃ m, m = ([] ++ F.take k ++ [n] ++ F.drop k).length := ⟨_, rfl⟩
        rw [← hL3] at hr3 hi3
        have HL3 := Lib.hid hL3
        clear hL3
        rw [HLN.out.2.1] at hr3
        refine step_append_is rfl (.tmp 40) (.tmp 43) 46 rfl _ _ (by rfl) (by rfl) _ _ hr3 ?_
        refine hK.out _ _ trivial (fun hHeld => ?_)
        clear hK K
        try simp only [Act.put, tkS]
        clear hn9
        refine wpAnyH_take (i := 12) (v := ?_) rfl (by kernel_rfl) (by kernel_rfl) (by kernel_rfl) (fun _ _ _ h => h) (Or.inl ⟨by kernel_rfl, ?_⟩) (by assumption) ?_
        rotate_left
        · (intro wS hSw; (try dsimp only at hSw); go_simp <;> with_reducible rfl)
        try simp only [Act.put, tkS]
        refine wpAnyH_done (by kernel_rfl) ?_ _
        have HF : Hid (PutIns wr B ([] ++ F.take k ++ [n] ++ F.drop k) (.returned (.slice a3 L3 c3)) W4) := by rw [HL3.out]; exact IH.ans (by rw [← HL3.out]; exact hi3)
        clear hi1 hi2 hi3 hr1 hr2 hr3 hk1 hk2 hk3
        go_wp2_with fail
        go_ret
        rw [HPT.out]; exact HF.out
    have hki : decide ((k : Int) < (F.length : Int)) = true := decide_eq_true (by omega)
    have hki2 : (k : Int) < (F.length : Int) := by omega
    have c0 := CF.out wr (Below.refl _ _) k hlt
    have dn : decide (F[k] < n) = false := decide_eq_false (fun h => hgo ⟨hlt, h⟩)
    by_cases he : F[k] = n
    case pos =>
      have HPT := Lib.hid (putI_no HP.out hlt he)
      have hen : (F[k] == n) = true := by simpa using he
      have HF : Hid (PutIns wr B F (.returned (.slice (some ⟨b, off, none⟩) F.length c)) wr) := ⟨b, off, c, rfl, HS.out.mono (fun _ h => .inl h), HC.out, Below.refl _ _⟩
      clear hgo he
      generalize F[k] = y at *
      go_wp2_with fail
      go_ret
      rw [HPT.out]; exact HF.out
    have HPT : Hid (putI F n = [] ++ F.take k ++ [n] ++ F.drop k) := by rw [List.nil_append]; exact putI_mid HP.out hlt he
    have hen : (F[k] == n) = false := by simpa using he
    obtain ⟨ad, hif⟩ : ∃ ad, (if c = k then some (⟨b, off, none⟩ : Addr) else some ⟨b, off + k, none⟩) = some ad := by
      by_cases e : c = k
      · exact ⟨_, by rw [if_pos e]⟩
      · exact ⟨_, by rw [if_neg e]⟩
    have HD : Hid (∀ W, Below wr.heap.size wr W → ∀ j, j < (F.drop k).length → W.cell? (ad.add j) = some (.int .i64 ((F.drop k).getD j 0))) := fun W h j hj => by
      have hj2 : k + j < F.length := by rw [List.length_drop] at hj; omega
      have hne : ¬ c = k := by have := HC.out; omega
      rw [if_neg hne, Option.some.injEq] at hif
      rw [← hif, Addr.add_mid, List.getD_eq_getElem?_getD, List.getElem?_drop, List.getElem?_eq_getElem hj2, Nat.add_assoc]
      exact CF.out W h (k + j) hj2
    have HT : Hid (∀ W, Below wr.heap.size wr W → ∀ j, j < (F.take k).length → W.cell? ((⟨b, off, none⟩ : Addr).add j) = some (.int .i64 ((F.take k).getD j 0))) := fun W h j hj => by
      have hj2 : j < k ∧ j < F.length := by rw [List.length_take] at hj; omega
      rw [Addr.add_mid, List.getD_eq_getElem?_getD, List.getElem?_take_of_lt hj2.1, List.getElem?_eq_getElem hj2.2]
      exact CF.out W h j hj2.2
    have HLN : Hid ((F.take k).length = k ∧ (F.drop k).length = F.length - k ∧ F.length ≤ 4000000) := ⟨by rw [List.length_take]; omega, List.length_drop, hl⟩
    have HI1 : Hid (IH wr (wr.alloc (.cells #[] 3)).drew [] (.slice (some ⟨wr.heap.size, 0, none⟩) 0 0)) := (IH.new (Below.refl _ _)).later (Below.refl _ _).drew
    have HI2 : Hid (IH wr ((wr.alloc (.cells #[] 3)).alloc (.cells #[.int .i64 n] 3)).drew [] (.slice (some ⟨wr.heap.size, 0, none⟩) 0 0) ∧ ((wr.alloc (.cells #[] 3)).alloc (.cells #[.int .i64 n] 3)).drew.heap[wr.heap.size + 1]? = some (.cells #[.int .i64 n] 3)) := ⟨((IH.new (Below.refl _ _)).later (below_allocD _ _)).later (Below.refl _ _).drew, by have h := heap_newD (wr.alloc (.cells #[] 3)) (.cells #[.int .i64 n] 3); rw [size_allocD] at h; exact h⟩
    have HI3 : Hid (IH wr ((wr.alloc (.cells #[.int .i64 n] 3)).alloc (.cells #[] 3)).drew [] (.slice (some ⟨wr.heap.size + 1, 0, none⟩) 0 0) ∧ ((wr.alloc (.cells #[.int .i64 n] 3)).alloc (.cells #[] 3)).drew.heap[wr.heap.size]? = some (.cells #[.int .i64 n] 3)) := ⟨by
      have h := (IH.new (w := wr) (below_allocD wr (.cells #[.int .i64 n] 3))).later (Below.refl _ _).drew
      rw [size_allocD] at h
      exact h, heap_keptD (heap_newD _ _) (below_allocD _ _).drew⟩
    have hk00 : (0 : Int) ≤ (k : Int) := by omega
    have hkn : (k : Int) ≤ (F.length : Int) := by omega
    have hkc : (k : Int) ≤ (c : Int) := by have := HC.out; omega
    have hnc : (F.length : Int) ≤ (c : Int) := by have := HC.out; omega
    clear hgo he
    generalize F[k] = y at *
    go_wp2_with fail
    refine wp_region_held_drew (S := (fun _ => True)) (by kernel_rfl) ?_ (fun hHeld => ?_)
    · trivial
    refine wpAnyH_take (i := 1) (v := ?_) rfl (by kernel_rfl) (by kernel_rfl) (by kernel_rfl) (fun _ _ _ h => h) (Or.inl ⟨by kernel_rfl, ?_⟩) (by assumption) ?_
    rotate_left
    · (intro wS hSw; (try dsimp only at hSw); go_simp <;> with_reducible rfl)
    try simp only [Act.put, tkS]
    refine wpAnyH_take (i := 2) (v := ?_) rfl (by kernel_rfl) (by kernel_rfl) (by kernel_rfl) (fun _ _ _ h => h) (Or.inl ⟨by kernel_rfl, ?_⟩) (by assumption) ?_
    rotate_left
    · (intro wS hSw; (try dsimp only at hSw); go_simp <;> with_reducible rfl)
    try simp only [Act.put, tkS]
    refine wpAnyH_take (i := 3) (v := ?_) rfl (by kernel_rfl) (by kernel_rfl) (by kernel_rfl) (fun _ _ _ h => h) (Or.inl ⟨by kernel_rfl, ?_⟩) (by assumption) ?_
    rotate_left
    · (intro wS hSw; (try dsimp only at hSw); go_simp <;> with_reducible rfl)
    try simp only [Act.put, tkS]
    refine wpAnyH_take (i := 5) (v := ?_) rfl (by kernel_rfl) (by kernel_rfl) (by kernel_rfl) (fun _ _ _ h => h) (Or.inl ⟨by kernel_rfl, ?_⟩) (by assumption) ?_
    rotate_left
    · (intro wS hSw; (try dsimp only at hSw); go_simp <;> with_reducible rfl)
    try simp only [Act.put, tkS]
    refine wpAnyH_take (i := 8) (v := ?_) rfl (by kernel_rfl) (by kernel_rfl) (by kernel_rfl) (fun _ _ _ h => h) (Or.inl ⟨by kernel_rfl, ?_⟩) (by assumption) ?_
    rotate_left
    · (intro wS hSw; (try dsimp only at hSw); go_simp <;> with_reducible rfl)
    try simp only [Act.put, tkS]
    refine wpAnyH_take (i := 9) (v := ?_) rfl (by kernel_rfl) (by kernel_rfl) (by kernel_rfl) (fun _ _ _ h => h) (Or.inl ⟨by kernel_rfl, ?_⟩) (by assumption) ?_
    rotate_left
    · (intro wS hSw; (try dsimp only at hSw); go_simp <;> with_reducible rfl)
    try simp only [Act.put, tkS]
    refine wpAnyH_take (i := 10) (v := ?_) rfl (by kernel_rfl) (by kernel_rfl) (by kernel_rfl) (fun _ _ _ h => h) (Or.inl ⟨by kernel_rfl, ?_⟩) (by assumption) ?_
    rotate_left
    · (intro wS hSw; (try dsimp only at hSw); go_simp <;> with_reducible rfl)
    try simp only [Act.put, tkS]
    refine wpAnyH_ready (rs := [0, 6]) (by kernel_rfl) (by simp) (AllReadyH.cons rfl (fun K hK => ?_) (AllReadyH.cons rfl (fun K hK => ?_) AllReadyH.nil))
    ·
      go_simp
      refine hK.out _ _ trivial (fun hHeld => ?_)
      clear hK K
      try simp only [Act.put, tkS]
      refine wpAnyH_ready (rs := [4, 6]) (by kernel_rfl) (by simp) (AllReadyH.cons rfl (fun K hK => ?_) (AllReadyH.cons rfl (fun K hK => ?_) AllReadyH.nil))
      ·
        obtain ⟨a1, c1, W2, hr1, hi1, hk1⟩ := IH.app HI1.out 46 (F.take k) ⟨b, off, none⟩ c (HT.out _ HI1.out.bel) (by have := HLN.out; simp; omega)
        obtain ⟨L1, hL1⟩ : ∃ m, m = ([] ++ F.take k).length := ⟨_, rfl⟩
        rw [← hL1] at hr1 hi1
        have HL1 := Lib.hid hL1
        clear hL1
        rw [HLN.out.1] at hr1
        refine step_append_is rfl (.tmp 33) (.tmp 36) 46 rfl _ _ (by rfl) (by rfl) _ _ hr1 ?_
        refine hK.out _ _ trivial (fun hHeld => ?_)
        clear hK K
        try simp only [Act.put, tkS]
        refine wpAnyH_ready (rs := [6]) (by kernel_rfl) (by simp) (AllReadyH.cons rfl (fun K hK => ?_) AllReadyH.nil)
        go_simp
        refine hK.out _ _ trivial (fun hHeld => ?_)
        clear hK K
        try simp only [Act.put, tkS]
        have hn9 := heap_newD W2 (.cells #[.int .i64 n] 3)
        have hi1b := hi1.later (below_allocD W2 (.cells #[.int .i64 n] 3))
        refine wpAnyH_ready (rs := [7]) (by kernel_rfl) (by simp) (AllReadyH.cons rfl (fun K hK => ?_) AllReadyH.nil)
        obtain ⟨a2, c2, W3, hr2, hi2, hk2⟩ := IH.app hi1b 46 [n] ⟨W2.heap.size, 0, none⟩ 1 (fun j hj => by
            obtain rfl : j = 0 := by simpa using hj
            exact cell_at (o := 0) hn9 rfl) (by have := HLN.out; simp; omega)
        obtain ⟨L2, hL2⟩ : ∃ m, m = ([] ++ F.take k ++ [n]).length := ⟨_, rfl⟩
        rw [← hL2] at hr2 hi2
        have HL2 := Lib.hid hL2
        clear hL2
        refine step_append_is rfl (.tmp 37) (.tmp 39) 46 rfl _ _ (by rfl) (by rfl) _ _ hr2 ?_
        refine hK.out _ _ trivial (fun hHeld => ?_)
        clear hK K
        try simp only [Act.put, tkS]
        refine wpAnyH_ready (rs := [11]) (by kernel_rfl) (by simp) (AllReadyH.cons rfl (fun K hK => ?_) AllReadyH.nil)
        obtain ⟨a3, c3, W4, hr3, hi3, hk3⟩ := IH.app hi2 46 (F.drop k) ad (c - k) (HD.out _ hi2.bel) (by have := HLN.out; simp; omega)
        obtain ⟨L3, hL3⟩ : ∃ m, m = ([] ++ F.take k ++ [n] ++ F.drop k).length := ⟨_, rfl⟩
        rw [← hL3] at hr3 hi3
        have HL3 := Lib.hid hL3
        clear hL3
        rw [HLN.out.2.1] at hr3
        refine step_append_is rfl (.tmp 40) (.tmp 43) 46 rfl _ _ (by rfl) (by rfl) _ _ hr3 ?_
        refine hK.out _ _ trivial (fun hHeld => ?_)
        clear hK K
        try simp only [Act.put, tkS]
        clear hn9 hi1b
        refine wpAnyH_take (i := 12) (v := ?_) rfl (by kernel_rfl) (by kernel_rfl) (by kernel_rfl) (fun _ _ _ h => h) (Or.inl ⟨by kernel_rfl, ?_⟩) (by assumption) ?_
        rotate_left
        · (intro wS hSw; (try dsimp only at hSw); go_simp <;> with_reducible rfl)
        try simp only [Act.put, tkS]
        refine wpAnyH_done (by kernel_rfl) ?_ _
        have HF : Hid (PutIns wr B ([] ++ F.take k ++ [n] ++ F.drop k) (.returned (.slice a3 L3 c3)) W4) := by rw [HL3.out]; exact IH.ans (by rw [← HL3.out]; exact hi3)
        clear hi1 hi2 hi3 hr1 hr2 hr3 hk1 hk2 hk3
        go_wp2_with fail
        go_ret
        rw [HPT.out]; exact HF.out
      ·
        go_simp
        refine hK.out _ _ trivial (fun hHeld => ?_)
        clear hK K
        try simp only [Act.put, tkS]
        refine wpAnyH_ready (rs := [4]) (by kernel_rfl) (by simp) (AllReadyH.cons rfl (fun K hK => ?_) AllReadyH.nil)
        obtain ⟨a1, c1, W2, hr1, hi1, hk1⟩ := IH.app HI2.out.1 46 (F.take k) ⟨b, off, none⟩ c (HT.out _ HI2.out.1.bel) (by have := HLN.out; simp; omega)
        obtain ⟨L1, hL1⟩ : ∃ m, m = ([] ++ F.take k).length := ⟨_, rfl⟩
        rw [← hL1] at hr1 hi1
        have HL1 := Lib.hid hL1
        clear hL1
        rw [HLN.out.1] at hr1
        refine step_append_is rfl (.tmp 33) (.tmp 36) 46 rfl _ _ (by rfl) (by rfl) _ _ hr1 ?_
        refine hK.out _ _ trivial (fun hHeld => ?_)
        clear hK K
        try simp only [Act.put, tkS]
        have hn9 := hk1 _ _ HI2.out.2 (by simp [Value.ownBlock])
        refine wpAnyH_ready (rs := [7]) (by kernel_rfl) (by simp) (AllReadyH.cons rfl (fun K hK => ?_) AllReadyH.nil)
        obtain ⟨a2, c2, W3, hr2, hi2, hk2⟩ := IH.app hi1 46 [n] ⟨wr.heap.size + 1, 0, none⟩ 1 (fun j hj => by
            obtain rfl : j = 0 := by simpa using hj
            exact cell_at (o := 0) hn9 rfl) (by have := HLN.out; simp; omega)
        obtain ⟨L2, hL2⟩ : ∃ m, m = ([] ++ F.take k ++ [n]).length := ⟨_, rfl⟩
        rw [← hL2] at hr2 hi2
        have HL2 := Lib.hid hL2
        clear hL2
        refine step_append_is rfl (.tmp 37) (.tmp 39) 46 rfl _ _ (by rfl) (by rfl) _ _ hr2 ?_
        refine hK.out _ _ trivial (fun hHeld => ?_)
        clear hK K
        try simp only [Act.put, tkS]
        refine wpAnyH_ready (rs := [11]) (by kernel_rfl) (by simp) (AllReadyH.cons rfl (fun K hK => ?_) AllReadyH.nil)
        obtain ⟨a3, c3, W4, hr3, hi3, hk3⟩ := IH.app hi2 46 (F.drop k) ad (c - k) (HD.out _ hi2.bel) (by have := HLN.out; simp; omega)
        obtain ⟨L3, hL3⟩ : ∃ m, m = ([] ++ F.take k ++ [n] ++ F.drop k).length := ⟨_, rfl⟩
        rw [← hL3] at hr3 hi3
        have HL3 := Lib.hid hL3
        clear hL3
        rw [HLN.out.2.1] at hr3
        refine step_append_is rfl (.tmp 40) (.tmp 43) 46 rfl _ _ (by rfl) (by rfl) _ _ hr3 ?_
        refine hK.out _ _ trivial (fun hHeld => ?_)
        clear hK K
        try simp only [Act.put, tkS]
        clear hn9
        refine wpAnyH_take (i := 12) (v := ?_) rfl (by kernel_rfl) (by kernel_rfl) (by kernel_rfl) (fun _ _ _ h => h) (Or.inl ⟨by kernel_rfl, ?_⟩) (by assumption) ?_
        rotate_left
        · (intro wS hSw; (try dsimp only at hSw); go_simp <;> with_reducible rfl)
        try simp only [Act.put, tkS]
        refine wpAnyH_done (by kernel_rfl) ?_ _
        have HF : Hid (PutIns wr B ([] ++ F.take k ++ [n] ++ F.drop k) (.returned (.slice a3 L3 c3)) W4) := by rw [HL3.out]; exact IH.ans (by rw [← HL3.out]; exact hi3)
        clear hi1 hi2 hi3 hr1 hr2 hr3 hk1 hk2 hk3
        go_wp2_with fail
        go_ret
        rw [HPT.out]; exact HF.out
    ·
      go_simp
      refine hK.out _ _ trivial (fun hHeld => ?_)
      clear hK K
      try simp only [Act.put, tkS]
      refine wpAnyH_ready (rs := [0]) (by kernel_rfl) (by simp) (AllReadyH.cons rfl (fun K hK => ?_) AllReadyH.nil)
      go_simp
      refine hK.out _ _ trivial (fun hHeld => ?_)
      clear hK K
      try simp only [Act.put, tkS]
      refine wpAnyH_ready (rs := [4]) (by kernel_rfl) (by simp) (AllReadyH.cons rfl (fun K hK => ?_) AllReadyH.nil)
      obtain ⟨a1, c1, W2, hr1, hi1, hk1⟩ := IH.app HI3.out.1 46 (F.take k) ⟨b, off, none⟩ c (HT.out _ HI3.out.1.bel) (by have := HLN.out; simp; omega)
      obtain ⟨L1, hL1⟩ : ∃ m, m = ([] ++ F.take k).length := ⟨_, rfl⟩
      rw [← hL1] at hr1 hi1
      have HL1 := Lib.hid hL1
      clear hL1
      rw [HLN.out.1] at hr1
      refine step_append_is rfl (.tmp 33) (.tmp 36) 46 rfl _ _ (by rfl) (by rfl) _ _ hr1 ?_
      refine hK.out _ _ trivial (fun hHeld => ?_)
      clear hK K
      try simp only [Act.put, tkS]
      have hn9 := hk1 _ _ HI3.out.2 (by simp [Value.ownBlock])
      refine wpAnyH_ready (rs := [7]) (by kernel_rfl) (by simp) (AllReadyH.cons rfl (fun K hK => ?_) AllReadyH.nil)
      obtain ⟨a2, c2, W3, hr2, hi2, hk2⟩ := IH.app hi1 46 [n] ⟨wr.heap.size, 0, none⟩ 1 (fun j hj => by
          obtain rfl : j = 0 := by simpa using hj
          exact cell_at (o := 0) hn9 rfl) (by have := HLN.out; simp; omega)
      obtain ⟨L2, hL2⟩ : ∃ m, m = ([] ++ F.take k ++ [n]).length := ⟨_, rfl⟩
      rw [← hL2] at hr2 hi2
      have HL2 := Lib.hid hL2
      clear hL2
      refine step_append_is rfl (.tmp 37) (.tmp 39) 46 rfl _ _ (by rfl) (by rfl) _ _ hr2 ?_
      refine hK.out _ _ trivial (fun hHeld => ?_)
      clear hK K
      try simp only [Act.put, tkS]
      refine wpAnyH_ready (rs := [11]) (by kernel_rfl) (by simp) (AllReadyH.cons rfl (fun K hK => ?_) AllReadyH.nil)
      obtain ⟨a3, c3, W4, hr3, hi3, hk3⟩ := IH.app hi2 46 (F.drop k) ad (c - k) (HD.out _ hi2.bel) (by have := HLN.out; simp; omega)
      obtain ⟨L3, hL3⟩ : ∃ m, m = ([] ++ F.take k ++ [n] ++ F.drop k).length := ⟨_, rfl⟩
      rw [← hL3] at hr3 hi3
      have HL3 := Lib.hid hL3
      clear hL3
      rw [HLN.out.2.1] at hr3
      refine step_append_is rfl (.tmp 40) (.tmp 43) 46 rfl _ _ (by rfl) (by rfl) _ _ hr3 ?_
      refine hK.out _ _ trivial (fun hHeld => ?_)
      clear hK K
      try simp only [Act.put, tkS]
      clear hn9
      refine wpAnyH_take (i := 12) (v := ?_) rfl (by kernel_rfl) (by kernel_rfl) (by kernel_rfl) (fun _ _ _ h => h) (Or.inl ⟨by kernel_rfl, ?_⟩) (by assumption) ?_
      rotate_left
      · (intro wS hSw; (try dsimp only at hSw); go_simp <;> with_reducible rfl)
      try simp only [Act.put, tkS]
      refine wpAnyH_done (by kernel_rfl) ?_ _
      have HF : Hid (PutIns wr B ([] ++ F.take k ++ [n] ++ F.drop k) (.returned (.slice a3 L3 c3)) W4) := by rw [HL3.out]; exact IH.ans (by rw [← HL3.out]; exact hi3)
      clear hi1 hi2 hi3 hr1 hr2 hr3 hk1 hk2 hk3
      go_wp2_with fail
      go_ret
      rw [HPT.out]; exact HF.out
end Go.Proofs.Ytnkgojjgiemgmaa
