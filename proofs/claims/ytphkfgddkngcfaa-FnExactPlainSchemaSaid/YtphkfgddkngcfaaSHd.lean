import Derived.Test.YtphkfgddkngcfaaSMk
namespace Go.Proofs.Ytphkfgddkngcfaa
open Go.RowKit
set_option linter.unusedSimpArgs false
/-- n tables that can be read -/
structure RdT (w : World) (n : Nat) (T : Nat → Tb) (A : Nat → Ad) (a : Option Addr) : Prop where
  row : Rw w (fun _ => True) a (n * 4) (tF T A)
  cols : ∀ i, i < n → Cols w (fun _ => True) (A i).ca (T i).cols
  ints : ∀ i, i < n → Ints w (fun _ => True) (A i).ua (T i).uq
theorem OwnT.rd {w : World} {n : Nat} {T : Nat → Tb} {A : Nat → Ad} {a : Option Addr} {rb : Nat} {cb ub : Nat → Nat} (h : OwnT w n T A a rb cb ub) : RdT w n T A a :=
  ⟨Rw.same (OwnRw.rw h.row) (fun _ _ => rfl) (fun _ _ => trivial), fun i hi => Rw.same (OwnRw.rw (h.cols i hi)) (fun _ _ => rfl) (fun _ _ => trivial), fun i hi => Rw.same (OwnRw.rw (h.ints i hi)) (fun _ _ => rfl) (fun _ _ => trivial)⟩
theorem Rw.later {w w' : World} {B : Nat → Prop} {a : Option Addr} {n : Nat} {f : Nat → Value} (h : Rw w B a n f) (hb : Below w.heap.size w w') : Rw w' B a n f := h.inside.same (fun b hb' => hb.block b hb'.2) (fun _ h => h.1)
theorem RdT.later {w w' : World} {n : Nat} {T : Nat → Tb} {A : Nat → Ad} {a : Option Addr} (h : RdT w n T A a) (hb : Below w.heap.size w w') : RdT w' n T A a := ⟨h.row.later hb, fun i hi => (h.cols i hi).later hb, fun i hi => (h.ints i hi).later hb⟩
set_option maxRecDepth 100000 in
set_option maxHeartbeats 6400000 in
theorem heldTables (n : Nat) (T : Nat → Tb) (A : Nat → Ad) (a : Option Addr) (c k : Nat) (w : World) (hn : n ≤ 1000000) (h0 : 0 < k) (h1 : kat T k n < 100000000000) (hS : RdT w n (mkTs T k) A a) :
    Calls Try.prog 11 #[.slice a n c, .int .i64 k] w fun e w' => e = .returned (.int .i64 (kat T k n : Nat)) ∧ Below w.heap.size w w' := by
  have HS : Hid (∀ W, Below w.heap.size w W → RdT W n (mkTs T k) A a) := fun W h => hS.later h
  clear hS
  go_enter Try.func11, Try.ntmps11
  go_wp2_with fail
  go_loopw [1, 5] (fun q i wr => ∃ m : Nat, ∃ kk : Nat, kk = kat T k m ∧ m ≤ n ∧ i = .int .i64 m ∧ q = .int .i64 (kk : Int) ∧ Hid (Below w.heap.size w wr)) (fun _ i _ => n - (intOf i).toNat)
  case atStart => exact ⟨0, k, rfl, Nat.zero_le _, rfl, rfl, Below.refl _ _⟩
  case round =>
    obtain ⟨m, kk, hkk, hm, rfl, rfl, HW⟩ := hrel
    by_cases hlt : m < n
    · obtain ⟨b, off, rfl, -, -⟩ := Rw.at (HS.out _ HW.out).row (m * 4) (by omega)
      have hkn : kat T k (m + 1) ≤ kat T k n := kat_mono T k (m + 1) n (by omega)
      have hk2 : kk + wT (T m) < 100000000000 := by
        have : kat T k (m + 1) = kk + wT (T m) := by rw [hkk]; rfl
        omega
      have hk0 : 0 < kk := by have := kat_mono T k 0 m (by omega); have e : kat T k 0 = k := rfl; omega
      have hwt : wT (T m) = 2 + 8 * (T m).cols.length + (T m).uq.length := rfl
      have hmi : (m : Int) < (n : Int) := by omega
      have CE : Hid (∀ W, Below w.heap.size w W → (W.cell? ⟨b, off + m * 4, none⟩ = some (.string ⟨(mt kk).toArray⟩) ∧ W.cell? ⟨b, off + m * 4 + 1, none⟩ = some (.slice (A m).ca (T m).cols.length (A m).cc) ∧ W.cell? ⟨b, off + m * 4 + 2, none⟩ = some (.slice (A m).ua (T m).uq.length (A m).uc) ∧ W.cell? ⟨b, off + m * 4 + 3, none⟩ = some (.bool (remB (kk + 1 + 8 * (T m).cols.length + (T m).uq.length)))) ∧ Cols W (fun _ => True) (A m).ca (mkCs (T m).cols.length (kk + 1)) ∧ Ints W (fun _ => True) (A m).ua (mkIs (T m).uq.length (kk + 1 + 8 * (T m).cols.length))) := fun W h => by
        have hr := HS.out W h
        obtain ⟨b', off', e, -, hc⟩ := Rw.at hr.row (m * 4) (by omega)
        simp only [Option.some.injEq, Addr.mk.injEq, and_true] at e
        obtain ⟨rfl, rfl⟩ := e
        have em : mkTs T k m = mkT (T m) kk := by unfold mkTs; rw [hkk]
        have g : ∀ j, j < 4 → W.cell? ⟨b, off + m * 4 + j, none⟩ = some ((tbC (mkT (T m) kk) (A m)).getD j undef) := fun j hj => by
          rw [Nat.add_assoc, hc _ (by omega), tF_at _ _ _ _ hj, em]
        have h1 := g 0 (by omega)
        have h2 := g 1 (by omega)
        have h3 := g 2 (by omega)
        have h4 := g 3 (by omega)
        have h5 := hr.cols m hlt
        have h6 := hr.ints m hlt
        rw [em] at h5 h6
        simp only [tbC, mkT, mkCs_len, mkIs_len] at h2 h3
        exact ⟨⟨h1, h2, h3, h4⟩, h5, h6⟩
      have HK := Lib.hid hkk
      obtain ⟨t, ht⟩ : ∃ t, t = T m := ⟨_, rfl⟩
      have HT := Lib.hid ht
      rw [← ht] at CE hwt hk2
      clear hkk hkn ht
      have hk11 : kk + 10 < 1000000000000 := by omega
      have c0 := (CE.out _ HW.out).1.1
      go_wp2_with fail
      go_region_with (go_at_call 13; refine (markText kk _ ?_ ?_).mono ?_; omega; omega; rintro e w1 ⟨rfl, hB1⟩; have HW2 : Hid (Below w.heap.size w w1) := HW.out.drew.trans (hB1.mono HW.out.size); have d0 := (CE.out _ HW2.out).1.1; clear hB1)
      all_goals
        clear c0 d0
        obtain ⟨y, hy⟩ : ∃ y, y = mt kk := ⟨_, rfl⟩
        rw [← hy]
        clear hy
        have hyy : (y != y) = false := by simp
        have d1 := (CE.out _ HW2.out).1.2.1
        go_wp2_with fail
        obtain ⟨k1, hk1⟩ : ∃ k1, k1 = kk + 1 := ⟨_, rfl⟩
        rw [show ((kk : Int) + 1) = (k1 : Int) by omega]
        rw [← hk1] at CE
        have HK1 := Lib.hid hk1
        have hb1 : k1 + 8 * t.cols.length + t.uq.length + 4 < 1000000000000 := by omega
        have hk1p : 0 < k1 := by omega
        clear hk1
        with_reducible refine (heldColumns t.cols.length _ _ k1 _ _ (by omega) (by omega) (CE.out _ HW2.out).2.1).mono ?_
        rintro e w2 ⟨rfl, hB2⟩
        have HW3 : Hid (Below w.heap.size w w2) := HW2.out.trans (hB2.mono HW2.out.size)
        obtain ⟨k2, hk22⟩ : ∃ k2, k2 = k1 + 8 * t.cols.length := ⟨_, rfl⟩
        rw [← hk22] at CE ⊢
        have HK22 := Lib.hid hk22
        have hb2 : k2 + t.uq.length + 3 < 1000000000000 := by omega
        clear hk22
        have dk2 : decide ((k2 : Int) < 0) = false := by simp
        have d2 := (CE.out _ HW3.out).1.2.2.1
        clear hB2 d1
        go_wp2_with fail
        with_reducible refine (heldInts t.uq.length _ _ k2 _ _ (by omega) (CE.out _ HW3.out).2.2).mono ?_
        rintro e w3 ⟨rfl, hB3⟩
        have HW4 : Hid (Below w.heap.size w w3) := HW3.out.trans (hB3.mono HW3.out.size)
        obtain ⟨k3, hk3⟩ : ∃ k3, k3 = k2 + t.uq.length := ⟨_, rfl⟩
        rw [← hk3] at CE ⊢
        have HKK3 := Lib.hid hk3
        have hk33 : k3 + 2 < 1000000000000 := by omega
        clear hk3
        have dk3 : decide ((k3 : Int) < 0) = false := by simp
        have d3 := (CE.out _ HW4.out).1.2.2.2
        obtain ⟨r, r1, r2, r3, r4, r5⟩ := remT0 k3 (by omega)
        obtain ⟨rbb, hrb⟩ : ∃ rbb, rbb = remB k3 := ⟨_, rfl⟩
        rw [← hrb] at r5 d3
        have hrr : (rbb != rbb) = false := by simp
        have HK3 : Hid (k3 + 1 = kat T k (m + 1)) := by
          show k3 + 1 = kat T k m + wT (T m)
          rw [← HK.out, ← HT.out, hwt, HKK3.out, HK22.out, HK1.out]; omega
        clear hB3 hrb d2 CE hk2 hwt
        go_wp2_with fail
        go_roundw
        case rel => exact ⟨m + 1, k3 + 1, HK3.out, by omega, by go_num, by go_num, HW4.out⟩
        case measure => simp [intOf]; omega
    · have hm' : m = n := by omega
      subst hm'
      have hmi : decide ((m : Int) < (m : Int)) = false := by simp
      rw [hkk]
      clear hkk
      go_wp2_with fail
      go_ret
      exact ⟨rfl, HW.out⟩
set_option maxHeartbeats 1600000 in
theorem markSchema (n : Nat) (T : Nat → Tb) (A : Nat → Ad) (a : Option Addr) (c k rb : Nat) (cb ub : Nat → Nat) (w : World) (hn : n ≤ 1000000) (h0 : 0 < k) (h1 : kat T k n < 100000000000) (hd : Apart n rb cb ub) (hS : OwnT w n T A a rb cb ub) (hin : ∀ b, InT n rb cb ub b → b < w.heap.size) :
    Calls Try.prog 7 #[.agg #[.slice a n c], .int .i64 k] w fun e w' => e = .returned (.int .i64 (kat T k n : Nat)) ∧ OwnT w' n (mkTs T k) A a rb cb ub ∧ Frm (InT n rb cb ub) w w' := by
  have hF : Frm (fun b => ¬ b < w.heap.size) w (w.alloc (.cells #[.slice a n c] 24)) := Frm.of_below ((Below.refl _ _).alloc (Nat.le_refl _) _)
  have hS' : OwnT (w.alloc (.cells #[.slice a n c] 24)) n T A a rb cb ub := ⟨OwnRw.frm hS.row hF (by have := hin rb (.inl rfl); omega), fun i hi => OwnRw.frm (hS.cols i hi) hF (by have := hin (cb i) (.inr ⟨i, hi, .inl rfl⟩); omega), fun i hi => OwnRw.frm (hS.ints i hi) hF (by have := hin (ub i) (.inr ⟨i, hi, .inr rfl⟩); omega)⟩
  have MT := Lib.hid (markTables n T A a c k rb cb ub _ hn h0 h1 hd hS')
  have HF : Hid (Frm (InT n rb cb ub) w (w.alloc (.cells #[.slice a n c] 24))) := Frm.of_below ((Below.refl _ _).alloc (Nat.le_refl _) _)
  clear hS' hS hd hin hF
  generalize kat T k n = kn at *
  go_enter Try.func7, Try.ntmps7
  go_wp2_with (go_at_call 10; refine MT.out.mono ?_; rintro e w1 ⟨rfl, hO, hF1⟩)
  go_ret
  exact ⟨rfl, hO, HF.out.trans hF1⟩
set_option maxHeartbeats 1600000 in
theorem heldSchema (n : Nat) (T : Nat → Tb) (A : Nat → Ad) (a : Option Addr) (c k : Nat) (w : World) (hn : n ≤ 1000000) (h0 : 0 < k) (h1 : kat T k n < 100000000000) (hS : RdT w n (mkTs T k) A a) :
    Calls Try.prog 8 #[.agg #[.slice a n c], .int .i64 k] w fun e w' => e = .returned (.int .i64 (kat T k n : Nat)) ∧ Below w.heap.size w w' := by
  have hb : Below w.heap.size w (w.alloc (.cells #[.slice a n c] 24)) := (Below.refl _ _).alloc (Nat.le_refl _) _
  have MT := Lib.hid (heldTables n T A a c k _ hn h0 h1 (hS.later hb))
  have HB := Lib.hid hb
  clear hS hb
  obtain ⟨kn, hkn⟩ : ∃ kn, kn = kat T k n := ⟨_, rfl⟩
  rw [← hkn] at MT ⊢
  have dk : decide ((kn : Int) < 0) = false := by simp
  clear hkn
  go_enter Try.func8, Try.ntmps8
  go_wp2_with (go_at_call 11; refine MT.out.mono ?_; rintro e w1 ⟨rfl, hB1⟩)
  go_ret
  exact ⟨rfl, HB.out.trans (hB1.mono HB.out.size)⟩
end Go.Proofs.Ytphkfgddkngcfaa
