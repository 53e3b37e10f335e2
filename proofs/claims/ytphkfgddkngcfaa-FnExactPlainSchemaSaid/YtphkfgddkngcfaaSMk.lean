import Derived.Test.YtphkfgddkngcfaaTMk
import Derived.Test.YtphkfgddkngcfaaSCp
namespace Go.Proofs.Ytphkfgddkngcfaa
open Go.RowKit
set_option linter.unusedSimpArgs false
theorem OwnRw.frm {w w' : World} {c : Nat} {a : Option Addr} {n : Nat} {f : Nat → Value} {B : Nat → Prop} (h : OwnRw w (· = c) a n f) (hF : Frm B w w') (hn : ¬ B c) : OwnRw w' (· = c) a n f := by
  rcases h with h | ⟨b, off, ha, hb, hc⟩
  · exact .inl h
  · by_cases h0 : n = 0
    · exact .inl h0
    · have hlt : b < w.heap.size := World.block_lt_of_cell? w ⟨b, off + 0, none⟩ (hc 0 (by omega)).1
      have hb' : b = c := hb
      exact OwnRw.same (B := (· = c)) (.inr ⟨b, off, ha, hb, hc⟩) (fun b' h' => by
        have e : b' = c := h'
        rw [e, ← hb']
        exact hF.block b hlt (by rw [hb']; exact hn)) (fun _ h => h)
def tF (T : Nat → Tb) (A : Nat → Ad) (m : Nat) : Value := (tbC (T (m / 4)) (A (m / 4))).getD (m % 4) undef
theorem tF_at (T : Nat → Tb) (A : Nat → Ad) (i j : Nat) (hj : j < 4) : tF T A (i * 4 + j) = (tbC (T i) (A i)).getD j undef := by
  unfold tF
  rw [show (i * 4 + j) % 4 = j by omega, show (i * 4 + j) / 4 = i by omega]
/-- n tables in memory of their own: the row in block rb, the lists of the i-th in cb i and ub i -/
structure OwnT (w : World) (n : Nat) (T : Nat → Tb) (A : Nat → Ad) (a : Option Addr) (rb : Nat) (cb ub : Nat → Nat) : Prop where
  row : OwnRw w (· = rb) a (n * 4) (tF T A)
  cols : ∀ i, i < n → OwnCols w (· = cb i) (A i).ca (T i).cols
  ints : ∀ i, i < n → OwnInts w (· = ub i) (A i).ua (T i).uq
structure Apart (n rb : Nat) (cb ub : Nat → Nat) : Prop where
  rc : ∀ i, i < n → rb ≠ cb i
  ru : ∀ i, i < n → rb ≠ ub i
  cu : ∀ i j, i < n → j < n → cb i ≠ ub j
  cc : ∀ i j, i < n → j < n → i ≠ j → cb i ≠ cb j
  uu : ∀ i j, i < n → j < n → i ≠ j → ub i ≠ ub j
def wT (t : Tb) : Nat := 2 + 8 * t.cols.length + t.uq.length
def kat (T : Nat → Tb) (k : Nat) : Nat → Nat
  | 0 => k
  | i + 1 => kat T k i + wT (T i)
/-- what the law writes into a table -/
def mkT (t : Tb) (k : Nat) : Tb := ⟨mt k, mkCs t.cols.length (k + 1), mkIs t.uq.length (k + 1 + 8 * t.cols.length), remB (k + 1 + 8 * t.cols.length + t.uq.length)⟩
def mkTs (T : Nat → Tb) (k : Nat) : Nat → Tb := fun i => mkT (T i) (kat T k i)
def mix (T : Nat → Tb) (k m : Nat) : Nat → Tb := fun i => if i < m then mkTs T k i else T i
theorem remT0 (k : Nat) (h : k < 1000000000000) : ∃ r : Nat, ((k : Int)).tmod 3 = (r : Int) ∧ IntKind.i64.wrap (r : Int) = (r : Int) ∧ IntKind.i64.wrap ((k : Int) % 3) = (r : Int) ∧ (k : Int) % 3 = (r : Int) ∧ ((r : Int) == 0) = remB k := by
  refine ⟨k % 3, ?_, ?_, ?_, by omega, rfl⟩
  · rw [Int.tmod_eq_emod_of_nonneg (by omega)]; omega
  · rw [IntKind.wrap_i64]; omega
  · rw [IntKind.wrap_i64]; omega
theorem kat_mono (T : Nat → Tb) (k : Nat) : ∀ i n, i ≤ n → kat T k i ≤ kat T k n
  | i, 0, h => by obtain rfl : i = 0 := by omega
                  exact Nat.le_refl _
  | i, n + 1, h => by
    by_cases e : i = n + 1
    · subst e; exact Nat.le_refl _
    · have := kat_mono T k i n (by omega)
      show _ ≤ kat T k n + wT (T n)
      omega
def InT (n rb : Nat) (cb ub : Nat → Nat) (b : Nat) : Prop := b = rb ∨ ∃ i, i < n ∧ (b = cb i ∨ b = ub i)
set_option maxRecDepth 100000 in
set_option maxHeartbeats 6400000 in
theorem markTables (n : Nat) (T : Nat → Tb) (A : Nat → Ad) (a : Option Addr) (c k rb : Nat) (cb ub : Nat → Nat) (w : World) (hn : n ≤ 1000000) (h0 : 0 < k) (h1 : kat T k n < 100000000000) (hd : Apart n rb cb ub) (hS : OwnT w n T A a rb cb ub) :
    Calls Try.prog 10 #[.slice a n c, .int .i64 k] w fun e w' => e = .returned (.int .i64 (kat T k n : Nat)) ∧ OwnT w' n (mkTs T k) A a rb cb ub ∧ Frm (InT n rb cb ub) w w' := by
  have HD : Hid (Apart n rb cb ub) := hd
  obtain ⟨b, off, ha, -⟩ := OwnRw.row' hS.row
  have HA : Hid (0 < n * 4 → a = some ⟨b, off, none⟩ ∧ b = rb) := ha
  have HS : Hid (OwnT w n (mix T k 0) A a rb cb ub) := hS
  clear ha hd hS
  go_enter Try.func10, Try.ntmps10
  go_wp2_with fail
  go_loopw [1, 5] (fun q i wr => ∃ m : Nat, ∃ kk : Nat, kk = kat T k m ∧ m ≤ n ∧ i = .int .i64 m ∧ q = .int .i64 (kk : Int) ∧ Hid (OwnT wr n (mix T k m) A a rb cb ub ∧ Frm (InT n rb cb ub) w wr)) (fun _ i _ => n - (intOf i).toNat)
  case atStart => exact ⟨0, k, rfl, Nat.zero_le _, rfl, rfl, HS.out, Frm.refl _ _⟩
  case round =>
    obtain ⟨m, kk, hkk, hm, rfl, rfl, HW⟩ := hrel
    by_cases hlt : m < n
    · obtain ⟨ea, eb⟩ := HA.out (by omega)
      have hmx : mix T k m m = T m := by unfold mix; rw [if_neg (by omega)]
      have hkn : kat T k (m + 1) ≤ kat T k n := kat_mono T k (m + 1) n (by omega)
      have hk2 : kk + wT (T m) < 100000000000 := by
        have : kat T k (m + 1) = kk + wT (T m) := by rw [hkk]; rfl
        omega
      have hk0 : 0 < kk := by have := kat_mono T k 0 m (by omega); have e : kat T k 0 = k := rfl; omega
      have hwt : wT (T m) = 2 + 8 * (T m).cols.length + (T m).uq.length := rfl
      have hmi : (m : Int) < (n : Int) := by omega
      have R0 : Row wr b off (n * 4) (tF (mix T k m) A) := by
        obtain ⟨b', off', hab, hr⟩ := OwnRw.row' HW.out.1.row
        obtain ⟨ea', -⟩ := hab (by omega)
        rw [ea] at ea'
        simp only [Option.some.injEq, Addr.mk.injEq, and_true] at ea'
        obtain ⟨rfl, rfl⟩ := ea'
        exact hr
      have HR0 := Lib.hid R0
      have HCM := Lib.hid (HW.out.1.cols m hlt)
      have HUM := Lib.hid (HW.out.1.ints m hlt)
      rw [hmx] at HCM HUM
      have HK := Lib.hid hkk
      have HE := Lib.hid (And.intro ea eb)
      obtain ⟨t, ht⟩ : ∃ t, t = T m := ⟨_, rfl⟩
      have HT := Lib.hid ht
      rw [← ht] at HCM HUM hwt hk2
      obtain ⟨ad, had⟩ : ∃ ad, ad = A m := ⟨_, rfl⟩
      have HAD := Lib.hid had
      rw [← had] at HCM HUM
      rw [ea]
      clear R0 hkk eb hkn ht had ea
      have hk11 : kk + 10 < 1000000000000 := by omega
      go_wp2_with fail
      refine (markText kk _ (by omega) (by omega)).mono ?_
      rintro e w1 ⟨rfl, hB1⟩
      have R1 := HR0.out.later hB1
      have g : ∀ j, j < 4 → tF (mix T k m) A (m * 4 + j) = (tbC t ad).getD j undef := fun j hj => by rw [tF_at _ _ _ _ hj, hmx, ← HT.out, ← HAD.out]
      have e0 : w1.cell? ⟨b, off + m * 4, none⟩ = _ := (R1 (m * 4) (by omega)).1
      have z0 : w1.frozen? ⟨b, off + m * 4, none⟩ = _ := (R1 (m * 4) (by omega)).2
      have e1 : w1.cell? ⟨b, off + m * 4 + 1, none⟩ = some (.slice ad.ca t.cols.length ad.cc) := by
        have h := (R1 (m * 4 + 1) (by omega)).1
        rw [g 1 (by omega)] at h
        exact h
      have HR2 : Hid (Row (w1.setCell ⟨b, off + m * 4, none⟩ (.string ⟨(mt kk).toArray⟩)) b off (n * 4) _) := R1.set (m * 4) (by omega) (.string ⟨(mt kk).toArray⟩)
      have hF1 : Frm (· = rb) wr (w1.setCell ⟨b, off + m * 4, none⟩ (.string ⟨(mt kk).toArray⟩)) := Frm.set (B := (· = rb)) (b := b) (o := off + m * 4) (Frm.of_below hB1) HE.out.2 _
      have HF1 := Lib.hid hF1
      have O1 : Hid (OwnCols (w1.setCell ⟨b, off + m * 4, none⟩ (.string ⟨(mt kk).toArray⟩)) (· = cb m) ad.ca t.cols) := HCM.out.frm hF1 (by have := HD.out.rc m hlt; omega)
      have OU1 : Hid (OwnInts (w1.setCell ⟨b, off + m * 4, none⟩ (.string ⟨(mt kk).toArray⟩)) (· = ub m) ad.ua t.uq) := HUM.out.frm hF1 (by have := HD.out.ru m hlt; omega)
      clear R1 hB1 hF1 HCM HUM
      obtain ⟨y, hy⟩ : ∃ y, y = mt kk := ⟨_, rfl⟩
      rw [← hy] at HR2 HF1 O1 OU1 ⊢
      have HY := Lib.hid hy
      clear hy
      go_wp2_with fail
      obtain ⟨k1, hk1⟩ : ∃ k1, k1 = kk + 1 := ⟨_, rfl⟩
      rw [show ((kk : Int) + 1) = (k1 : Int) by omega]
      have HK1 := Lib.hid hk1
      have hb1 : k1 + 8 * t.cols.length + t.uq.length + 4 < 1000000000000 := by omega
      have hk1p : 0 < k1 := by omega
      clear hk1
      with_reducible refine (markColumns t.cols ad.ca ad.cc k1 (· = cb m) _ (by unfold maxLen; omega) (by omega) (by omega) O1.out).mono ?_
      rintro e w2 ⟨rfl, hO2, hF2⟩
      have R3 := HR2.out.same (hF2.block b (World.block_lt_of_cell? _ _ (HR2.out (m * 4) (by omega)).1) (by have := HD.out.rc m hlt; rw [HE.out.2]; exact this))
      have e2 : w2.cell? ⟨b, off + m * 4 + 2, none⟩ = some (.slice ad.ua t.uq.length ad.uc) := by
        have h := (R3 (m * 4 + 2) (by omega)).1
        dsimp only at h
        rw [if_neg (by omega), g 2 (by omega)] at h
        exact h
      have HR3 := Lib.hid R3
      have HO2 := Lib.hid hO2
      have OU2 : Hid (OwnInts w2 (· = ub m) ad.ua t.uq) := OwnRw.frm OU1.out hF2 (by have := HD.out.cu m m hlt hlt; omega)
      have HF2 := Lib.hid hF2
      obtain ⟨k2, hk22⟩ : ∃ k2, k2 = k1 + 8 * t.cols.length := ⟨_, rfl⟩
      rw [← hk22]
      have HK22 := Lib.hid hk22
      have hb2 : k2 + t.uq.length + 3 < 1000000000000 := by omega
      clear R3 hO2 hF2 OU1 e0 z0 e1 hk22
      go_wp2_with fail
      with_reducible refine (markInts t.uq ad.ua ad.uc k2 (· = ub m) _ (by unfold maxLen; omega) (by omega) OU2.out).mono ?_
      rintro e w3 ⟨rfl, hO3, hF3⟩
      have R4 := HR3.out.same (hF3.block b (World.block_lt_of_cell? _ _ (HR3.out (m * 4) (by omega)).1) (by have := HD.out.ru m hlt; rw [HE.out.2]; exact this))
      have e3 : w3.cell? ⟨b, off + m * 4 + 3, none⟩ = _ := (R4 (m * 4 + 3) (by omega)).1
      have z3 : w3.frozen? ⟨b, off + m * 4 + 3, none⟩ = _ := (R4 (m * 4 + 3) (by omega)).2
      obtain ⟨k3, hk3⟩ : ∃ k3, k3 = k2 + t.uq.length := ⟨_, rfl⟩
      rw [← hk3]
      have HKK3 := Lib.hid hk3
      have hk33 : k3 + 2 < 1000000000000 := by omega
      clear hk3
      obtain ⟨r, r1, r2, r3, r4, r5⟩ := remT0 k3 (by omega)
      obtain ⟨rbb, hrb⟩ : ∃ rbb, rbb = remB k3 := ⟨_, rfl⟩
      rw [← hrb] at r5
      have hF4 : Frm (· = rb) w3 (w3.setCell ⟨b, off + m * 4 + 3, none⟩ (.bool rbb)) := Frm.set (B := (· = rb)) (b := b) (o := off + m * 4 + 3) (Frm.refl _ _) HE.out.2 _
      have HFIN : Hid (OwnT (w3.setCell ⟨b, off + m * 4 + 3, none⟩ (.bool rbb)) n (mix T k (m + 1)) A a rb cb ub ∧ Frm (InT n rb cb ub) w (w3.setCell ⟨b, off + m * 4 + 3, none⟩ (.bool rbb))) := by
        have hd := HD.out
        have hmk : mix T k (m + 1) m = mkT t kk := by unfold mix mkTs; rw [if_pos (by omega), ← HK.out, HT.out]
        have hoth : ∀ i, i ≠ m → mix T k (m + 1) i = mix T k m i := fun i hi => by
          unfold mix
          by_cases h : i < m
          · rw [if_pos h, if_pos (by omega)]
          · rw [if_neg h, if_neg (by omega)]
        have F14 : Frm (fun b => b = rb ∨ b = cb m ∨ b = ub m) wr (w3.setCell ⟨b, off + m * 4 + 3, none⟩ (.bool rbb)) := (((HF1.out.mono (fun _ h => .inl h)).trans (HF2.out.mono (fun _ h => .inr (.inl h)))).trans (hF3.mono (fun _ h => .inr (.inr h)))).trans (hF4.mono (fun _ h => .inl h))
        refine ⟨⟨?_, fun i hi => ?_, fun i hi => ?_⟩, ?_⟩
        · refine OwnRw.of_row (b := b) (off := off) (fun _ => HE.out) ?_
          refine (R4.set (m * 4 + 3) (by omega) (.bool rbb)).congr (fun x hx => ?_)
          try dsimp only
          by_cases hxm : x / 4 = m
          · obtain ⟨j, rfl⟩ : ∃ j, x = m * 4 + j := ⟨x - m * 4, by omega⟩
            rw [tF_at (mix T k (m + 1)) A m j (by omega), hmk, ← HAD.out]
            rcases (by omega : j = 0 ∨ j = 1 ∨ j = 2 ∨ j = 3) with rfl | rfl | rfl | rfl
            · rw [if_neg (by omega), if_pos (by omega), HY.out]
              simp [tbC, mkT]
            · rw [if_neg (by omega), if_neg (by omega), g 1 (by omega)]
              simp [tbC, mkT, mkCs_len]
            · rw [if_neg (by omega), if_neg (by omega), g 2 (by omega)]
              simp [tbC, mkT, mkIs_len]
            · rw [if_pos rfl, hrb, HKK3.out, HK22.out, HK1.out]
              simp [tbC, mkT]
          · rw [if_neg (by omega), if_neg (by omega)]
            unfold tF
            rw [hoth _ hxm]
        · by_cases e : i = m
          · subst e
            rw [hmk, ← HAD.out]
            have h := OwnRw.frm (OwnRw.frm HO2.out hF3 (by have := hd.cu i i hi hi; omega)) hF4 (by have := hd.rc i hi; omega)
            simp only [mkT]
            rw [← HK1.out]
            exact h
          · rw [hoth i e]
            exact OwnRw.frm (HW.out.1.cols i hi) F14 (by have h1 := hd.rc i hi; have h2 := hd.cc i m hi hlt e; have h3 := hd.cu i m hi hlt; rintro (h | h | h) <;> omega)
        · by_cases e : i = m
          · subst e
            rw [hmk, ← HAD.out]
            have h := OwnRw.frm hO3 hF4 (by have := hd.ru i hi; omega)
            simp only [mkT]
            rw [← HK1.out, ← HK22.out]
            exact h
          · rw [hoth i e]
            exact OwnRw.frm (HW.out.1.ints i hi) F14 (by have h1 := hd.ru i hi; have h2 := hd.uu i m hi hlt e; have h3 := hd.cu m i hlt hi; rintro (h | h | h) <;> omega)
        · exact HW.out.2.trans (F14.mono (fun b hb => by
            rcases hb with h | h | h
            · exact .inl h
            · exact .inr ⟨m, hlt, .inl h⟩
            · exact .inr ⟨m, hlt, .inr h⟩))
      have HK3 : Hid (k3 + 1 = kat T k (m + 1)) := by
        show k3 + 1 = kat T k m + wT (T m)
        rw [← HK.out, ← HT.out, hwt, HKK3.out, HK22.out, HK1.out]; omega
      clear R4 hF4 hO3 hF3 hrb g e2 HW HR0 HR2 HR3 HF1 HF2 O1 OU2 HO2 hk2 hwt hmx
      go_wp2_with fail
      go_roundw
      case rel => exact ⟨m + 1, k3 + 1, HK3.out, by omega, by go_num, by go_num, by rw [← HE.out.1]; exact HFIN.out.1, HFIN.out.2⟩
      case measure => simp [intOf]; omega
    · have hm' : m = n := by omega
      subst hm'
      have HO : Hid (OwnT wr m (mkTs T k) A a rb cb ub) := by
        have h := HW.out.1
        have e : ∀ i, i < m → mix T k m i = mkTs T k i := fun i hi => by unfold mix; rw [if_pos hi]
        refine ⟨?_, fun i hi => by have := h.cols i hi; rw [e i hi] at this; exact this, fun i hi => by have := h.ints i hi; rw [e i hi] at this; exact this⟩
        obtain ⟨b', off', hab, hr⟩ := OwnRw.row' h.row
        refine OwnRw.of_row hab (hr.congr (fun x hx => ?_))
        unfold tF
        rw [e (x / 4) (by omega)]
      have hmi : decide ((m : Int) < (m : Int)) = false := by simp
      rw [hkk]
      clear hkk
      go_wp2_with fail
      go_ret
      exact ⟨rfl, HO.out, HW.out.2⟩
end Go.Proofs.Ytphkfgddkngcfaa
