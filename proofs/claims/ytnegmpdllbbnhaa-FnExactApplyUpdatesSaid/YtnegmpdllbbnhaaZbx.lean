import Derived.Test.YtnegmpdllbbnhaaZbg
import Derived.Test.YtnegmpdllbbnhaaZbq
import Derived.Test.YtnegmpdllbbnhaaZbt
import Derived.Test.YtnegmpdllbbnhaaZbv
import Derived.Test.YtnegmpdllbbnhaaZbw
import Derived.Deep.RegionHeld3
import Derived.Deep.CutRange
namespace Go.Proofs.Ytnegmpdllbbnhaa
open Go.RowKit
set_option linter.unusedSimpArgs false
set_option maxRecDepth 100000 in
set_option maxHeartbeats 12800000 in
theorem lawApplyUpdates (x0 : List RowV) (x1 : List UpV) (a0_ : Option Addr) (c0_ : Nat) (a1_ : Option Addr) (c1_ : Nat) (w : World) (l0_ : (dRowS x0).le maxLen) (l1_ : (dUpdateS x1).le maxLen) (r0_ : Rd w (· < w.heap.size) (dRowS x0) (.slice a0_ x0.length c0_)) (r1_ : Rd w (· < w.heap.size) (dUpdateS x1) (.slice a1_ x1.length c1_)) :
    Calls Try.prog 3 #[.slice a0_ x0.length c0_, .slice a1_ x1.length c1_] w fun e w' => e = .returned (.bool true) ∧ Below w.heap.size w w' := by
  have HL0_ := Lib.hid l0_
  have HO0 := Lib.hid l0_
  have RA0_ : Hid (∀ W, Below w.heap.size w W → Rd W (· < w.heap.size) (dRowS x0) (.slice a0_ x0.length c0_)) := fun W h => Rd.same (fun b hb => h.block b hb) (fun _ h => h) _ _ r0_
  have HL1_ := Lib.hid l1_
  have HO1 := Lib.hid l1_
  have RA1_ : Hid (∀ W, Below w.heap.size w W → Rd W (· < w.heap.size) (dUpdateS x1) (.slice a1_ x1.length c1_)) := fun W h => Rd.same (fun b hb => h.block b hb) (fun _ h => h) _ _ r1_
  have ALAT : Hid (∀ W W', (Below w.heap.size w W) → Below W.heap.size W W' → (Below w.heap.size w W')) := fun W W' h hB => h.trans (hB.mono h.size)
  have A0 : Hid (Below w.heap.size w w) := Below.refl _ _
  clear l0_ r0_ l1_ r1_
  go_enter Try.func3, Try.ntmps3
  go_wp2_with fail
  have bl : Hid ((0 : Int) ≤ 1048576 ∧ (1048576 : Int) ≤ 1048576) := by show _ ∧ _; omega
  refine (szDRowS x0 a0_ c0_ 1048576 _ _ bl.out.1 bl.out.2 HO0.out (RA0_.out _ A0.out)).mono ?_
  rintro e ws0 ⟨rfl, hB⟩
  have AS0 := Lib.hid (ALAT.out _ _ A0.out hB)
  clear hB A0
  by_cases hz0 : (1048576 : Int) - ((dRowS x0).sz : Int) < 0
  case pos =>
    rw [less_no hz0]
    go_wp2_with fail
    go_ret
    exact ⟨rfl, AS0.out⟩
  rw [less_yes (by omega)]
  obtain ⟨L0, hL0⟩ : ∃ L0 : Int, L0 = 1048576 - ((dRowS x0).sz : Int) := ⟨_, rfl⟩
  rw [← hL0]
  have dL0 : decide (L0 < 0) = false := decide_eq_false (by omega)
  have HZ0 : Hid ((dRowS x0).sz ≤ 1048576) := by have := bl.out; show _ ≤ _; omega
  have b2 : Hid (0 ≤ L0 ∧ L0 ≤ 1048576) := by have := bl.out; show _ ∧ _; omega
  clear hz0 hL0 bl
  have bl := b2
  clear b2
  go_wp2_with fail
  refine (szDUpdateS x1 a1_ c1_ L0 _ _ bl.out.1 bl.out.2 HO1.out (RA1_.out _ AS0.out)).mono ?_
  rintro e ws1 ⟨rfl, hB⟩
  have AS1 := Lib.hid (ALAT.out _ _ AS0.out hB)
  clear hB AS0
  by_cases hz1 : L0 - ((dUpdateS x1).sz : Int) < 0
  case pos =>
    rw [less_no hz1]
    go_wp2_with fail
    go_ret
    exact ⟨rfl, AS1.out⟩
  rw [less_yes (by omega)]
  obtain ⟨L1, hL1⟩ : ∃ L1 : Int, L1 = L0 - ((dUpdateS x1).sz : Int) := ⟨_, rfl⟩
  rw [← hL1]
  have dL1 : decide (L1 < 0) = false := decide_eq_false (by omega)
  have HZ1 : Hid ((dUpdateS x1).sz ≤ 1048576) := by have := bl.out; show _ ≤ _; omega
  have b2 : Hid (0 ≤ L1 ∧ L1 ≤ 1048576) := by have := bl.out; show _ ∧ _; omega
  clear hz1 hL1 bl
  have bl := b2
  clear b2
  go_upto_region 8 with fail
  have HK0 : Hid ((dRowS x0).le 1048576) := D.le_of_sz _ HO0.out HZ0.out
  have HK1 : Hid ((dUpdateS x1).le 1048576) := D.le_of_sz _ HO1.out HZ1.out
  have TO0 : Hid (∀ W, (Below w.heap.size w W) → Calls Try.prog 7 #[.slice a0_ x0.length c0_] W fun e w' => ∃ p : Nat, e = .returned (.slice (some ⟨p, 0, none⟩) x0.length x0.length) ∧ Own w' (dRowS x0) (fun c => W.heap.size ≤ c ∧ c < w'.heap.size) (.slice (some ⟨p, 0, none⟩) x0.length x0.length) ∧ Below W.heap.size W w' ∧ (Below w.heap.size w w')) := fun W h => (toDRowS x0 a0_ c0_ _ W HK0.out (RA0_.out W h)).mono (fun e w' ⟨he, ho, hB⟩ => ⟨_, he, ho, hB, ALAT.out _ _ h hB⟩)
  have TO1 : Hid (∀ W, (Below w.heap.size w W) → Calls Try.prog 8 #[.slice a1_ x1.length c1_] W fun e w' => ∃ p : Nat, e = .returned (.slice (some ⟨p, 0, none⟩) x1.length x1.length) ∧ Own w' (dUpdateS x1) (fun c => W.heap.size ≤ c ∧ c < w'.heap.size) (.slice (some ⟨p, 0, none⟩) x1.length x1.length) ∧ Below W.heap.size W w' ∧ (Below w.heap.size w w')) := fun W h => (toDUpdateS x1 a1_ c1_ _ W HK1.out (RA1_.out W h)).mono (fun e w' ⟨he, ho, hB⟩ => ⟨_, he, ho, hB, ALAT.out _ _ h hB⟩)
  obtain ⟨R0, hR0⟩ : ∃ r, r = (upR x0 x1).1 := ⟨_, rfl⟩
  obtain ⟨R1, hR1⟩ : ∃ r, r = (upR x0 x1).2 := ⟨_, rfl⟩
  have CS : Hid (∀ (W : World) (b0_ : Option Addr) (e0_ : Nat) (b1_ : Option Addr) (e1_ : Nat), Rd W (fun _ => True) (dRowS x0) (.slice b0_ x0.length e0_) → Rd W (fun _ => True) (dUpdateS x1) (.slice b1_ x1.length e1_) → Calls Try.prog 6 #[.slice b0_ x0.length e0_, .slice b1_ x1.length e1_] W fun e w' => ∃ (ra : Option Addr) (rc : Nat), e = .returned (.tuple #[.slice ra R0.length rc, .int .i64 R1]) ∧ Rd w' (fun c => W.heap.size ≤ c ∧ c < w'.heap.size) (dRowS R0) (.slice ra R0.length rc) ∧ Below W.heap.size W w') := fun W b0_ e0_ b1_ e1_ h0_ h1_ => by rw [hR0, hR1]; exact upS x0 x1 b0_ e0_ _ b1_ e1_ _ W HK0.out HK1.out h0_ h1_
  have CI : Hid (∀ (W : World) (b0_ : Option Addr) (e0_ : Nat) (b1_ : Option Addr) (e1_ : Nat), Rd W (fun _ => True) (dRowS x0) (.slice b0_ x0.length e0_) → Rd W (fun _ => True) (dUpdateS x1) (.slice b1_ x1.length e1_) → Calls Try.prog 9 #[.slice b0_ x0.length e0_, .slice b1_ x1.length e1_] W fun e w' => ∃ (ra : Option Addr) (rc : Nat), e = .returned (.tuple #[.slice ra R0.length rc, .int .i64 R1]) ∧ Own w' (dRowS R0) (fun c => W.heap.size ≤ c ∧ c < w'.heap.size) (.slice ra R0.length rc) ∧ Below W.heap.size W w') := fun W b0_ e0_ b1_ e1_ h0_ h1_ => by rw [hR0, hR1]; exact auI x0 x1 b0_ e0_ _ b1_ e1_ _ W HK0.out HK1.out h0_ h1_
  have HRB : Hid ((dRowS R0).le maxLen ∧ (dRowS R0).sz ≤ 100000000) := by rw [hR0]; exact au_le HK0.out HZ0.out HK1.out HZ1.out
  have HRW : Hid (1 + (dRowS R0).wd < 100000000000) := by have h1 := D.wd_le (dRowS R0) (HRB.out.1); have h2 := HRB.out.2; show _ < _; omega
  have nq1 : (R1 != R1) = false := by simp
  clear hR0 hR1
  have EQ0 : Hid (∀ (W : World) (b : Option Addr) (e : Nat) (f : Option Addr) (g : Nat), Rd W (fun _ => True) (dRowS x0) (.slice b x0.length e) → Rd W (fun _ => True) (dRowS x0) (.slice f x0.length g) → Calls Try.prog 10 #[.slice b x0.length e, .slice f x0.length g] W fun e w' => e = .returned (.bool true) ∧ Below W.heap.size W w') := fun W b e f g h i => eqDRowS x0 b e f g _ _ W HO0.out h i
  have EQ1 : Hid (∀ (W : World) (b : Option Addr) (e : Nat) (f : Option Addr) (g : Nat), Rd W (fun _ => True) (dUpdateS x1) (.slice b x1.length e) → Rd W (fun _ => True) (dUpdateS x1) (.slice f x1.length g) → Calls Try.prog 11 #[.slice b x1.length e, .slice f x1.length g] W fun e w' => e = .returned (.bool true) ∧ Below W.heap.size W w') := fun W b e f g h i => eqDUpdateS x1 b e f g _ _ W HO1.out h i
  have EQR : Hid (∀ (W : World) (b : Option Addr) (e : Nat) (f : Option Addr) (g : Nat), Rd W (fun _ => True) (dRowS R0) (.slice b R0.length e) → Rd W (fun _ => True) (dRowS R0) (.slice f R0.length g) → Calls Try.prog 10 #[.slice b R0.length e, .slice f R0.length g] W fun e w' => e = .returned (.bool true) ∧ Below W.heap.size W w') := fun W b e f g h i => eqDRowS R0 b e f g _ _ W HRB.out.1 h i
  have HST : Hid (∀ W, Below ws1.heap.size ws1 W → (Below w.heap.size w W)) := fun W h => ALAT.out _ _ AS1.out h
  have CE : Hid (∀ W, (Below w.heap.size w W) → (True)) := fun W h => trivial
  have HSX : Hid (∀ W, (Below w.heap.size w W) → (Below w.heap.size w W)) := fun W h => h
  clear AS1
  go_cut [6, 7] from 27 to 34 (fun s0 s1 wx => ∃ (ra : Option Addr) (rc : Nat), s0 = .slice ra R0.length rc ∧ s1 = .int .i64 R1 ∧ Hid ((Below w.heap.size w wx ∧ Rd wx (· < wx.heap.size) (dRowS R0) (.slice ra R0.length rc)) ∧ w.heap.size + 0 ≤ wx.heap.size))
  case first =>
    have BS : Hid (Below ws1.heap.size ws1 ws1) := Below.refl _ _
    go_wp2_with fail
    refine (TO0.out _ (HSX.out _ (HST.out _ BS.out))).mono ?_
    rintro e wt0 ⟨p0_, rfl, ho, hB, -⟩
    have hb : Below ws1.heap.size ws1 wt0 := hB
    have BS' : Hid (Below ws1.heap.size ws1 wt0) := BS.out.trans (hb.mono BS.out.size)
    clear BS
    have BS := BS'
    clear BS'
    have RC0_ : Hid (∀ W, Below wt0.heap.size wt0 W → Rd W (fun _ => True) (dRowS x0) (.slice (some ⟨p0_, 0, none⟩) x0.length x0.length)) := fun W h => Rd.later (ho.rd'.any) h
    have BC0 : Hid (Below wt0.heap.size wt0 wt0) := Below.refl _ _
    clear hb hB ho
    go_wp2_with fail
    refine (TO1.out _ (HSX.out _ (HST.out _ BS.out))).mono ?_
    rintro e wt1 ⟨p1_, rfl, ho, hB, -⟩
    have hb : Below wt0.heap.size wt0 wt1 := hB
    have BS' : Hid (Below ws1.heap.size ws1 wt1) := BS.out.trans (hb.mono BS.out.size)
    clear BS
    have BS := BS'
    clear BS'
    have BC0' : Hid (Below wt0.heap.size wt0 wt1) := BC0.out.trans (hb.mono BC0.out.size)
    clear BC0
    have BC0 := BC0'
    clear BC0'
    have RC1_ : Hid (∀ W, Below wt1.heap.size wt1 W → Rd W (fun _ => True) (dUpdateS x1) (.slice (some ⟨p1_, 0, none⟩) x1.length x1.length)) := fun W h => Rd.later (ho.rd'.any) h
    have BC1 : Hid (Below wt1.heap.size wt1 wt1) := Below.refl _ _
    clear hb hB ho
    go_wp2_with fail
    refine (CS.out _ _ _ _ _ (RC0_.out _ BC0.out) (RC1_.out _ BC1.out)).mono ?_
    rintro e w2 ⟨ra, rc, rfl, hr2, hB⟩
    have hb : Below wt1.heap.size wt1 w2 := hB
    have BS' : Hid (Below ws1.heap.size ws1 w2) := BS.out.trans (hb.mono BS.out.size)
    clear BS
    have BS := BS'
    clear BS'
    have BC0' : Hid (Below wt0.heap.size wt0 w2) := BC0.out.trans (hb.mono BC0.out.size)
    clear BC0
    have BC0 := BC0'
    clear BC0'
    have BC1' : Hid (Below wt1.heap.size wt1 w2) := BC1.out.trans (hb.mono BC1.out.size)
    clear BC1
    have BC1 := BC1'
    clear BC1'
    have HR2 : Hid (Rd w2 (fun b => wt1.heap.size ≤ b ∧ b < w2.heap.size) (dRowS R0) (.slice ra R0.length rc)) := hr2
    clear hb hB hr2
    have HF := Lib.hid (HST.out _ BS.out)
    go_wp2_with fail
    go_meet
    refine ⟨ra, rc, rfl, rfl, ⟨HF.out, HR2.out.mono (fun b hb => hb.2)⟩, HF.out.size⟩
  clear HST CE HSX
  obtain ⟨ra, rc, rfl, rfl, HCUT⟩ := hcut
  have M0 : Hid (Below w.heap.size w wc ∧ Rd wc (· < wc.heap.size) (dRowS R0) (.slice ra R0.length rc)) := HCUT.out.1
  have O0 : Hid (w.heap.size + 0 ≤ wc.heap.size) := HCUT.out.2
  clear HCUT
  have S0L : Hid (∀ W W', (Below w.heap.size w W ∧ Rd W (· < wc.heap.size) (dRowS R0) (.slice ra R0.length rc)) → Below W.heap.size W W' → (Below w.heap.size w W' ∧ Rd W' (· < wc.heap.size) (dRowS R0) (.slice ra R0.length rc))) := fun W W' h hB => ⟨h.1.trans (hB.mono h.1.size), h.2.later hB⟩
  go_wp2_with fail
  refine (TO0.out _ M0.out.1).mono ?_
  rintro e wx0 ⟨p0_, rfl, ho, hB, -⟩
  have hm := S0L.out _ _ M0.out hB
  obtain ⟨u0, hu0⟩ : ∃ u, u = wc.heap.size := ⟨_, rfl⟩
  have U0 : Hid (wc.heap.size ≤ u0 ∧ u0 ≤ wx0.heap.size) := by refine ⟨by first | omega | (rw [hu0]), by rw [hu0]; exact hB.size⟩
  rw [← hu0] at ho
  have S1L : Hid (∀ W W', (Below w.heap.size w W ∧ Rd W (· < wc.heap.size) (dRowS R0) (.slice ra R0.length rc) ∧ Own W (dRowS x0) (fun c => u0 ≤ c ∧ c < wx0.heap.size) (.slice (some ⟨p0_, 0, none⟩) x0.length x0.length)) → Below W.heap.size W W' → (Below w.heap.size w W' ∧ Rd W' (· < wc.heap.size) (dRowS R0) (.slice ra R0.length rc) ∧ Own W' (dRowS x0) (fun c => u0 ≤ c ∧ c < wx0.heap.size) (.slice (some ⟨p0_, 0, none⟩) x0.length x0.length))) := fun W W' h hB => ⟨h.1.trans (hB.mono h.1.size), h.2.1.later hB, h.2.2.later hB⟩
  have M1 : Hid (Below w.heap.size w wx0 ∧ Rd wx0 (· < wc.heap.size) (dRowS R0) (.slice ra R0.length rc) ∧ Own wx0 (dRowS x0) (fun c => u0 ≤ c ∧ c < wx0.heap.size) (.slice (some ⟨p0_, 0, none⟩) x0.length x0.length)) := ⟨hm.1.trans ((Below.refl _ _).mono hm.1.size), hm.2.later (Below.refl _ _), ho.later (Below.refl _ _)⟩
  clear hm hB ho hu0 M0
  go_wp2_with fail
  refine (TO1.out _ M1.out.1).mono ?_
  rintro e wx1 ⟨p1_, rfl, ho, hB, -⟩
  have hm := S1L.out _ _ M1.out hB
  obtain ⟨u1, hu1⟩ : ∃ u, u = wx0.heap.size := ⟨_, rfl⟩
  have U1 : Hid (wx0.heap.size ≤ u1 ∧ u1 ≤ wx1.heap.size) := by refine ⟨by first | omega | (rw [hu1]), by rw [hu1]; exact hB.size⟩
  rw [← hu1] at ho
  have S2L : Hid (∀ W W', (Below w.heap.size w W ∧ Rd W (· < wc.heap.size) (dRowS R0) (.slice ra R0.length rc) ∧ Own W (dRowS x0) (fun c => u0 ≤ c ∧ c < wx0.heap.size) (.slice (some ⟨p0_, 0, none⟩) x0.length x0.length) ∧ Own W (dUpdateS x1) (fun c => u1 ≤ c ∧ c < wx1.heap.size) (.slice (some ⟨p1_, 0, none⟩) x1.length x1.length)) → Below W.heap.size W W' → (Below w.heap.size w W' ∧ Rd W' (· < wc.heap.size) (dRowS R0) (.slice ra R0.length rc) ∧ Own W' (dRowS x0) (fun c => u0 ≤ c ∧ c < wx0.heap.size) (.slice (some ⟨p0_, 0, none⟩) x0.length x0.length) ∧ Own W' (dUpdateS x1) (fun c => u1 ≤ c ∧ c < wx1.heap.size) (.slice (some ⟨p1_, 0, none⟩) x1.length x1.length))) := fun W W' h hB => ⟨h.1.trans (hB.mono h.1.size), h.2.1.later hB, h.2.2.1.later hB, h.2.2.2.later hB⟩
  have M2 : Hid (Below w.heap.size w wx1 ∧ Rd wx1 (· < wc.heap.size) (dRowS R0) (.slice ra R0.length rc) ∧ Own wx1 (dRowS x0) (fun c => u0 ≤ c ∧ c < wx0.heap.size) (.slice (some ⟨p0_, 0, none⟩) x0.length x0.length) ∧ Own wx1 (dUpdateS x1) (fun c => u1 ≤ c ∧ c < wx1.heap.size) (.slice (some ⟨p1_, 0, none⟩) x1.length x1.length)) := ⟨hm.1.trans ((Below.refl _ _).mono hm.1.size), hm.2.1.later (Below.refl _ _), hm.2.2.later (Below.refl _ _), ho.later (Below.refl _ _)⟩
  clear hm hB ho hu1 M1
  go_wp2_with fail
  refine (CI.out _ _ _ _ _ (Rd.any (Own.rd' (M2.out.2.2.1))) (Rd.any (Own.rd' (M2.out.2.2.2)))).mono ?_
  rintro e wg ⟨ga, gc, rfl, ho, hB⟩
  have hm := S2L.out _ _ M2.out hB
  obtain ⟨ug, hug⟩ : ∃ u, u = wx1.heap.size := ⟨_, rfl⟩
  have UG : Hid (wx1.heap.size ≤ ug ∧ ug ≤ wg.heap.size) := by refine ⟨by first | omega | (rw [hug]), by rw [hug]; exact hB.size⟩
  rw [← hug] at ho
  have SGL : Hid (∀ W W', (Below w.heap.size w W ∧ Rd W (· < wc.heap.size) (dRowS R0) (.slice ra R0.length rc) ∧ Own W (dRowS x0) (fun c => u0 ≤ c ∧ c < wx0.heap.size) (.slice (some ⟨p0_, 0, none⟩) x0.length x0.length) ∧ Own W (dUpdateS x1) (fun c => u1 ≤ c ∧ c < wx1.heap.size) (.slice (some ⟨p1_, 0, none⟩) x1.length x1.length) ∧ Own W (dRowS R0) (fun c => ug ≤ c ∧ c < wg.heap.size) (.slice ga R0.length gc)) → Below W.heap.size W W' → (Below w.heap.size w W' ∧ Rd W' (· < wc.heap.size) (dRowS R0) (.slice ra R0.length rc) ∧ Own W' (dRowS x0) (fun c => u0 ≤ c ∧ c < wx0.heap.size) (.slice (some ⟨p0_, 0, none⟩) x0.length x0.length) ∧ Own W' (dUpdateS x1) (fun c => u1 ≤ c ∧ c < wx1.heap.size) (.slice (some ⟨p1_, 0, none⟩) x1.length x1.length) ∧ Own W' (dRowS R0) (fun c => ug ≤ c ∧ c < wg.heap.size) (.slice ga R0.length gc))) := fun W W' h hB => ⟨h.1.trans (hB.mono h.1.size), h.2.1.later hB, h.2.2.1.later hB, h.2.2.2.1.later hB, h.2.2.2.2.later hB⟩
  have MG : Hid (Below w.heap.size w wg ∧ Rd wg (· < wc.heap.size) (dRowS R0) (.slice ra R0.length rc) ∧ Own wg (dRowS x0) (fun c => u0 ≤ c ∧ c < wx0.heap.size) (.slice (some ⟨p0_, 0, none⟩) x0.length x0.length) ∧ Own wg (dUpdateS x1) (fun c => u1 ≤ c ∧ c < wx1.heap.size) (.slice (some ⟨p1_, 0, none⟩) x1.length x1.length) ∧ Own wg (dRowS R0) (fun c => ug ≤ c ∧ c < wg.heap.size) (.slice ga R0.length gc)) := ⟨hm.1.trans ((Below.refl _ _).mono hm.1.size), hm.2.1.later (Below.refl _ _), hm.2.2.1.later (Below.refl _ _), hm.2.2.2.later (Below.refl _ _), ho.later (Below.refl _ _)⟩
  clear hm hB ho hug M2
  have ORD := Lib.hid (And.intro (O0.out) (And.intro (U0.out) (And.intro (U1.out) (UG.out))))
  go_wp2_with fail
  refine (EQR.out _ _ _ _ _ (Rd.any (Own.rd' (MG.out.2.2.2.2))) (Rd.any (MG.out.2.1))).mono ?_
  rintro e wc0 ⟨rfl, hB⟩
  have N1 := Lib.hid (SGL.out _ _ MG.out hB)
  clear hB MG
  go_wp2_with fail
  have CE0 : Hid (∀ W, (Below w.heap.size w W ∧ Rd W (· < wc.heap.size) (dRowS R0) (.slice ra R0.length rc) ∧ Own W (dRowS x0) (fun c => u0 ≤ c ∧ c < wx0.heap.size) (.slice (some ⟨p0_, 0, none⟩) x0.length x0.length) ∧ Own W (dUpdateS x1) (fun c => u1 ≤ c ∧ c < wx1.heap.size) (.slice (some ⟨p1_, 0, none⟩) x1.length x1.length) ∧ Own W (dRowS R0) (fun c => ug ≤ c ∧ c < wg.heap.size) (.slice ga R0.length gc)) → (True)) := fun W h => trivial
  have XA0 : Hid (∀ W, (Below w.heap.size w W ∧ Rd W (· < wc.heap.size) (dRowS R0) (.slice ra R0.length rc) ∧ Own W (dRowS x0) (fun c => u0 ≤ c ∧ c < wx0.heap.size) (.slice (some ⟨p0_, 0, none⟩) x0.length x0.length) ∧ Own W (dUpdateS x1) (fun c => u1 ≤ c ∧ c < wx1.heap.size) (.slice (some ⟨p1_, 0, none⟩) x1.length x1.length) ∧ Own W (dRowS R0) (fun c => ug ≤ c ∧ c < wg.heap.size) (.slice ga R0.length gc)) → (Below w.heap.size w W)) := fun W h => h.1
  have hx := N1.out
  clear N1
  refine (TO0.out _ (by first | exact XA0.out _ hx | exact XA0.out _ (SGL.out _ _ hx (Below.refl _ _).drew))).mono ?_
  rintro e we0 ⟨s0_, rfl, ho, hB, _⟩
  have h2 : Below w.heap.size w we0 ∧ Rd we0 (· < wc.heap.size) (dRowS R0) (.slice ra R0.length rc) ∧ Own we0 (dRowS x0) (fun c => u0 ≤ c ∧ c < wx0.heap.size) (.slice (some ⟨p0_, 0, none⟩) x0.length x0.length) ∧ Own we0 (dUpdateS x1) (fun c => u1 ≤ c ∧ c < wx1.heap.size) (.slice (some ⟨p1_, 0, none⟩) x1.length x1.length) ∧ Own we0 (dRowS R0) (fun c => ug ≤ c ∧ c < wg.heap.size) (.slice ga R0.length gc) := (by first | exact SGL.out _ _ hx hB | exact SGL.out _ _ (SGL.out _ _ hx (Below.refl _ _).drew) hB)
  clear hx
  have hx := h2
  clear h2
  have RE0_ : Hid (Rd _ (fun _ => True) (dRowS x0) (.slice (some ⟨s0_, 0, none⟩) x0.length x0.length)) := ho.rd'.any
  clear hB ho
  go_wp2_with fail
  refine (EQ0.out _ _ _ _ _ (by first | exact Rd.any (Own.rd' (hx.2.2.1)) | exact Rd.later (Rd.any (Own.rd' (hx.2.2.1))) (Below.refl _ _).drew) (by first | exact RE0_.out | exact Rd.later RE0_.out (Below.refl _ _).drew)).mono ?_
  rintro e wf0 ⟨rfl, hB⟩
  have h2 : Below w.heap.size w wf0 ∧ Rd wf0 (· < wc.heap.size) (dRowS R0) (.slice ra R0.length rc) ∧ Own wf0 (dRowS x0) (fun c => u0 ≤ c ∧ c < wx0.heap.size) (.slice (some ⟨p0_, 0, none⟩) x0.length x0.length) ∧ Own wf0 (dUpdateS x1) (fun c => u1 ≤ c ∧ c < wx1.heap.size) (.slice (some ⟨p1_, 0, none⟩) x1.length x1.length) ∧ Own wf0 (dRowS R0) (fun c => ug ≤ c ∧ c < wg.heap.size) (.slice ga R0.length gc) := (by first | exact SGL.out _ _ hx hB | exact SGL.out _ _ (SGL.out _ _ hx (Below.refl _ _).drew) hB)
  clear hx hB
  have hx := h2
  clear h2
  have N2 := Lib.hid hx
  clear hx RE0_
  go_wp2_with fail
  have CE1 : Hid (∀ W, (Below w.heap.size w W ∧ Rd W (· < wc.heap.size) (dRowS R0) (.slice ra R0.length rc) ∧ Own W (dRowS x0) (fun c => u0 ≤ c ∧ c < wx0.heap.size) (.slice (some ⟨p0_, 0, none⟩) x0.length x0.length) ∧ Own W (dUpdateS x1) (fun c => u1 ≤ c ∧ c < wx1.heap.size) (.slice (some ⟨p1_, 0, none⟩) x1.length x1.length) ∧ Own W (dRowS R0) (fun c => ug ≤ c ∧ c < wg.heap.size) (.slice ga R0.length gc)) → (True)) := fun W h => trivial
  have XA1 : Hid (∀ W, (Below w.heap.size w W ∧ Rd W (· < wc.heap.size) (dRowS R0) (.slice ra R0.length rc) ∧ Own W (dRowS x0) (fun c => u0 ≤ c ∧ c < wx0.heap.size) (.slice (some ⟨p0_, 0, none⟩) x0.length x0.length) ∧ Own W (dUpdateS x1) (fun c => u1 ≤ c ∧ c < wx1.heap.size) (.slice (some ⟨p1_, 0, none⟩) x1.length x1.length) ∧ Own W (dRowS R0) (fun c => ug ≤ c ∧ c < wg.heap.size) (.slice ga R0.length gc)) → (Below w.heap.size w W)) := fun W h => h.1
  have hx := N2.out
  clear N2
  refine (TO1.out _ (by first | exact XA1.out _ hx | exact XA1.out _ (SGL.out _ _ hx (Below.refl _ _).drew))).mono ?_
  rintro e we1 ⟨s1_, rfl, ho, hB, _⟩
  have h2 : Below w.heap.size w we1 ∧ Rd we1 (· < wc.heap.size) (dRowS R0) (.slice ra R0.length rc) ∧ Own we1 (dRowS x0) (fun c => u0 ≤ c ∧ c < wx0.heap.size) (.slice (some ⟨p0_, 0, none⟩) x0.length x0.length) ∧ Own we1 (dUpdateS x1) (fun c => u1 ≤ c ∧ c < wx1.heap.size) (.slice (some ⟨p1_, 0, none⟩) x1.length x1.length) ∧ Own we1 (dRowS R0) (fun c => ug ≤ c ∧ c < wg.heap.size) (.slice ga R0.length gc) := (by first | exact SGL.out _ _ hx hB | exact SGL.out _ _ (SGL.out _ _ hx (Below.refl _ _).drew) hB)
  clear hx
  have hx := h2
  clear h2
  have RE1_ : Hid (Rd _ (fun _ => True) (dUpdateS x1) (.slice (some ⟨s1_, 0, none⟩) x1.length x1.length)) := ho.rd'.any
  clear hB ho
  go_wp2_with fail
  refine (EQ1.out _ _ _ _ _ (by first | exact Rd.any (Own.rd' (hx.2.2.2.1)) | exact Rd.later (Rd.any (Own.rd' (hx.2.2.2.1))) (Below.refl _ _).drew) (by first | exact RE1_.out | exact Rd.later RE1_.out (Below.refl _ _).drew)).mono ?_
  rintro e wf1 ⟨rfl, hB⟩
  have h2 : Below w.heap.size w wf1 ∧ Rd wf1 (· < wc.heap.size) (dRowS R0) (.slice ra R0.length rc) ∧ Own wf1 (dRowS x0) (fun c => u0 ≤ c ∧ c < wx0.heap.size) (.slice (some ⟨p0_, 0, none⟩) x0.length x0.length) ∧ Own wf1 (dUpdateS x1) (fun c => u1 ≤ c ∧ c < wx1.heap.size) (.slice (some ⟨p1_, 0, none⟩) x1.length x1.length) ∧ Own wf1 (dRowS R0) (fun c => ug ≤ c ∧ c < wg.heap.size) (.slice ga R0.length gc) := (by first | exact SGL.out _ _ hx hB | exact SGL.out _ _ (SGL.out _ _ hx (Below.refl _ _).drew) hB)
  clear hx hB
  have hx := h2
  clear h2
  have N3 := Lib.hid hx
  clear hx RE1_
  go_wp2_with fail
  have MB : Hid True := trivial
  have T0F : Hid (∀ W W', (Below w.heap.size w W ∧ Rd W (· < wc.heap.size) (dRowS R0) (.slice ra R0.length rc) ∧ Own W (dRowS x0) (fun c => u0 ≤ c ∧ c < wx0.heap.size) (.slice (some ⟨p0_, 0, none⟩) x0.length x0.length) ∧ Own W (dUpdateS x1) (fun c => u1 ≤ c ∧ c < wx1.heap.size) (.slice (some ⟨p1_, 0, none⟩) x1.length x1.length) ∧ Own W (dRowS R0) (fun c => ug ≤ c ∧ c < wg.heap.size) (.slice ga R0.length gc)) → Frm (fun c => u0 ≤ c ∧ c < wx0.heap.size) W W' → (Own W' ((dRowS x0).mkd (1)) (fun c => u0 ≤ c ∧ c < wx0.heap.size) (.slice (some ⟨p0_, 0, none⟩) x0.length x0.length)) → (Below w.heap.size w W' ∧ Rd W' (· < wc.heap.size) (dRowS R0) (.slice ra R0.length rc) ∧ Own W' ((dRowS x0).mkd (1)) (fun c => u0 ≤ c ∧ c < wx0.heap.size) (.slice (some ⟨p0_, 0, none⟩) x0.length x0.length) ∧ Own W' (dUpdateS x1) (fun c => u1 ≤ c ∧ c < wx1.heap.size) (.slice (some ⟨p1_, 0, none⟩) x1.length x1.length) ∧ Own W' (dRowS R0) (fun c => ug ≤ c ∧ c < wg.heap.size) (.slice ga R0.length gc))) := fun W W' h hF ho0 => ⟨h.1.trans (Frm.below hF h.1.size (fun b hb hx => by have h1 := (fun (b : Nat) (hb : u0 ≤ b ∧ b < wx0.heap.size) => hb) b hx; have h2 := ORD.out; omega)), h.2.1.frm hF (fun b hb hx => by have h1 := (fun (b : Nat) (hb : u0 ≤ b ∧ b < wx0.heap.size) => hb) b hx; have h2 := ORD.out; have h3 : b < wc.heap.size := hb; omega), ho0, h.2.2.2.1.frm hF (fun b hb hx => by have h1 := (fun (b : Nat) (hb : u0 ≤ b ∧ b < wx0.heap.size) => hb) b hx; have h2 := ORD.out; have h3 := (fun (b : Nat) (hb : u1 ≤ b ∧ b < wx1.heap.size) => hb) b hb; omega), h.2.2.2.2.frm hF (fun b hb hx => by have h1 := (fun (b : Nat) (hb : u0 ≤ b ∧ b < wx0.heap.size) => hb) b hx; have h2 := ORD.out; have h3 := (fun (b : Nat) (hb : ug ≤ b ∧ b < wg.heap.size) => hb) b hb; omega)⟩
  refine (mkDRowS x0 (some ⟨p0_, 0, none⟩) x0.length (1) (fun c => u0 ≤ c ∧ c < wx0.heap.size) _ HO0.out (by omega) (by have g := D.wd_le (dRowS x0) (HO0.out); have gz := HZ0.out; omega) (N3.out.2.2.1)).mono ?_
  rintro e wm0 ⟨rfl, ho, hF⟩
  have N4 := Lib.hid (T0F.out _ _ N3.out hF ho)
  clear ho hF N3
  have T0L : Hid (∀ W W', (Below w.heap.size w W ∧ Rd W (· < wc.heap.size) (dRowS R0) (.slice ra R0.length rc) ∧ Own W ((dRowS x0).mkd (1)) (fun c => u0 ≤ c ∧ c < wx0.heap.size) (.slice (some ⟨p0_, 0, none⟩) x0.length x0.length) ∧ Own W (dUpdateS x1) (fun c => u1 ≤ c ∧ c < wx1.heap.size) (.slice (some ⟨p1_, 0, none⟩) x1.length x1.length) ∧ Own W (dRowS R0) (fun c => ug ≤ c ∧ c < wg.heap.size) (.slice ga R0.length gc)) → Below W.heap.size W W' → (Below w.heap.size w W' ∧ Rd W' (· < wc.heap.size) (dRowS R0) (.slice ra R0.length rc) ∧ Own W' ((dRowS x0).mkd (1)) (fun c => u0 ≤ c ∧ c < wx0.heap.size) (.slice (some ⟨p0_, 0, none⟩) x0.length x0.length) ∧ Own W' (dUpdateS x1) (fun c => u1 ≤ c ∧ c < wx1.heap.size) (.slice (some ⟨p1_, 0, none⟩) x1.length x1.length) ∧ Own W' (dRowS R0) (fun c => ug ≤ c ∧ c < wg.heap.size) (.slice ga R0.length gc))) := fun W W' h hB => ⟨h.1.trans (hB.mono h.1.size), h.2.1.later hB, h.2.2.1.later hB, h.2.2.2.1.later hB, h.2.2.2.2.later hB⟩
  obtain ⟨k0, hk0⟩ : ∃ y : Nat, y = 1 + (dRowS x0).wd := ⟨_, rfl⟩
  rw [← hk0]
  have hkb0 : Hid (k0 < 1000000000 ∧ 0 < k0) := by rw [hk0]; have g := D.wd_le (dRowS x0) (HO0.out); have gz := HZ0.out; show _ ∧ _; omega
  have dk0 : decide ((k0 : Int) < 0) = false := by simp
  clear hk0
  go_wp2_with fail
  have T1F : Hid (∀ W W', (Below w.heap.size w W ∧ Rd W (· < wc.heap.size) (dRowS R0) (.slice ra R0.length rc) ∧ Own W ((dRowS x0).mkd (1)) (fun c => u0 ≤ c ∧ c < wx0.heap.size) (.slice (some ⟨p0_, 0, none⟩) x0.length x0.length) ∧ Own W (dUpdateS x1) (fun c => u1 ≤ c ∧ c < wx1.heap.size) (.slice (some ⟨p1_, 0, none⟩) x1.length x1.length) ∧ Own W (dRowS R0) (fun c => ug ≤ c ∧ c < wg.heap.size) (.slice ga R0.length gc)) → Frm (fun c => u1 ≤ c ∧ c < wx1.heap.size) W W' → (Own W' ((dUpdateS x1).mkd (k0)) (fun c => u1 ≤ c ∧ c < wx1.heap.size) (.slice (some ⟨p1_, 0, none⟩) x1.length x1.length)) → (Below w.heap.size w W' ∧ Rd W' (· < wc.heap.size) (dRowS R0) (.slice ra R0.length rc) ∧ Own W' ((dRowS x0).mkd (1)) (fun c => u0 ≤ c ∧ c < wx0.heap.size) (.slice (some ⟨p0_, 0, none⟩) x0.length x0.length) ∧ Own W' ((dUpdateS x1).mkd (k0)) (fun c => u1 ≤ c ∧ c < wx1.heap.size) (.slice (some ⟨p1_, 0, none⟩) x1.length x1.length) ∧ Own W' (dRowS R0) (fun c => ug ≤ c ∧ c < wg.heap.size) (.slice ga R0.length gc))) := fun W W' h hF ho0 => ⟨h.1.trans (Frm.below hF h.1.size (fun b hb hx => by have h1 := (fun (b : Nat) (hb : u1 ≤ b ∧ b < wx1.heap.size) => hb) b hx; have h2 := ORD.out; omega)), h.2.1.frm hF (fun b hb hx => by have h1 := (fun (b : Nat) (hb : u1 ≤ b ∧ b < wx1.heap.size) => hb) b hx; have h2 := ORD.out; have h3 : b < wc.heap.size := hb; omega), h.2.2.1.frm hF (fun b hb hx => by have h1 := (fun (b : Nat) (hb : u1 ≤ b ∧ b < wx1.heap.size) => hb) b hx; have h2 := ORD.out; have h3 := (fun (b : Nat) (hb : u0 ≤ b ∧ b < wx0.heap.size) => hb) b hb; omega), ho0, h.2.2.2.2.frm hF (fun b hb hx => by have h1 := (fun (b : Nat) (hb : u1 ≤ b ∧ b < wx1.heap.size) => hb) b hx; have h2 := ORD.out; have h3 := (fun (b : Nat) (hb : ug ≤ b ∧ b < wg.heap.size) => hb) b hb; omega)⟩
  refine (mkDUpdateS x1 (some ⟨p1_, 0, none⟩) x1.length (k0) (fun c => u1 ≤ c ∧ c < wx1.heap.size) _ HO1.out (by have gk := hkb0.out; omega) (by have gk := hkb0.out; have g := D.wd_le (dUpdateS x1) (HO1.out); have gz := HZ1.out; omega) (N4.out.2.2.2.1)).mono ?_
  rintro e wm1 ⟨rfl, ho, hF⟩
  have N5 := Lib.hid (T1F.out _ _ N4.out hF ho)
  clear ho hF N4
  have T1L : Hid (∀ W W', (Below w.heap.size w W ∧ Rd W (· < wc.heap.size) (dRowS R0) (.slice ra R0.length rc) ∧ Own W ((dRowS x0).mkd (1)) (fun c => u0 ≤ c ∧ c < wx0.heap.size) (.slice (some ⟨p0_, 0, none⟩) x0.length x0.length) ∧ Own W ((dUpdateS x1).mkd (k0)) (fun c => u1 ≤ c ∧ c < wx1.heap.size) (.slice (some ⟨p1_, 0, none⟩) x1.length x1.length) ∧ Own W (dRowS R0) (fun c => ug ≤ c ∧ c < wg.heap.size) (.slice ga R0.length gc)) → Below W.heap.size W W' → (Below w.heap.size w W' ∧ Rd W' (· < wc.heap.size) (dRowS R0) (.slice ra R0.length rc) ∧ Own W' ((dRowS x0).mkd (1)) (fun c => u0 ≤ c ∧ c < wx0.heap.size) (.slice (some ⟨p0_, 0, none⟩) x0.length x0.length) ∧ Own W' ((dUpdateS x1).mkd (k0)) (fun c => u1 ≤ c ∧ c < wx1.heap.size) (.slice (some ⟨p1_, 0, none⟩) x1.length x1.length) ∧ Own W' (dRowS R0) (fun c => ug ≤ c ∧ c < wg.heap.size) (.slice ga R0.length gc))) := fun W W' h hB => ⟨h.1.trans (hB.mono h.1.size), h.2.1.later hB, h.2.2.1.later hB, h.2.2.2.1.later hB, h.2.2.2.2.later hB⟩
  obtain ⟨k1, hk1⟩ : ∃ y : Nat, y = k0 + (dUpdateS x1).wd := ⟨_, rfl⟩
  rw [← hk1]
  have hkb1 : Hid (k1 < 2000000000 ∧ 0 < k1) := by rw [hk1]; have gk := hkb0.out; have g := D.wd_le (dUpdateS x1) (HO1.out); have gz := HZ1.out; show _ ∧ _; omega
  have dk1 : decide ((k1 : Int) < 0) = false := by simp
  clear hk1
  go_wp2_with fail
  refine (EQR.out _ _ _ _ _ (Rd.any (Own.rd' (N5.out.2.2.2.2))) (Rd.any (N5.out.2.1))).mono ?_
  rintro e wc5 ⟨rfl, hB⟩
  have N6 := Lib.hid (T1L.out _ _ N5.out hB)
  clear hB N5
  go_wp2_with fail
  have TGF : Hid (∀ W W', (Below w.heap.size w W ∧ Rd W (· < wc.heap.size) (dRowS R0) (.slice ra R0.length rc) ∧ Own W ((dRowS x0).mkd (1)) (fun c => u0 ≤ c ∧ c < wx0.heap.size) (.slice (some ⟨p0_, 0, none⟩) x0.length x0.length) ∧ Own W ((dUpdateS x1).mkd (k0)) (fun c => u1 ≤ c ∧ c < wx1.heap.size) (.slice (some ⟨p1_, 0, none⟩) x1.length x1.length) ∧ Own W (dRowS R0) (fun c => ug ≤ c ∧ c < wg.heap.size) (.slice ga R0.length gc)) → Frm (fun c => ug ≤ c ∧ c < wg.heap.size) W W' → (Own W' ((dRowS R0).mkd 1) (fun c => ug ≤ c ∧ c < wg.heap.size) (.slice ga R0.length gc)) → (Below w.heap.size w W' ∧ Rd W' (· < wc.heap.size) (dRowS R0) (.slice ra R0.length rc) ∧ Own W' ((dRowS x0).mkd (1)) (fun c => u0 ≤ c ∧ c < wx0.heap.size) (.slice (some ⟨p0_, 0, none⟩) x0.length x0.length) ∧ Own W' ((dUpdateS x1).mkd (k0)) (fun c => u1 ≤ c ∧ c < wx1.heap.size) (.slice (some ⟨p1_, 0, none⟩) x1.length x1.length) ∧ Own W' ((dRowS R0).mkd 1) (fun c => ug ≤ c ∧ c < wg.heap.size) (.slice ga R0.length gc))) := fun W W' h hF ho0 => ⟨h.1.trans (Frm.below hF h.1.size (fun b hb hx => by have h1 := (fun (b : Nat) (hb : ug ≤ b ∧ b < wg.heap.size) => hb) b hx; have h2 := ORD.out; omega)), h.2.1.frm hF (fun b hb hx => by have h1 := (fun (b : Nat) (hb : ug ≤ b ∧ b < wg.heap.size) => hb) b hx; have h2 := ORD.out; have h3 : b < wc.heap.size := hb; omega), h.2.2.1.frm hF (fun b hb hx => by have h1 := (fun (b : Nat) (hb : ug ≤ b ∧ b < wg.heap.size) => hb) b hx; have h2 := ORD.out; have h3 := (fun (b : Nat) (hb : u0 ≤ b ∧ b < wx0.heap.size) => hb) b hb; omega), h.2.2.2.1.frm hF (fun b hb hx => by have h1 := (fun (b : Nat) (hb : ug ≤ b ∧ b < wg.heap.size) => hb) b hx; have h2 := ORD.out; have h3 := (fun (b : Nat) (hb : u1 ≤ b ∧ b < wx1.heap.size) => hb) b hb; omega), ho0⟩
  refine (mkDRowS R0 ga gc 1 (fun c => ug ≤ c ∧ c < wg.heap.size) _ HRB.out.1 (by omega) HRW.out (N6.out.2.2.2.2)).mono ?_
  rintro e wmg ⟨rfl, ho, hF⟩
  have N7 := Lib.hid (TGF.out _ _ N6.out hF ho)
  clear ho hF N6
  have TGL : Hid (∀ W W', (Below w.heap.size w W ∧ Rd W (· < wc.heap.size) (dRowS R0) (.slice ra R0.length rc) ∧ Own W ((dRowS x0).mkd (1)) (fun c => u0 ≤ c ∧ c < wx0.heap.size) (.slice (some ⟨p0_, 0, none⟩) x0.length x0.length) ∧ Own W ((dUpdateS x1).mkd (k0)) (fun c => u1 ≤ c ∧ c < wx1.heap.size) (.slice (some ⟨p1_, 0, none⟩) x1.length x1.length) ∧ Own W ((dRowS R0).mkd 1) (fun c => ug ≤ c ∧ c < wg.heap.size) (.slice ga R0.length gc)) → Below W.heap.size W W' → (Below w.heap.size w W' ∧ Rd W' (· < wc.heap.size) (dRowS R0) (.slice ra R0.length rc) ∧ Own W' ((dRowS x0).mkd (1)) (fun c => u0 ≤ c ∧ c < wx0.heap.size) (.slice (some ⟨p0_, 0, none⟩) x0.length x0.length) ∧ Own W' ((dUpdateS x1).mkd (k0)) (fun c => u1 ≤ c ∧ c < wx1.heap.size) (.slice (some ⟨p1_, 0, none⟩) x1.length x1.length) ∧ Own W' ((dRowS R0).mkd 1) (fun c => ug ≤ c ∧ c < wg.heap.size) (.slice ga R0.length gc))) := fun W W' h hB => ⟨h.1.trans (hB.mono h.1.size), h.2.1.later hB, h.2.2.1.later hB, h.2.2.2.1.later hB, h.2.2.2.2.later hB⟩
  have HD : Hid (∀ (W : World), Rd W (fun _ => True) ((dRowS R0).mkd 1) (.slice ga R0.length gc) → Calls Try.prog 14 #[.slice ga R0.length gc, .int .i64 1] W fun e w' => e = .returned (.int .i64 (1 + (dRowS R0).wd : Nat)) ∧ Below W.heap.size W w') := fun W h => hdDRowS R0 ga gc 1 _ W HRB.out.1 (by omega) HRW.out h
  obtain ⟨kg, hkg⟩ : ∃ y : Nat, y = 1 + (dRowS R0).wd := ⟨_, rfl⟩
  rw [← hkg] at HD ⊢
  have dkg : decide ((kg : Int) < 0) = false := by simp
  have nkg : ((kg : Int) != (kg : Int)) = false := by simp
  clear hkg
  go_wp2_with fail
  refine (HD.out _ (Rd.any (Own.rd' (N7.out.2.2.2.2)))).mono ?_
  rintro e wh7 ⟨rfl, hB⟩
  have N8 := Lib.hid (TGL.out _ _ N7.out hB)
  clear hB N7
  go_upto_region 31 with fail
  have HST : Hid (∀ W, Below wh7.heap.size wh7 W → (Below w.heap.size w W ∧ Rd W (· < wc.heap.size) (dRowS R0) (.slice ra R0.length rc) ∧ Own W ((dRowS x0).mkd (1)) (fun c => u0 ≤ c ∧ c < wx0.heap.size) (.slice (some ⟨p0_, 0, none⟩) x0.length x0.length) ∧ Own W ((dUpdateS x1).mkd (k0)) (fun c => u1 ≤ c ∧ c < wx1.heap.size) (.slice (some ⟨p1_, 0, none⟩) x1.length x1.length) ∧ Own W ((dRowS R0).mkd 1) (fun c => ug ≤ c ∧ c < wg.heap.size) (.slice ga R0.length gc))) := fun W h => TGL.out _ _ N8.out h
  have CE : Hid (∀ W, (Below w.heap.size w W ∧ Rd W (· < wc.heap.size) (dRowS R0) (.slice ra R0.length rc) ∧ Own W ((dRowS x0).mkd (1)) (fun c => u0 ≤ c ∧ c < wx0.heap.size) (.slice (some ⟨p0_, 0, none⟩) x0.length x0.length) ∧ Own W ((dUpdateS x1).mkd (k0)) (fun c => u1 ≤ c ∧ c < wx1.heap.size) (.slice (some ⟨p1_, 0, none⟩) x1.length x1.length) ∧ Own W ((dRowS R0).mkd 1) (fun c => ug ≤ c ∧ c < wg.heap.size) (.slice ga R0.length gc)) → (True)) := fun W h => trivial
  have HSX : Hid (∀ W, (Below w.heap.size w W ∧ Rd W (· < wc.heap.size) (dRowS R0) (.slice ra R0.length rc) ∧ Own W ((dRowS x0).mkd (1)) (fun c => u0 ≤ c ∧ c < wx0.heap.size) (.slice (some ⟨p0_, 0, none⟩) x0.length x0.length) ∧ Own W ((dUpdateS x1).mkd (k0)) (fun c => u1 ≤ c ∧ c < wx1.heap.size) (.slice (some ⟨p1_, 0, none⟩) x1.length x1.length) ∧ Own W ((dRowS R0).mkd 1) (fun c => ug ≤ c ∧ c < wg.heap.size) (.slice ga R0.length gc)) → (Below w.heap.size w W)) := fun W h => h.1
  clear N8 
  go_cut [15, 16] from 94 to 101 (fun s0 s1 wx => ∃ (ya : Option Addr) (yc : Nat), s0 = .slice ya R0.length yc ∧ s1 = .int .i64 R1 ∧ Hid ((Below w.heap.size w wx ∧ Rd wx (· < wc.heap.size) (dRowS R0) (.slice ra R0.length rc) ∧ Own wx ((dRowS x0).mkd (1)) (fun c => u0 ≤ c ∧ c < wx0.heap.size) (.slice (some ⟨p0_, 0, none⟩) x0.length x0.length) ∧ Own wx ((dUpdateS x1).mkd (k0)) (fun c => u1 ≤ c ∧ c < wx1.heap.size) (.slice (some ⟨p1_, 0, none⟩) x1.length x1.length) ∧ Own wx ((dRowS R0).mkd 1) (fun c => ug ≤ c ∧ c < wg.heap.size) (.slice ga R0.length gc)) ∧ True ∧ Rd wx (fun _ => True) (dRowS R0) (.slice ya R0.length yc)))
  case first =>
    have BS : Hid (Below wh7.heap.size wh7 wh7) := Below.refl _ _
    go_wp2_with fail
    refine (TO0.out _ (HSX.out _ (HST.out _ BS.out))).mono ?_
    rintro e wt0 ⟨p0_, rfl, ho, hB, -⟩
    have hb : Below wh7.heap.size wh7 wt0 := hB
    have BS' : Hid (Below wh7.heap.size wh7 wt0) := BS.out.trans (hb.mono BS.out.size)
    clear BS
    have BS := BS'
    clear BS'
    have RC0_ : Hid (∀ W, Below wt0.heap.size wt0 W → Rd W (fun _ => True) (dRowS x0) (.slice (some ⟨p0_, 0, none⟩) x0.length x0.length)) := fun W h => Rd.later (ho.rd'.any) h
    have BC0 : Hid (Below wt0.heap.size wt0 wt0) := Below.refl _ _
    clear hb hB ho
    go_wp2_with fail
    refine (TO1.out _ (HSX.out _ (HST.out _ BS.out))).mono ?_
    rintro e wt1 ⟨p1_, rfl, ho, hB, -⟩
    have hb : Below wt0.heap.size wt0 wt1 := hB
    have BS' : Hid (Below wh7.heap.size wh7 wt1) := BS.out.trans (hb.mono BS.out.size)
    clear BS
    have BS := BS'
    clear BS'
    have BC0' : Hid (Below wt0.heap.size wt0 wt1) := BC0.out.trans (hb.mono BC0.out.size)
    clear BC0
    have BC0 := BC0'
    clear BC0'
    have RC1_ : Hid (∀ W, Below wt1.heap.size wt1 W → Rd W (fun _ => True) (dUpdateS x1) (.slice (some ⟨p1_, 0, none⟩) x1.length x1.length)) := fun W h => Rd.later (ho.rd'.any) h
    have BC1 : Hid (Below wt1.heap.size wt1 wt1) := Below.refl _ _
    clear hb hB ho
    go_wp2_with fail
    refine (CI.out _ _ _ _ _ (RC0_.out _ BC0.out) (RC1_.out _ BC1.out)).mono ?_
    rintro e w2 ⟨ya, yc, rfl, hr2, hB⟩
    replace hr2 := Own.rd' hr2
    have hb : Below wt1.heap.size wt1 w2 := hB
    have BS' : Hid (Below wh7.heap.size wh7 w2) := BS.out.trans (hb.mono BS.out.size)
    clear BS
    have BS := BS'
    clear BS'
    have BC0' : Hid (Below wt0.heap.size wt0 w2) := BC0.out.trans (hb.mono BC0.out.size)
    clear BC0
    have BC0 := BC0'
    clear BC0'
    have BC1' : Hid (Below wt1.heap.size wt1 w2) := BC1.out.trans (hb.mono BC1.out.size)
    clear BC1
    have BC1 := BC1'
    clear BC1'
    have HR2 : Hid (Rd w2 (fun b => wt1.heap.size ≤ b ∧ b < w2.heap.size) (dRowS R0) (.slice ya R0.length yc)) := hr2
    clear hb hB hr2
    have HF := Lib.hid (HST.out _ BS.out)
    go_wp2_with fail
    go_meet
    exact ⟨ya, yc, rfl, rfl, HF.out, trivial, HR2.out.mono (fun _ _ => trivial)⟩
  obtain ⟨ya, yc, rfl, rfl, HCUT⟩ := hcut
  have N9 := Lib.hid HCUT.out.1
  have BH := Lib.hid HCUT.out.2
  clear HCUT HST CE HSX
  go_wp2_with fail
  refine (EQR.out _ _ _ _ _ BH.out.2 (Rd.any (N9.out.2.1))).mono ?_
  rintro e wv ⟨rfl, hB⟩
  have N10 := Lib.hid (TGL.out _ _ N9.out hB)
  clear hB N9
  go_wp2_with fail
  refine (HD.out _ (Rd.any (Own.rd' (N10.out.2.2.2.2)))).mono ?_
  rintro e wh10 ⟨rfl, hB⟩
  have N11 := Lib.hid (TGL.out _ _ N10.out hB)
  clear hB N10
  go_wp2_with fail
  go_ret
  exact ⟨rfl, N11.out.1⟩
end Go.Proofs.Ytnegmpdllbbnhaa
