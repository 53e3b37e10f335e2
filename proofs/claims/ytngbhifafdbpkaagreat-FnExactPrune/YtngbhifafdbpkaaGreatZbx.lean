import Derived.Test.YtngbhifafdbpkaaGreatZan
import Derived.Test.YtngbhifafdbpkaaGreatZbw
namespace Go.Proofs.YtngbhifafdbpkaaGreat
open Go.RowKit
set_option linter.unusedSimpArgs false
set_option maxRecDepth 100000 in
set_option maxHeartbeats 6400000 in
theorem mkDRowS (l : List RowV) (a : Option Addr) (c k : Nat) (B : Nat → Prop) (w : World) (ho : (dRowS l).le maxLen) (h0 : 0 < k) (h1 : k + (dRowS l).wd < 100000000000) (hS : Own w (dRowS l) B (.slice a l.length c)) :
    Calls Tryz.prog 55 #[.slice a l.length c, .int .i64 k] w fun e w' => e = .returned (.int .i64 (k + (dRowS l).wd : Nat)) ∧ Own w' ((dRowS l).mkd k) B (.slice a l.length c) ∧ Frm B w w' := by
  have hl : l.length ≤ maxLen := (Ls_le.1 ho).2.1
  unfold maxLen at hl
  have HX : Hid (∀ i (h : i < l.length) j, j < 2 → (dRow l[i] j).le maxLen) := (Ls_le.1 ho).2.2
  have HWD : Hid (∀ i j, i < l.length → j ≤ 2 → k ≤ atN (lsF dRow l) 2 k i j ∧ atN (lsF dRow l) 2 k i j < 100000000000) := fun i j hi hj => ⟨atN_ge _ _ _ _ _, Nat.lt_of_le_of_lt (atN_le hi hj) h1⟩
  have HAL : Hid (atN (lsF dRow l) 2 k l.length 0 = k + (dRowS l).wd) := atN_all _ _ _ _
  have HMC : Hid (l.length ≤ c) := by
    obtain ⟨a', c', e, hmc, -⟩ := Own.open hS
    simp only [Value.slice.injEq] at e
    obtain ⟨-, -, rfl⟩ := e
    exact hmc
  have HS : Hid (l.length = 0 ∨ ∃ b off X, a = some ⟨b, off, none⟩ ∧ MS w w 2 l.length (lsF dRow l) k B b off X 0 0) := by
    obtain ⟨a', c', e, -, hO⟩ := Own.open hS
    simp only [Value.slice.injEq] at e
    obtain ⟨rfl, -, -⟩ := e
    exact hO.imp id (fun ⟨b, off, X, ha, h⟩ => ⟨b, off, X, ha, MS.start h⟩)
  have H0 := Lib.hid h0
  clear hS ho h1 h0
  go_enter Tryz.func55, Tryz.ntmps55
  go_wp2_with fail
  go_loopw [1, 5] (fun q i wr => ∃ m kk : Nat, m ≤ l.length ∧ i = .int .i64 m ∧ q = .int .i64 (kk : Int) ∧ Hid (atN (lsF dRow l) 2 k m 0 = kk ∧ ((l.length = 0 ∧ wr = w) ∨ ∃ b off X, a = some ⟨b, off, none⟩ ∧ MS w wr 2 l.length (lsF dRow l) k B b off X m 0))) (fun _ i _ => l.length - (intOf i).toNat)
  case atStart => exact ⟨0, k, Nat.zero_le _, rfl, rfl, atN_zero _ _ _, HS.out.imp (fun h => ⟨h, rfl⟩) id⟩
  case round =>
    obtain ⟨m, kk, hm, rfl, rfl, HR⟩ := hrel
    by_cases hlt : m < l.length
    case neg =>
      have hm' : m = l.length := by omega
      have hmi : decide ((m : Int) < (l.length : Int)) = false := decide_eq_false (by omega)
      have HF : Hid ((kk : Int) = ((k + (dRowS l).wd : Nat) : Int) ∧ Own wr ((dRowS l).mkd k) B (.slice a l.length c) ∧ Frm B w wr) := by
        obtain ⟨hk, h⟩ := HR.out
        have hal := HAL.out
        rw [hm'] at hk
        rw [hk] at hal
        refine ⟨by rw [hal], ?_⟩
        rcases h with ⟨h, rfl⟩ | ⟨b, off, X, rfl, h⟩
        · exact ⟨⟨a, c, rfl, HMC.out, .inl h⟩, Frm.refl _ _⟩
        · rw [hm'] at h
          exact ⟨h.done c HMC.out, h.frm⟩
      clear hm' HR
      go_wp2_with fail
      go_ret
      exact ⟨ret_i HF.out.1, HF.out.2⟩
    obtain ⟨hk0, hz⟩ := HR.out
    clear HS HR
    obtain ⟨b, off, X, rfl, h⟩ : ∃ b off X, a = some ⟨b, off, none⟩ ∧ MS w wr 2 l.length (lsF dRow l) k B b off X m 0 := by
      rcases hz with ⟨h, -⟩ | h
      · omega
      · exact h
    clear hz
    have M0 := Lib.hid h
    have HFA : Hid (lsF dRow l m = dRow l[m]) := lsF_at hlt
    have N0 := Lib.hid hk0
    have HXK := Lib.hid (HX.out m hlt)
    have HM := Lib.hid hlt
    have hmi : (m : Int) < (l.length : Int) := by omega
    have hb : kk < 100000000000 ∧ 0 < kk := by have h1 := HWD.out m 0 hlt (by omega); have := H0.out; rw [hk0] at h1; omega
    obtain ⟨hb0, hp0⟩ := hb
    clear h hk0 HX
    generalize l[m] = x at *
    obtain ⟨u0, e0, z0, o0⟩ := M0.out.peek HFA.out HM.out (j' := 0) (by omega) (by omega)
    clear o0
    replace e0 : wr.cell? ⟨b, off + m * 2, none⟩ = _ := e0
    replace z0 : wr.frozen? ⟨b, off + m * 2, none⟩ = false := z0
    obtain ⟨u1, e1, z1, o1⟩ := M0.out.peek HFA.out HM.out (j' := 1) (by omega) (by omega)
    replace o1 : Own wr (dAtomSS x.cells) (X m 1) u1 := o1
    obtain ⟨a1, q1, rfl⟩ := o1.rd'.lsSlice
    have O1 := Lib.hid o1
    clear o1
    have M1 : Hid (MS w (wr.setCell ⟨b, off + m * 2, none⟩ (.int .i64 ((kk : Int)))) 2 l.length (lsF dRow l) k B b off X m 1) := M0.out.scalar (x := .i x.id) (q := kk) HM.out (by omega) (by rw [HFA.out]; rfl) N0.out.symm trivial rfl (by omega)
    have N1 : Hid (atN (lsF dRow l) 2 k m 1 = kk + 1) := atN_next HFA.out N0.out
    have hbd1 : kk + 1 < 100000000000 ∧ 0 < kk + 1 := by have h1 := HWD.out m 1 HM.out (by omega); have := H0.out; rw [N1.out] at h1; omega
    go_wp2_with fail
    rw [show ((kk : Int) + 1) = ((kk + 1 : Nat) : Int) from rfl]
    have FR1 : Frm (· = b) wr (wr.setCell ⟨b, off + m * 2, none⟩ (.int .i64 ((kk : Int)))) := by
      refine Frm.set (B := (· = b)) ?_ rfl _
      exact Frm.refl _ _
    have CC := Lib.hid (mkDAtomSS x.cells a1 q1 (kk + 1) (X m 1) _ (HXK.out 1 (by omega)) hbd1.2 (by have h1 := HWD.out m 2 HM.out (by omega); rw [atN_next HFA.out N1.out] at h1; exact h1.2) (O1.out.frm FR1 (fun c hc => (M0.out.own.sub m 1 c hc).2)))
    clear FR1
    refine CC.out.mono ?_
    rintro e v1 ⟨rfl, ho1, hF1⟩
    have K1 : Hid (MS w v1 2 l.length (lsF dRow l) k B b off X m 2) := M1.out.child (x := dAtomSS x.cells) HM.out (by omega) (by rw [HFA.out]; rfl) N1.out.symm hF1 (cell_skip e1 (by omega)) ho1
    have N2 : Hid (atN (lsF dRow l) 2 k m 2 = kk + 1 + (dAtomSS x.cells).wd) := atN_next HFA.out N1.out
    clear CC ho1 hF1 O1 M1 hbd1 e0 z0 e1 z1
    obtain ⟨b1, hb1⟩ : ∃ y : Nat, y = kk + 1 + (dAtomSS x.cells).wd := ⟨_, rfl⟩
    rw [← hb1] at N2 ⊢
    have hlb1 : 0 < b1 ∧ b1 < 100000000000 := by have h1 := HWD.out m 2 HM.out (by omega); have := H0.out; rw [N2.out] at h1; omega
    obtain ⟨hlb11, hlb12⟩ := hlb1
    clear hb1
    go_wp2_with fail
    go_roundw
    case rel => exact ⟨m + 1, b1, by omega, by go_num, rfl, by rw [atN_row]; exact N2.out, .inr ⟨b, off, X, rfl, K1.out.row⟩⟩
    case measure => simp [intOf]; omega
set_option maxRecDepth 100000 in
set_option maxHeartbeats 6400000 in
theorem hdDRowS (l : List RowV) (a : Option Addr) (c k : Nat) (B : Nat → Prop) (w : World) (ho : (dRowS l).le maxLen) (h0 : 0 < k) (h1 : k + (dRowS l).wd < 100000000000) (hS : Rd w B ((dRowS l).mkd k) (.slice a l.length c)) :
    Calls Tryz.prog 56 #[.slice a l.length c, .int .i64 k] w fun e w' => e = .returned (.int .i64 (k + (dRowS l).wd : Nat)) ∧ Below w.heap.size w w' := by
  have hl : l.length ≤ maxLen := (Ls_le.1 ho).2.1
  unfold maxLen at hl
  have HX : Hid (∀ i (h : i < l.length) j, j < 2 → (dRow l[i] j).le maxLen) := (Ls_le.1 ho).2.2
  have HWD : Hid (∀ i j, i < l.length → j ≤ 2 → k ≤ atN (lsF dRow l) 2 k i j ∧ atN (lsF dRow l) 2 k i j < 100000000000) := fun i j hi hj => ⟨atN_ge _ _ _ _ _, Nat.lt_of_le_of_lt (atN_le hi hj) h1⟩
  have HAL : Hid (atN (lsF dRow l) 2 k l.length 0 = k + (dRowS l).wd) := atN_all _ _ _ _
  have HS : Hid (∀ W, Below w.heap.size w W → Rd W B (.l 2 l.length (fun i j => (lsF dRow l i j).mkd (atN (lsF dRow l) 2 k i j))) (.slice a l.length c)) := fun W h => Rd.later hS h
  have H0 := Lib.hid h0
  clear hS ho h1 h0
  go_enter Tryz.func56, Tryz.ntmps56
  go_wp2_with fail
  go_loopw [1, 5] (fun q i wr => ∃ m kk : Nat, m ≤ l.length ∧ i = .int .i64 m ∧ q = .int .i64 (kk : Int) ∧ Hid (atN (lsF dRow l) 2 k m 0 = kk ∧ Below w.heap.size w wr)) (fun _ i _ => l.length - (intOf i).toNat)
  case atStart => exact ⟨0, k, Nat.zero_le _, rfl, rfl, atN_zero _ _ _, Below.refl _ _⟩
  case round =>
    obtain ⟨m, kk, hm, rfl, rfl, HR⟩ := hrel
    by_cases hlt : m < l.length
    case neg =>
      have hm' : m = l.length := by omega
      have hmi : decide ((m : Int) < (l.length : Int)) = false := decide_eq_false (by omega)
      have HF : Hid ((kk : Int) = ((k + (dRowS l).wd : Nat) : Int) ∧ Below w.heap.size w wr) := by
        obtain ⟨hk, h⟩ := HR.out
        have hal := HAL.out
        rw [hm'] at hk
        rw [hk] at hal
        exact ⟨by rw [hal], h⟩
      clear hm' HR
      go_wp2_with fail
      go_ret
      exact ⟨ret_i HF.out.1, HF.out.2⟩
    obtain ⟨hk0, h⟩ := HR.out
    have B0 := Lib.hid h
    obtain ⟨b, off, rfl, -, -⟩ := (HS.out _ h).cells hlt
    have CE : Hid (∀ W, Below w.heap.size w W → ∀ j, j < 2 → ∃ u, W.cell? ⟨b, off + m * 2 + j, none⟩ = some u ∧ Rd W B ((dRow l[m] j).mkd (atN (lsF dRow l) 2 k m j)) u) := fun W h j hj => by
      have := (HS.out W h).spot hlt hj
      rwa [lsF_at hlt] at this
    have HFA : Hid (lsF dRow l m = dRow l[m]) := lsF_at hlt
    have N0 := Lib.hid hk0
    have HXK := Lib.hid (HX.out m hlt)
    have HM := Lib.hid hlt
    have hmi : (m : Int) < (l.length : Int) := by omega
    have hb : kk < 100000000000 ∧ 0 < kk := by have h1 := HWD.out m 0 hlt (by omega); have := H0.out; rw [hk0] at h1; omega
    obtain ⟨hb0, hp0⟩ := hb
    clear h hk0 HR HX HS
    generalize l[m] = x at *
    obtain ⟨u0, e0, o0⟩ := CE.out _ B0.out 0 (by omega)
    rw [N0.out] at o0
    obtain rfl : u0 = .int .i64 ((kk : Int)) := o0
    replace e0 : wr.cell? ⟨b, off + m * 2, none⟩ = _ := e0
    have N1 : Hid (atN (lsF dRow l) 2 k m 1 = kk + 1) := atN_next HFA.out N0.out
    have hbd1 : kk + 1 < 100000000000 ∧ 0 < kk + 1 := by have h1 := HWD.out m 1 HM.out (by omega); have := H0.out; rw [N1.out] at h1; omega
    obtain ⟨u1, e1, o1⟩ := CE.out _ B0.out 1 (by omega)
    rw [N1.out] at o1
    replace o1 : Rd wr B ((dAtomSS x.cells).mkd (kk + 1)) u1 := o1
    obtain ⟨a1, q1, hu1⟩ : ∃ a c, u1 = .slice a x.cells.length c := Rd.slice o1
    subst hu1
    have O1 := Lib.hid o1
    clear o1
    go_wp2_with fail
    rw [show ((kk : Int) + 1) = ((kk + 1 : Nat) : Int) from rfl]
    have CC := Lib.hid (hdDAtomSS x.cells a1 q1 (kk + 1) B _ (HXK.out 1 (by omega)) hbd1.2 (by have h1 := HWD.out m 2 HM.out (by omega); rw [atN_next HFA.out N1.out] at h1; exact h1.2) O1.out)
    refine CC.out.mono ?_
    rintro e v1 ⟨rfl, hB1⟩
    have B2 : Hid (Below w.heap.size w v1) := B0.out.trans (hB1.mono B0.out.size)
    have N2 : Hid (atN (lsF dRow l) 2 k m 2 = kk + 1 + (dAtomSS x.cells).wd) := atN_next HFA.out N1.out
    clear CC hB1 O1 hbd1 e0 e1
    obtain ⟨b1, hb1⟩ : ∃ y : Nat, y = kk + 1 + (dAtomSS x.cells).wd := ⟨_, rfl⟩
    rw [← hb1] at N2 ⊢
    have hlb1 : 0 < b1 ∧ b1 < 100000000000 := by have h1 := HWD.out m 2 HM.out (by omega); have := H0.out; rw [N2.out] at h1; omega
    obtain ⟨hlb11, hlb12⟩ := hlb1
    have dk1 : decide ((b1 : Int) < 0) = false := by simp
    clear hb1
    go_wp2_with fail
    go_roundw
    case rel => exact ⟨m + 1, b1, by omega, by go_num, rfl, by rw [atN_row]; exact N2.out, B2.out⟩
    case measure => simp [intOf]; omega
set_option maxRecDepth 100000 in
set_option maxHeartbeats 6400000 in
theorem mkDRowSS (l : List (List RowV)) (a : Option Addr) (c k : Nat) (B : Nat → Prop) (w : World) (ho : (dRowSS l).le maxLen) (h0 : 0 < k) (h1 : k + (dRowSS l).wd < 100000000000) (hS : Own w (dRowSS l) B (.slice a l.length c)) :
    Calls Tryz.prog 28 #[.slice a l.length c, .int .i64 k] w fun e w' => e = .returned (.int .i64 (k + (dRowSS l).wd : Nat)) ∧ Own w' ((dRowSS l).mkd k) B (.slice a l.length c) ∧ Frm B w w' := by
  have hl : l.length ≤ maxLen := (Ls_le.1 ho).2.1
  unfold maxLen at hl
  have HX : Hid (∀ i (h : i < l.length) j, j < 1 → (cRowS l[i] j).le maxLen) := (Ls_le.1 ho).2.2
  have HWD : Hid (∀ i j, i < l.length → j ≤ 1 → k ≤ atN (lsF cRowS l) 1 k i j ∧ atN (lsF cRowS l) 1 k i j < 100000000000) := fun i j hi hj => ⟨atN_ge _ _ _ _ _, Nat.lt_of_le_of_lt (atN_le hi hj) h1⟩
  have HAL : Hid (atN (lsF cRowS l) 1 k l.length 0 = k + (dRowSS l).wd) := atN_all _ _ _ _
  have HMC : Hid (l.length ≤ c) := by
    obtain ⟨a', c', e, hmc, -⟩ := Own.open hS
    simp only [Value.slice.injEq] at e
    obtain ⟨-, -, rfl⟩ := e
    exact hmc
  have HS : Hid (l.length = 0 ∨ ∃ b off X, a = some ⟨b, off, none⟩ ∧ MS w w 1 l.length (lsF cRowS l) k B b off X 0 0) := by
    obtain ⟨a', c', e, -, hO⟩ := Own.open hS
    simp only [Value.slice.injEq] at e
    obtain ⟨rfl, -, -⟩ := e
    exact hO.imp id (fun ⟨b, off, X, ha, h⟩ => ⟨b, off, X, ha, MS.start h⟩)
  have H0 := Lib.hid h0
  clear hS ho h1 h0
  go_enter Tryz.func28, Tryz.ntmps28
  go_wp2_with fail
  go_loopw [1, 5] (fun q i wr => ∃ m kk : Nat, m ≤ l.length ∧ i = .int .i64 m ∧ q = .int .i64 (kk : Int) ∧ Hid (atN (lsF cRowS l) 1 k m 0 = kk ∧ ((l.length = 0 ∧ wr = w) ∨ ∃ b off X, a = some ⟨b, off, none⟩ ∧ MS w wr 1 l.length (lsF cRowS l) k B b off X m 0))) (fun _ i _ => l.length - (intOf i).toNat)
  case atStart => exact ⟨0, k, Nat.zero_le _, rfl, rfl, atN_zero _ _ _, HS.out.imp (fun h => ⟨h, rfl⟩) id⟩
  case round =>
    obtain ⟨m, kk, hm, rfl, rfl, HR⟩ := hrel
    by_cases hlt : m < l.length
    case neg =>
      have hm' : m = l.length := by omega
      have hmi : decide ((m : Int) < (l.length : Int)) = false := decide_eq_false (by omega)
      have HF : Hid ((kk : Int) = ((k + (dRowSS l).wd : Nat) : Int) ∧ Own wr ((dRowSS l).mkd k) B (.slice a l.length c) ∧ Frm B w wr) := by
        obtain ⟨hk, h⟩ := HR.out
        have hal := HAL.out
        rw [hm'] at hk
        rw [hk] at hal
        refine ⟨by rw [hal], ?_⟩
        rcases h with ⟨h, rfl⟩ | ⟨b, off, X, rfl, h⟩
        · exact ⟨⟨a, c, rfl, HMC.out, .inl h⟩, Frm.refl _ _⟩
        · rw [hm'] at h
          exact ⟨h.done c HMC.out, h.frm⟩
      clear hm' HR
      go_wp2_with fail
      go_ret
      exact ⟨ret_i HF.out.1, HF.out.2⟩
    obtain ⟨hk0, hz⟩ := HR.out
    clear HS HR
    obtain ⟨b, off, X, rfl, h⟩ : ∃ b off X, a = some ⟨b, off, none⟩ ∧ MS w wr 1 l.length (lsF cRowS l) k B b off X m 0 := by
      rcases hz with ⟨h, -⟩ | h
      · omega
      · exact h
    clear hz
    have M0 := Lib.hid h
    have HFA : Hid (lsF cRowS l m = cRowS l[m]) := lsF_at hlt
    have N0 := Lib.hid hk0
    have HXK := Lib.hid (HX.out m hlt)
    have HM := Lib.hid hlt
    have hmi : (m : Int) < (l.length : Int) := by omega
    have hb : kk < 100000000000 ∧ 0 < kk := by have h1 := HWD.out m 0 hlt (by omega); have := H0.out; rw [hk0] at h1; omega
    obtain ⟨hb0, hp0⟩ := hb
    clear h hk0 HX
    generalize l[m] = x at *
    obtain ⟨u0, e0, z0, o0⟩ := M0.out.peek HFA.out HM.out (j' := 0) (by omega) (by omega)
    replace o0 : Own wr (dRowS x) (X m 0) u0 := o0
    obtain ⟨a0, q0, rfl⟩ := o0.rd'.lsSlice
    have O0 := Lib.hid o0
    clear o0
    rw [Nat.mul_one] at e0 z0
    replace e0 : wr.cell? ⟨b, off + m, none⟩ = _ := e0
    replace z0 : wr.frozen? ⟨b, off + m, none⟩ = false := z0
    have hbd0 : kk < 100000000000 ∧ 0 < kk := by have h1 := HWD.out m 0 HM.out (by omega); have := H0.out; rw [N0.out] at h1; omega
    go_wp2_with fail
    have CC := Lib.hid (mkDRowS x a0 q0 (kk) (X m 0) _ (HXK.out 0 (by omega)) hbd0.2 (by have h1 := HWD.out m 1 HM.out (by omega); rw [atN_next HFA.out N0.out] at h1; exact h1.2) (O0.out))
    refine CC.out.mono ?_
    rintro e v0 ⟨rfl, ho0, hF0⟩
    have K0 : Hid (MS w v0 1 l.length (lsF cRowS l) k B b off X m 1) := M0.out.child (x := dRowS x) HM.out (by omega) (by rw [HFA.out]; rfl) N0.out.symm hF0 (by rw [Nat.mul_one]; exact e0) ho0
    have N1 : Hid (atN (lsF cRowS l) 1 k m 1 = kk + (dRowS x).wd) := atN_next HFA.out N0.out
    clear CC ho0 hF0 O0 M0 hbd0 e0 z0
    obtain ⟨b0, hb0⟩ : ∃ y : Nat, y = kk + (dRowS x).wd := ⟨_, rfl⟩
    rw [← hb0] at N1 ⊢
    have hlb0 : 0 < b0 ∧ b0 < 100000000000 := by have h1 := HWD.out m 1 HM.out (by omega); have := H0.out; rw [N1.out] at h1; omega
    obtain ⟨hlb01, hlb02⟩ := hlb0
    clear hb0
    go_wp2_with fail
    go_roundw
    case rel => exact ⟨m + 1, b0, by omega, by go_num, rfl, by rw [atN_row]; exact N1.out, .inr ⟨b, off, X, rfl, K0.out.row⟩⟩
    case measure => simp [intOf]; omega
set_option maxRecDepth 100000 in
set_option maxHeartbeats 6400000 in
theorem hdDRowSS (l : List (List RowV)) (a : Option Addr) (c k : Nat) (B : Nat → Prop) (w : World) (ho : (dRowSS l).le maxLen) (h0 : 0 < k) (h1 : k + (dRowSS l).wd < 100000000000) (hS : Rd w B ((dRowSS l).mkd k) (.slice a l.length c)) :
    Calls Tryz.prog 29 #[.slice a l.length c, .int .i64 k] w fun e w' => e = .returned (.int .i64 (k + (dRowSS l).wd : Nat)) ∧ Below w.heap.size w w' := by
  have hl : l.length ≤ maxLen := (Ls_le.1 ho).2.1
  unfold maxLen at hl
  have HX : Hid (∀ i (h : i < l.length) j, j < 1 → (cRowS l[i] j).le maxLen) := (Ls_le.1 ho).2.2
  have HWD : Hid (∀ i j, i < l.length → j ≤ 1 → k ≤ atN (lsF cRowS l) 1 k i j ∧ atN (lsF cRowS l) 1 k i j < 100000000000) := fun i j hi hj => ⟨atN_ge _ _ _ _ _, Nat.lt_of_le_of_lt (atN_le hi hj) h1⟩
  have HAL : Hid (atN (lsF cRowS l) 1 k l.length 0 = k + (dRowSS l).wd) := atN_all _ _ _ _
  have HS : Hid (∀ W, Below w.heap.size w W → Rd W B (.l 1 l.length (fun i j => (lsF cRowS l i j).mkd (atN (lsF cRowS l) 1 k i j))) (.slice a l.length c)) := fun W h => Rd.later hS h
  have H0 := Lib.hid h0
  clear hS ho h1 h0
  go_enter Tryz.func29, Tryz.ntmps29
  go_wp2_with fail
  go_loopw [1, 5] (fun q i wr => ∃ m kk : Nat, m ≤ l.length ∧ i = .int .i64 m ∧ q = .int .i64 (kk : Int) ∧ Hid (atN (lsF cRowS l) 1 k m 0 = kk ∧ Below w.heap.size w wr)) (fun _ i _ => l.length - (intOf i).toNat)
  case atStart => exact ⟨0, k, Nat.zero_le _, rfl, rfl, atN_zero _ _ _, Below.refl _ _⟩
  case round =>
    obtain ⟨m, kk, hm, rfl, rfl, HR⟩ := hrel
    by_cases hlt : m < l.length
    case neg =>
      have hm' : m = l.length := by omega
      have hmi : decide ((m : Int) < (l.length : Int)) = false := decide_eq_false (by omega)
      have HF : Hid ((kk : Int) = ((k + (dRowSS l).wd : Nat) : Int) ∧ Below w.heap.size w wr) := by
        obtain ⟨hk, h⟩ := HR.out
        have hal := HAL.out
        rw [hm'] at hk
        rw [hk] at hal
        exact ⟨by rw [hal], h⟩
      clear hm' HR
      go_wp2_with fail
      go_ret
      exact ⟨ret_i HF.out.1, HF.out.2⟩
    obtain ⟨hk0, h⟩ := HR.out
    have B0 := Lib.hid h
    obtain ⟨b, off, rfl, -, -⟩ := (HS.out _ h).cells hlt
    have CE : Hid (∀ W, Below w.heap.size w W → ∀ j, j < 1 → ∃ u, W.cell? ⟨b, off + m * 1 + j, none⟩ = some u ∧ Rd W B ((cRowS l[m] j).mkd (atN (lsF cRowS l) 1 k m j)) u) := fun W h j hj => by
      have := (HS.out W h).spot hlt hj
      rwa [lsF_at hlt] at this
    have HFA : Hid (lsF cRowS l m = cRowS l[m]) := lsF_at hlt
    have N0 := Lib.hid hk0
    have HXK := Lib.hid (HX.out m hlt)
    have HM := Lib.hid hlt
    have hmi : (m : Int) < (l.length : Int) := by omega
    have hb : kk < 100000000000 ∧ 0 < kk := by have h1 := HWD.out m 0 hlt (by omega); have := H0.out; rw [hk0] at h1; omega
    obtain ⟨hb0, hp0⟩ := hb
    clear h hk0 HR HX HS
    generalize l[m] = x at *
    have hbd0 : kk < 100000000000 ∧ 0 < kk := by have h1 := HWD.out m 0 HM.out (by omega); have := H0.out; rw [N0.out] at h1; omega
    obtain ⟨u0, e0, o0⟩ := CE.out _ B0.out 0 (by omega)
    rw [N0.out] at o0
    replace o0 : Rd wr B ((dRowS x).mkd (kk)) u0 := o0
    obtain ⟨a0, q0, hu0⟩ : ∃ a c, u0 = .slice a x.length c := Rd.slice o0
    subst hu0
    have O0 := Lib.hid o0
    clear o0
    rw [Nat.mul_one] at e0
    replace e0 : wr.cell? ⟨b, off + m, none⟩ = _ := e0
    go_wp2_with fail
    have CC := Lib.hid (hdDRowS x a0 q0 (kk) B _ (HXK.out 0 (by omega)) hbd0.2 (by have h1 := HWD.out m 1 HM.out (by omega); rw [atN_next HFA.out N0.out] at h1; exact h1.2) O0.out)
    refine CC.out.mono ?_
    rintro e v0 ⟨rfl, hB0⟩
    have B1 : Hid (Below w.heap.size w v0) := B0.out.trans (hB0.mono B0.out.size)
    have N1 : Hid (atN (lsF cRowS l) 1 k m 1 = kk + (dRowS x).wd) := atN_next HFA.out N0.out
    clear CC hB0 O0 hbd0 e0
    obtain ⟨b0, hb0⟩ : ∃ y : Nat, y = kk + (dRowS x).wd := ⟨_, rfl⟩
    rw [← hb0] at N1 ⊢
    have hlb0 : 0 < b0 ∧ b0 < 100000000000 := by have h1 := HWD.out m 1 HM.out (by omega); have := H0.out; rw [N1.out] at h1; omega
    obtain ⟨hlb01, hlb02⟩ := hlb0
    have dk0 : decide ((b0 : Int) < 0) = false := by simp
    clear hb0
    go_wp2_with fail
    go_roundw
    case rel => exact ⟨m + 1, b0, by omega, by go_num, rfl, by rw [atN_row]; exact N1.out, B1.out⟩
    case measure => simp [intOf]; omega
set_option maxRecDepth 100000 in
set_option maxHeartbeats 3200000 in
theorem mkDStore (x : StV) (a0 : Option Addr) (c0 : Nat) (k : Nat) (B0 : Nat → Prop) (w : World) (l0 : (dRowSS x.tables).le maxLen) (h0 : 0 < k) (h1 : k + (dRowSS x.tables).wd < 100000000000) (o0 : Own w (dRowSS x.tables) B0 (.slice a0 x.tables.length c0)) :
    Calls Tryz.prog 13 #[.agg #[.slice a0 x.tables.length c0, .int .i64 x.next], .int .i64 k] w fun e w' => e = .returned (.int .i64 (k + (dRowSS x.tables).wd : Nat)) ∧ (Own w' ((dRowSS x.tables).mkd (k)) B0 (.slice a0 x.tables.length c0)) ∧ Frm (fun b => B0 b) w w' := by
  have hx := boxD 32 w #[.slice a0 x.tables.length c0, .int .i64 x.next]
  have F0 : Hid (Frm (fun b => B0 b) w (w.alloc (.cells #[.slice a0 x.tables.length c0, .int .i64 x.next] 32))) := Frm.of_below (below_allocD _ _)
  have O0 := Lib.hid (o0.later hx.2)
  have HX0 := Lib.hid hx
  have x0 := cell_at (o := 0) hx.1 rfl
  have x1 := cell_at (o := 1) hx.1 rfl
  have L0 := Lib.hid l0
  have HB := Lib.hid (And.intro h0 h1)
  clear hx h0 h1 o0 l0
  go_enter Tryz.func13, Tryz.ntmps13
  go_wp2_with fail
  refine (mkDRowSS x.tables a0 c0 (k) B0 _ L0.out (by have := HB.out; omega) (by have := HB.out; omega) O0.out).mono ?_
  rintro e v0 ⟨rfl, p0, f0⟩
  have Q0 := Lib.hid p0
  have F1 : Hid (Frm (fun b => B0 b) w v0) := F0.out.trans (f0.mono (fun b h => h))
  clear p0 f0 F0
  obtain ⟨b0, hb0⟩ : ∃ y : Nat, y = k + (dRowSS x.tables).wd := ⟨_, rfl⟩
  go_wp2_with fail
  go_ret
  exact ⟨rfl, Q0.out, F1.out⟩
set_option maxRecDepth 100000 in
set_option maxHeartbeats 3200000 in
theorem hdDStore (x : StV) (a0 : Option Addr) (c0 : Nat) (k : Nat) (B : Nat → Prop) (w : World) (l0 : (dRowSS x.tables).le maxLen) (h0 : 0 < k) (h1 : k + (dRowSS x.tables).wd < 100000000000) (r0 : Rd w B ((dRowSS x.tables).mkd (k)) (.slice a0 x.tables.length c0)) :
    Calls Tryz.prog 14 #[.agg #[.slice a0 x.tables.length c0, .int .i64 x.next], .int .i64 k] w fun e w' => e = .returned (.int .i64 (k + (dRowSS x.tables).wd : Nat)) ∧ Below w.heap.size w w' := by
  have hx := boxD 32 w #[.slice a0 x.tables.length c0, .int .i64 x.next]
  have R0 := Lib.hid r0
  have x0 := cell_at (o := 0) hx.1 rfl
  have x1 := cell_at (o := 1) hx.1 rfl
  have L0 := Lib.hid l0
  have HB := Lib.hid (And.intro h0 h1)
  clear h0 h1 r0 l0
  go_enter Tryz.func14, Tryz.ntmps14
  go_wp2_with fail
  refine (hdDRowSS x.tables a0 c0 (k) B _ L0.out (by have := HB.out; omega) (by have := HB.out; omega) (R0.out.later hx.2)).mono ?_
  rintro e v0 ⟨rfl, hB0⟩
  have hx := hx.later hB0
  clear hB0 x0 x1
  have x0 := cell_at (o := 0) hx.1 rfl
  have x1 := cell_at (o := 1) hx.1 rfl
  have dk0 : decide (((k + (dRowSS x.tables).wd : Nat) : Int) < 0) = false := decide_eq_false (by omega)
  generalize hz0 : k + (dRowSS x.tables).wd = b0 at dk0 ⊢
  have HZ0 := Lib.hid hz0
  clear hz0
  go_wp2_with fail
  go_ret
  exact ⟨ret_i (by rw [HZ0.out]), hx.2⟩
end Go.Proofs.YtngbhifafdbpkaaGreat
