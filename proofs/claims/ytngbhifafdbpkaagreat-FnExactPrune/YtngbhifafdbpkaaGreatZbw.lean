import Derived.Test.YtngbhifafdbpkaaGreatZam
import Derived.Test.YtngbhifafdbpkaaGreatZaa
namespace Go.Proofs.YtngbhifafdbpkaaGreat
open Go.RowKit
set_option linter.unusedSimpArgs false
set_option maxRecDepth 100000 in
set_option maxHeartbeats 6400000 in
theorem mkDAtomS (l : List At) (a : Option Addr) (c k : Nat) (B : Nat → Prop) (w : World) (ho : (dAtomS l).le maxLen) (h0 : 0 < k) (h1 : k + (dAtomS l).wd < 100000000000) (hS : Own w (dAtomS l) B (.slice a l.length c)) :
    Calls Tryz.prog 105 #[.slice a l.length c, .int .i64 k] w fun e w' => e = .returned (.int .i64 (k + (dAtomS l).wd : Nat)) ∧ Own w' ((dAtomS l).mkd k) B (.slice a l.length c) ∧ Frm B w w' := by
  have hl : l.length ≤ maxLen := (Ls_le.1 ho).2.1
  unfold maxLen at hl
  have HX : Hid (∀ i (h : i < l.length) j, j < 3 → (dAtom l[i] j).le maxLen) := (Ls_le.1 ho).2.2
  have HWD : Hid (∀ i j, i < l.length → j ≤ 3 → k ≤ atN (lsF dAtom l) 3 k i j ∧ atN (lsF dAtom l) 3 k i j < 100000000000) := fun i j hi hj => ⟨atN_ge _ _ _ _ _, Nat.lt_of_le_of_lt (atN_le hi hj) h1⟩
  have HAL : Hid (atN (lsF dAtom l) 3 k l.length 0 = k + (dAtomS l).wd) := atN_all _ _ _ _
  have HMC : Hid (l.length ≤ c) := by
    obtain ⟨a', c', e, hmc, -⟩ := Own.open hS
    simp only [Value.slice.injEq] at e
    obtain ⟨-, -, rfl⟩ := e
    exact hmc
  have HS : Hid (l.length = 0 ∨ ∃ b off X, a = some ⟨b, off, none⟩ ∧ MS w w 3 l.length (lsF dAtom l) k B b off X 0 0) := by
    obtain ⟨a', c', e, -, hO⟩ := Own.open hS
    simp only [Value.slice.injEq] at e
    obtain ⟨rfl, -, -⟩ := e
    exact hO.imp id (fun ⟨b, off, X, ha, h⟩ => ⟨b, off, X, ha, MS.start h⟩)
  have H0 := Lib.hid h0
  clear hS ho h1 h0
  go_enter Tryz.func105, Tryz.ntmps105
  go_wp2_with fail
  go_loopw [1, 5] (fun q i wr => ∃ m kk : Nat, m ≤ l.length ∧ i = .int .i64 m ∧ q = .int .i64 (kk : Int) ∧ Hid (atN (lsF dAtom l) 3 k m 0 = kk ∧ ((l.length = 0 ∧ wr = w) ∨ ∃ b off X, a = some ⟨b, off, none⟩ ∧ MS w wr 3 l.length (lsF dAtom l) k B b off X m 0))) (fun _ i _ => l.length - (intOf i).toNat)
  case atStart => exact ⟨0, k, Nat.zero_le _, rfl, rfl, atN_zero _ _ _, HS.out.imp (fun h => ⟨h, rfl⟩) id⟩
  case round =>
    obtain ⟨m, kk, hm, rfl, rfl, HR⟩ := hrel
    by_cases hlt : m < l.length
    case neg =>
      have hm' : m = l.length := by omega
      have hmi : decide ((m : Int) < (l.length : Int)) = false := decide_eq_false (by omega)
      have HF : Hid ((kk : Int) = ((k + (dAtomS l).wd : Nat) : Int) ∧ Own wr ((dAtomS l).mkd k) B (.slice a l.length c) ∧ Frm B w wr) := by
        obtain ⟨hk, h⟩ := HR.out
        have hal := HAL.out
        rw [hm'] at hk
        rw [hk] at hal
        refine ⟨by rw [hal], ?_⟩
        rcases h with ⟨h, rfl⟩ | ⟨b, off, X, rfl, h⟩
        · exact ⟨⟨a, c, rfl, HMC.out, .inl h⟩, Frm.refl _ _⟩
        · rw [hm'] at h
          exact ⟨h.done c HMC.out, h.frm⟩
      clear hm' HR
      go_wp2_with fail
      go_ret
      exact ⟨ret_i HF.out.1, HF.out.2⟩
    obtain ⟨hk0, hz⟩ := HR.out
    clear HS HR
    obtain ⟨b, off, X, rfl, h⟩ : ∃ b off X, a = some ⟨b, off, none⟩ ∧ MS w wr 3 l.length (lsF dAtom l) k B b off X m 0 := by
      rcases hz with ⟨h, -⟩ | h
      · omega
      · exact h
    clear hz
    have M0 := Lib.hid h
    have HFA : Hid (lsF dAtom l m = dAtom l[m]) := lsF_at hlt
    have N0 := Lib.hid hk0
    have HXK := Lib.hid (HX.out m hlt)
    have HM := Lib.hid hlt
    have hmi : (m : Int) < (l.length : Int) := by omega
    have hb : kk < 100000000000 ∧ 0 < kk := by have h1 := HWD.out m 0 hlt (by omega); have := H0.out; rw [hk0] at h1; omega
    obtain ⟨hb0, hp0⟩ := hb
    clear h hk0 HX
    generalize l[m] = x at *
    obtain ⟨u0, e0, z0, o0⟩ := M0.out.peek HFA.out HM.out (j' := 0) (by omega) (by omega)
    clear o0
    replace e0 : wr.cell? ⟨b, off + m * 3, none⟩ = _ := e0
    replace z0 : wr.frozen? ⟨b, off + m * 3, none⟩ = false := z0
    obtain ⟨u1, e1, z1, o1⟩ := M0.out.peek HFA.out HM.out (j' := 1) (by omega) (by omega)
    clear o1
    have M1 : Hid (MS w (wr.setCell ⟨b, off + m * 3, none⟩ (.int .i64 ((kk : Int)))) 3 l.length (lsF dAtom l) k B b off X m 1) := M0.out.scalar (x := .i x.k) (q := kk) HM.out (by omega) (by rw [HFA.out]; rfl) N0.out.symm trivial rfl (by omega)
    have N1 : Hid (atN (lsF dAtom l) 3 k m 1 = kk + 1) := atN_next HFA.out N0.out
    have M2 : Hid (MS w ((wr.setCell ⟨b, off + m * 3, none⟩ (.int .i64 ((kk : Int)))).setCell ⟨b, off + m * 3 + 1, none⟩ (.int .i64 ((kk : Int) + 1))) 3 l.length (lsF dAtom l) k B b off X m 2) := M1.out.scalar (x := .i x.n) (q := kk + 1) HM.out (by omega) (by rw [HFA.out]; rfl) N1.out.symm trivial rfl (by omega)
    have N2 : Hid (atN (lsF dAtom l) 3 k m 2 = kk + 1 + 1) := atN_next HFA.out N1.out
    have hbd2 : kk + 1 + 1 < 100000000000 ∧ 0 < kk + 1 + 1 := by have h1 := HWD.out m 2 HM.out (by omega); have := H0.out; rw [N2.out] at h1; omega
    go_wp2_with fail
    rw [show ((kk : Int) + 1 + 1) = ((kk + 1 + 1 : Nat) : Int) from rfl]
    refine (markText (kk + 1 + 1) _ hbd2.2 (by have := hbd2.1; omega)).mono ?_
    rintro e v2 ⟨rfl, hB2⟩
    have K2 := Lib.hid (M2.out.later hB2)
    clear hB2 M2 hbd2 e0 z0 e1 z1
    obtain ⟨b2, hb2⟩ : ∃ y : Nat, y = kk + 1 + 1 := ⟨_, rfl⟩
    rw [← hb2] at N2 ⊢
    have hlb2 : 0 < b2 ∧ b2 < 100000000000 := by have h1 := HWD.out m 2 HM.out (by omega); have := H0.out; rw [N2.out] at h1; omega
    obtain ⟨hlb21, hlb22⟩ := hlb2
    clear hb2
    obtain ⟨u2, e2, z2, o2⟩ := K2.out.peek HFA.out HM.out (j' := 2) (by omega) (by omega)
    clear o2
    have M3 : Hid (MS w (v2.setCell ⟨b, off + m * 3 + 2, none⟩ (.string ⟨(mt (b2)).toArray⟩)) 3 l.length (lsF dAtom l) k B b off X m 3) := K2.out.scalar (x := .s x.t) (q := b2) HM.out (by omega) (by rw [HFA.out]; rfl) N2.out.symm trivial rfl (by omega)
    have N3 : Hid (atN (lsF dAtom l) 3 k m 3 = b2 + 1) := atN_next HFA.out N2.out
    generalize mt (b2) = yt2 at *
    go_wp2_with fail
    go_roundw
    case rel => exact ⟨m + 1, b2 + 1, by omega, by go_num, by first | rfl | go_num, by rw [atN_row]; exact N3.out, .inr ⟨b, off, X, rfl, M3.out.row⟩⟩
    case measure => simp [intOf]; omega
set_option maxRecDepth 100000 in
set_option maxHeartbeats 6400000 in
theorem hdDAtomS (l : List At) (a : Option Addr) (c k : Nat) (B : Nat → Prop) (w : World) (ho : (dAtomS l).le maxLen) (h0 : 0 < k) (h1 : k + (dAtomS l).wd < 100000000000) (hS : Rd w B ((dAtomS l).mkd k) (.slice a l.length c)) :
    Calls Tryz.prog 106 #[.slice a l.length c, .int .i64 k] w fun e w' => e = .returned (.int .i64 (k + (dAtomS l).wd : Nat)) ∧ Below w.heap.size w w' := by
  have hl : l.length ≤ maxLen := (Ls_le.1 ho).2.1
  unfold maxLen at hl
  have HX : Hid (∀ i (h : i < l.length) j, j < 3 → (dAtom l[i] j).le maxLen) := (Ls_le.1 ho).2.2
  have HWD : Hid (∀ i j, i < l.length → j ≤ 3 → k ≤ atN (lsF dAtom l) 3 k i j ∧ atN (lsF dAtom l) 3 k i j < 100000000000) := fun i j hi hj => ⟨atN_ge _ _ _ _ _, Nat.lt_of_le_of_lt (atN_le hi hj) h1⟩
  have HAL : Hid (atN (lsF dAtom l) 3 k l.length 0 = k + (dAtomS l).wd) := atN_all _ _ _ _
  have HS : Hid (∀ W, Below w.heap.size w W → Rd W B (.l 3 l.length (fun i j => (lsF dAtom l i j).mkd (atN (lsF dAtom l) 3 k i j))) (.slice a l.length c)) := fun W h => Rd.later hS h
  have H0 := Lib.hid h0
  clear hS ho h1 h0
  go_enter Tryz.func106, Tryz.ntmps106
  go_wp2_with fail
  go_loopw [1, 5] (fun q i wr => ∃ m kk : Nat, m ≤ l.length ∧ i = .int .i64 m ∧ q = .int .i64 (kk : Int) ∧ Hid (atN (lsF dAtom l) 3 k m 0 = kk ∧ Below w.heap.size w wr)) (fun _ i _ => l.length - (intOf i).toNat)
  case atStart => exact ⟨0, k, Nat.zero_le _, rfl, rfl, atN_zero _ _ _, Below.refl _ _⟩
  case round =>
    obtain ⟨m, kk, hm, rfl, rfl, HR⟩ := hrel
    by_cases hlt : m < l.length
    case neg =>
      have hm' : m = l.length := by omega
      have hmi : decide ((m : Int) < (l.length : Int)) = false := decide_eq_false (by omega)
      have HF : Hid ((kk : Int) = ((k + (dAtomS l).wd : Nat) : Int) ∧ Below w.heap.size w wr) := by
        obtain ⟨hk, h⟩ := HR.out
        have hal := HAL.out
        rw [hm'] at hk
        rw [hk] at hal
        exact ⟨by rw [hal], h⟩
      clear hm' HR
      go_wp2_with fail
      go_ret
      exact ⟨ret_i HF.out.1, HF.out.2⟩
    obtain ⟨hk0, h⟩ := HR.out
    have B0 := Lib.hid h
    obtain ⟨b, off, rfl, -, -⟩ := (HS.out _ h).cells hlt
    have CE : Hid (∀ W, Below w.heap.size w W → ∀ j, j < 3 → ∃ u, W.cell? ⟨b, off + m * 3 + j, none⟩ = some u ∧ Rd W B ((dAtom l[m] j).mkd (atN (lsF dAtom l) 3 k m j)) u) := fun W h j hj => by
      have := (HS.out W h).spot hlt hj
      rwa [lsF_at hlt] at this
    have HFA : Hid (lsF dAtom l m = dAtom l[m]) := lsF_at hlt
    have N0 := Lib.hid hk0
    have HXK := Lib.hid (HX.out m hlt)
    have HM := Lib.hid hlt
    have hmi : (m : Int) < (l.length : Int) := by omega
    have hb : kk < 100000000000 ∧ 0 < kk := by have h1 := HWD.out m 0 hlt (by omega); have := H0.out; rw [hk0] at h1; omega
    obtain ⟨hb0, hp0⟩ := hb
    clear h hk0 HR HX HS
    generalize l[m] = x at *
    obtain ⟨u0, e0, o0⟩ := CE.out _ B0.out 0 (by omega)
    rw [N0.out] at o0
    obtain rfl : u0 = .int .i64 ((kk : Int)) := o0
    replace e0 : wr.cell? ⟨b, off + m * 3, none⟩ = _ := e0
    have N1 : Hid (atN (lsF dAtom l) 3 k m 1 = kk + 1) := atN_next HFA.out N0.out
    obtain ⟨u1, e1, o1⟩ := CE.out _ B0.out 1 (by omega)
    rw [N1.out] at o1
    obtain rfl : u1 = .int .i64 ((kk : Int) + 1) := o1
    have N2 : Hid (atN (lsF dAtom l) 3 k m 2 = kk + 1 + 1) := atN_next HFA.out N1.out
    have hbd2 : kk + 1 + 1 < 100000000000 ∧ 0 < kk + 1 + 1 := by have h1 := HWD.out m 2 HM.out (by omega); have := H0.out; rw [N2.out] at h1; omega
    obtain ⟨u2, e2, o2⟩ := CE.out _ B0.out 2 (by omega)
    rw [N2.out] at o2
    obtain rfl : u2 = .string ⟨(mt (kk + 1 + 1)).toArray⟩ := o2
    go_wp2_with fail
    have MT := Lib.hid hbd2
    clear hbd2
    go_region_with (go_at_call 52; rw [show ((kk : Int) + 1 + 1) = ((kk + 1 + 1 : Nat) : Int) from rfl]; refine (markText (kk + 1 + 1) _ ?_ ?_).mono ?_; exact MT.out.2; (have := MT.out.1; omega); rintro e v2 ⟨rfl, hB2⟩; have B3 : Hid (Below w.heap.size w v2) := B0.out.drew.trans (hB2.mono B0.out.size); obtain ⟨uu, g2, oo⟩ := CE.out _ B3.out 2 (by omega); rw [N2.out] at oo; obtain rfl : uu = .string ⟨(mt (kk + 1 + 1)).toArray⟩ := oo; clear hB2)
    all_goals
      clear MT
      have N3 : Hid (atN (lsF dAtom l) 3 k m 3 = kk + 1 + 1 + 1) := atN_next HFA.out N2.out
      clear g2 e0 e1 e2
      obtain ⟨b2, hb2⟩ : ∃ y : Nat, y = kk + 1 + 1 := ⟨_, rfl⟩
      rw [← hb2] at N3
      try rw [show ((kk : Int) + 1 + 1) = (b2 : Int) by omega]
      try rw [← hb2]
      have hlb2 : 0 < b2 ∧ b2 < 100000000000 := by have h1 := HWD.out m 2 HM.out (by omega); have := H0.out; rw [N2.out] at h1; omega
      obtain ⟨hlb21, hlb22⟩ := hlb2
      clear hb2
      obtain ⟨yt2, hyt2⟩ : ∃ y, y = mt (b2) := ⟨_, rfl⟩
      try rw [← hyt2]
      clear hyt2
      have hyy2 : (yt2 != yt2) = false := by simp
      go_wp2_with fail
      go_roundw
      case rel => exact ⟨m + 1, b2 + 1, by omega, by go_num, by first | rfl | go_num, by rw [atN_row]; exact N3.out, B3.out⟩
      case measure => simp [intOf]; omega
set_option maxRecDepth 100000 in
set_option maxHeartbeats 6400000 in
theorem mkDAtomSS (l : List (List At)) (a : Option Addr) (c k : Nat) (B : Nat → Prop) (w : World) (ho : (dAtomSS l).le maxLen) (h0 : 0 < k) (h1 : k + (dAtomSS l).wd < 100000000000) (hS : Own w (dAtomSS l) B (.slice a l.length c)) :
    Calls Tryz.prog 84 #[.slice a l.length c, .int .i64 k] w fun e w' => e = .returned (.int .i64 (k + (dAtomSS l).wd : Nat)) ∧ Own w' ((dAtomSS l).mkd k) B (.slice a l.length c) ∧ Frm B w w' := by
  have hl : l.length ≤ maxLen := (Ls_le.1 ho).2.1
  unfold maxLen at hl
  have HX : Hid (∀ i (h : i < l.length) j, j < 1 → (cAtomS l[i] j).le maxLen) := (Ls_le.1 ho).2.2
  have HWD : Hid (∀ i j, i < l.length → j ≤ 1 → k ≤ atN (lsF cAtomS l) 1 k i j ∧ atN (lsF cAtomS l) 1 k i j < 100000000000) := fun i j hi hj => ⟨atN_ge _ _ _ _ _, Nat.lt_of_le_of_lt (atN_le hi hj) h1⟩
  have HAL : Hid (atN (lsF cAtomS l) 1 k l.length 0 = k + (dAtomSS l).wd) := atN_all _ _ _ _
  have HMC : Hid (l.length ≤ c) := by
    obtain ⟨a', c', e, hmc, -⟩ := Own.open hS
    simp only [Value.slice.injEq] at e
    obtain ⟨-, -, rfl⟩ := e
    exact hmc
  have HS : Hid (l.length = 0 ∨ ∃ b off X, a = some ⟨b, off, none⟩ ∧ MS w w 1 l.length (lsF cAtomS l) k B b off X 0 0) := by
    obtain ⟨a', c', e, -, hO⟩ := Own.open hS
    simp only [Value.slice.injEq] at e
    obtain ⟨rfl, -, -⟩ := e
    exact hO.imp id (fun ⟨b, off, X, ha, h⟩ => ⟨b, off, X, ha, MS.start h⟩)
  have H0 := Lib.hid h0
  clear hS ho h1 h0
  go_enter Tryz.func84, Tryz.ntmps84
  go_wp2_with fail
  go_loopw [1, 5] (fun q i wr => ∃ m kk : Nat, m ≤ l.length ∧ i = .int .i64 m ∧ q = .int .i64 (kk : Int) ∧ Hid (atN (lsF cAtomS l) 1 k m 0 = kk ∧ ((l.length = 0 ∧ wr = w) ∨ ∃ b off X, a = some ⟨b, off, none⟩ ∧ MS w wr 1 l.length (lsF cAtomS l) k B b off X m 0))) (fun _ i _ => l.length - (intOf i).toNat)
  case atStart => exact ⟨0, k, Nat.zero_le _, rfl, rfl, atN_zero _ _ _, HS.out.imp (fun h => ⟨h, rfl⟩) id⟩
  case round =>
    obtain ⟨m, kk, hm, rfl, rfl, HR⟩ := hrel
    by_cases hlt : m < l.length
    case neg =>
      have hm' : m = l.length := by omega
      have hmi : decide ((m : Int) < (l.length : Int)) = false := decide_eq_false (by omega)
      have HF : Hid ((kk : Int) = ((k + (dAtomSS l).wd : Nat) : Int) ∧ Own wr ((dAtomSS l).mkd k) B (.slice a l.length c) ∧ Frm B w wr) := by
        obtain ⟨hk, h⟩ := HR.out
        have hal := HAL.out
        rw [hm'] at hk
        rw [hk] at hal
        refine ⟨by rw [hal], ?_⟩
        rcases h with ⟨h, rfl⟩ | ⟨b, off, X, rfl, h⟩
        · exact ⟨⟨a, c, rfl, HMC.out, .inl h⟩, Frm.refl _ _⟩
        · rw [hm'] at h
          exact ⟨h.done c HMC.out, h.frm⟩
      clear hm' HR
      go_wp2_with fail
      go_ret
      exact ⟨ret_i HF.out.1, HF.out.2⟩
    obtain ⟨hk0, hz⟩ := HR.out
    clear HS HR
    obtain ⟨b, off, X, rfl, h⟩ : ∃ b off X, a = some ⟨b, off, none⟩ ∧ MS w wr 1 l.length (lsF cAtomS l) k B b off X m 0 := by
      rcases hz with ⟨h, -⟩ | h
      · omega
      · exact h
    clear hz
    have M0 := Lib.hid h
    have HFA : Hid (lsF cAtomS l m = cAtomS l[m]) := lsF_at hlt
    have N0 := Lib.hid hk0
    have HXK := Lib.hid (HX.out m hlt)
    have HM := Lib.hid hlt
    have hmi : (m : Int) < (l.length : Int) := by omega
    have hb : kk < 100000000000 ∧ 0 < kk := by have h1 := HWD.out m 0 hlt (by omega); have := H0.out; rw [hk0] at h1; omega
    obtain ⟨hb0, hp0⟩ := hb
    clear h hk0 HX
    generalize l[m] = x at *
    obtain ⟨u0, e0, z0, o0⟩ := M0.out.peek HFA.out HM.out (j' := 0) (by omega) (by omega)
    replace o0 : Own wr (dAtomS x) (X m 0) u0 := o0
    obtain ⟨a0, q0, rfl⟩ := o0.rd'.lsSlice
    have O0 := Lib.hid o0
    clear o0
    rw [Nat.mul_one] at e0 z0
    replace e0 : wr.cell? ⟨b, off + m, none⟩ = _ := e0
    replace z0 : wr.frozen? ⟨b, off + m, none⟩ = false := z0
    have hbd0 : kk < 100000000000 ∧ 0 < kk := by have h1 := HWD.out m 0 HM.out (by omega); have := H0.out; rw [N0.out] at h1; omega
    go_wp2_with fail
    have CC := Lib.hid (mkDAtomS x a0 q0 (kk) (X m 0) _ (HXK.out 0 (by omega)) hbd0.2 (by have h1 := HWD.out m 1 HM.out (by omega); rw [atN_next HFA.out N0.out] at h1; exact h1.2) (O0.out))
    refine CC.out.mono ?_
    rintro e v0 ⟨rfl, ho0, hF0⟩
    have K0 : Hid (MS w v0 1 l.length (lsF cAtomS l) k B b off X m 1) := M0.out.child (x := dAtomS x) HM.out (by omega) (by rw [HFA.out]; rfl) N0.out.symm hF0 (by rw [Nat.mul_one]; exact e0) ho0
    have N1 : Hid (atN (lsF cAtomS l) 1 k m 1 = kk + (dAtomS x).wd) := atN_next HFA.out N0.out
    clear CC ho0 hF0 O0 M0 hbd0 e0 z0
    obtain ⟨b0, hb0⟩ : ∃ y : Nat, y = kk + (dAtomS x).wd := ⟨_, rfl⟩
    rw [← hb0] at N1 ⊢
    have hlb0 : 0 < b0 ∧ b0 < 100000000000 := by have h1 := HWD.out m 1 HM.out (by omega); have := H0.out; rw [N1.out] at h1; omega
    obtain ⟨hlb01, hlb02⟩ := hlb0
    clear hb0
    go_wp2_with fail
    go_roundw
    case rel => exact ⟨m + 1, b0, by omega, by go_num, rfl, by rw [atN_row]; exact N1.out, .inr ⟨b, off, X, rfl, K0.out.row⟩⟩
    case measure => simp [intOf]; omega
set_option maxRecDepth 100000 in
set_option maxHeartbeats 6400000 in
theorem hdDAtomSS (l : List (List At)) (a : Option Addr) (c k : Nat) (B : Nat → Prop) (w : World) (ho : (dAtomSS l).le maxLen) (h0 : 0 < k) (h1 : k + (dAtomSS l).wd < 100000000000) (hS : Rd w B ((dAtomSS l).mkd k) (.slice a l.length c)) :
    Calls Tryz.prog 85 #[.slice a l.length c, .int .i64 k] w fun e w' => e = .returned (.int .i64 (k + (dAtomSS l).wd : Nat)) ∧ Below w.heap.size w w' := by
  have hl : l.length ≤ maxLen := (Ls_le.1 ho).2.1
  unfold maxLen at hl
  have HX : Hid (∀ i (h : i < l.length) j, j < 1 → (cAtomS l[i] j).le maxLen) := (Ls_le.1 ho).2.2
  have HWD : Hid (∀ i j, i < l.length → j ≤ 1 → k ≤ atN (lsF cAtomS l) 1 k i j ∧ atN (lsF cAtomS l) 1 k i j < 100000000000) := fun i j hi hj => ⟨atN_ge _ _ _ _ _, Nat.lt_of_le_of_lt (atN_le hi hj) h1⟩
  have HAL : Hid (atN (lsF cAtomS l) 1 k l.length 0 = k + (dAtomSS l).wd) := atN_all _ _ _ _
  have HS : Hid (∀ W, Below w.heap.size w W → Rd W B (.l 1 l.length (fun i j => (lsF cAtomS l i j).mkd (atN (lsF cAtomS l) 1 k i j))) (.slice a l.length c)) := fun W h => Rd.later hS h
  have H0 := Lib.hid h0
  clear hS ho h1 h0
  go_enter Tryz.func85, Tryz.ntmps85
  go_wp2_with fail
  go_loopw [1, 5] (fun q i wr => ∃ m kk : Nat, m ≤ l.length ∧ i = .int .i64 m ∧ q = .int .i64 (kk : Int) ∧ Hid (atN (lsF cAtomS l) 1 k m 0 = kk ∧ Below w.heap.size w wr)) (fun _ i _ => l.length - (intOf i).toNat)
  case atStart => exact ⟨0, k, Nat.zero_le _, rfl, rfl, atN_zero _ _ _, Below.refl _ _⟩
  case round =>
    obtain ⟨m, kk, hm, rfl, rfl, HR⟩ := hrel
    by_cases hlt : m < l.length
    case neg =>
      have hm' : m = l.length := by omega
      have hmi : decide ((m : Int) < (l.length : Int)) = false := decide_eq_false (by omega)
      have HF : Hid ((kk : Int) = ((k + (dAtomSS l).wd : Nat) : Int) ∧ Below w.heap.size w wr) := by
        obtain ⟨hk, h⟩ := HR.out
        have hal := HAL.out
        rw [hm'] at hk
        rw [hk] at hal
        exact ⟨by rw [hal], h⟩
      clear hm' HR
      go_wp2_with fail
      go_ret
      exact ⟨ret_i HF.out.1, HF.out.2⟩
    obtain ⟨hk0, h⟩ := HR.out
    have B0 := Lib.hid h
    obtain ⟨b, off, rfl, -, -⟩ := (HS.out _ h).cells hlt
    have CE : Hid (∀ W, Below w.heap.size w W → ∀ j, j < 1 → ∃ u, W.cell? ⟨b, off + m * 1 + j, none⟩ = some u ∧ Rd W B ((cAtomS l[m] j).mkd (atN (lsF cAtomS l) 1 k m j)) u) := fun W h j hj => by
      have := (HS.out W h).spot hlt hj
      rwa [lsF_at hlt] at this
    have HFA : Hid (lsF cAtomS l m = cAtomS l[m]) := lsF_at hlt
    have N0 := Lib.hid hk0
    have HXK := Lib.hid (HX.out m hlt)
    have HM := Lib.hid hlt
    have hmi : (m : Int) < (l.length : Int) := by omega
    have hb : kk < 100000000000 ∧ 0 < kk := by have h1 := HWD.out m 0 hlt (by omega); have := H0.out; rw [hk0] at h1; omega
    obtain ⟨hb0, hp0⟩ := hb
    clear h hk0 HR HX HS
    generalize l[m] = x at *
    have hbd0 : kk < 100000000000 ∧ 0 < kk := by have h1 := HWD.out m 0 HM.out (by omega); have := H0.out; rw [N0.out] at h1; omega
    obtain ⟨u0, e0, o0⟩ := CE.out _ B0.out 0 (by omega)
    rw [N0.out] at o0
    replace o0 : Rd wr B ((dAtomS x).mkd (kk)) u0 := o0
    obtain ⟨a0, q0, hu0⟩ : ∃ a c, u0 = .slice a x.length c := Rd.slice o0
    subst hu0
    have O0 := Lib.hid o0
    clear o0
    rw [Nat.mul_one] at e0
    replace e0 : wr.cell? ⟨b, off + m, none⟩ = _ := e0
    go_wp2_with fail
    have CC := Lib.hid (hdDAtomS x a0 q0 (kk) B _ (HXK.out 0 (by omega)) hbd0.2 (by have h1 := HWD.out m 1 HM.out (by omega); rw [atN_next HFA.out N0.out] at h1; exact h1.2) O0.out)
    refine CC.out.mono ?_
    rintro e v0 ⟨rfl, hB0⟩
    have B1 : Hid (Below w.heap.size w v0) := B0.out.trans (hB0.mono B0.out.size)
    have N1 : Hid (atN (lsF cAtomS l) 1 k m 1 = kk + (dAtomS x).wd) := atN_next HFA.out N0.out
    clear CC hB0 O0 hbd0 e0
    obtain ⟨b0, hb0⟩ : ∃ y : Nat, y = kk + (dAtomS x).wd := ⟨_, rfl⟩
    rw [← hb0] at N1 ⊢
    have hlb0 : 0 < b0 ∧ b0 < 100000000000 := by have h1 := HWD.out m 1 HM.out (by omega); have := H0.out; rw [N1.out] at h1; omega
    obtain ⟨hlb01, hlb02⟩ := hlb0
    have dk0 : decide ((b0 : Int) < 0) = false := by simp
    clear hb0
    go_wp2_with fail
    go_roundw
    case rel => exact ⟨m + 1, b0, by omega, by go_num, rfl, by rw [atN_row]; exact N1.out, B1.out⟩
    case measure => simp [intOf]; omega
end Go.Proofs.YtngbhifafdbpkaaGreat
