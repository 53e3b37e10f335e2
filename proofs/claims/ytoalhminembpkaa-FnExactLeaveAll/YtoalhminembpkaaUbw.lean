import Derived.Test.YtoalhminembpkaaUaj
import Derived.Test.YtoalhminembpkaaUbv
namespace Go.Proofs.Ytoalhminembpkaa
open Go.RowKit
set_option linter.unusedSimpArgs false
set_option maxRecDepth 100000 in
set_option maxHeartbeats 6400000 in
theorem mkDLockS (l : List LkV) (a : Option Addr) (c k : Nat) (B : Nat → Prop) (w : World) (ho : (dLockS l).le maxLen) (h0 : 0 < k) (h1 : k + (dLockS l).wd < 100000000000) (hS : Own w (dLockS l) B (.slice a l.length c)) :
    Calls Try.prog 16 #[.slice a l.length c, .int .i64 k] w fun e w' => e = .returned (.int .i64 (k + (dLockS l).wd : Nat)) ∧ Own w' ((dLockS l).mkd k) B (.slice a l.length c) ∧ Frm B w w' := by
  have hl : l.length ≤ maxLen := (Ls_le.1 ho).2.1
  unfold maxLen at hl
  have HX : Hid (∀ i (h : i < l.length) j, j < 2 → (dLock l[i] j).le maxLen) := (Ls_le.1 ho).2.2
  have HWD : Hid (∀ i j, i < l.length → j ≤ 2 → k ≤ atN (lsF dLock l) 2 k i j ∧ atN (lsF dLock l) 2 k i j < 100000000000) := fun i j hi hj => ⟨atN_ge _ _ _ _ _, Nat.lt_of_le_of_lt (atN_le hi hj) h1⟩
  have HAL : Hid (atN (lsF dLock l) 2 k l.length 0 = k + (dLockS l).wd) := atN_all _ _ _ _
  have HMC : Hid (l.length ≤ c) := by
    obtain ⟨a', c', e, hmc, -⟩ := Own.open hS
    simp only [Value.slice.injEq] at e
    obtain ⟨-, -, rfl⟩ := e
    exact hmc
  have HS : Hid (l.length = 0 ∨ ∃ b off X, a = some ⟨b, off, none⟩ ∧ MS w w 2 l.length (lsF dLock l) k B b off X 0 0) := by
    obtain ⟨a', c', e, -, hO⟩ := Own.open hS
    simp only [Value.slice.injEq] at e
    obtain ⟨rfl, -, -⟩ := e
    exact hO.imp id (fun ⟨b, off, X, ha, h⟩ => ⟨b, off, X, ha, MS.start h⟩)
  have H0 := Lib.hid h0
  clear hS ho h1 h0
  go_enter Try.func16, Try.ntmps16
  go_wp2_with fail
  go_loopw [1, 5] (fun q i wr => ∃ m kk : Nat, m ≤ l.length ∧ i = .int .i64 m ∧ q = .int .i64 (kk : Int) ∧ Hid (atN (lsF dLock l) 2 k m 0 = kk ∧ ((l.length = 0 ∧ wr = w) ∨ ∃ b off X, a = some ⟨b, off, none⟩ ∧ MS w wr 2 l.length (lsF dLock l) k B b off X m 0))) (fun _ i _ => l.length - (intOf i).toNat)
  case atStart => exact ⟨0, k, Nat.zero_le _, rfl, rfl, atN_zero _ _ _, HS.out.imp (fun h => ⟨h, rfl⟩) id⟩
  case round =>
    obtain ⟨m, kk, hm, rfl, rfl, HR⟩ := hrel
    by_cases hlt : m < l.length
    case neg =>
      have hm' : m = l.length := by omega
      have hmi : decide ((m : Int) < (l.length : Int)) = false := decide_eq_false (by omega)
      have HF : Hid ((kk : Int) = ((k + (dLockS l).wd : Nat) : Int) ∧ Own wr ((dLockS l).mkd k) B (.slice a l.length c) ∧ Frm B w wr) := by
        obtain ⟨hk, h⟩ := HR.out
        have hal := HAL.out
        rw [hm'] at hk
        rw [hk] at hal
        refine ⟨by rw [hal], ?_⟩
        rcases h with ⟨h, rfl⟩ | ⟨b, off, X, rfl, h⟩
        · exact ⟨⟨a, c, rfl, HMC.out, .inl h⟩, Frm.refl _ _⟩
        · rw [hm'] at h
          exact ⟨h.done c HMC.out, h.frm⟩
      clear hm' HR
      go_wp2_with fail
      go_ret
      exact ⟨ret_i HF.out.1, HF.out.2⟩
    obtain ⟨hk0, hz⟩ := HR.out
    clear HS HR
    obtain ⟨b, off, X, rfl, h⟩ : ∃ b off X, a = some ⟨b, off, none⟩ ∧ MS w wr 2 l.length (lsF dLock l) k B b off X m 0 := by
      rcases hz with ⟨h, -⟩ | h
      · omega
      · exact h
    clear hz
    have M0 := Lib.hid h
    have HFA : Hid (lsF dLock l m = dLock l[m]) := lsF_at hlt
    have N0 := Lib.hid hk0
    have HXK := Lib.hid (HX.out m hlt)
    have HM := Lib.hid hlt
    have hmi : (m : Int) < (l.length : Int) := by omega
    have hb : kk < 100000000000 ∧ 0 < kk := by have h1 := HWD.out m 0 hlt (by omega); have := H0.out; rw [hk0] at h1; omega
    obtain ⟨hb0, hp0⟩ := hb
    clear h hk0 HX
    generalize l[m] = x at *
    have hbd0 : kk < 100000000000 ∧ 0 < kk := by have h1 := HWD.out m 0 HM.out (by omega); have := H0.out; rw [N0.out] at h1; omega
    go_wp2_with fail
    refine (markText (kk) _ hbd0.2 (by have := hbd0.1; omega)).mono ?_
    rintro e v0 ⟨rfl, hB0⟩
    have K0 := Lib.hid (M0.out.later hB0)
    clear hB0 M0 hbd0
    obtain ⟨u0, e0, z0, o0⟩ := K0.out.peek HFA.out HM.out (j' := 0) (by omega) (by omega)
    clear o0
    replace e0 : v0.cell? ⟨b, off + m * 2, none⟩ = _ := e0
    replace z0 : v0.frozen? ⟨b, off + m * 2, none⟩ = false := z0
    obtain ⟨u1, e1, z1, o1⟩ := K0.out.peek HFA.out HM.out (j' := 1) (by omega) (by omega)
    replace o1 : Own v0 (dIntS x.qu) (X m 1) u1 := o1
    obtain ⟨a1, q1, rfl⟩ := o1.rd'.lsSlice
    have O1 := Lib.hid o1
    clear o1
    have M1 : Hid (MS w (v0.setCell ⟨b, off + m * 2, none⟩ (.string ⟨(mt (kk)).toArray⟩)) 2 l.length (lsF dLock l) k B b off X m 1) := K0.out.scalar (x := .s x.nm) (q := kk) HM.out (by omega) (by rw [HFA.out]; rfl) N0.out.symm trivial rfl (by omega)
    have N1 : Hid (atN (lsF dLock l) 2 k m 1 = kk + 1) := atN_next HFA.out N0.out
    generalize mt (kk) = yt0 at *
    have hbd1 : kk + 1 < 100000000000 ∧ 0 < kk + 1 := by have h1 := HWD.out m 1 HM.out (by omega); have := H0.out; rw [N1.out] at h1; omega
    go_wp2_with fail
    rw [show ((kk : Int) + 1) = ((kk + 1 : Nat) : Int) from rfl]
    have FR1 : Frm (· = b) v0 (v0.setCell ⟨b, off + m * 2, none⟩ (.string ⟨yt0.toArray⟩)) := by
      refine Frm.set (B := (· = b)) ?_ rfl _
      exact Frm.refl _ _
    have CC := Lib.hid (mkDIntS x.qu a1 q1 (kk + 1) (X m 1) _ (HXK.out 1 (by omega)) hbd1.2 (by have h1 := HWD.out m 2 HM.out (by omega); rw [atN_next HFA.out N1.out] at h1; exact h1.2) (O1.out.frm FR1 (fun c hc => (K0.out.own.sub m 1 c hc).2)))
    clear FR1
    refine CC.out.mono ?_
    rintro e v1 ⟨rfl, ho1, hF1⟩
    have K1 : Hid (MS w v1 2 l.length (lsF dLock l) k B b off X m 2) := M1.out.child (x := dIntS x.qu) HM.out (by omega) (by rw [HFA.out]; rfl) N1.out.symm hF1 (cell_skip e1 (by omega)) ho1
    have N2 : Hid (atN (lsF dLock l) 2 k m 2 = kk + 1 + (dIntS x.qu).wd) := atN_next HFA.out N1.out
    clear CC ho1 hF1 O1 M1 hbd1 e0 z0 e1 z1
    obtain ⟨b1, hb1⟩ : ∃ y : Nat, y = kk + 1 + (dIntS x.qu).wd := ⟨_, rfl⟩
    rw [← hb1] at N2 ⊢
    have hlb1 : 0 < b1 ∧ b1 < 100000000000 := by have h1 := HWD.out m 2 HM.out (by omega); have := H0.out; rw [N2.out] at h1; omega
    obtain ⟨hlb11, hlb12⟩ := hlb1
    clear hb1
    go_wp2_with fail
    go_roundw
    case rel => exact ⟨m + 1, b1, by omega, by go_num, rfl, by rw [atN_row]; exact N2.out, .inr ⟨b, off, X, rfl, K1.out.row⟩⟩
    case measure => simp [intOf]; omega
set_option maxRecDepth 100000 in
set_option maxHeartbeats 6400000 in
theorem hdDLockS (l : List LkV) (a : Option Addr) (c k : Nat) (B : Nat → Prop) (w : World) (ho : (dLockS l).le maxLen) (h0 : 0 < k) (h1 : k + (dLockS l).wd < 100000000000) (hS : Rd w B ((dLockS l).mkd k) (.slice a l.length c)) :
    Calls Try.prog 17 #[.slice a l.length c, .int .i64 k] w fun e w' => e = .returned (.int .i64 (k + (dLockS l).wd : Nat)) ∧ Below w.heap.size w w' := by
  have hl : l.length ≤ maxLen := (Ls_le.1 ho).2.1
  unfold maxLen at hl
  have HX : Hid (∀ i (h : i < l.length) j, j < 2 → (dLock l[i] j).le maxLen) := (Ls_le.1 ho).2.2
  have HWD : Hid (∀ i j, i < l.length → j ≤ 2 → k ≤ atN (lsF dLock l) 2 k i j ∧ atN (lsF dLock l) 2 k i j < 100000000000) := fun i j hi hj => ⟨atN_ge _ _ _ _ _, Nat.lt_of_le_of_lt (atN_le hi hj) h1⟩
  have HAL : Hid (atN (lsF dLock l) 2 k l.length 0 = k + (dLockS l).wd) := atN_all _ _ _ _
  have HS : Hid (∀ W, Below w.heap.size w W → Rd W B (.l 2 l.length (fun i j => (lsF dLock l i j).mkd (atN (lsF dLock l) 2 k i j))) (.slice a l.length c)) := fun W h => Rd.later hS h
  have H0 := Lib.hid h0
  clear hS ho h1 h0
  go_enter Try.func17, Try.ntmps17
  go_wp2_with fail
  go_loopw [1, 5] (fun q i wr => ∃ m kk : Nat, m ≤ l.length ∧ i = .int .i64 m ∧ q = .int .i64 (kk : Int) ∧ Hid (atN (lsF dLock l) 2 k m 0 = kk ∧ Below w.heap.size w wr)) (fun _ i _ => l.length - (intOf i).toNat)
  case atStart => exact ⟨0, k, Nat.zero_le _, rfl, rfl, atN_zero _ _ _, Below.refl _ _⟩
  case round =>
    obtain ⟨m, kk, hm, rfl, rfl, HR⟩ := hrel
    by_cases hlt : m < l.length
    case neg =>
      have hm' : m = l.length := by omega
      have hmi : decide ((m : Int) < (l.length : Int)) = false := decide_eq_false (by omega)
      have HF : Hid ((kk : Int) = ((k + (dLockS l).wd : Nat) : Int) ∧ Below w.heap.size w wr) := by
        obtain ⟨hk, h⟩ := HR.out
        have hal := HAL.out
        rw [hm'] at hk
        rw [hk] at hal
        exact ⟨by rw [hal], h⟩
      clear hm' HR
      go_wp2_with fail
      go_ret
      exact ⟨ret_i HF.out.1, HF.out.2⟩
    obtain ⟨hk0, h⟩ := HR.out
    have B0 := Lib.hid h
    obtain ⟨b, off, rfl, -, -⟩ := (HS.out _ h).cells hlt
    have CE : Hid (∀ W, Below w.heap.size w W → ∀ j, j < 2 → ∃ u, W.cell? ⟨b, off + m * 2 + j, none⟩ = some u ∧ Rd W B ((dLock l[m] j).mkd (atN (lsF dLock l) 2 k m j)) u) := fun W h j hj => by
      have := (HS.out W h).spot hlt hj
      rwa [lsF_at hlt] at this
    have HFA : Hid (lsF dLock l m = dLock l[m]) := lsF_at hlt
    have N0 := Lib.hid hk0
    have HXK := Lib.hid (HX.out m hlt)
    have HM := Lib.hid hlt
    have hmi : (m : Int) < (l.length : Int) := by omega
    have hb : kk < 100000000000 ∧ 0 < kk := by have h1 := HWD.out m 0 hlt (by omega); have := H0.out; rw [hk0] at h1; omega
    obtain ⟨hb0, hp0⟩ := hb
    clear h hk0 HR HX HS
    generalize l[m] = x at *
    have hbd0 : kk < 100000000000 ∧ 0 < kk := by have h1 := HWD.out m 0 HM.out (by omega); have := H0.out; rw [N0.out] at h1; omega
    obtain ⟨u0, e0, o0⟩ := CE.out _ B0.out 0 (by omega)
    rw [N0.out] at o0
    obtain rfl : u0 = .string ⟨(mt (kk)).toArray⟩ := o0
    replace e0 : wr.cell? ⟨b, off + m * 2, none⟩ = _ := e0
    go_wp2_with fail
    have MT := Lib.hid hbd0
    clear hbd0
    go_region_with (go_at_call 49; refine (markText (kk) _ ?_ ?_).mono ?_; exact MT.out.2; (have := MT.out.1; omega); rintro e v0 ⟨rfl, hB0⟩; have B1 : Hid (Below w.heap.size w v0) := B0.out.drew.trans (hB0.mono B0.out.size); obtain ⟨uu, g0, oo⟩ := CE.out _ B1.out 0 (by omega); rw [N0.out] at oo; obtain rfl : uu = .string ⟨(mt (kk)).toArray⟩ := oo; replace g0 : v0.cell? ⟨b, off + m * 2, none⟩ = _ := g0; clear hB0)
    all_goals
      clear MT
      have N1 : Hid (atN (lsF dLock l) 2 k m 1 = kk + 1) := atN_next HFA.out N0.out
      clear g0 e0
      obtain ⟨yt0, hyt0⟩ : ∃ y, y = mt (kk) := ⟨_, rfl⟩
      try rw [← hyt0]
      clear hyt0
      have hyy0 : (yt0 != yt0) = false := by simp
      have hbd1 : kk + 1 < 100000000000 ∧ 0 < kk + 1 := by have h1 := HWD.out m 1 HM.out (by omega); have := H0.out; rw [N1.out] at h1; omega
      obtain ⟨u1, e1, o1⟩ := CE.out _ B1.out 1 (by omega)
      rw [N1.out] at o1
      replace o1 : Rd v0 B ((dIntS x.qu).mkd (kk + 1)) u1 := o1
      obtain ⟨a1, q1, hu1⟩ : ∃ a c, u1 = .slice a x.qu.length c := Rd.slice o1
      subst hu1
      have O1 := Lib.hid o1
      clear o1
      go_wp2_with fail
      rw [show ((kk : Int) + 1) = ((kk + 1 : Nat) : Int) from rfl]
      have CC := Lib.hid (hdDIntS x.qu a1 q1 (kk + 1) B _ (HXK.out 1 (by omega)) hbd1.2 (by have h1 := HWD.out m 2 HM.out (by omega); rw [atN_next HFA.out N1.out] at h1; exact h1.2) O1.out)
      refine CC.out.mono ?_
      rintro e v1 ⟨rfl, hB1⟩
      have B2 : Hid (Below w.heap.size w v1) := B1.out.trans (hB1.mono B1.out.size)
      have N2 : Hid (atN (lsF dLock l) 2 k m 2 = kk + 1 + (dIntS x.qu).wd) := atN_next HFA.out N1.out
      clear CC hB1 O1 hbd1 e1
      obtain ⟨b1, hb1⟩ : ∃ y : Nat, y = kk + 1 + (dIntS x.qu).wd := ⟨_, rfl⟩
      rw [← hb1] at N2 ⊢
      have hlb1 : 0 < b1 ∧ b1 < 100000000000 := by have h1 := HWD.out m 2 HM.out (by omega); have := H0.out; rw [N2.out] at h1; omega
      obtain ⟨hlb11, hlb12⟩ := hlb1
      have dk1 : decide ((b1 : Int) < 0) = false := by simp
      clear hb1
      go_wp2_with fail
      go_roundw
      case rel => exact ⟨m + 1, b1, by omega, by go_num, rfl, by rw [atN_row]; exact N2.out, B2.out⟩
      case measure => simp [intOf]; omega
set_option maxRecDepth 100000 in
set_option maxHeartbeats 6400000 in
theorem mkDToldS (l : List ToV) (a : Option Addr) (c k : Nat) (B : Nat → Prop) (w : World) (ho : (dToldS l).le maxLen) (h0 : 0 < k) (h1 : k + (dToldS l).wd < 100000000000) (hS : Own w (dToldS l) B (.slice a l.length c)) :
    Calls Try.prog 21 #[.slice a l.length c, .int .i64 k] w fun e w' => e = .returned (.int .i64 (k + (dToldS l).wd : Nat)) ∧ Own w' ((dToldS l).mkd k) B (.slice a l.length c) ∧ Frm B w w' := by
  have hl : l.length ≤ maxLen := (Ls_le.1 ho).2.1
  unfold maxLen at hl
  have HX : Hid (∀ i (h : i < l.length) j, j < 3 → (dTold l[i] j).le maxLen) := (Ls_le.1 ho).2.2
  have HWD : Hid (∀ i j, i < l.length → j ≤ 3 → k ≤ atN (lsF dTold l) 3 k i j ∧ atN (lsF dTold l) 3 k i j < 100000000000) := fun i j hi hj => ⟨atN_ge _ _ _ _ _, Nat.lt_of_le_of_lt (atN_le hi hj) h1⟩
  have HAL : Hid (atN (lsF dTold l) 3 k l.length 0 = k + (dToldS l).wd) := atN_all _ _ _ _
  have HMC : Hid (l.length ≤ c) := by
    obtain ⟨a', c', e, hmc, -⟩ := Own.open hS
    simp only [Value.slice.injEq] at e
    obtain ⟨-, -, rfl⟩ := e
    exact hmc
  have HS : Hid (l.length = 0 ∨ ∃ b off X, a = some ⟨b, off, none⟩ ∧ MS w w 3 l.length (lsF dTold l) k B b off X 0 0) := by
    obtain ⟨a', c', e, -, hO⟩ := Own.open hS
    simp only [Value.slice.injEq] at e
    obtain ⟨rfl, -, -⟩ := e
    exact hO.imp id (fun ⟨b, off, X, ha, h⟩ => ⟨b, off, X, ha, MS.start h⟩)
  have H0 := Lib.hid h0
  clear hS ho h1 h0
  go_enter Try.func21, Try.ntmps21
  go_wp2_with fail
  go_loopw [1, 5] (fun q i wr => ∃ m kk : Nat, m ≤ l.length ∧ i = .int .i64 m ∧ q = .int .i64 (kk : Int) ∧ Hid (atN (lsF dTold l) 3 k m 0 = kk ∧ ((l.length = 0 ∧ wr = w) ∨ ∃ b off X, a = some ⟨b, off, none⟩ ∧ MS w wr 3 l.length (lsF dTold l) k B b off X m 0))) (fun _ i _ => l.length - (intOf i).toNat)
  case atStart => exact ⟨0, k, Nat.zero_le _, rfl, rfl, atN_zero _ _ _, HS.out.imp (fun h => ⟨h, rfl⟩) id⟩
  case round =>
    obtain ⟨m, kk, hm, rfl, rfl, HR⟩ := hrel
    by_cases hlt : m < l.length
    case neg =>
      have hm' : m = l.length := by omega
      have hmi : decide ((m : Int) < (l.length : Int)) = false := decide_eq_false (by omega)
      have HF : Hid ((kk : Int) = ((k + (dToldS l).wd : Nat) : Int) ∧ Own wr ((dToldS l).mkd k) B (.slice a l.length c) ∧ Frm B w wr) := by
        obtain ⟨hk, h⟩ := HR.out
        have hal := HAL.out
        rw [hm'] at hk
        rw [hk] at hal
        refine ⟨by rw [hal], ?_⟩
        rcases h with ⟨h, rfl⟩ | ⟨b, off, X, rfl, h⟩
        · exact ⟨⟨a, c, rfl, HMC.out, .inl h⟩, Frm.refl _ _⟩
        · rw [hm'] at h
          exact ⟨h.done c HMC.out, h.frm⟩
      clear hm' HR
      go_wp2_with fail
      go_ret
      exact ⟨ret_i HF.out.1, HF.out.2⟩
    obtain ⟨hk0, hz⟩ := HR.out
    clear HS HR
    obtain ⟨b, off, X, rfl, h⟩ : ∃ b off X, a = some ⟨b, off, none⟩ ∧ MS w wr 3 l.length (lsF dTold l) k B b off X m 0 := by
      rcases hz with ⟨h, -⟩ | h
      · omega
      · exact h
    clear hz
    have M0 := Lib.hid h
    have HFA : Hid (lsF dTold l m = dTold l[m]) := lsF_at hlt
    have N0 := Lib.hid hk0
    have HXK := Lib.hid (HX.out m hlt)
    have HM := Lib.hid hlt
    have hmi : (m : Int) < (l.length : Int) := by omega
    have hb : kk < 100000000000 ∧ 0 < kk := by have h1 := HWD.out m 0 hlt (by omega); have := H0.out; rw [hk0] at h1; omega
    obtain ⟨hb0, hp0⟩ := hb
    clear h hk0 HX
    generalize l[m] = x at *
    obtain ⟨u0, e0, z0, o0⟩ := M0.out.peek HFA.out HM.out (j' := 0) (by omega) (by omega)
    clear o0
    replace e0 : wr.cell? ⟨b, off + m * 3, none⟩ = _ := e0
    replace z0 : wr.frozen? ⟨b, off + m * 3, none⟩ = false := z0
    have M1 : Hid (MS w (wr.setCell ⟨b, off + m * 3, none⟩ (.int .i64 ((kk : Int)))) 3 l.length (lsF dTold l) k B b off X m 1) := M0.out.scalar (x := .i x.se) (q := kk) HM.out (by omega) (by rw [HFA.out]; rfl) N0.out.symm trivial rfl (by omega)
    have N1 : Hid (atN (lsF dTold l) 3 k m 1 = kk + 1) := atN_next HFA.out N0.out
    have hbd1 : kk + 1 < 100000000000 ∧ 0 < kk + 1 := by have h1 := HWD.out m 1 HM.out (by omega); have := H0.out; rw [N1.out] at h1; omega
    go_wp2_with fail
    rw [show ((kk : Int) + 1) = ((kk + 1 : Nat) : Int) from rfl]
    refine (markText (kk + 1) _ hbd1.2 (by have := hbd1.1; omega)).mono ?_
    rintro e v1 ⟨rfl, hB1⟩
    have K1 := Lib.hid (M1.out.later hB1)
    clear hB1 M1 hbd1 e0 z0
    obtain ⟨b1, hb1⟩ : ∃ y : Nat, y = kk + 1 := ⟨_, rfl⟩
    rw [← hb1] at N1 ⊢
    have hlb1 : 0 < b1 ∧ b1 < 100000000000 := by have h1 := HWD.out m 1 HM.out (by omega); have := H0.out; rw [N1.out] at h1; omega
    obtain ⟨hlb11, hlb12⟩ := hlb1
    clear hb1
    obtain ⟨u1, e1, z1, o1⟩ := K1.out.peek HFA.out HM.out (j' := 1) (by omega) (by omega)
    clear o1
    have M2 : Hid (MS w (v1.setCell ⟨b, off + m * 3 + 1, none⟩ (.string ⟨(mt (b1)).toArray⟩)) 3 l.length (lsF dTold l) k B b off X m 2) := K1.out.scalar (x := .s x.wd) (q := b1) HM.out (by omega) (by rw [HFA.out]; rfl) N1.out.symm trivial rfl (by omega)
    have N2 : Hid (atN (lsF dTold l) 3 k m 2 = b1 + 1) := atN_next HFA.out N1.out
    generalize mt (b1) = yt1 at *
    have hbd2 : b1 + 1 < 100000000000 ∧ 0 < b1 + 1 := by have h1 := HWD.out m 2 HM.out (by omega); have := H0.out; rw [N2.out] at h1; omega
    go_wp2_with fail
    rw [show ((b1 : Int) + 1) = ((b1 + 1 : Nat) : Int) from rfl]
    refine (markText (b1 + 1) _ hbd2.2 (by have := hbd2.1; omega)).mono ?_
    rintro e v2 ⟨rfl, hB2⟩
    have K2 := Lib.hid (M2.out.later hB2)
    clear hB2 M2 hbd2 e1 z1
    obtain ⟨b2, hb2⟩ : ∃ y : Nat, y = b1 + 1 := ⟨_, rfl⟩
    rw [← hb2] at N2 ⊢
    have hlb2 : 0 < b2 ∧ b2 < 100000000000 := by have h1 := HWD.out m 2 HM.out (by omega); have := H0.out; rw [N2.out] at h1; omega
    obtain ⟨hlb21, hlb22⟩ := hlb2
    clear hb2
    obtain ⟨u2, e2, z2, o2⟩ := K2.out.peek HFA.out HM.out (j' := 2) (by omega) (by omega)
    clear o2
    have M3 : Hid (MS w (v2.setCell ⟨b, off + m * 3 + 2, none⟩ (.string ⟨(mt (b2)).toArray⟩)) 3 l.length (lsF dTold l) k B b off X m 3) := K2.out.scalar (x := .s x.tn) (q := b2) HM.out (by omega) (by rw [HFA.out]; rfl) N2.out.symm trivial rfl (by omega)
    have N3 : Hid (atN (lsF dTold l) 3 k m 3 = b2 + 1) := atN_next HFA.out N2.out
    generalize mt (b2) = yt2 at *
    go_wp2_with fail
    go_roundw
    case rel => exact ⟨m + 1, b2 + 1, by omega, by go_num, by first | rfl | go_num, by rw [atN_row]; exact N3.out, .inr ⟨b, off, X, rfl, M3.out.row⟩⟩
    case measure => simp [intOf]; omega
set_option maxRecDepth 100000 in
set_option maxHeartbeats 6400000 in
theorem hdDToldS (l : List ToV) (a : Option Addr) (c k : Nat) (B : Nat → Prop) (w : World) (ho : (dToldS l).le maxLen) (h0 : 0 < k) (h1 : k + (dToldS l).wd < 100000000000) (hS : Rd w B ((dToldS l).mkd k) (.slice a l.length c)) :
    Calls Try.prog 22 #[.slice a l.length c, .int .i64 k] w fun e w' => e = .returned (.int .i64 (k + (dToldS l).wd : Nat)) ∧ Below w.heap.size w w' := by
  have hl : l.length ≤ maxLen := (Ls_le.1 ho).2.1
  unfold maxLen at hl
  have HX : Hid (∀ i (h : i < l.length) j, j < 3 → (dTold l[i] j).le maxLen) := (Ls_le.1 ho).2.2
  have HWD : Hid (∀ i j, i < l.length → j ≤ 3 → k ≤ atN (lsF dTold l) 3 k i j ∧ atN (lsF dTold l) 3 k i j < 100000000000) := fun i j hi hj => ⟨atN_ge _ _ _ _ _, Nat.lt_of_le_of_lt (atN_le hi hj) h1⟩
  have HAL : Hid (atN (lsF dTold l) 3 k l.length 0 = k + (dToldS l).wd) := atN_all _ _ _ _
  have HS : Hid (∀ W, Below w.heap.size w W → Rd W B (.l 3 l.length (fun i j => (lsF dTold l i j).mkd (atN (lsF dTold l) 3 k i j))) (.slice a l.length c)) := fun W h => Rd.later hS h
  have H0 := Lib.hid h0
  clear hS ho h1 h0
  go_enter Try.func22, Try.ntmps22
  go_wp2_with fail
  go_loopw [1, 5] (fun q i wr => ∃ m kk : Nat, m ≤ l.length ∧ i = .int .i64 m ∧ q = .int .i64 (kk : Int) ∧ Hid (atN (lsF dTold l) 3 k m 0 = kk ∧ Below w.heap.size w wr)) (fun _ i _ => l.length - (intOf i).toNat)
  case atStart => exact ⟨0, k, Nat.zero_le _, rfl, rfl, atN_zero _ _ _, Below.refl _ _⟩
  case round =>
    obtain ⟨m, kk, hm, rfl, rfl, HR⟩ := hrel
    by_cases hlt : m < l.length
    case neg =>
      have hm' : m = l.length := by omega
      have hmi : decide ((m : Int) < (l.length : Int)) = false := decide_eq_false (by omega)
      have HF : Hid ((kk : Int) = ((k + (dToldS l).wd : Nat) : Int) ∧ Below w.heap.size w wr) := by
        obtain ⟨hk, h⟩ := HR.out
        have hal := HAL.out
        rw [hm'] at hk
        rw [hk] at hal
        exact ⟨by rw [hal], h⟩
      clear hm' HR
      go_wp2_with fail
      go_ret
      exact ⟨ret_i HF.out.1, HF.out.2⟩
    obtain ⟨hk0, h⟩ := HR.out
    have B0 := Lib.hid h
    obtain ⟨b, off, rfl, -, -⟩ := (HS.out _ h).cells hlt
    have CE : Hid (∀ W, Below w.heap.size w W → ∀ j, j < 3 → ∃ u, W.cell? ⟨b, off + m * 3 + j, none⟩ = some u ∧ Rd W B ((dTold l[m] j).mkd (atN (lsF dTold l) 3 k m j)) u) := fun W h j hj => by
      have := (HS.out W h).spot hlt hj
      rwa [lsF_at hlt] at this
    have HFA : Hid (lsF dTold l m = dTold l[m]) := lsF_at hlt
    have N0 := Lib.hid hk0
    have HXK := Lib.hid (HX.out m hlt)
    have HM := Lib.hid hlt
    have hmi : (m : Int) < (l.length : Int) := by omega
    have hb : kk < 100000000000 ∧ 0 < kk := by have h1 := HWD.out m 0 hlt (by omega); have := H0.out; rw [hk0] at h1; omega
    obtain ⟨hb0, hp0⟩ := hb
    clear h hk0 HR HX HS
    generalize l[m] = x at *
    obtain ⟨u0, e0, o0⟩ := CE.out _ B0.out 0 (by omega)
    rw [N0.out] at o0
    obtain rfl : u0 = .int .i64 ((kk : Int)) := o0
    replace e0 : wr.cell? ⟨b, off + m * 3, none⟩ = _ := e0
    have N1 : Hid (atN (lsF dTold l) 3 k m 1 = kk + 1) := atN_next HFA.out N0.out
    have hbd1 : kk + 1 < 100000000000 ∧ 0 < kk + 1 := by have h1 := HWD.out m 1 HM.out (by omega); have := H0.out; rw [N1.out] at h1; omega
    obtain ⟨u1, e1, o1⟩ := CE.out _ B0.out 1 (by omega)
    rw [N1.out] at o1
    obtain rfl : u1 = .string ⟨(mt (kk + 1)).toArray⟩ := o1
    go_wp2_with fail
    have MT := Lib.hid hbd1
    clear hbd1
    go_region_with (go_at_call 49; rw [show ((kk : Int) + 1) = ((kk + 1 : Nat) : Int) from rfl]; refine (markText (kk + 1) _ ?_ ?_).mono ?_; exact MT.out.2; (have := MT.out.1; omega); rintro e v1 ⟨rfl, hB1⟩; have B2 : Hid (Below w.heap.size w v1) := B0.out.drew.trans (hB1.mono B0.out.size); obtain ⟨uu, g1, oo⟩ := CE.out _ B2.out 1 (by omega); rw [N1.out] at oo; obtain rfl : uu = .string ⟨(mt (kk + 1)).toArray⟩ := oo; clear hB1)
    all_goals
      clear MT
      have N2 : Hid (atN (lsF dTold l) 3 k m 2 = kk + 1 + 1) := atN_next HFA.out N1.out
      clear g1 e0 e1
      obtain ⟨b1, hb1⟩ : ∃ y : Nat, y = kk + 1 := ⟨_, rfl⟩
      rw [← hb1] at N2
      try rw [show ((kk : Int) + 1) = (b1 : Int) by omega]
      try rw [← hb1]
      have hlb1 : 0 < b1 ∧ b1 < 100000000000 := by have h1 := HWD.out m 1 HM.out (by omega); have := H0.out; rw [N1.out] at h1; omega
      obtain ⟨hlb11, hlb12⟩ := hlb1
      clear hb1
      obtain ⟨yt1, hyt1⟩ : ∃ y, y = mt (b1) := ⟨_, rfl⟩
      try rw [← hyt1]
      clear hyt1
      have hyy1 : (yt1 != yt1) = false := by simp
      have hbd2 : b1 + 1 < 100000000000 ∧ 0 < b1 + 1 := by have h1 := HWD.out m 2 HM.out (by omega); have := H0.out; rw [N2.out] at h1; omega
      obtain ⟨u2, e2, o2⟩ := CE.out _ B2.out 2 (by omega)
      rw [N2.out] at o2
      obtain rfl : u2 = .string ⟨(mt (b1 + 1)).toArray⟩ := o2
      go_wp2_with fail
      have MT := Lib.hid hbd2
      clear hbd2
      go_region_with (go_at_call 49; rw [show ((b1 : Int) + 1) = ((b1 + 1 : Nat) : Int) from rfl]; refine (markText (b1 + 1) _ ?_ ?_).mono ?_; exact MT.out.2; (have := MT.out.1; omega); rintro e v2 ⟨rfl, hB2⟩; have B3 : Hid (Below w.heap.size w v2) := B2.out.drew.trans (hB2.mono B2.out.size); obtain ⟨uu, g2, oo⟩ := CE.out _ B3.out 2 (by omega); rw [N2.out] at oo; obtain rfl : uu = .string ⟨(mt (b1 + 1)).toArray⟩ := oo; clear hB2)
      all_goals
        clear MT
        have N3 : Hid (atN (lsF dTold l) 3 k m 3 = b1 + 1 + 1) := atN_next HFA.out N2.out
        clear g2 e2
        obtain ⟨b2, hb2⟩ : ∃ y : Nat, y = b1 + 1 := ⟨_, rfl⟩
        rw [← hb2] at N3
        try rw [show ((b1 : Int) + 1) = (b2 : Int) by omega]
        try rw [← hb2]
        have hlb2 : 0 < b2 ∧ b2 < 100000000000 := by have h1 := HWD.out m 2 HM.out (by omega); have := H0.out; rw [N2.out] at h1; omega
        obtain ⟨hlb21, hlb22⟩ := hlb2
        clear hb2
        obtain ⟨yt2, hyt2⟩ : ∃ y, y = mt (b2) := ⟨_, rfl⟩
        try rw [← hyt2]
        clear hyt2
        have hyy2 : (yt2 != yt2) = false := by simp
        go_wp2_with fail
        go_roundw
        case rel => exact ⟨m + 1, b2 + 1, by omega, by go_num, by first | rfl | go_num, by rw [atN_row]; exact N3.out, B3.out⟩
        case measure => simp [intOf]; omega
end Go.Proofs.Ytoalhminembpkaa
