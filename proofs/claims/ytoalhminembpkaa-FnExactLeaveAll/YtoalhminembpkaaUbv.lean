import Derived.Test.YtoalhminembpkaaUai
import Derived.Test.YtoalhminembpkaaUad
namespace Go.Proofs.Ytoalhminembpkaa
open Go.RowKit
set_option linter.unusedSimpArgs false
set_option maxRecDepth 100000 in
set_option maxHeartbeats 6400000 in
theorem mkDIntS (l : List Int) (a : Option Addr) (c k : Nat) (B : Nat → Prop) (w : World) (ho : (dIntS l).le maxLen) (h0 : 0 < k) (h1 : k + (dIntS l).wd < 100000000000) (hS : Own w (dIntS l) B (.slice a l.length c)) :
    Calls Try.prog 50 #[.slice a l.length c, .int .i64 k] w fun e w' => e = .returned (.int .i64 (k + (dIntS l).wd : Nat)) ∧ Own w' ((dIntS l).mkd k) B (.slice a l.length c) ∧ Frm B w w' := by
  have hl : l.length ≤ maxLen := (Ls_le.1 ho).2.1
  unfold maxLen at hl
  have HX : Hid (∀ i (h : i < l.length) j, j < 1 → (cInt l[i] j).le maxLen) := (Ls_le.1 ho).2.2
  have HWD : Hid (∀ i j, i < l.length → j ≤ 1 → k ≤ atN (lsF cInt l) 1 k i j ∧ atN (lsF cInt l) 1 k i j < 100000000000) := fun i j hi hj => ⟨atN_ge _ _ _ _ _, Nat.lt_of_le_of_lt (atN_le hi hj) h1⟩
  have HAL : Hid (atN (lsF cInt l) 1 k l.length 0 = k + (dIntS l).wd) := atN_all _ _ _ _
  have HMC : Hid (l.length ≤ c) := by
    obtain ⟨a', c', e, hmc, -⟩ := Own.open hS
    simp only [Value.slice.injEq] at e
    obtain ⟨-, -, rfl⟩ := e
    exact hmc
  have HS : Hid (l.length = 0 ∨ ∃ b off X, a = some ⟨b, off, none⟩ ∧ MS w w 1 l.length (lsF cInt l) k B b off X 0 0) := by
    obtain ⟨a', c', e, -, hO⟩ := Own.open hS
    simp only [Value.slice.injEq] at e
    obtain ⟨rfl, -, -⟩ := e
    exact hO.imp id (fun ⟨b, off, X, ha, h⟩ => ⟨b, off, X, ha, MS.start h⟩)
  have H0 := Lib.hid h0
  clear hS ho h1 h0
  go_enter Try.func50, Try.ntmps50
  go_wp2_with fail
  go_loopw [1, 5] (fun q i wr => ∃ m kk : Nat, m ≤ l.length ∧ i = .int .i64 m ∧ q = .int .i64 (kk : Int) ∧ Hid (atN (lsF cInt l) 1 k m 0 = kk ∧ ((l.length = 0 ∧ wr = w) ∨ ∃ b off X, a = some ⟨b, off, none⟩ ∧ MS w wr 1 l.length (lsF cInt l) k B b off X m 0))) (fun _ i _ => l.length - (intOf i).toNat)
  case atStart => exact ⟨0, k, Nat.zero_le _, rfl, rfl, atN_zero _ _ _, HS.out.imp (fun h => ⟨h, rfl⟩) id⟩
  case round =>
    obtain ⟨m, kk, hm, rfl, rfl, HR⟩ := hrel
    by_cases hlt : m < l.length
    case neg =>
      have hm' : m = l.length := by omega
      have hmi : decide ((m : Int) < (l.length : Int)) = false := decide_eq_false (by omega)
      have HF : Hid ((kk : Int) = ((k + (dIntS l).wd : Nat) : Int) ∧ Own wr ((dIntS l).mkd k) B (.slice a l.length c) ∧ Frm B w wr) := by
        obtain ⟨hk, h⟩ := HR.out
        have hal := HAL.out
        rw [hm'] at hk
        rw [hk] at hal
        refine ⟨by rw [hal], ?_⟩
        rcases h with ⟨h, rfl⟩ | ⟨b, off, X, rfl, h⟩
        · exact ⟨⟨a, c, rfl, HMC.out, .inl h⟩, Frm.refl _ _⟩
        · rw [hm'] at h
          exact ⟨h.done c HMC.out, h.frm⟩
      clear hm' HR
      go_wp2_with fail
      go_ret
      exact ⟨ret_i HF.out.1, HF.out.2⟩
    obtain ⟨hk0, hz⟩ := HR.out
    clear HS HR
    obtain ⟨b, off, X, rfl, h⟩ : ∃ b off X, a = some ⟨b, off, none⟩ ∧ MS w wr 1 l.length (lsF cInt l) k B b off X m 0 := by
      rcases hz with ⟨h, -⟩ | h
      · omega
      · exact h
    clear hz
    have M0 := Lib.hid h
    have HFA : Hid (lsF cInt l m = cInt l[m]) := lsF_at hlt
    have N0 := Lib.hid hk0
    have HXK := Lib.hid (HX.out m hlt)
    have HM := Lib.hid hlt
    have hmi : (m : Int) < (l.length : Int) := by omega
    have hb : kk < 100000000000 ∧ 0 < kk := by have h1 := HWD.out m 0 hlt (by omega); have := H0.out; rw [hk0] at h1; omega
    obtain ⟨hb0, hp0⟩ := hb
    clear h hk0 HX
    generalize l[m] = x at *
    obtain ⟨u0, e0, z0, o0⟩ := M0.out.peek HFA.out HM.out (j' := 0) (by omega) (by omega)
    clear o0
    rw [Nat.mul_one] at e0 z0
    replace e0 : wr.cell? ⟨b, off + m, none⟩ = _ := e0
    replace z0 : wr.frozen? ⟨b, off + m, none⟩ = false := z0
    have M1 : Hid (MS w (wr.setCell ⟨b, off + m, none⟩ (.int .i64 ((kk : Int)))) 1 l.length (lsF cInt l) k B b off X m 1) := M0.out.scalar (x := .i x) (q := kk) HM.out (by omega) (by rw [HFA.out]; rfl) N0.out.symm trivial rfl (by omega)
    have N1 : Hid (atN (lsF cInt l) 1 k m 1 = kk + 1) := atN_next HFA.out N0.out
    go_wp2_with fail
    go_roundw
    case rel => exact ⟨m + 1, kk + 1, by omega, by go_num, by first | rfl | go_num, by rw [atN_row]; exact N1.out, .inr ⟨b, off, X, rfl, M1.out.row⟩⟩
    case measure => simp [intOf]; omega
set_option maxRecDepth 100000 in
set_option maxHeartbeats 6400000 in
theorem hdDIntS (l : List Int) (a : Option Addr) (c k : Nat) (B : Nat → Prop) (w : World) (ho : (dIntS l).le maxLen) (h0 : 0 < k) (h1 : k + (dIntS l).wd < 100000000000) (hS : Rd w B ((dIntS l).mkd k) (.slice a l.length c)) :
    Calls Try.prog 51 #[.slice a l.length c, .int .i64 k] w fun e w' => e = .returned (.int .i64 (k + (dIntS l).wd : Nat)) ∧ Below w.heap.size w w' := by
  have hl : l.length ≤ maxLen := (Ls_le.1 ho).2.1
  unfold maxLen at hl
  have HX : Hid (∀ i (h : i < l.length) j, j < 1 → (cInt l[i] j).le maxLen) := (Ls_le.1 ho).2.2
  have HWD : Hid (∀ i j, i < l.length → j ≤ 1 → k ≤ atN (lsF cInt l) 1 k i j ∧ atN (lsF cInt l) 1 k i j < 100000000000) := fun i j hi hj => ⟨atN_ge _ _ _ _ _, Nat.lt_of_le_of_lt (atN_le hi hj) h1⟩
  have HAL : Hid (atN (lsF cInt l) 1 k l.length 0 = k + (dIntS l).wd) := atN_all _ _ _ _
  have HS : Hid (∀ W, Below w.heap.size w W → Rd W B (.l 1 l.length (fun i j => (lsF cInt l i j).mkd (atN (lsF cInt l) 1 k i j))) (.slice a l.length c)) := fun W h => Rd.later hS h
  have H0 := Lib.hid h0
  clear hS ho h1 h0
  go_enter Try.func51, Try.ntmps51
  go_wp2_with fail
  go_loopw [1, 5] (fun q i wr => ∃ m kk : Nat, m ≤ l.length ∧ i = .int .i64 m ∧ q = .int .i64 (kk : Int) ∧ Hid (atN (lsF cInt l) 1 k m 0 = kk ∧ Below w.heap.size w wr)) (fun _ i _ => l.length - (intOf i).toNat)
  case atStart => exact ⟨0, k, Nat.zero_le _, rfl, rfl, atN_zero _ _ _, Below.refl _ _⟩
  case round =>
    obtain ⟨m, kk, hm, rfl, rfl, HR⟩ := hrel
    by_cases hlt : m < l.length
    case neg =>
      have hm' : m = l.length := by omega
      have hmi : decide ((m : Int) < (l.length : Int)) = false := decide_eq_false (by omega)
      have HF : Hid ((kk : Int) = ((k + (dIntS l).wd : Nat) : Int) ∧ Below w.heap.size w wr) := by
        obtain ⟨hk, h⟩ := HR.out
        have hal := HAL.out
        rw [hm'] at hk
        rw [hk] at hal
        exact ⟨by rw [hal], h⟩
      clear hm' HR
      go_wp2_with fail
      go_ret
      exact ⟨ret_i HF.out.1, HF.out.2⟩
    obtain ⟨hk0, h⟩ := HR.out
    have B0 := Lib.hid h
    obtain ⟨b, off, rfl, -, -⟩ := (HS.out _ h).cells hlt
    have CE : Hid (∀ W, Below w.heap.size w W → ∀ j, j < 1 → ∃ u, W.cell? ⟨b, off + m * 1 + j, none⟩ = some u ∧ Rd W B ((cInt l[m] j).mkd (atN (lsF cInt l) 1 k m j)) u) := fun W h j hj => by
      have := (HS.out W h).spot hlt hj
      rwa [lsF_at hlt] at this
    have HFA : Hid (lsF cInt l m = cInt l[m]) := lsF_at hlt
    have N0 := Lib.hid hk0
    have HXK := Lib.hid (HX.out m hlt)
    have HM := Lib.hid hlt
    have hmi : (m : Int) < (l.length : Int) := by omega
    have hb : kk < 100000000000 ∧ 0 < kk := by have h1 := HWD.out m 0 hlt (by omega); have := H0.out; rw [hk0] at h1; omega
    obtain ⟨hb0, hp0⟩ := hb
    clear h hk0 HR HX HS
    generalize l[m] = x at *
    obtain ⟨u0, e0, o0⟩ := CE.out _ B0.out 0 (by omega)
    rw [N0.out] at o0
    obtain rfl : u0 = .int .i64 ((kk : Int)) := o0
    rw [Nat.mul_one] at e0
    replace e0 : wr.cell? ⟨b, off + m, none⟩ = _ := e0
    have N1 : Hid (atN (lsF cInt l) 1 k m 1 = kk + 1) := atN_next HFA.out N0.out
    go_wp2_with fail
    go_roundw
    case rel => exact ⟨m + 1, kk + 1, by omega, by go_num, by first | rfl | go_num, by rw [atN_row]; exact N1.out, B0.out⟩
    case measure => simp [intOf]; omega
end Go.Proofs.Ytoalhminembpkaa
