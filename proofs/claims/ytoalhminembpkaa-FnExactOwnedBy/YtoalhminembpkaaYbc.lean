import Derived.Test.YtoalhminembpkaaYbb
import Derived.Test.YtoalhminembpkaaYau
namespace Go.Proofs.Ytoalhminembpkaa
open Go.RowKit
set_option linter.unusedSimpArgs false
set_option maxRecDepth 100000 in
set_option maxHeartbeats 6400000 in
theorem mkDStringS (l : List (List UInt8)) (a : Option Addr) (c k : Nat) (B : Nat → Prop) (w : World) (ho : (dStringS l).le maxLen) (h0 : 0 < k) (h1 : k + (dStringS l).wd < 100000000000) (hS : Own w (dStringS l) B (.slice a l.length c)) :
    Calls Try.prog 30 #[.slice a l.length c, .int .i64 k] w fun e w' => e = .returned (.int .i64 (k + (dStringS l).wd : Nat)) ∧ Own w' ((dStringS l).mkd k) B (.slice a l.length c) ∧ Frm B w w' := by
  have hl : l.length ≤ maxLen := (Ls_le.1 ho).2.1
  unfold maxLen at hl
  have HX : Hid (∀ i (h : i < l.length) j, j < 1 → (cString l[i] j).le maxLen) := (Ls_le.1 ho).2.2
  have HWD : Hid (∀ i j, i < l.length → j ≤ 1 → k ≤ atN (lsF cString l) 1 k i j ∧ atN (lsF cString l) 1 k i j < 100000000000) := fun i j hi hj => ⟨atN_ge _ _ _ _ _, Nat.lt_of_le_of_lt (atN_le hi hj) h1⟩
  have HAL : Hid (atN (lsF cString l) 1 k l.length 0 = k + (dStringS l).wd) := atN_all _ _ _ _
  have HMC : Hid (l.length ≤ c) := by
    obtain ⟨a', c', e, hmc, -⟩ := Own.open hS
    simp only [Value.slice.injEq] at e
    obtain ⟨-, -, rfl⟩ := e
    exact hmc
  have HS : Hid (l.length = 0 ∨ ∃ b off X, a = some ⟨b, off, none⟩ ∧ MS w w 1 l.length (lsF cString l) k B b off X 0 0) := by
    obtain ⟨a', c', e, -, hO⟩ := Own.open hS
    simp only [Value.slice.injEq] at e
    obtain ⟨rfl, -, -⟩ := e
    exact hO.imp id (fun ⟨b, off, X, ha, h⟩ => ⟨b, off, X, ha, MS.start h⟩)
  have H0 := Lib.hid h0
  clear hS ho h1 h0
  go_enter Try.func30, Try.ntmps30
  go_wp2_with fail
  go_loopw [1, 5] (fun q i wr => ∃ m kk : Nat, m ≤ l.length ∧ i = .int .i64 m ∧ q = .int .i64 (kk : Int) ∧ Hid (atN (lsF cString l) 1 k m 0 = kk ∧ ((l.length = 0 ∧ wr = w) ∨ ∃ b off X, a = some ⟨b, off, none⟩ ∧ MS w wr 1 l.length (lsF cString l) k B b off X m 0))) (fun _ i _ => l.length - (intOf i).toNat)
  case atStart => exact ⟨0, k, Nat.zero_le _, rfl, rfl, atN_zero _ _ _, HS.out.imp (fun h => ⟨h, rfl⟩) id⟩
  case round =>
    obtain ⟨m, kk, hm, rfl, rfl, HR⟩ := hrel
    by_cases hlt : m < l.length
    case neg =>
      have hm' : m = l.length := by omega
      have hmi : decide ((m : Int) < (l.length : Int)) = false := decide_eq_false (by omega)
      have HF : Hid ((kk : Int) = ((k + (dStringS l).wd : Nat) : Int) ∧ Own wr ((dStringS l).mkd k) B (.slice a l.length c) ∧ Frm B w wr) := by
        obtain ⟨hk, h⟩ := HR.out
        have hal := HAL.out
        rw [hm'] at hk
        rw [hk] at hal
        refine ⟨by rw [hal], ?_⟩
        rcases h with ⟨h, rfl⟩ | ⟨b, off, X, rfl, h⟩
        · exact ⟨⟨a, c, rfl, HMC.out, .inl h⟩, Frm.refl _ _⟩
        · rw [hm'] at h
          exact ⟨h.done c HMC.out, h.frm⟩
      clear hm' HR
      go_wp2_with fail
      go_ret
      exact ⟨ret_i HF.out.1, HF.out.2⟩
    obtain ⟨hk0, hz⟩ := HR.out
    clear HS HR
    obtain ⟨b, off, X, rfl, h⟩ : ∃ b off X, a = some ⟨b, off, none⟩ ∧ MS w wr 1 l.length (lsF cString l) k B b off X m 0 := by
      rcases hz with ⟨h, -⟩ | h
      · omega
      · exact h
    clear hz
    have M0 := Lib.hid h
    have HFA : Hid (lsF cString l m = cString l[m]) := lsF_at hlt
    have N0 := Lib.hid hk0
    have HXK := Lib.hid (HX.out m hlt)
    have HM := Lib.hid hlt
    have hmi : (m : Int) < (l.length : Int) := by omega
    have hb : kk < 100000000000 ∧ 0 < kk := by have h1 := HWD.out m 0 hlt (by omega); have := H0.out; rw [hk0] at h1; omega
    obtain ⟨hb0, hp0⟩ := hb
    clear h hk0 HX
    generalize l[m] = x at *
    have hbd0 : kk < 100000000000 ∧ 0 < kk := by have h1 := HWD.out m 0 HM.out (by omega); have := H0.out; rw [N0.out] at h1; omega
    go_wp2_with fail
    refine (markText (kk) _ hbd0.2 (by have := hbd0.1; omega)).mono ?_
    rintro e v0 ⟨rfl, hB0⟩
    have K0 := Lib.hid (M0.out.later hB0)
    clear hB0 M0 hbd0
    obtain ⟨u0, e0, z0, o0⟩ := K0.out.peek HFA.out HM.out (j' := 0) (by omega) (by omega)
    clear o0
    rw [Nat.mul_one] at e0 z0
    replace e0 : v0.cell? ⟨b, off + m, none⟩ = _ := e0
    replace z0 : v0.frozen? ⟨b, off + m, none⟩ = false := z0
    have M1 : Hid (MS w (v0.setCell ⟨b, off + m, none⟩ (.string ⟨(mt (kk)).toArray⟩)) 1 l.length (lsF cString l) k B b off X m 1) := K0.out.scalar (x := .s x) (q := kk) HM.out (by omega) (by rw [HFA.out]; rfl) N0.out.symm trivial rfl (by omega)
    have N1 : Hid (atN (lsF cString l) 1 k m 1 = kk + 1) := atN_next HFA.out N0.out
    generalize mt (kk) = yt0 at *
    go_wp2_with fail
    go_roundw
    case rel => exact ⟨m + 1, kk + 1, by omega, by go_num, by first | rfl | go_num, by rw [atN_row]; exact N1.out, .inr ⟨b, off, X, rfl, M1.out.row⟩⟩
    case measure => simp [intOf]; omega
set_option maxRecDepth 100000 in
set_option maxHeartbeats 6400000 in
theorem hdDStringS (l : List (List UInt8)) (a : Option Addr) (c k : Nat) (B : Nat → Prop) (w : World) (ho : (dStringS l).le maxLen) (h0 : 0 < k) (h1 : k + (dStringS l).wd < 100000000000) (hS : Rd w B ((dStringS l).mkd k) (.slice a l.length c)) :
    Calls Try.prog 31 #[.slice a l.length c, .int .i64 k] w fun e w' => e = .returned (.int .i64 (k + (dStringS l).wd : Nat)) ∧ Below w.heap.size w w' := by
  have hl : l.length ≤ maxLen := (Ls_le.1 ho).2.1
  unfold maxLen at hl
  have HX : Hid (∀ i (h : i < l.length) j, j < 1 → (cString l[i] j).le maxLen) := (Ls_le.1 ho).2.2
  have HWD : Hid (∀ i j, i < l.length → j ≤ 1 → k ≤ atN (lsF cString l) 1 k i j ∧ atN (lsF cString l) 1 k i j < 100000000000) := fun i j hi hj => ⟨atN_ge _ _ _ _ _, Nat.lt_of_le_of_lt (atN_le hi hj) h1⟩
  have HAL : Hid (atN (lsF cString l) 1 k l.length 0 = k + (dStringS l).wd) := atN_all _ _ _ _
  have HS : Hid (∀ W, Below w.heap.size w W → Rd W B (.l 1 l.length (fun i j => (lsF cString l i j).mkd (atN (lsF cString l) 1 k i j))) (.slice a l.length c)) := fun W h => Rd.later hS h
  have H0 := Lib.hid h0
  clear hS ho h1 h0
  go_enter Try.func31, Try.ntmps31
  go_wp2_with fail
  go_loopw [1, 5] (fun q i wr => ∃ m kk : Nat, m ≤ l.length ∧ i = .int .i64 m ∧ q = .int .i64 (kk : Int) ∧ Hid (atN (lsF cString l) 1 k m 0 = kk ∧ Below w.heap.size w wr)) (fun _ i _ => l.length - (intOf i).toNat)
  case atStart => exact ⟨0, k, Nat.zero_le _, rfl, rfl, atN_zero _ _ _, Below.refl _ _⟩
  case round =>
    obtain ⟨m, kk, hm, rfl, rfl, HR⟩ := hrel
    by_cases hlt : m < l.length
    case neg =>
      have hm' : m = l.length := by omega
      have hmi : decide ((m : Int) < (l.length : Int)) = false := decide_eq_false (by omega)
      have HF : Hid ((kk : Int) = ((k + (dStringS l).wd : Nat) : Int) ∧ Below w.heap.size w wr) := by
        obtain ⟨hk, h⟩ := HR.out
        have hal := HAL.out
        rw [hm'] at hk
        rw [hk] at hal
        exact ⟨by rw [hal], h⟩
      clear hm' HR
      go_wp2_with fail
      go_ret
      exact ⟨ret_i HF.out.1, HF.out.2⟩
    obtain ⟨hk0, h⟩ := HR.out
    have B0 := Lib.hid h
    obtain ⟨b, off, rfl, -, -⟩ := (HS.out _ h).cells hlt
    have CE : Hid (∀ W, Below w.heap.size w W → ∀ j, j < 1 → ∃ u, W.cell? ⟨b, off + m * 1 + j, none⟩ = some u ∧ Rd W B ((cString l[m] j).mkd (atN (lsF cString l) 1 k m j)) u) := fun W h j hj => by
      have := (HS.out W h).spot hlt hj
      rwa [lsF_at hlt] at this
    have HFA : Hid (lsF cString l m = cString l[m]) := lsF_at hlt
    have N0 := Lib.hid hk0
    have HXK := Lib.hid (HX.out m hlt)
    have HM := Lib.hid hlt
    have hmi : (m : Int) < (l.length : Int) := by omega
    have hb : kk < 100000000000 ∧ 0 < kk := by have h1 := HWD.out m 0 hlt (by omega); have := H0.out; rw [hk0] at h1; omega
    obtain ⟨hb0, hp0⟩ := hb
    clear h hk0 HR HX HS
    generalize l[m] = x at *
    have hbd0 : kk < 100000000000 ∧ 0 < kk := by have h1 := HWD.out m 0 HM.out (by omega); have := H0.out; rw [N0.out] at h1; omega
    obtain ⟨u0, e0, o0⟩ := CE.out _ B0.out 0 (by omega)
    rw [N0.out] at o0
    obtain rfl : u0 = .string ⟨(mt (kk)).toArray⟩ := o0
    rw [Nat.mul_one] at e0
    replace e0 : wr.cell? ⟨b, off + m, none⟩ = _ := e0
    go_wp2_with fail
    have MT := Lib.hid hbd0
    clear hbd0
    go_region_with (go_at_call 49; refine (markText (kk) _ ?_ ?_).mono ?_; exact MT.out.2; (have := MT.out.1; omega); rintro e v0 ⟨rfl, hB0⟩; have B1 : Hid (Below w.heap.size w v0) := B0.out.drew.trans (hB0.mono B0.out.size); obtain ⟨uu, g0, oo⟩ := CE.out _ B1.out 0 (by omega); rw [N0.out] at oo; obtain rfl : uu = .string ⟨(mt (kk)).toArray⟩ := oo; rw [Nat.mul_one] at g0; replace g0 : v0.cell? ⟨b, off + m, none⟩ = _ := g0; clear hB0)
    all_goals
      clear MT
      have N1 : Hid (atN (lsF cString l) 1 k m 1 = kk + 1) := atN_next HFA.out N0.out
      clear g0 e0
      obtain ⟨yt0, hyt0⟩ : ∃ y, y = mt (kk) := ⟨_, rfl⟩
      try rw [← hyt0]
      clear hyt0
      have hyy0 : (yt0 != yt0) = false := by simp
      go_wp2_with fail
      go_roundw
      case rel => exact ⟨m + 1, kk + 1, by omega, by go_num, by first | rfl | go_num, by rw [atN_row]; exact N1.out, B1.out⟩
      case measure => simp [intOf]; omega
end Go.Proofs.Ytoalhminembpkaa
