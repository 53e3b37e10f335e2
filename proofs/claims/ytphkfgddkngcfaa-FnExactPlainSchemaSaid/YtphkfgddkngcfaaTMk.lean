import Derived.Test.YtphkfgddkngcfaaSMem
import Derived.Test.YtphkfgddkngcfaaMark2
namespace Go.Proofs.Ytphkfgddkngcfaa
open Go.RowKit
set_option linter.unusedSimpArgs false
theorem OwnRw.row' {w : World} {B : Nat → Prop} {a : Option Addr} {n : Nat} {f : Nat → Value} (h : OwnRw w B a n f) : ∃ b off, (0 < n → a = some ⟨b, off, none⟩ ∧ B b) ∧ Row w b off n f := by
  rcases h with h | ⟨b, off, ha, hb, hc⟩
  · exact ⟨0, 0, fun h' => absurd h (by omega), fun m hm => absurd hm (by omega)⟩
  · exact ⟨b, off, fun _ => ⟨ha, hb⟩, hc⟩
theorem OwnRw.of_row {w : World} {B : Nat → Prop} {a : Option Addr} {n : Nat} {f : Nat → Value} {b off : Nat} (ha : 0 < n → a = some ⟨b, off, none⟩ ∧ B b) (h : Row w b off n f) : OwnRw w B a n f := by
  by_cases h0 : n = 0
  · exact .inl h0
  · exact .inr ⟨b, off, (ha (by omega)).1, (ha (by omega)).2, h⟩
def remB (k : Nat) : Bool := (((k % 3 : Nat) : Int) == 0)
/-- what the law writes into a column -/
def mkC (k : Nat) : Cl := ⟨mt k, ((k + 1 : Nat) : Int), ((k + 2 : Nat) : Int), ((k + 3 : Nat) : Int), ((k + 4 : Nat) : Int), ((k + 5 : Nat) : Int), mt (k + 6), remB (k + 7)⟩
def mkCs (n k : Nat) : List Cl := (List.range n).map (fun i => mkC (k + 8 * i))
theorem mkCs_len (n k : Nat) : (mkCs n k).length = n := by simp [mkCs]
theorem mkCs_at {n k i : Nat} (h : i < n) : (mkCs n k)[i]'(by rw [mkCs_len]; exact h) = mkC (k + 8 * i) := by simp [mkCs]
def mkIs (n k : Nat) : List Int := (List.range n).map (fun i => ((k + i : Nat) : Int))
theorem mkIs_len (n k : Nat) : (mkIs n k).length = n := by simp [mkIs]
theorem mkIs_at {n k i : Nat} (h : i < n) : (mkIs n k)[i]'(by rw [mkIs_len]; exact h) = ((k + i : Nat) : Int) := by simp [mkIs]
theorem remT (k : Nat) (h : k < 1000000000000) : ∃ r : Nat, ((k : Int) + 1).tmod 3 = (r : Int) ∧ IntKind.i64.wrap (r : Int) = (r : Int) ∧ IntKind.i64.wrap (((k : Int) + 1) % 3) = (r : Int) ∧ ((k : Int) + 1) % 3 = (r : Int) ∧ ((r : Int) == 0) = remB (k + 1) := by
  refine ⟨(k + 1) % 3, ?_, ?_, ?_, by omega, rfl⟩
  · rw [Int.tmod_eq_emod_of_nonneg (by omega)]; omega
  · rw [IntKind.wrap_i64]; omega
  · rw [IntKind.wrap_i64]; omega
set_option maxRecDepth 100000 in
set_option maxHeartbeats 6400000 in
theorem markColumns (l : List Cl) (a : Option Addr) (c k : Nat) (B : Nat → Prop) (w : World) (hl : l.length ≤ maxLen) (h0 : 0 < k) (h1 : k + 8 * l.length < 1000000000000) (hS : OwnCols w B a l) :
    Calls Try.prog 14 #[.slice a l.length c, .int .i64 k] w fun e w' => e = .returned (.int .i64 (k + 8 * l.length : Nat)) ∧ OwnCols w' B a (mkCs l.length k) ∧ Frm B w w' := by
  unfold maxLen at hl
  obtain ⟨b, off, ha, hrow⟩ := OwnRw.row' hS
  have HA : Hid (0 < l.length * 8 → a = some ⟨b, off, none⟩ ∧ B b) := ha
  have HR : Hid (Row w b off (l.length * 8) (clF l)) := hrow
  clear ha hrow hS
  go_enter Try.func14, Try.ntmps14
  go_wp2_with fail
  go_loopw [1, 5] (fun q i wr => ∃ m : Nat, ∃ kk : Nat, kk = k + 8 * m ∧ m ≤ l.length ∧ i = .int .i64 m ∧ q = .int .i64 (kk : Int) ∧ Hid (Row wr b off (l.length * 8) (fun x => if x < m * 8 then clF (mkCs l.length k) x else clF l x) ∧ Frm B w wr)) (fun _ i _ => l.length - (intOf i).toNat)
  case atStart => exact ⟨0, k, rfl, Nat.zero_le _, rfl, rfl, HR.out.congr (fun m _ => by simp), Frm.refl _ _⟩
  case round =>
    obtain ⟨m, kk, hkk, hm, rfl, rfl, HW⟩ := hrel
    by_cases hlt : m < l.length
    · obtain ⟨rfl, hb⟩ := HA.out (by omega)
      have hk1 : kk + 8 < 1000000000000 := by omega
      have hk0 : 0 < kk := by omega
      have HB := Lib.hid hb
      have HK := Lib.hid hkk
      have hmi : (m : Int) < (l.length : Int) := by omega
      clear hkk hb
      go_wp2_with fail
      refine (markText kk _ (by omega) (by omega)).mono ?_
      rintro e w1 ⟨rfl, hB1⟩
      have R1 := HW.out.1.later hB1
      have hb := HB.out
      have e0 : w1.cell? ⟨b, off + m * 8, none⟩ = _ := (R1 (m * 8) (by omega)).1
      have z0 : w1.frozen? ⟨b, off + m * 8, none⟩ = _ := (R1 (m * 8) (by omega)).2
      have e1 : w1.cell? ⟨b, off + m * 8 + 1, none⟩ = _ := (R1 (m * 8 + 1) (by omega)).1
      have z1 : w1.frozen? ⟨b, off + m * 8 + 1, none⟩ = _ := (R1 (m * 8 + 1) (by omega)).2
      have e2 : w1.cell? ⟨b, off + m * 8 + 2, none⟩ = _ := (R1 (m * 8 + 2) (by omega)).1
      have z2 : w1.frozen? ⟨b, off + m * 8 + 2, none⟩ = _ := (R1 (m * 8 + 2) (by omega)).2
      have e3 : w1.cell? ⟨b, off + m * 8 + 3, none⟩ = _ := (R1 (m * 8 + 3) (by omega)).1
      have z3 : w1.frozen? ⟨b, off + m * 8 + 3, none⟩ = _ := (R1 (m * 8 + 3) (by omega)).2
      have e4 : w1.cell? ⟨b, off + m * 8 + 4, none⟩ = _ := (R1 (m * 8 + 4) (by omega)).1
      have z4 : w1.frozen? ⟨b, off + m * 8 + 4, none⟩ = _ := (R1 (m * 8 + 4) (by omega)).2
      have e5 : w1.cell? ⟨b, off + m * 8 + 5, none⟩ = _ := (R1 (m * 8 + 5) (by omega)).1
      have z5 : w1.frozen? ⟨b, off + m * 8 + 5, none⟩ = _ := (R1 (m * 8 + 5) (by omega)).2
      have HR2 : Hid (Row ((((((w1.setCell ⟨b, off + m * 8, none⟩ (.string ⟨(mt kk).toArray⟩)).setCell ⟨b, off + m * 8 + 1, none⟩ (.int .i64 ((kk : Int) + 1))).setCell ⟨b, off + m * 8 + 2, none⟩ (.int .i64 ((kk : Int) + 1 + 1))).setCell ⟨b, off + m * 8 + 3, none⟩ (.int .i64 ((kk : Int) + 1 + 1 + 1))).setCell ⟨b, off + m * 8 + 4, none⟩ (.int .i64 ((kk : Int) + 1 + 1 + 1 + 1))).setCell ⟨b, off + m * 8 + 5, none⟩ (.int .i64 ((kk : Int) + 1 + 1 + 1 + 1 + 1))) b off (l.length * 8) _) := ((((((R1.set (m * 8) (by omega) (.string ⟨(mt kk).toArray⟩)).set (m * 8 + 1) (by omega) (.int .i64 ((kk : Int) + 1))).set (m * 8 + 2) (by omega) (.int .i64 ((kk : Int) + 1 + 1))).set (m * 8 + 3) (by omega) (.int .i64 ((kk : Int) + 1 + 1 + 1))).set (m * 8 + 4) (by omega) (.int .i64 ((kk : Int) + 1 + 1 + 1 + 1))).set (m * 8 + 5) (by omega) (.int .i64 ((kk : Int) + 1 + 1 + 1 + 1 + 1)))
      have HF2 : Hid (Frm B w ((((((w1.setCell ⟨b, off + m * 8, none⟩ (.string ⟨(mt kk).toArray⟩)).setCell ⟨b, off + m * 8 + 1, none⟩ (.int .i64 ((kk : Int) + 1))).setCell ⟨b, off + m * 8 + 2, none⟩ (.int .i64 ((kk : Int) + 1 + 1))).setCell ⟨b, off + m * 8 + 3, none⟩ (.int .i64 ((kk : Int) + 1 + 1 + 1))).setCell ⟨b, off + m * 8 + 4, none⟩ (.int .i64 ((kk : Int) + 1 + 1 + 1 + 1))).setCell ⟨b, off + m * 8 + 5, none⟩ (.int .i64 ((kk : Int) + 1 + 1 + 1 + 1 + 1)))) := (((((((HW.out.2.trans (Frm.of_below hB1)).set hb _).set hb _).set hb _).set hb _).set hb _).set hb _)
      clear hB1 R1 hb HW
      go_wp2_with fail
      obtain ⟨k6, hk6⟩ : ∃ k6, k6 = kk + 6 := ⟨_, rfl⟩
      rw [show ((kk : Int) + 1 + 1 + 1 + 1 + 1 + 1) = (k6 : Int) by omega]
      refine (markText k6 _ (by omega) (by omega)).mono ?_
      rintro e w2 ⟨rfl, hB2⟩
      have R3 := HR2.out.later hB2
      have e6 : w2.cell? ⟨b, off + m * 8 + 6, none⟩ = _ := (R3 (m * 8 + 6) (by omega)).1
      have z6 : w2.frozen? ⟨b, off + m * 8 + 6, none⟩ = _ := (R3 (m * 8 + 6) (by omega)).2
      have e7 : w2.cell? ⟨b, off + m * 8 + 7, none⟩ = _ := (R3 (m * 8 + 7) (by omega)).1
      have z7 : w2.frozen? ⟨b, off + m * 8 + 7, none⟩ = _ := (R3 (m * 8 + 7) (by omega)).2
      obtain ⟨r, r1, r2, r3, r4, r5⟩ := remT k6 (by omega)
      obtain ⟨rb, hrb⟩ : ∃ rb, rb = remB (k6 + 1) := ⟨_, rfl⟩
      rw [← hrb] at r5
      have hb := HB.out
      have HR4 : Hid (Row ((w2.setCell ⟨b, off + m * 8 + 6, none⟩ (.string ⟨(mt k6).toArray⟩)).setCell ⟨b, off + m * 8 + 7, none⟩ (.bool rb)) b off (l.length * 8) (fun x => if x < (m + 1) * 8 then clF (mkCs l.length k) x else clF l x)) := by
        refine ((R3.set (m * 8 + 6) (by omega) (.string ⟨(mt k6).toArray⟩)).set (m * 8 + 7) (by omega) (.bool rb)).congr (fun x hx => ?_)
        have hkk := HK.out
        have hM : m < (mkCs l.length k).length := by rw [mkCs_len]; exact hlt
        by_cases hlo : x < m * 8
        · simp only [show ¬ x = m * 8 + 7 by omega, show ¬ x = m * 8 + 6 by omega, show ¬ x = m * 8 + 5 by omega, show ¬ x = m * 8 + 4 by omega, show ¬ x = m * 8 + 3 by omega, show ¬ x = m * 8 + 2 by omega, show ¬ x = m * 8 + 1 by omega, show ¬ x = m * 8 by omega, if_false, if_pos hlo, if_pos (show x < (m + 1) * 8 by omega)]
        by_cases hhi : (m + 1) * 8 ≤ x
        · simp only [show ¬ x = m * 8 + 7 by omega, show ¬ x = m * 8 + 6 by omega, show ¬ x = m * 8 + 5 by omega, show ¬ x = m * 8 + 4 by omega, show ¬ x = m * 8 + 3 by omega, show ¬ x = m * 8 + 2 by omega, show ¬ x = m * 8 + 1 by omega, show ¬ x = m * 8 by omega, if_false, if_neg hlo, if_neg (show ¬ x < (m + 1) * 8 by omega)]
        obtain ⟨j, rfl⟩ : ∃ j, x = m * 8 + j := ⟨x - m * 8, by omega⟩
        rw [if_pos (show m * 8 + j < (m + 1) * 8 by omega), clF_at hM (by omega), mkCs_at hlt, ← hkk]
        rcases (by omega : j = 0 ∨ j = 1 ∨ j = 2 ∨ j = 3 ∨ j = 4 ∨ j = 5 ∨ j = 6 ∨ j = 7) with rfl | rfl | rfl | rfl | rfl | rfl | rfl | rfl
        · simp [mkC]
        · simp [mkC]
        · simp [mkC]; omega
        · simp [mkC]; omega
        · simp [mkC]; omega
        · simp [mkC]; omega
        · simp [mkC, hk6]
        · simp [mkC, hrb, hk6]
      have HF4 : Hid (Frm B w ((w2.setCell ⟨b, off + m * 8 + 6, none⟩ (.string ⟨(mt k6).toArray⟩)).setCell ⟨b, off + m * 8 + 7, none⟩ (.bool rb))) := ((HF2.out.trans (Frm.of_below hB2)).set hb _).set hb _
      have HK6 := Lib.hid hk6
      have hk62 : k6 + 2 < 1000000000000 := by omega
      clear R3 hB2 hrb hk6 hb e0 z0 e1 z1 e2 z2 e3 z3 e4 z4 e5 z5
      generalize mt k6 = y at *
      go_wp2_with fail
      go_roundw
      case rel => exact ⟨m + 1, kk + 8, by have := HK.out; omega, by omega, by go_num, by have := HK6.out; first | go_num | (congr 1; omega), HR4.out, HF4.out⟩
      case measure => simp [intOf]; omega
    · have hm' : m = l.length := by omega
      have HO : Hid (OwnCols wr B a (mkCs l.length k)) := by
        refine OwnRw.of_row (b := b) (off := off) (by rw [mkCs_len]; exact HA.out) ?_
        rw [mkCs_len]
        exact HW.out.1.congr (fun x hx => by rw [if_pos (by omega)])
      have HK : Hid ((kk : Int) = ((k + 8 * l.length : Nat) : Int)) := by show (kk : Int) = _; rw [hkk, hm']
      have hmi : decide ((m : Int) < (l.length : Int)) = false := by simp; omega
      clear hm' hkk
      go_wp2_with fail
      go_ret
      exact ⟨ret_i HK.out, HO.out, HW.out.2⟩
set_option maxHeartbeats 1600000 in
theorem markInts (l : List Int) (a : Option Addr) (c k : Nat) (B : Nat → Prop) (w : World) (hl : l.length ≤ maxLen) (h1 : k + l.length < 1000000000000) (hS : OwnInts w B a l) :
    Calls Try.prog 15 #[.slice a l.length c, .int .i64 k] w fun e w' => e = .returned (.int .i64 (k + l.length : Nat)) ∧ OwnInts w' B a (mkIs l.length k) ∧ Frm B w w' := by
  unfold maxLen at hl
  obtain ⟨b, off, ha, hrow⟩ := OwnRw.row' hS
  have HA : Hid (0 < l.length → a = some ⟨b, off, none⟩ ∧ B b) := ha
  have HR : Hid (Row w b off l.length (fun m => .int .i64 (l.getD m 0))) := hrow
  clear ha hrow hS
  go_enter Try.func15, Try.ntmps15
  go_wp2_with fail
  go_loopw [1, 5] (fun q i wr => ∃ m : Nat, ∃ kk : Nat, kk = k + m ∧ m ≤ l.length ∧ i = .int .i64 m ∧ q = .int .i64 (kk : Int) ∧ Hid (Row wr b off l.length (fun x => if x < m then .int .i64 ((mkIs l.length k).getD x 0) else .int .i64 (l.getD x 0)) ∧ Frm B w wr)) (fun _ i _ => l.length - (intOf i).toNat)
  case atStart => exact ⟨0, k, rfl, Nat.zero_le _, rfl, rfl, HR.out.congr (fun m _ => by simp), Frm.refl _ _⟩
  case round =>
    obtain ⟨m, kk, hkk, hm, rfl, rfl, HW⟩ := hrel
    by_cases hlt : m < l.length
    · obtain ⟨rfl, hb⟩ := HA.out (by omega)
      have hk1 : kk + 8 < 1000000000008 := by omega
      have HK := Lib.hid hkk
      have hmi : (m : Int) < (l.length : Int) := by omega
      have R1 := HW.out.1
      have e0 : wr.cell? ⟨b, off + m, none⟩ = _ := (R1 m hlt).1
      have z0 : wr.frozen? ⟨b, off + m, none⟩ = _ := (R1 m hlt).2
      have HR4 : Hid (Row (wr.setCell ⟨b, off + m, none⟩ (.int .i64 (kk : Int))) b off l.length (fun x => if x < m + 1 then .int .i64 ((mkIs l.length k).getD x 0) else .int .i64 (l.getD x 0))) := by
        refine (R1.set m hlt (.int .i64 (kk : Int))).congr (fun x hx => ?_)
        have hM : m < (mkIs l.length k).length := by rw [mkIs_len]; exact hlt
        by_cases e : x = m
        · subst e
          rw [if_pos rfl, if_pos (by omega), int_getD hM, mkIs_at hlt, hkk]
        · rw [if_neg e]
          by_cases h2 : x < m
          · rw [if_pos h2, if_pos (by omega)]
          · rw [if_neg h2, if_neg (by omega)]
      have HF4 : Hid (Frm B w (wr.setCell ⟨b, off + m, none⟩ (.int .i64 (kk : Int)))) := HW.out.2.set hb _
      clear R1 hkk HW
      go_wp2_with fail
      go_roundw
      case rel => exact ⟨m + 1, kk + 1, by have := HK.out; omega, by omega, by go_num, by go_num, HR4.out, HF4.out⟩
      case measure => simp [intOf]; omega
    · have hm' : m = l.length := by omega
      have HO : Hid (OwnInts wr B a (mkIs l.length k)) := by
        refine OwnRw.of_row (b := b) (off := off) (by rw [mkIs_len]; exact HA.out) ?_
        rw [mkIs_len]
        exact HW.out.1.congr (fun x hx => by rw [if_pos (by omega)])
      have HK : Hid ((kk : Int) = ((k + l.length : Nat) : Int)) := by show (kk : Int) = _; rw [hkk, hm']
      have hmi : decide ((m : Int) < (l.length : Int)) = false := by simp; omega
      clear hm' hkk
      go_wp2_with fail
      go_ret
      exact ⟨ret_i HK.out, HO.out, HW.out.2⟩
set_option maxRecDepth 100000 in
set_option maxHeartbeats 6400000 in
theorem heldColumns (n : Nat) (a : Option Addr) (c k : Nat) (B : Nat → Prop) (w : World) (h0 : 0 < k) (h1 : k + 8 * n < 1000000000000) (hS : Cols w B a (mkCs n k)) :
    Calls Try.prog 16 #[.slice a n c, .int .i64 k] w fun e w' => e = .returned (.int .i64 (k + 8 * n : Nat)) ∧ Below w.heap.size w w' := by
  have HS : Hid (∀ W, Below w.heap.size w W → Cols W B a (mkCs n k)) := fun W h => hS.later h
  clear hS
  go_enter Try.func16, Try.ntmps16
  go_wp2_with fail
  go_loopw [1, 5] (fun q i wr => ∃ m : Nat, ∃ kk : Nat, kk = k + 8 * m ∧ m ≤ n ∧ i = .int .i64 m ∧ q = .int .i64 (kk : Int) ∧ Hid (Below w.heap.size w wr)) (fun _ i _ => n - (intOf i).toNat)
  case atStart => exact ⟨0, k, rfl, Nat.zero_le _, rfl, rfl, Below.refl _ _⟩
  case round =>
    obtain ⟨m, kk, hkk, hm, rfl, rfl, HW⟩ := hrel
    by_cases hlt : m < n
    · obtain ⟨b, off, rfl, -, -⟩ := (HS.out _ HW.out).at m (by rw [mkCs_len]; exact hlt)
      have CE : Hid (∀ W, Below w.heap.size w W → W.cell? ⟨b, off + m * 8, none⟩ = some (.string ⟨(mt kk).toArray⟩) ∧ W.cell? ⟨b, off + m * 8 + 1, none⟩ = some (.int .i64 ((kk : Int) + 1)) ∧ W.cell? ⟨b, off + m * 8 + 2, none⟩ = some (.int .i64 ((kk : Int) + 1 + 1)) ∧ W.cell? ⟨b, off + m * 8 + 3, none⟩ = some (.int .i64 ((kk : Int) + 1 + 1 + 1)) ∧ W.cell? ⟨b, off + m * 8 + 4, none⟩ = some (.int .i64 ((kk : Int) + 1 + 1 + 1 + 1)) ∧ W.cell? ⟨b, off + m * 8 + 5, none⟩ = some (.int .i64 ((kk : Int) + 1 + 1 + 1 + 1 + 1)) ∧ W.cell? ⟨b, off + m * 8 + 6, none⟩ = some (.string ⟨(mt (kk + 6)).toArray⟩) ∧ W.cell? ⟨b, off + m * 8 + 7, none⟩ = some (.bool (remB (kk + 7)))) := fun W h => by
        obtain ⟨b', off', e, -, hc⟩ := (HS.out _ h).at m (by rw [mkCs_len]; exact hlt)
        simp only [Option.some.injEq, Addr.mk.injEq, and_true] at e
        obtain ⟨rfl, rfl⟩ := e
        have h8 := hc m (by rw [mkCs_len]; exact hlt)
        rw [mkCs_at hlt, ← hkk] at h8
        obtain ⟨c0, c1, c2, c3, c4, c5, c6, c7⟩ := h8
        refine ⟨c0, c1.trans ?_, c2.trans ?_, c3.trans ?_, c4.trans ?_, c5.trans ?_, c6, c7⟩ <;> (simp only [mkC]; congr 2)
      have hk1 : kk + 8 < 1000000000000 := by omega
      have hk0 : 0 < kk := by omega
      have HK := Lib.hid hkk
      clear hkk
      have hmi : (m : Int) < (n : Int) := by omega
      have c0 := (CE.out _ HW.out).1
      go_wp2_with fail
      go_region_with (go_at_call 13; refine (markText kk _ ?_ ?_).mono ?_; omega; omega; rintro e w1 ⟨rfl, hB1⟩; have HW2 : Hid (Below w.heap.size w w1) := HW.out.drew.trans (hB1.mono HW.out.size); have d0 := (CE.out _ HW2.out).1; clear hB1)
      all_goals
        clear c0 d0
        obtain ⟨y, hy⟩ : ∃ y, y = mt kk := ⟨_, rfl⟩
        rw [← hy]
        clear hy
        have hyy : (y != y) = false := by simp
        have d1 := (CE.out _ HW2.out).2.1
        have d2 := (CE.out _ HW2.out).2.2.1
        have d3 := (CE.out _ HW2.out).2.2.2.1
        have d4 := (CE.out _ HW2.out).2.2.2.2.1
        have d5 := (CE.out _ HW2.out).2.2.2.2.2.1
        have d6 := (CE.out _ HW2.out).2.2.2.2.2.2.1
        go_wp2_with fail
        obtain ⟨k6, hk6⟩ : ∃ k6, k6 = kk + 6 := ⟨_, rfl⟩
        rw [show ((kk : Int) + 1 + 1 + 1 + 1 + 1 + 1) = (k6 : Int) by omega]
        rw [← hk6] at d6
        have CE2 : Hid (∀ W, Below w.heap.size w W → W.cell? ⟨b, off + m * 8 + 6, none⟩ = some (.string ⟨(mt k6).toArray⟩) ∧ W.cell? ⟨b, off + m * 8 + 7, none⟩ = some (.bool (remB (k6 + 1)))) := fun W h => by
          obtain ⟨-, -, -, -, -, -, g6, g7⟩ := CE.out W h
          rw [hk6]
          exact ⟨g6, g7⟩
        have HK6 := Lib.hid hk6
        have hk61 : 0 < k6 := by omega
        have hk62 : k6 < 1000000000000 := by omega
        obtain ⟨r, r1, r2, r3, r4, r5⟩ := remT k6 (by omega)
        clear hk6 d1 d2 d3 d4 d5 CE
        go_region_with (go_at_call 13; refine (markText k6 _ ?_ ?_).mono ?_; exact hk61; exact hk62; rintro e w3 ⟨rfl, hB3⟩; have HW3 : Hid (Below w.heap.size w w3) := HW2.out.drew.trans (hB3.mono HW2.out.size); have f6 := (CE2.out _ HW3.out).1; clear hB3)
        all_goals
          clear d6 f6
          obtain ⟨y2, hy2⟩ : ∃ y, y = mt k6 := ⟨_, rfl⟩
          rw [← hy2]
          clear hy2
          have hyy2 : (y2 != y2) = false := by simp
          have f7 := (CE2.out _ HW3.out).2
          obtain ⟨rb, hrb⟩ : ∃ rb, rb = remB (k6 + 1) := ⟨_, rfl⟩
          rw [← hrb] at f7 r5
          clear hrb
          have hrr : (rb != rb) = false := by simp
          go_wp2_with fail
          go_roundw
          case rel => exact ⟨m + 1, kk + 8, by have := HK.out; omega, by omega, by go_num, by have := HK6.out; first | go_num | (congr 1; omega), HW3.out⟩
          case measure => simp [intOf]; omega
    · have hm' : m = n := by omega
      have HK : Hid ((kk : Int) = ((k + 8 * n : Nat) : Int)) := by show (kk : Int) = _; rw [hkk, hm']
      have hmi : decide ((m : Int) < (n : Int)) = false := by simp; omega
      clear hm' hkk
      go_wp2_with fail
      go_ret
      exact ⟨ret_i HK.out, HW.out⟩
set_option maxHeartbeats 1600000 in
theorem heldInts (n : Nat) (a : Option Addr) (c k : Nat) (B : Nat → Prop) (w : World) (h1 : k + n < 1000000000000) (hS : Ints w B a (mkIs n k)) :
    Calls Try.prog 17 #[.slice a n c, .int .i64 k] w fun e w' => e = .returned (.int .i64 (k + n : Nat)) ∧ Below w.heap.size w w' := by
  have HS : Hid (∀ W, Below w.heap.size w W → Ints W B a (mkIs n k)) := fun W h => hS.later h
  clear hS
  go_enter Try.func17, Try.ntmps17
  go_wp2_with fail
  go_loopw [1, 5] (fun q i wr => ∃ m : Nat, ∃ kk : Nat, kk = k + m ∧ m ≤ n ∧ i = .int .i64 m ∧ q = .int .i64 (kk : Int) ∧ Hid (Below w.heap.size w wr)) (fun _ i _ => n - (intOf i).toNat)
  case atStart => exact ⟨0, k, rfl, Nat.zero_le _, rfl, rfl, Below.refl _ _⟩
  case round =>
    obtain ⟨m, kk, hkk, hm, rfl, rfl, HW⟩ := hrel
    by_cases hlt : m < n
    · obtain ⟨b, off, rfl, -, hc⟩ := (HS.out _ HW.out).at m (by rw [mkIs_len]; exact hlt)
      have c0 := hc m (by rw [mkIs_len]; exact hlt)
      rw [mkIs_at hlt, ← hkk] at c0
      clear hc
      have hk1 : kk + 8 < 1000000000008 := by omega
      have HK := Lib.hid hkk
      clear hkk
      have hmi : (m : Int) < (n : Int) := by omega
      have hnn : ((kk : Int) != (kk : Int)) = false := by simp
      go_wp2_with fail
      go_roundw
      case rel => exact ⟨m + 1, kk + 1, by have := HK.out; omega, by omega, by go_num, by go_num, HW.out⟩
      case measure => simp [intOf]; omega
    · have hm' : m = n := by omega
      have HK : Hid ((kk : Int) = ((k + n : Nat) : Int)) := by show (kk : Int) = _; rw [hkk, hm']
      have hmi : decide ((m : Int) < (n : Int)) = false := by simp; omega
      clear hm' hkk
      go_wp2_with fail
      go_ret
      exact ⟨ret_i HK.out, HW.out⟩
end Go.Proofs.Ytphkfgddkngcfaa
