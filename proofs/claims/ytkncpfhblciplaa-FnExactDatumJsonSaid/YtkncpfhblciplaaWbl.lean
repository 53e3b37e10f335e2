import Derived.Test.YtkncpfhblciplaaWan
import Derived.Test.YtkncpfhblciplaaWap
namespace Go.Proofs.Ytkncpfhblciplaa
open Go.RowKit
set_option linter.unusedSimpArgs false
def markAt (k i : Nat) : At := ⟨((k + 3 * i : Nat) : Int), ((k + 3 * i + 1 : Nat) : Int), mt (k + 3 * i + 2)⟩
def marksA (n k : Nat) : List At := (List.range n).map (markAt k)
theorem marksA_len (n k : Nat) : (marksA n k).length = n := by simp [marksA]
theorem marksA_at {n k i : Nat} (h : i < n) : (marksA n k)[i]'(by rw [marksA_len]; exact h) = markAt k i := by simp [marksA]
theorem OwnAts.row {w : World} {B : Nat → Prop} {a : Option Addr} {l : List At} (h : OwnAts w B a l) : ∃ b off, (0 < l.length → a = some ⟨b, off, none⟩ ∧ B b) ∧ Row w b off (l.length * 3) (atF l) := by
  rcases h with h | ⟨b, off, ha, hb, hc⟩
  · exact ⟨0, 0, fun h' => absurd h (by omega), fun m hm => absurd hm (by omega)⟩
  · exact ⟨b, off, fun _ => ⟨ha, hb⟩, hc⟩
theorem OwnAts.of_row {w : World} {B : Nat → Prop} {a : Option Addr} {l : List At} {b off : Nat} (ha : 0 < l.length → a = some ⟨b, off, none⟩ ∧ B b) (h : Row w b off (l.length * 3) (atF l)) : OwnAts w B a l := by
  by_cases h0 : l.length = 0
  · exact .inl h0
  · exact .inr ⟨b, off, (ha (by omega)).1, (ha (by omega)).2, h⟩
set_option maxHeartbeats 1600000 in
theorem markAtoms (l : List At) (a : Option Addr) (c k : Nat) (B : Nat → Prop) (w : World) (hl : l.length ≤ maxLen) (h0 : 0 < k) (h1 : k + 3 * l.length < 1000000000000) (hS : OwnAts w B a l) :
    Calls Try.prog 25 #[.slice a l.length c, .int .i64 k] w fun e w' => e = .returned (.int .i64 (k + 3 * l.length : Nat)) ∧ OwnAts w' B a (marksA l.length k) ∧ Frm B w w' := by
  unfold maxLen at hl
  obtain ⟨b, off, ha, hrow⟩ := hS.row
  have HA : Hid (0 < l.length → a = some ⟨b, off, none⟩ ∧ B b) := ha
  have HR : Hid (Row w b off (l.length * 3) (atF l)) := hrow
  clear ha hrow hS
  go_enter Try.func25, Try.ntmps25
  go_wp2_with fail
  go_loopw [1, 5] (fun q i wr => ∃ m : Nat, ∃ kk : Nat, kk = k + 3 * m ∧ m ≤ l.length ∧ i = .int .i64 m ∧ q = .int .i64 (kk : Int) ∧ Hid (Row wr b off (l.length * 3) (fun x => if x < m * 3 then atF (marksA l.length k) x else atF l x) ∧ Frm B w wr)) (fun _ i _ => l.length - (intOf i).toNat)
  case atStart => exact ⟨0, k, rfl, Nat.zero_le _, rfl, rfl, HR.out.congr (fun m _ => by simp), Frm.refl _ _⟩
  case round =>
    obtain ⟨m, kk, hkk, hm, rfl, rfl, HW⟩ := hrel
    by_cases hlt : m < l.length
    · obtain ⟨rfl, hb⟩ := HA.out (by omega)
      have hk1 : kk + 3 < 1000000000000 := by omega
      have hk0 : 0 < kk := by omega
      have R0 := HW.out.1
      have e0 := (R0 (m * 3) (by omega)).1
      have z0 := (R0 (m * 3) (by omega)).2
      have e1 : wr.cell? ⟨b, off + m * 3 + 1, none⟩ = _ := (R0 (m * 3 + 1) (by omega)).1
      have z1 : wr.frozen? ⟨b, off + m * 3 + 1, none⟩ = _ := (R0 (m * 3 + 1) (by omega)).2
      have R2 : Row ((wr.setCell ⟨b, off + m * 3, none⟩ (.int .i64 (kk : Int))).setCell ⟨b, off + m * 3 + 1, none⟩ (.int .i64 ((kk : Int) + 1))) b off (l.length * 3) _ := (R0.set (m * 3) (by omega) (.int .i64 (kk : Int))).set (m * 3 + 1) (by omega) (.int .i64 ((kk : Int) + 1))
      have HR2 : Hid (Row ((wr.setCell ⟨b, off + m * 3, none⟩ (.int .i64 (kk : Int))).setCell ⟨b, off + m * 3 + 1, none⟩ (.int .i64 ((kk : Int) + 1))) b off (l.length * 3) _) := R2
      have HF2 : Hid (Frm B w ((wr.setCell ⟨b, off + m * 3, none⟩ (.int .i64 (kk : Int))).setCell ⟨b, off + m * 3 + 1, none⟩ (.int .i64 ((kk : Int) + 1)))) := (HW.out.2.set hb _).set hb _
      have HK : Hid (kk = k + 3 * m ∧ B b) := ⟨hkk, hb⟩
      clear R0 R2 hkk hb
      have hmi : (m : Int) < (l.length : Int) := by omega
      go_wp2_with fail
      rw [show ((kk : Int) + 1 + 1) = ((kk + 2 : Nat) : Int) by omega]
      refine (markText (kk + 2) _ (by omega) (by omega)).mono ?_
      rintro e w1 ⟨rfl, hB1⟩
      have R3 := HR2.out.later hB1
      have e2 : w1.cell? ⟨b, off + m * 3 + 2, none⟩ = _ := (R3 (m * 3 + 2) (by omega)).1
      have z2 : w1.frozen? ⟨b, off + m * 3 + 2, none⟩ = _ := (R3 (m * 3 + 2) (by omega)).2
      have HR4 : Hid (Row (w1.setCell ⟨b, off + m * 3 + 2, none⟩ (.string ⟨(mt (kk + 2)).toArray⟩)) b off (l.length * 3) (fun x => if x < (m + 1) * 3 then atF (marksA l.length k) x else atF l x)) := by
        refine (R3.set (m * 3 + 2) (by omega) _).congr (fun x hx => ?_)
        have hkk := HK.out.1
        have hM : m < (marksA l.length k).length := by rw [marksA_len]; exact hlt
        rcases (by omega : x < m * 3 ∨ x = m * 3 ∨ x = m * 3 + 1 ∨ x = m * 3 + 2 ∨ (m + 1) * 3 ≤ x) with h | rfl | rfl | rfl | h
        · simp only [show ¬ x = m * 3 + 2 by omega, show ¬ x = m * 3 + 1 by omega, show ¬ x = m * 3 by omega, if_false, if_pos h, if_pos (show x < (m + 1) * 3 by omega)]
        · rw [if_pos (show m * 3 < (m + 1) * 3 by omega), atF0 hM, marksA_at hlt]
          simp [markAt, hkk]
        · rw [if_pos (show m * 3 + 1 < (m + 1) * 3 by omega), atF1 hM, marksA_at hlt]
          simp [markAt, hkk]
        · rw [if_pos (show m * 3 + 2 < (m + 1) * 3 by omega), atF2 hM, marksA_at hlt]
          simp [markAt, hkk]
        · simp only [show ¬ x = m * 3 + 2 by omega, show ¬ x = m * 3 + 1 by omega, show ¬ x = m * 3 by omega, if_false, if_neg (show ¬ x < m * 3 by omega), if_neg (show ¬ x < (m + 1) * 3 by omega)]
      have HF4 : Hid (Frm B w (w1.setCell ⟨b, off + m * 3 + 2, none⟩ (.string ⟨(mt (kk + 2)).toArray⟩))) := (HF2.out.trans (Frm.of_below hB1)).set HK.out.2 _
      clear R3 hB1 e0 e1 z0 z1
      generalize mt (kk + 2) = y at *
      go_wp2_with fail
      go_roundw
      case rel => exact ⟨m + 1, kk + 3, by have := HK.out.1; omega, by omega, by go_num, by go_num, HR4.out, HF4.out⟩
      case measure => simp [intOf]; omega
    · have hm' : m = l.length := by omega
      have HO : Hid (OwnAts wr B a (marksA l.length k)) := by
        refine OwnAts.of_row (b := b) (off := off) (by rw [marksA_len]; exact HA.out) ?_
        rw [marksA_len]
        exact HW.out.1.congr (fun x hx => by rw [if_pos (by omega)])
      have HK : Hid ((kk : Int) = ((k + 3 * l.length : Nat) : Int)) := by show (kk : Int) = _; rw [hkk, hm']
      have hmi : decide ((m : Int) < (l.length : Int)) = false := by simp; omega
      clear hm' hkk
      go_wp2_with fail
      go_ret
      exact ⟨ret_i HK.out, HO.out, HW.out.2⟩
end Go.Proofs.Ytkncpfhblciplaa
