import Derived.Test.YtooiejlbnddfmaaTo
import Derived.Test.YtooiejlbnddfmaaHeld
namespace Go.Proofs.Ytooiejlbnddfmaa
open Go.RowKit
set_option maxHeartbeats 400000 in
theorem toStrsO (keys : List (List UInt8)) (a : Option Addr) (c : Nat) (S : Nat) (w : World) (hw : S ≤ w.heap.size) (hl : keys.length ≤ 1048576) (hS : Strs w (· < S) a keys) :
    Calls Try.prog 18 #[.slice a keys.length c] w fun e w' => e = .returned (.slice (some ⟨w.heap.size, 0, none⟩) keys.length keys.length) ∧ OwnStrs w' (· = w.heap.size) (some ⟨w.heap.size, 0, none⟩) keys ∧ Below w.heap.size w w' := by
  have HS : Hid (Strs w (· < S) a keys) := hS
  clear hS
  have hmk := run_make_row' (P := Try.prog) 29 9 (.string ⟨#[]⟩) 16 Try.underlying29 info9 rfl .i64 .i64 keys.length (by omega) (by omega)
  go_enter Try.func18, Try.ntmps18
  go_wp2_with fail
  have hr0 := World.rowIs_made w (.string ⟨#[]⟩) keys.length 9
  go_loopw [4] (fun i wr => ∃ k : Nat, k ≤ keys.length ∧ i = .int .i64 k ∧ Below w.heap.size w wr ∧ Hid (wr.rowIs w.heap.size 9 keys.length (fun m => if m < k then .string ⟨(keys.getD m []).toArray⟩ else .string ⟨#[]⟩))) (fun i _ => keys.length - (intOf i).toNat)
  case atStart => exact ⟨0, Nat.zero_le _, rfl, (Below.refl _ _).alloc (Nat.le_refl _) _, hr0.congr (fun i _ => by simp)⟩
  case round =>
    obtain ⟨k, hk, rfl, hB, HR⟩ := hrel
    by_cases hlt : k < keys.length
    · obtain ⟨b, off, rfl, hbw, hc⟩ : ∃ b off, a = some ⟨b, off, none⟩ ∧ b < w.heap.size ∧ wr.cell? ⟨b, off + k, none⟩ = some (.string ⟨(keys.getD k []).toArray⟩) := by
        rcases HS.out.below (hB.mono hw) with h | ⟨b, off, ha, hb, hc⟩
        · omega
        · exact ⟨b, off, ha, by omega, by rw [hc k hlt, List.getD_eq_getElem?_getD, List.getElem?_eq_getElem hlt]; rfl⟩
      have ho := HR.out.cell hlt
      have hfz := HR.out.frozen k
      generalize hx : keys.getD k [] = x at *
      have HX : Hid (keys.getD k [] = x) := hx
      clear hx
      go_wp2_with fail
      go_roundw
      case rel =>
        refine ⟨k + 1, by omega, by go_num, hB.setCell (Nat.le_refl _) _, (HR.out.set k _).congr (fun m hm => ?_)⟩
        by_cases e : m = k
        · subst e; rw [if_pos rfl, if_pos (by omega), HX.out]
        · rw [if_neg e]
          by_cases e2 : m < k
          · rw [if_pos e2, if_pos (by omega)]
          · rw [if_neg e2, if_neg (by omega)]
      case measure => simp [intOf]; omega
    · have hk' : k = keys.length := by omega
      go_wp2_with fail
      go_ret
      refine ⟨rfl, ?_, hB⟩
      by_cases hz : keys.length = 0
      · exact .inl hz
      · refine .inr ⟨_, 0, rfl, rfl, fun i hi => ⟨?_, by rw [Nat.zero_add]; exact HR.out.frozen i⟩⟩
        have := HR.out.cell hi
        rw [Nat.zero_add, this, if_pos (by omega), List.getD_eq_getElem?_getD, List.getElem?_eq_getElem hi]; rfl


theorem bounds_mono {L : Nat → Nat} {k : Nat} (h : ∀ i, i < k → L i ≤ L (i + 1)) : ∀ i i', i ≤ i' → i' ≤ k → L i ≤ L i'
  | i, 0, h1, _ => by rw [show i = 0 by omega]; exact Nat.le_refl _
  | i, i' + 1, h1, h2 => by
    by_cases e : i = i' + 1
    · rw [e]; exact Nat.le_refl _
    · exact Nat.le_trans (bounds_mono h i i' (by omega) (by omega)) (h i' (by omega))
end Go.Proofs.Ytooiejlbnddfmaa
