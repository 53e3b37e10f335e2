import Derived.Test.YtnegmpdllbbnhaaZal
import Derived.Test.YtnegmpdllbbnhaaZai
import Derived.Deep.RegionHeld3
namespace Go.Proofs.Ytnegmpdllbbnhaa
open Go.RowKit
set_option linter.unusedSimpArgs false
set_option maxRecDepth 100000 in
set_option maxHeartbeats 6400000 in
theorem copyRowsI (l : List RowV) (a : Option Addr) (c : Nat) (B : Nat → Prop) (w : World) (ho : (dRowS l).le 1048576) (hS : Rd w B (dRowS l) (.slice a l.length c)) :
    Calls Try.prog 29 #[.slice a l.length c] w fun e w' => ∃ g, e = .returned (.slice (some ⟨w.heap.size, 0, none⟩) l.length l.length) ∧ Own w' (dRowS l) (fun d => w.heap.size ≤ d ∧ d < w'.heap.size) (.slice (some ⟨w.heap.size, 0, none⟩) l.length l.length) ∧ w'.rowIs w.heap.size 51 (l.length * 2) g ∧ Below w.heap.size w w' := by
  have hl : l.length ≤ 1048576 := (Ls_le.1 ho).2.1
  have HLL := Lib.hid ho
  have HF : Hid (∀ W, Below w.heap.size w W → Rd W B (Ls 2 dRow l) (.slice a l.length c)) := fun W h => Rd.later hS h
  have hmk := run_mkRowS l.length hl
  have HI : Hid (Below w.heap.size w (w.alloc (.cells (madeCells #[.int .i64 0, .slice none 0 0] (l.length * 2)) 51)) ∧ TS (w.alloc (.cells (madeCells #[.int .i64 0, .slice none 0 0] (l.length * 2)) 51)) 51 2 l.length (lsF dRow l) w.heap.size 0) := ⟨below_allocD _ _, TS.start w #[.int .i64 0, .slice none 0 0] 51 2 l.length (lsF dRow l)⟩
  clear hS ho
  go_enter Try.func29, Try.ntmps29
  go_wp2_with fail
  clear hmk
  go_loopw [10] (fun t wq => ∃ k : Nat, k ≤ l.length ∧ t = .int .i64 k ∧ Hid (Below w.heap.size w wq ∧ TS wq 51 2 l.length (lsF dRow l) w.heap.size k)) (fun t _ => l.length - (intOf t).toNat)
  case atStart => exact ⟨0, Nat.zero_le _, rfl, HI.out⟩
  case round =>
    obtain ⟨k, hk, rfl, HQ⟩ := hrel
    by_cases hkl : k < l.length
    case neg =>
      have hkd : decide ((k : Int) < (l.length : Int)) = false := by simp; omega
      have hkm : k = l.length := by omega
      have HKM := Lib.hid hkm
      clear hkm
      go_wp2_with fail
      go_ret
      have hts := HQ.out.2
      rw [HKM.out] at hts
      obtain ⟨g, hg⟩ := hts.row
      exact ⟨g, rfl, TS.done (by omega) hts, hg, HQ.out.1⟩
    have hk1 : (k : Int) < (l.length : Int) := by omega
    obtain ⟨rb, roff, rfl, -, hcc⟩ := (HF.out _ HQ.out.1).things k hkl
    obtain ⟨u0, e0, q0⟩ := hcc 0 (by omega)
    obtain rfl : u0 = .int .i64 l[k].id := q0
    obtain ⟨u1, e1, q1⟩ := hcc 1 (by omega)
    replace q1 : Rd wr B (dAtomSS l[k].cells) u1 := q1
    obtain ⟨sa, sq, rfl⟩ := q1.lsSlice
    have CR := Lib.hid (copyRowI l[k] rb (roff + k * 2) sa sq B wr ((Ls_le.1 HLL.out).2.2 k hkl 1 (by omega)) q1 e0 e1)
    have HFK : Hid (lsF dRow l k = dRow l[k]) := lsF_at hkl
    clear q1 hcc e0 e1
    generalize l[k] = y at *
    go_wp2_with fail
    refine CR.out.mono ?_
    rintro e w1 ⟨q, rfl, hown, hB1⟩
    have oc : Owns w1 2 (dRow y) (vat [.int .i64 y.id, .slice (some ⟨q, 0, none⟩) y.cells.length y.cells.length]) (fun c => wr.heap.size ≤ c ∧ c < w1.heap.size) := ⟨fun j c => j = 1 ∧ wr.heap.size ≤ c ∧ c < w1.heap.size, fun _ _ h => h.2, fun _ _ _ h h' => by omega, fun j hj => by
      rcases (by omega : j = 0 ∨ j = 1) with rfl | rfl
      · rfl
      · exact hown.mono (fun c h => ⟨rfl, h⟩)⟩
    have hst : TS ((w1.setCell ⟨w.heap.size, k * 2, none⟩ (.int .i64 y.id)).setCell ⟨w.heap.size, k * 2 + 1, none⟩ (.slice (some ⟨q, 0, none⟩) y.cells.length y.cells.length)) 51 2 l.length (lsF dRow l) w.heap.size (k + 1) := HQ.out.2.step hB1 (vat [.int .i64 y.id, .slice (some ⟨q, 0, none⟩) y.cells.length y.cells.length]) (by rw [HFK.out]; exact oc)
    have BW2 : Hid (Below w.heap.size w ((w1.setCell ⟨w.heap.size, k * 2, none⟩ (.int .i64 y.id)).setCell ⟨w.heap.size, k * 2 + 1, none⟩ (.slice (some ⟨q, 0, none⟩) y.cells.length y.cells.length))) := ((HQ.out.1.trans (hB1.mono HQ.out.1.size)).setCell (Nat.le_refl _) _).setCell (Nat.le_refl _) _
    have HST := Lib.hid hst
    obtain ⟨g, hg⟩ := HQ.out.2.row
    have hg1 := hg.of_block (hB1.block _ hg.lt)
    have e0 := hg1.cell (i := k * 2) (by omega)
    have z0 := hg1.frozen (k * 2)
    have e1 := hg1.cell (i := k * 2 + 1) (by omega)
    have z1 := hg1.frozen (k * 2 + 1)
    clear hg hg1 hB1 hown oc hst
    go_wp2_with fail
    go_roundw
    case rel => exact ⟨k + 1, by omega, by go_num, BW2.out, HST.out⟩
    case measure => simp [intOf]; omega
end Go.Proofs.Ytnegmpdllbbnhaa
