import Derived.Test.YtodgijhpokjjhaaDoorZbd
import Derived.Lib.ItoaWalk
import Derived.Lib.ItoaMem
import Derived.Lib.AppendIntMem
import Derived.Lib.ItoaLen
import Derived.Lib.Hide
import Derived.CellFam
import Derived.BigCall
import Derived.BigGuard
namespace Go.Proofs.YtodgijhpokjjhaaDoor
open Go.RowKit Go.Sort
set_option linter.unusedSimpArgs false
theorem dig_eq (u : Nat) : Lib.decDigits u = dig u := by
  induction u using Nat.strongRecOn with
  | _ u ih =>
    rw [Lib.decDigits, dig]
    by_cases h : u < 10
    · rw [dif_pos h, if_pos h]
    · rw [dif_neg h, if_neg h, ih (u / 10) (by omega)]
theorem digits20 {u : Nat} (h : u < 18446744073709551616) : Lib.nDigits u ≤ 20 := by
  by_cases h0 : u = 0
  · subst h0; rw [Lib.nDigits_small (by omega)]; omega
  · have := Lib.numDigits_eq u (by omega) h
    split at this <;> omega
set_option maxHeartbeats 6400000 in
set_option maxRecDepth 100000 in
theorem appUintS (B u : Nat) (hu : u < 100) (v : Value) (bs : List UInt8) (w : World) (hb : Buf w B v bs) (hB : B ≤ w.heap.size) (hl : bs.length ≤ 1000000000000) :
    Calls Tryd.prog 35 #[v, .int .u64 u, .int .i64 10] w fun e w' => ∃ v', e = .returned v' ∧ Buf w' B v' (bs ++ dig u) ∧ App w v w' v' := by
  have hlen : (dig u).length ≤ 20 := by rw [← dig_eq, Lib.decDigits_length]; exact digits20 (by omega)
  have hpos : (⟨(Lib.decDigits u).toArray⟩ : ByteArray).size = (dig u).length := by rw [dig_eq]; simp [ByteArray.size]
  have hd : (⟨(Lib.decDigits u).toArray⟩ : ByteArray).data.toList = dig u := by rw [dig_eq]
  have HD : Hid ((⟨(Lib.decDigits u).toArray⟩ : ByteArray).size = (dig u).length ∧ (⟨(Lib.decDigits u).toArray⟩ : ByteArray).data.toList = dig u) := ⟨hpos, hd⟩
  clear hpos hd
  go_enter Tryd.func35, Tryd.ntmps35
  go_wp2_with (first
    | (go_at_call 37; refine (Tryd.internal_strconv_small u hu _).mono ?_; rintro e w' ⟨rfl, rfl⟩)
    | (at_builtin; refine wpList_puts rfl _ _ rfl B v bs ⟨(Lib.decDigits u).toArray⟩ rfl rfl hb hB (by rw [HD.out.1]; omega) ?_; intro v' w1 hb1 ha1))
  go_ret
  exact ⟨v', rfl, by rw [← HD.out.2]; exact hb1, ha1⟩
theorem fmtW (u : Nat) (T : TypeId) (w : World) (hu64 : u < 18446744073709551616) :
    Calls Tryd.prog 39 #[.slice (some ⟨w.heap.size, 0, none⟩) (Lib.nDigits u) 24, .int .u64 u] (w.alloc (.cells Lib.zeros24 T)) fun e w' =>
      e = .returned (.tuple #[]) ∧ Below w.heap.size w w' ∧ ∀ j c, (Lib.byteCells (dig u))[j]? = some c → w'.cell? ((⟨w.heap.size, 0, none⟩ : Addr).add j) = some c := by
  have h20 := digits20 hu64
  have hH := Lib.holds_zero0 w T (Lib.nDigits u) (by omega)
  have h := Tryd.internal_strconv_formatBase10 w.heap.size 0 24 u (Array.replicate (Lib.nDigits u) 0) _ hH (by rw [Array.size_replicate]; exact Lib.lt_pow_nDigits u) hu64 (by rw [Array.size_replicate]; omega)
  rw [Array.size_replicate] at h
  refine h.mono ?_
  rintro e w' ⟨rfl, k, v', dk, rfl, hF⟩
  obtain ⟨os, eo⟩ := Lib.fin_at w (.cells Lib.zeros24 T) dk k 0
  refine ⟨rfl, by rw [eo]; exact Lib.below_grow _ w (Nat.le_refl _) k os, fun j c hj => ?_⟩
  rw [← dig_eq] at hj
  have hjl : j < (Lib.decDigits u).length := by
    have := (List.getElem?_eq_some_iff.1 hj).1
    rwa [Lib.byteCells_length] at this
  have hnd : j < Lib.nDigits u := by rw [Lib.decDigits_length] at hjl; exact hjl
  have hcell := cell?_putRow (fun (b : UInt8) => Value.int .u8 (b.toNat : Int)) _ w.heap.size 0 _ dk hH (by rw [hF.size, Array.size_replicate]) j (by rw [hF.size]; exact hnd)
  rw [Lib.add_plain, World.cell?_drewN, hcell, ← hj]
  simp [Lib.byteCells, hjl, Lib.row_is_numeral hF j hjl]
set_option maxHeartbeats 6400000 in
set_option maxRecDepth 100000 in
theorem appUintB (B u : Nat) (hu : 100 ≤ u) (hu64 : u < 18446744073709551616) (v : Value) (bs : List UInt8) (w : World) (hb : Buf w B v bs) (hB : B ≤ w.heap.size) (hl : bs.length ≤ 1000000000000)
    (htab : Lib.TabIs Tryd.prog w "internal/strconv.uint64pow10" .u64 Lib.pow10Tab) :
    Calls Tryd.prog 35 #[v, .int .u64 u, .int .i64 10] w fun e w' => ∃ v', e = .returned v' ∧ Buf w' B v' (bs ++ dig u) ∧ App w v w' v' := by
  have h20 := digits20 hu64
  have hlen : (dig u).length = Lib.nDigits u := by rw [← dig_eq, Lib.decDigits_length]
  have hpos : 0 < (dig u).length := by rw [dig_big (by omega)]; simp
  have HL : Hid ((dig u).length = Lib.nDigits u ∧ 0 < (dig u).length) := ⟨hlen, hpos⟩
  clear hlen hpos
  have hsl : ∀ W, (Instr.sliceAt 66 (.pointer (some ⟨w.heap.size, 0, none⟩)) none (some (.int .i64 (Lib.nDigits u : Int))) none).run Tryd.prog W = .ok (.slice (some ⟨w.heap.size, 0, none⟩) (Lib.nDigits u) 24) W := fun W => by
    rw [run_sliceAt_array_h W 66 ⟨w.heap.size, 0, none⟩ (by simp [Program.arrayLen, Program.elem, Tryd.underlying66]) .i64 (Lib.nDigits u : Int) (by omega) (by simp [Program.arrayLen, Tryd.underlying66]; omega)]
    simp [Program.arrayLen, Tryd.underlying66]
    go_simp
  have hfm := fmtW u 66 w hu64
  have iu : (100 : Int) ≤ (u : Int) := by omega
  go_enter Tryd.func35, Tryd.ntmps35
  go_wp2_with (first
    | (go_at_call 38; refine (Tryd.internal_strconv_numDigits u (by omega) hu64 _ (Lib.tabIs_alloc htab _)).mono ?_; rintro e w' ⟨rfl, rfl⟩)
    | (go_at_call 39; refine hfm.mono ?_; rintro e w2 ⟨rfl, hB2, hc2⟩)
    | (at_builtin; refine wpList_pushL rfl _ _ rfl B v bs (dig u) ⟨w.heap.size, 0, none⟩ (Lib.nDigits u) 24 rfl rfl HL.out.1 (hb.on hB2) (Nat.le_trans hB hB2.size) (by rw [HL.out.1]; omega) HL.out.2 hc2 ?_; intro v' w3 hb3 ha3))
  go_ret
  exact ⟨v', rfl, hb3, (App.of_below hB2).trans ha3⟩
theorem appUint (B u : Nat) (hu64 : u < 18446744073709551616) (v : Value) (bs : List UInt8) (w : World) (hb : Buf w B v bs) (hB : B ≤ w.heap.size) (hl : bs.length ≤ 1000000000000)
    (htab : Lib.TabIs Tryd.prog w "internal/strconv.uint64pow10" .u64 Lib.pow10Tab) :
    Calls Tryd.prog 35 #[v, .int .u64 u, .int .i64 10] w fun e w' => ∃ v', e = .returned v' ∧ Buf w' B v' (bs ++ dig u) ∧ App w v w' v' := by
  by_cases h : u < 100
  · exact appUintS B u h v bs w hb hB hl
  · exact appUintB B u (by omega) hu64 v bs w hb hB hl htab
end Go.Proofs.YtodgijhpokjjhaaDoor
