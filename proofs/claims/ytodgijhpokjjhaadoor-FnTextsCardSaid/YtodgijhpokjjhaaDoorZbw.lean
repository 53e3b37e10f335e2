import Derived.Test.YtodgijhpokjjhaaDoorZbu
import Derived.Test.YtodgijhpokjjhaaDoorZbv
namespace Go.Proofs.YtodgijhpokjjhaaDoor
open Go.RowKit
set_option linter.unusedSimpArgs false
def faF (l : List (List UInt8)) : Fr := if 4096 < l.length then fr0 else (feedL fr0 l.flatten).1
def faO (l : List (List UInt8)) : List (List UInt8) := if 4096 < l.length then [] else (feedL fr0 l.flatten).2
def faC (l : List (List UInt8)) : Int := if 4096 < l.length then 2 else 0
theorem flat_take (l : List (List UInt8)) (k : Nat) (h : k < l.length) : (l.take (k + 1)).flatten = (l.take k).flatten ++ l[k] := by
  rw [List.take_succ_eq_append_getElem h, List.flatten_append]; simp
theorem flat_le (l : List (List UInt8)) (k : Nat) : (l.take k).flatten.length ≤ l.flatten.length := by
  conv => rhs; rw [← List.take_append_drop k l, List.flatten_append, List.length_append]
  omega
theorem item_le (l : List (List UInt8)) (k : Nat) (h : k < l.length) : l[k].length ≤ l.flatten.length := by
  have h1 := flat_le l (k + 1)
  rw [flat_take l k h, List.length_append] at h1
  omega
theorem strs_item {W : World} {B : Nat → Prop} {a : Option Addr} {l : List (List UInt8)} (h : Strs W B a l) (k : Nat) (hk : k < l.length) : ∃ b off, a = some ⟨b, off, none⟩ ∧ W.cell? ⟨b, off + k, none⟩ = some (.string ⟨l[k].toArray⟩) := by
  rcases h with h | ⟨b, off, ha, _, hc⟩
  · omega
  · exact ⟨b, off, ha, hc k hk⟩
set_option maxRecDepth 100000 in
set_option maxHeartbeats 6400000 in
theorem allI (l : List (List UInt8)) (pa : Option Addr) (ca : Nat) (S : Nat) (w : World) (hl : l.length ≤ 1048576) (hf : l.flatten.length ≤ 1048576) (hw : S ≤ w.heap.size) (hS : Strs w (· < S) pa l) :
    Calls Tryd.prog 6 #[.slice pa l.length ca] w (FdAns3 w (faF l) (faO l) (faC l)) := by
  have HS0 : Hid (Strs w (· < S) pa l) := hS
  clear hS
  by_cases h1 : 4096 < l.length
  · have HR : Hid (faF l = fr0 ∧ faO l = [] ∧ faC l = 2) := ⟨by unfold faF; rw [if_pos h1], by unfold faO; rw [if_pos h1], by unfold faC; rw [if_pos h1]⟩
    have d1 : decide (4096 < (l.length : Int)) = true := decide_eq_true (by omega)
    go_enter Tryd.func6, Tryd.ntmps6
    go_wp2_with fail
    refine bodyPost_ret (v := .tuple #[.agg #[.string ⟨#[]⟩, .int .i64 0, .bool false, .bool false, .bool false], .slice none 0 0, .int .i64 2]) (by simp [results, Tryd.results6, go_sem]) rfl ?_
    rw [HR.out.1, HR.out.2.1, HR.out.2.2]
    exact ⟨none, 0, rfl, (Below.refl _ _).alloc (Nat.le_refl _) _, OB.nil _ _ _⟩
  have d1 : decide (4096 < (l.length : Int)) = false := decide_eq_false (by omega)
  have HR : Hid (faF l = (feedL fr0 l.flatten).1 ∧ faO l = (feedL fr0 l.flatten).2 ∧ faC l = 0) := ⟨by unfold faF; rw [if_neg h1], by unfold faO; rw [if_neg h1], by unfold faC; rw [if_neg h1]⟩
  have HF : Hid (∀ k, (l.take k).flatten.length ≤ 1048576) := fun k => Nat.le_trans (flat_le l k) hf
  have HI : Hid (∀ k (h : k < l.length), l[k].length ≤ 1048576) := fun k h => Nat.le_trans (item_le l k h) hf
  have H0 := Lib.hid (FrS.new (w.alloc (frB fr0)) fr0 (.slice none 0 0) (OB.nil _ _ _))
  have hsz : (w.alloc (frB fr0)).heap.size = w.heap.size + 1 := by simp
  rw [hsz] at H0
  have HB0 : Hid (Below w.heap.size w (w.alloc (frB fr0))) := (Below.refl _ _).alloc (Nat.le_refl _) _
  have HX : Hid (∀ W g o, FrS (w.alloc (frB fr0)) (w.heap.size + 1) W g o → W.heap[w.heap.size]? = some (frB fr0) ∧ Below w.heap.size w W) := fun W g o ⟨vb, ve, h⟩ => ⟨kept (heap_new' w (frB fr0)) h.bel, HB0.out.trans (h.bel.mono (by rw [hsz]; omega))⟩
  clear h1 hsz
  go_enter Tryd.func6, Tryd.ntmps6
  go_wp2_with fail
  go_loopw [13] (fun i wr => ∃ k : Nat, k ≤ l.length ∧ i = .int .i64 k ∧ Hid (FrS (w.alloc (frB fr0)) (w.heap.size + 1) wr (feedL fr0 (l.take k).flatten).1 (feedL fr0 (l.take k).flatten).2)) (fun i _ => l.length - (intOf i).toNat)
  case atStart => exact ⟨0, Nat.zero_le _, rfl, H0.out⟩
  case round =>
    obtain ⟨k, hk, rfl, HS⟩ := hrel
    by_cases hlt : k < l.length
    · have hki : (k : Int) < (l.length : Int) := by omega
      obtain ⟨b, off, rfl, hcl⟩ := strs_item (HS0.out.below ((HX.out _ _ _ HS.out).2.mono hw)) k hlt
      have FE : Hid (∀ W, FrS (w.alloc (frB fr0)) (w.heap.size + 1) W (feedL fr0 (l.take k).flatten).1 (feedL fr0 (l.take k).flatten).2 → Calls Tryd.prog 12 #[.pointer (some ⟨w.heap.size + 1, 0, none⟩), .string ⟨l[k].toArray⟩] W (fun e W' => e = .returned (.tuple #[]) ∧ FrS (w.alloc (frB fr0)) (w.heap.size + 1) W' (feedL fr0 (l.take (k + 1)).flatten).1 (feedL fr0 (l.take (k + 1)).flatten).2)) := fun W h => by
        have h2 := feedI ⟨l[k].toArray⟩ h (inv_feed inv0 _) (by
          have e1 := out_len fr0 (l.take k).flatten
          have e2 := (inv_feed inv0 (l.take k).flatten).len
          have e3 := HF.out k
          have e4 := HI.out k hlt
          show _ + _ + l[k].toArray.size ≤ _
          simp only [List.size_toArray]
          simp [fr0] at e1
          simp [fr0] at *
          omega)
        have e : (⟨l[k].toArray⟩ : ByteArray).data.toList = l[k] := rfl
        rw [e] at h2
        rw [flat_take l k hlt, feed_app]
        exact h2
      generalize l[k] = s at *
      go_wp2_with (go_at_call 12; refine (FE.out _ HS.out).mono ?_; rintro e w2 ⟨rfl, hs2⟩)
      go_roundw
      case rel => exact ⟨k + 1, by omega, by go_num, hs2⟩
      case measure => simp [intOf]; omega
    · have hmi : decide ((k : Int) < (l.length : Int)) = false := by simp; omega
      rw [List.take_of_length_le (by omega)] at HS
      obtain ⟨g, hg⟩ : ∃ g, g = (feedL fr0 l.flatten).1 := ⟨_, rfl⟩
      obtain ⟨o, ho⟩ : ∃ o, o = (feedL fr0 l.flatten).2 := ⟨_, rfl⟩
      rw [← hg, ← ho] at HS HR
      clear hg ho HF HI
      obtain ⟨ba, bp, ea, ep, hso⟩ := HS.out.open
      have HSD : Hid (FrS (w.alloc (frB fr0)) (w.heap.size + 1) wr.drew g o) := ⟨_, _, hso.drew⟩
      have HSO := Lib.hid hso.drew
      have c5 := hso.cell.2.2.2.2.2
      have HR0 := Lib.hid (HX.out _ _ _ HSD.out)
      clear hso
      have FIN : Hid (∀ w4, Below wr.drew.heap.size wr.drew w4 → ∀ y0 y1 y2 y3 y4, Below w.heap.size w (((((w4.setCell ⟨w.heap.size, 0, none⟩ y0).setCell ⟨w.heap.size, 1, none⟩ y1).setCell ⟨w.heap.size, 2, none⟩ y2).setCell ⟨w.heap.size, 3, none⟩ y3).setCell ⟨w.heap.size, 4, none⟩ y4) ∧ OB (((((w4.setCell ⟨w.heap.size, 0, none⟩ y0).setCell ⟨w.heap.size, 1, none⟩ y1).setCell ⟨w.heap.size, 2, none⟩ y2).setCell ⟨w.heap.size, 3, none⟩ y3).setCell ⟨w.heap.size, 4, none⟩ y4) w.heap.size 9 (.slice ea o.length ep) (sc o)) := fun w4 hB y0 y1 y2 y3 y4 => by
        have hb := HR0.out.2.trans (hB.mono HR0.out.2.size)
        have hoe := (HSO.out.on hB).oe
        have hn : w.heap.size ≤ w.heap.size := Nat.le_refl _
        refine ⟨((((hb.setCell hn y0).setCell hn y1).setCell hn y2).setCell hn y3).setCell hn y4, (hoe.mono (by simp)).same (fun q hq => ?_)⟩
        have hk : q ≠ w.heap.size := by have := (hoe.lt hq).1; simp at this; omega
        rw [heap_setO _ _ _ _ _ hk, heap_setO _ _ _ _ _ hk, heap_setO _ _ _ _ _ hk, heap_setO _ _ _ _ _ hk, heap_setO _ _ _ _ _ hk]
      go_wp2_with fail
      go_region_with (go_at_call 13; refine (framerI HSD.out).mono ?_; rintro e w4 ⟨rfl, hB4⟩; obtain ⟨r0, r1, r2, r3, r4⟩ := frB_cell (kept HR0.out.1 hB4); have z0 := frozen_at 0 (kept HR0.out.1 hB4); have z1 := frozen_at 1 (kept HR0.out.1 hB4); have z2 := frozen_at 2 (kept HR0.out.1 hB4); have z3 := frozen_at 3 (kept HR0.out.1 hB4); have z4 := frozen_at 4 (kept HR0.out.1 hB4); have c5' := (HSO.out.on hB4).cell.2.2.2.2.2; have HB4 := Lib.hid hB4; clear hB4)
      all_goals
        go_wp2_with fail
        refine bodyPost_ret (v := .tuple #[.agg #[.string ⟨g.buf.toArray⟩, .int .i64 g.d, .bool g.q, .bool g.s, .bool g.c], .slice ea o.length ep, .int .i64 0]) (by simp [results, Tryd.results6, go_sem, r0, r1, r2, r3, r4]) rfl ?_
        rw [HR.out.1, HR.out.2.1, HR.out.2.2]
        exact ⟨ea, ep, rfl, (FIN.out _ HB4.out _ _ _ _ _).1, (FIN.out _ HB4.out _ _ _ _ _).2⟩
end Go.Proofs.YtodgijhpokjjhaaDoor
