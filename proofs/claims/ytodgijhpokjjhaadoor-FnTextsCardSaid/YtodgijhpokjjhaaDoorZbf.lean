import Derived.Test.YtodgijhpokjjhaaDoorZbe
namespace Go.Proofs.YtodgijhpokjjhaaDoor
open Go.RowKit
set_option linter.unusedSimpArgs false
def Tab (w : World) (B : Nat) : Prop := Lib.TabBelow Tryd.prog B w "internal/strconv.uint64pow10" .u64 Lib.pow10Tab
theorem Tab.on {w w' : World} {B : Nat} (h : Tab w B) (hb : Below B w w') : Tab w' B := Lib.TabBelow.on h hb
set_option maxHeartbeats 6400000 in
set_option maxRecDepth 100000 in
theorem appIntI (B : Nat) (i : Int) (h0 : -9223372036854775808 ≤ i) (h1 : i ≤ 9223372036854775807) (v : Value) (bs : List UInt8) (w : World) (hb : Buf w B v bs) (hB : B ≤ w.heap.size) (hl : bs.length ≤ 999999999999) (htab : Tab w B) :
    Calls Tryd.prog 25 #[v, .int .i64 i, .int .i64 10] w fun e w' => ∃ v', e = .returned v' ∧ Buf w' B v' (bs ++ num i) ∧ App w v w' v' := by
  by_cases hneg : i < 0
  · obtain ⟨u, rfl⟩ : ∃ u : Nat, i = -(u : Int) := ⟨i.natAbs, by omega⟩
    have hwr : IntKind.u64.wrap (-IntKind.u64.wrap (-(u : Int))) = (u : Int) := by rw [IntKind.wrap_u64, IntKind.wrap_u64]; omega
    have HN : Hid (num (-(u : Int)) = 45 :: dig u) := by
      show num _ = _
      unfold num
      rw [if_pos hneg]
      congr 2
      omega
    have HB : Hid (Buf w B v bs) := hb
    clear hb
    go_enter Tryd.func25, Tryd.ntmps25
    go_wp2_with (first
      | (at_builtin; refine wpList_push rfl _ _ rfl B v bs 45 w.heap.size rfl rfl (HB.out.alloc _) (by simp; omega) (by omega) (cell_at (o := 0) (heap_new0 _ _) rfl) ?_; intro v1 w1 hb1 ha1)
      | (go_at_call 35; refine (appUint B u (by omega) v1 _ w1 hb1 (by have := ha1.size; simp at this; omega) (by simp; omega) (htab w1 (((App.refl _ _).alloc _).trans ha1 |>.below HB.out hB))).mono ?_; rintro e w2 ⟨v2, rfl, hb2, ha2⟩))
    go_ret
    refine ⟨v2, rfl, ?_, (((App.refl _ _).alloc _).trans ha1).trans ha2⟩
    rw [HN.out]
    rw [List.append_assoc] at hb2
    exact hb2
  · obtain ⟨u, rfl⟩ : ∃ u : Nat, i = u := ⟨i.toNat, by omega⟩
    have HN : Hid (num (u : Int) = dig u) := by
      show num _ = _
      unfold num
      rw [if_neg hneg]
      congr 1
    have hwr : IntKind.u64.wrap (u : Int) = (u : Int) := by rw [IntKind.wrap_u64]; omega
    have HB : Hid (Buf w B v bs) := hb
    clear hb
    go_enter Tryd.func25, Tryd.ntmps25
    go_wp2_with (go_at_call 35; refine (appUint B u (by omega) v bs w HB.out hB (by omega) (htab w (Below.refl _ _))).mono ?_; rintro e w2 ⟨v2, rfl, hb2, ha2⟩)
    go_ret
    exact ⟨v2, rfl, by rw [HN.out]; exact hb2, ha2⟩
set_option maxHeartbeats 6400000 in
set_option maxRecDepth 100000 in
theorem appInt (B : Nat) (i : Int) (h0 : -9223372036854775808 ≤ i) (h1 : i ≤ 9223372036854775807) (v : Value) (bs : List UInt8) (w : World) (hb : Buf w B v bs) (hB : B ≤ w.heap.size) (hl : bs.length ≤ 999999999999) (htab : Tab w B) :
    Calls Tryd.prog 16 #[v, .int .i64 i, .int .i64 10] w fun e w' => ∃ v', e = .returned v' ∧ Buf w' B v' (bs ++ num i) ∧ App w v w' v' := by
  go_enter Tryd.func16, Tryd.ntmps16
  go_wp2_with (go_at_call 25; refine (appIntI B i h0 h1 v bs w hb hB hl htab).mono ?_; rintro e w2 ⟨v2, rfl, hb2, ha2⟩)
  go_ret
  exact ⟨v2, rfl, hb2, ha2⟩
def boolT (b : Bool) : List UInt8 := if b then [116, 114, 117, 101] else [102, 97, 108, 115, 101]
set_option maxHeartbeats 6400000 in
set_option maxRecDepth 100000 in
theorem appBool (B : Nat) (b : Bool) (v : Value) (bs : List UInt8) (w : World) (hb : Buf w B v bs) (hB : B ≤ w.heap.size) (hl : bs.length ≤ 999999999999) :
    Calls Tryd.prog 15 #[v, .bool b] w fun e w' => ∃ v', e = .returned v' ∧ Buf w' B v' (bs ++ boolT b) ∧ App w v w' v' := by
  have inner : Calls Tryd.prog 24 #[v, .bool b] w fun e w' => ∃ v', e = .returned v' ∧ Buf w' B v' (bs ++ boolT b) ∧ App w v w' v' := by
    cases b
    · go_enter Tryd.func24, Tryd.ntmps24
      go_wp2_with (at_builtin; refine wpList_puts rfl _ _ rfl B v bs ⟨#[102, 97, 108, 115, 101]⟩ rfl rfl hb hB (by show bs.length + 5 ≤ _; omega) ?_; intro v' w1 hb1 ha1)
      go_ret
      exact ⟨v', rfl, hb1, ha1⟩
    · go_enter Tryd.func24, Tryd.ntmps24
      go_wp2_with (at_builtin; refine wpList_puts rfl _ _ rfl B v bs ⟨#[116, 114, 117, 101]⟩ rfl rfl hb hB (by show bs.length + 4 ≤ _; omega) ?_; intro v' w1 hb1 ha1)
      go_ret
      exact ⟨v', rfl, hb1, ha1⟩
  go_enter Tryd.func15, Tryd.ntmps15
  go_wp2_with (go_at_call 24; refine inner.mono ?_; rintro e w2 ⟨v2, rfl, hb2, ha2⟩)
  go_ret
  exact ⟨v2, rfl, hb2, ha2⟩
end Go.Proofs.YtodgijhpokjjhaaDoor
