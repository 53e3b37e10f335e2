import Derived.Test.YtpjjpdbmooiplaaGreatDoorXbq
import Derived.Test.YtpjjpdbmooiplaaGreatDoorXbr
namespace Go.Proofs.YtpjjpdbmooiplaaGreatDoor
open Go.RowKit
set_option linter.unusedSimpArgs false
theorem chosen_one (t : Tb) (r : RowV) (list : List CondV) : (((chosen t [r] list).length : Int) == 1) = allM t r list := by
  unfold chosen
  cases h : allM t r list
  · simp [h]
  · simp [h]
theorem rd_row1 {W : World} {R : Nat → Prop} {r : RowV} {ra : Option Addr} {rc : Nat} (ty : TypeId) (h : Rd W R (dAtomSS r.cells) (.slice ra r.cells.length rc)) : Rd (W.alloc (.cells #[.int .i64 r.id, .slice ra r.cells.length rc] ty)) (fun _ => True) (dRowS [r]) (.slice (some ⟨W.heap.size, 0, none⟩) [r].length 1) := by
  refine ⟨_, _, rfl, .inr ⟨W.heap.size, 0, rfl, trivial, by omega, fun i j hi hj => ?_⟩⟩
  have hi' : i = 0 := by simpa using hi
  subst hi'
  rw [Nat.zero_mul, Nat.add_zero, Nat.zero_add]
  rcases (by omega : j = 0 ∨ j = 1) with rfl | rfl
  · exact ⟨_, cell_at (o := 0) (heap_newD _ _) rfl, rfl⟩
  · exact ⟨_, cell_at (o := 1) (heap_newD _ _) rfl, (h.later (below_allocD _ _)).any⟩
theorem le_row1 {r : RowV} (h : (dAtomSS r.cells).le 1048576) (hid : iOK r.id) : (dRowS [r]).le 1048576 := by
  refine Ls_le.2 ⟨by omega, by simp, fun i hi j hj => ?_⟩
  have hi' : i = 0 := by simpa using hi
  subst hi'
  rcases (by omega : j = 0 ∨ j = 1) with rfl | rfl
  · exact hid
  · exact h
theorem asks1 {t : Tb} {r : RowV} {list : List CondV} (hq : ∀ k (h : k < list.length), Asks t r list[k]) : ∀ i (h : i < [r].length) k (h' : k < list.length), Asks t [r][i] list[k] := fun i hi k hk => by
  have hi' : i = 0 := by simpa using hi
  subst hi'
  exact hq k hk
theorem chosen1 (t : Tb) (ca : Option Addr) (cc : Nat) (ua : Option Addr) (uc : Nat) (A : Nat → Prop) (r : RowV) (ra : Option Addr) (rc : Nat) (R : Nat → Prop) (list : List CondV) (a : Option Addr) (c : Nat) (B : Nat → Prop) (W : World) (ho : t.ok) (hlm : (dCondS list).le maxLen) (hrs : (dAtomSS r.cells).le 1048576) (hid : iOK r.id) (hTab : TabW (W.alloc (.cells #[.int .i64 r.id, .slice ra r.cells.length rc] 43))) (h0w : 0 < (W.alloc (.cells #[.int .i64 r.id, .slice ra r.cells.length rc] 43)).heap.size) (hq : ∀ k (h : k < list.length), Asks t r list[k]) (hT : t.Has (W.alloc (.cells #[.int .i64 r.id, .slice ra r.cells.length rc] 43)) A ca ua) (hR : Rd W R (dAtomSS r.cells) (.slice ra r.cells.length rc)) (hL : Rd (W.alloc (.cells #[.int .i64 r.id, .slice ra r.cells.length rc] 43)) B (dCondS list) (.slice a list.length c)) :
    Calls Tryz.prog 59 #[.agg #[.string ⟨t.nm.toArray⟩, .slice ca t.cols.length cc, .slice ua t.uq.length uc, .bool t.rt], .slice (some ⟨W.heap.size, 0, none⟩) 1 1, .slice a list.length c] (W.alloc (.cells #[.int .i64 r.id, .slice ra r.cells.length rc] 43)) (ChAns (W.alloc (.cells #[.int .i64 r.id, .slice ra r.cells.length rc] 43)) (chosen t [r] list)) :=
  chosenI t ca cc ua uc A [r] (some ⟨W.heap.size, 0, none⟩) 1 (fun _ => True) list a c B (W.alloc (.cells #[.int .i64 r.id, .slice ra r.cells.length rc] 43)) ho hlm (le_row1 hrs hid) hTab h0w (asks1 hq) hT (rd_row1 _ hR) hL
end Go.Proofs.YtpjjpdbmooiplaaGreatDoor
