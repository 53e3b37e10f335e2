import Derived.Test.YtfjaoiigdjpcfaaDoorProg
import Derived.Test.YtfjaoiigdjpcfaaDoorPlain
import Derived.WalkKit
import Derived.WalkSpells
import Derived.WalkLawsBesides
namespace Go.Proofs.YtfjaoiigdjpcfaaDoor
open Go.RowKit
/-- the package's table of words as it lies in memory -/
def Tab (w : World) : Prop := ∀ k : Nat, k < 8 → w.cell? ⟨0, k, none⟩ = some (.string ⟨(wd (k : Int)).toArray⟩)
/-- the specification's list of words in its block -/
def TabAt (w : World) (b : Nat) : Prop := ∀ k : Nat, k < 8 → w.cell? ⟨b, k, none⟩ = some (.string ⟨(wd (k : Int)).toArray⟩)

theorem heap_newD (w : World) (o : Obj) : (w.alloc o).heap[w.heap.size]? = some o := by
  show (w.heap.push o)[w.heap.size]? = _
  simp
theorem cell_at {w : World} {b o : Nat} {cs : Array Value} {t : TypeId} {v : Value} (h : w.heap[b]? = some (.cells cs t)) (hv : cs[o]? = some v) : w.cell? ⟨b, o, none⟩ = some v := by
  simp [World.cell?, h, hv]

set_option maxHeartbeats 4000000 in
theorem words_spec (w : World) : Calls Tryd.prog 10 #[] w fun e w' => e = .returned (.slice (some ⟨w.heap.size, 0, none⟩) 8 8) ∧ Below w.heap.size w w' ∧ TabAt w' w.heap.size := by
  go_enter Tryd.func10, Tryd.ntmps10
  go_wp2_with fail
  go_ret
  refine ⟨rfl, (Below.refl _ _).alloc (Nat.le_refl _) _, ?_⟩
  intro k hk
  rcases wd_in (k : Int) (by omega) (by omega) with h | h | h | h | h | h | h | h
  all_goals
    obtain rfl := Int.ofNat.inj h
    exact cell_at (heap_newD _ _) rfl
end Go.Proofs.YtfjaoiigdjpcfaaDoor
