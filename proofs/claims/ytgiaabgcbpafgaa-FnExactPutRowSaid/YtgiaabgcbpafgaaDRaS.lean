import Derived.Test.YtgiaabgcbpafgaaDPl
import Derived.Test.YtgiaabgcbpafgaaDOwn
import Derived.Test.YtgiaabgcbpafgaaDRaI
namespace Go.Proofs.Ytgiaabgcbpafgaa
open Go.RowKit
set_option linter.unusedSimpArgs false
def inR (lo n hi : Int) : Bool := decide (lo ≤ n) && decide (n ≤ hi)
set_option maxHeartbeats 400000 in
theorem inRS (n lo hi : Int) (w : World) : Calls Try.prog 21 #[.int .i64 n, .int .i64 lo, .int .i64 hi] w fun e w' => e = .returned (.bool (inR lo n hi)) ∧ w' = w := by
  go_enter Try.func21, Try.ntmps21
  go_wp2
  · go_ret
    refine ⟨(congrArg (fun b => Ending.returned (Value.bool b)) (?_ : decide (n ≤ hi) = inR lo n hi) :), rfl⟩
    rw [Bool.eq_iff_iff]; simp [inR]; try omega
  · go_ret
    refine ⟨(congrArg (fun b => Ending.returned (Value.bool b)) (?_ : false = inR lo n hi) :), rfl⟩
    rw [Bool.eq_iff_iff]; simp [inR]; try omega
def RaSns (w : World) (x : StV) (t id : Int) (e : Ending) (w' : World) : Prop := ∃ (ra : Option Addr) (rc : Nat), e = .returned (.tuple #[.agg #[.int .i64 (rowAtP x t id).2.id, .slice ra (rowAtP x t id).2.cells.length rc], .int .i64 (rowAtP x t id).1]) ∧ Rd w' (· < w'.heap.size) (dAtomSS (rowAtP x t id).2.cells) (.slice ra (rowAtP x t id).2.cells.length rc) ∧ Below w.heap.size w w'
theorem RaSns.zero {w w' : World} {x : StV} {t id code : Int} (hP : rowAtP x t id = (code, rowZ)) (hB : Below w.heap.size w w') : RaSns w x t id (.returned (.tuple #[.agg #[.int .i64 0, .slice none 0 0], .int .i64 code])) w' := by
  refine ⟨none, 0, by rw [hP]; rfl, by rw [hP]; exact ⟨none, 0, rfl, .inl rfl⟩, hB⟩
end Go.Proofs.Ytgiaabgcbpafgaa
