import Derived.Test.YtgegjniilocmnaaDStP
import Derived.Test.YtgegjniilocmnaaDCmp
import Derived.Deep.RegionHeld3
namespace Go.Proofs.Ytgegjniilocmnaa
open Go.RowKit
set_option linter.unusedSimpArgs false
def cmpR (x y : RowV) : Int := if x.id < y.id then -1 else if y.id < x.id then 1 else 0
noncomputable def riBR (l : List RowV) : Bool := @decide (riseIds l) (Classical.propDecidable _)
theorem riBR_yes {l : List RowV} (h : riseIds l) : riBR l = true := @decide_eq_true _ (Classical.propDecidable _) h
theorem riBR_no {l : List RowV} (h : ¬ riseIds l) : riBR l = false := @decide_eq_false _ (Classical.propDecidable _) h
theorem riBR_of {l : List RowV} (h : riBR l = true) : riseIds l := @of_decide_eq_true _ (Classical.propDecidable _) h
def hasT (x : StV) (t : Int) : Bool := decide (0 ≤ t ∧ t < x.tables.length)
/-- the first fault of a store and a place -/
noncomputable def rplC (x : StV) (t : Int) : Int := if plainB x = true then (if hasT x t = true then 0 else 10) else 1
end Go.Proofs.Ytgegjniilocmnaa
