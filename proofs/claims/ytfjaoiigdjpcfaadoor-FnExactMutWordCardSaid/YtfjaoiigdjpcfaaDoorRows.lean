/-
  NARROWER THAN 'FOR EVERY INPUT', by the rows' own cells (each row's printed sentence says how): FnExactMutWord: laid · FnExactMutOf: laid.
  DERIVED. THE GIVEN ROWS OF THIS SEAT. 2 by the template 'for every input the law returns true; each argument reads behind the call as it read before'; 0 by the template 'total and deterministic' (their statements: YtfjaoiigdjpcfaaDoorTotals.lean).
  GIVEN WITH THE SEED: the statements are not yours to turn. If you find one false, say at which input.
  Laid BY PROGRAM, IN A SANDBOX (cutbox-rows.mjs): the forced cells as the released guide's own fill.sh prints them over the translation b39295b6aea11a66… (all of the seat's roots in one cut). By AI agents, Wed Nov 11 2026. No macro, syntax, notation, axiom, sorry.
-/
import Derived.Test.YtfjaoiigdjpcfaaDoorChecked
import GoSem.Claim
import GoSem.ClaimJoined
import GoSem.ClaimMapViews
import Derived.JoinedTies
import Derived.KernelRfl
namespace Go.Proofs.YtfjaoiigdjpcfaaDoor
/- THE CELL 'sum', in the pinned program and in every row, IS THE sha256 OF THE DUMP (.gsa) THAT YtfjaoiigdjpcfaaDoorProg.lean LOADS. Nothing in Lean hashes anything: it is a label: what it is worth is what the hold of that sum in a sandbox is worth. -/
noncomputable def Tryd.pinned : Pinned := { name := "ytfjaoiigdjpcfaadoor", sum := "b39295b6aea11a66280d3a0001bbaeaa7198423391fb0daac0217540d38f49fc", checked := Tryd.checked }
namespace Rows
def none {H : Type} : Left H := { results := [], args := [] }

/- WHAT THE LISTED PACKAGE-LEVEL VARIABLES READ AS WHEN THE CALL BEGINS. Each datum BY PROGRAM (the guide's laid-datum.mjs) off the statement by which the dump's own 'gosem.cut.vars' lays the variable. In a bare row this is a premise. The card (YtfjaoiigdjpcfaaDoorCards.lean) ties it to the program's text. -/
def laid_loop_example_g00524_impl_mutWords {H : Type} : DataW H := .agg [.lit (.string []), .lit (.string [43, 61]), .lit (.string [45, 61]), .lit (.string [42, 61]), .lit (.string [47, 61]), .lit (.string [37, 61]), .lit (.string [105, 110, 115, 101, 114, 116]), .lit (.string [100, 101, 108, 101, 116, 101])]

/-- 'laws.FnExactMutWord': WHATEVER THE INPUT: true; the input reads as it did. -/
def fnExactMutWordSpec : ChangeSpec := { name := "fnExactMutWord", vars := ["loop.example/g00524/impl.mutWords"], fn := fun _ => fun
  | [d, g1] => { results := [.lit (.bool true)], args := [d], vars := [g1] }
  | _ => none }
def fnExactMutWordRow : OpenClaim := { program := "ytfjaoiigdjpcfaadoor", sum := "b39295b6aea11a66280d3a0001bbaeaa7198423391fb0daac0217540d38f49fc", func := "loop.example/g00524/laws.FnExactMutWord", spec := "fnExactMutWord", named := ["loop.example/g00524/impl.mutWords"], apart := false, laid := [("loop.example/g00524/impl.mutWords", laid_loop_example_g00524_impl_mutWords)] }
def FnExactMutWordSaid : Prop := fnExactMutWordRow.holds Tryd.pinned (OpenSpec.ofChange fnExactMutWordSpec)

/-- ITS FALSE NEIGHBOUR: 'it returns false'. Refute it at one input. -/
def fnExactMutWordWrong : ChangeSpec := { name := "fnExactMutWord", vars := ["loop.example/g00524/impl.mutWords"], fn := fun _ => fun
  | [d, g1] => { results := [.lit (.bool false)], args := [d], vars := [g1] }
  | _ => none }
def FnExactMutWordWrongFalsely : Prop := fnExactMutWordRow.holds Tryd.pinned (OpenSpec.ofChange fnExactMutWordWrong)

/-- 'laws.FnExactMutOf': WHATEVER THE INPUT: true; the input reads as it did. -/
def fnExactMutOfSpec : ChangeSpec := { name := "fnExactMutOf", vars := ["loop.example/g00524/impl.mutWords"], fn := fun _ => fun
  | [d, g1] => { results := [.lit (.bool true)], args := [d], vars := [g1] }
  | _ => none }
def fnExactMutOfRow : OpenClaim := { program := "ytfjaoiigdjpcfaadoor", sum := "b39295b6aea11a66280d3a0001bbaeaa7198423391fb0daac0217540d38f49fc", func := "loop.example/g00524/laws.FnExactMutOf", spec := "fnExactMutOf", named := ["loop.example/g00524/impl.mutWords"], apart := false, laid := [("loop.example/g00524/impl.mutWords", laid_loop_example_g00524_impl_mutWords)] }
def FnExactMutOfSaid : Prop := fnExactMutOfRow.holds Tryd.pinned (OpenSpec.ofChange fnExactMutOfSpec)

/-- ITS FALSE NEIGHBOUR: 'it returns false'. Refute it at one input. -/
def fnExactMutOfWrong : ChangeSpec := { name := "fnExactMutOf", vars := ["loop.example/g00524/impl.mutWords"], fn := fun _ => fun
  | [d, g1] => { results := [.lit (.bool false)], args := [d], vars := [g1] }
  | _ => none }
def FnExactMutOfWrongFalsely : Prop := fnExactMutOfRow.holds Tryd.pinned (OpenSpec.ofChange fnExactMutOfWrong)

/- THE SECOND FORM. 'bulk': how many values and letters a reading holds, each counted each time it is reached (what is shared counts as often as it is met; a slice's spare places count too). A statement '..UptoSaid' is the law's where the arguments, and the package variables that the reading takes, are together of bulk at most 1048576: NARROWER than '..Said'. Prove '..Said' where nothing that the law and all that it calls make is longer than what came in: it says more and counts as full. Else prove '..UptoSaid'. A law counts once. -/
mutual
def uptoBulk {H : Type} : DataW H → Nat
  | .lit (.string bytes) => bytes.length + 1
  | .lit _ => 1
  | .nil => 1
  | .ptr d => uptoBulk d + 1
  | .slice elems spare => uptoBulkAll elems + uptoBulkAll spare + 1
  | .agg parts => uptoBulkAll parts + 1
  | .iface _ d => uptoBulk d + 1
  | .map entries => uptoBulkEntries entries + 1
  | .held _ => 1
def uptoBulkAll {H : Type} : List (DataW H) → Nat
  | [] => 0
  | d :: r => uptoBulk d + uptoBulkAll r
def uptoBulkEntries {H : Type} : List (Lit × DataW H) → Nat
  | [] => 0
  | x :: r => uptoBulkEntry x + uptoBulkEntries r
def uptoBulkEntry {H : Type} : Lit × DataW H → Nat
  | (.string bytes, d) => bytes.length + uptoBulk d + 1
  | (_, d) => uptoBulk d + 1
 end
def uptoSmall : (H : Type) → List (DataW H) → Bool := fun _ ds => decide (uptoBulkAll ds ≤ 1048576)
def OpenSpec.upto (s : _root_.Go.ChangeSpec) : _root_.Go.OpenSpec := { _root_.Go.OpenSpec.ofChange s with cond := some uptoSmall }

/-- 'laws.FnExactMutWord', WHERE WHAT IT READS IS OF BULK AT MOST 1048576: true; the input reads as it did. -/
def fnExactMutWordUptoRow : OpenClaim := { program := "ytfjaoiigdjpcfaadoor", sum := "b39295b6aea11a66280d3a0001bbaeaa7198423391fb0daac0217540d38f49fc", func := "loop.example/g00524/laws.FnExactMutWord", spec := "fnExactMutWord", named := ["loop.example/g00524/impl.mutWords"], apart := false, laid := [("loop.example/g00524/impl.mutWords", laid_loop_example_g00524_impl_mutWords)], narrowed := true }
def FnExactMutWordUptoSaid : Prop := fnExactMutWordUptoRow.holds Tryd.pinned (OpenSpec.upto fnExactMutWordSpec)

/-- 'laws.FnExactMutOf', WHERE WHAT IT READS IS OF BULK AT MOST 1048576: true; the input reads as it did. -/
def fnExactMutOfUptoRow : OpenClaim := { program := "ytfjaoiigdjpcfaadoor", sum := "b39295b6aea11a66280d3a0001bbaeaa7198423391fb0daac0217540d38f49fc", func := "loop.example/g00524/laws.FnExactMutOf", spec := "fnExactMutOf", named := ["loop.example/g00524/impl.mutWords"], apart := false, laid := [("loop.example/g00524/impl.mutWords", laid_loop_example_g00524_impl_mutWords)], narrowed := true }
def FnExactMutOfUptoSaid : Prop := fnExactMutOfUptoRow.holds Tryd.pinned (OpenSpec.upto fnExactMutOfSpec)

end Rows
end Go.Proofs.YtfjaoiigdjpcfaaDoor
