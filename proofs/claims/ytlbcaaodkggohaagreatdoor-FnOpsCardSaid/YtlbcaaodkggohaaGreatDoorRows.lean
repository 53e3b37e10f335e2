/-
  NARROWER THAN 'FOR EVERY INPUT', by the rows' own cells (each row's printed sentence says how): FnOps: laid.
  DERIVED. THE GIVEN ROWS OF THIS SEAT. 1 by the template 'for every input the law returns true; each argument reads behind the call as it read before'; 0 by the template 'total and deterministic' (their statements: YtlbcaaodkggohaaGreatDoorTotals.lean).
  GIVEN WITH THE SEED: the statements are not yours to turn. If you find one false, say at which input.
  Laid BY PROGRAM, IN A SANDBOX (cutbox-rows.mjs): the forced cells as the released guide's own fill.sh prints them over the translation 6145f897e2ca65e3… (all of the seat's roots in one cut). By AI agents, Wed Nov 11 2026. No macro, syntax, notation, axiom, sorry.
-/
import Derived.Test.YtlbcaaodkggohaaGreatDoorChecked
import GoSem.Claim
import GoSem.ClaimJoined
import GoSem.ClaimMapViews
import Derived.JoinedTies
import Derived.KernelRfl
namespace Go.Proofs.YtlbcaaodkggohaaGreatDoor
/- THE CELL 'sum', in the pinned program and in every row, IS THE sha256 OF THE DUMP (.gsa) THAT YtlbcaaodkggohaaGreatDoorProg.lean LOADS. Nothing in Lean hashes anything: it is a label: what it is worth is what the hold of that sum in a sandbox is worth. -/
noncomputable def Tryz.pinned : Pinned := { name := "ytlbcaaodkggohaagreatdoor", sum := "6145f897e2ca65e349492540efd6bda2c6209906f6b45c70f98bf4ea5e51ec2e", checked := Tryz.checked }
namespace Rows
def none {H : Type} : Left H := { results := [], args := [] }

/- WHAT THE LISTED PACKAGE-LEVEL VARIABLES READ AS WHEN THE CALL BEGINS. Each datum BY PROGRAM (the guide's laid-datum.mjs) off the statement by which the dump's own 'gosem.cut.vars' lays the variable. In a bare row this is a premise. The card (YtlbcaaodkggohaaGreatDoorCards.lean) ties it to the program's text. -/
def laid_loop_example_g00524_impl_codeWords {H : Type} : DataW H := .agg [.lit (.string [111, 107]), .lit (.string [98, 97, 100]), .lit (.string [108, 111, 110, 103]), .lit (.string [102, 111, 114, 109]), .lit (.string [114, 97, 110, 103, 101]), .lit (.string [110, 111, 110, 101]), .lit (.string [109, 97, 110, 121]), .lit (.string [102, 117, 108, 108]), .lit (.string [116, 119, 105, 99, 101]), .lit (.string [116, 121, 112, 101]), .lit (.string [116, 97, 98, 108, 101]), .lit (.string [99, 111, 108, 117, 109, 110]), .lit (.string [117, 110, 105, 113, 117, 101]), .lit (.string [114, 101, 102]), .lit (.string [111, 119, 110, 101, 114]), .lit (.string [119, 97, 105, 116]), .lit (.string [97, 98, 111, 114, 116]), .lit (.string [99, 108, 111, 115, 101, 100]), .lit (.string [100, 101, 101, 112]), .lit (.string [109, 101, 116, 104, 111, 100])]

/-- 'laws.FnOps': WHATEVER THE INPUT: true; the input reads as it did. -/
def fnOpsSpec : ChangeSpec := { name := "fnOps", vars := ["loop.example/g00524/impl.codeWords"], fn := fun _ => fun
  | [d, g1] => { results := [.lit (.bool true)], args := [d], vars := [g1] }
  | _ => none }
def fnOpsRow : OpenClaim := { program := "ytlbcaaodkggohaagreatdoor", sum := "6145f897e2ca65e349492540efd6bda2c6209906f6b45c70f98bf4ea5e51ec2e", func := "loop.example/g00524/laws.FnOps", spec := "fnOps", unfollowed := true, recurses := true, named := ["loop.example/g00524/impl.codeWords"], apart := false, laid := [("loop.example/g00524/impl.codeWords", laid_loop_example_g00524_impl_codeWords)] }
def FnOpsSaid : Prop := fnOpsRow.holds Tryz.pinned (OpenSpec.ofChange fnOpsSpec)

/-- ITS FALSE NEIGHBOUR: 'it returns false'. Refute it at one input. -/
def fnOpsWrong : ChangeSpec := { name := "fnOps", vars := ["loop.example/g00524/impl.codeWords"], fn := fun _ => fun
  | [d, g1] => { results := [.lit (.bool false)], args := [d], vars := [g1] }
  | _ => none }
def FnOpsWrongFalsely : Prop := fnOpsRow.holds Tryz.pinned (OpenSpec.ofChange fnOpsWrong)

/- THE SECOND FORM. 'bulk': how many values and letters a reading holds, each counted each time it is reached (what is shared counts as often as it is met; a slice's spare places count too). A statement '..UptoSaid' is the law's where the arguments, and the package variables that the reading takes, are together of bulk at most 1048576: NARROWER than '..Said'. Prove '..Said' where nothing that the law and all that it calls make is longer than what came in: it says more and counts as full. Else prove '..UptoSaid'. A law counts once. -/
mutual
def uptoBulk {H : Type} : DataW H → Nat
  | .lit (.string bytes) => bytes.length + 1
  | .lit _ => 1
  | .nil => 1
  | .ptr d => uptoBulk d + 1
  | .slice elems spare => uptoBulkAll elems + uptoBulkAll spare + 1
  | .agg parts => uptoBulkAll parts + 1
  | .iface _ d => uptoBulk d + 1
  | .map entries => uptoBulkEntries entries + 1
  | .held _ => 1
def uptoBulkAll {H : Type} : List (DataW H) → Nat
  | [] => 0
  | d :: r => uptoBulk d + uptoBulkAll r
def uptoBulkEntries {H : Type} : List (Lit × DataW H) → Nat
  | [] => 0
  | x :: r => uptoBulkEntry x + uptoBulkEntries r
def uptoBulkEntry {H : Type} : Lit × DataW H → Nat
  | (.string bytes, d) => bytes.length + uptoBulk d + 1
  | (_, d) => uptoBulk d + 1
 end
def uptoSmall : (H : Type) → List (DataW H) → Bool := fun _ ds => decide (uptoBulkAll ds ≤ 1048576)
def OpenSpec.upto (s : _root_.Go.ChangeSpec) : _root_.Go.OpenSpec := { _root_.Go.OpenSpec.ofChange s with cond := some uptoSmall }

/-- 'laws.FnOps', WHERE WHAT IT READS IS OF BULK AT MOST 1048576: true; the input reads as it did. -/
def fnOpsUptoRow : OpenClaim := { program := "ytlbcaaodkggohaagreatdoor", sum := "6145f897e2ca65e349492540efd6bda2c6209906f6b45c70f98bf4ea5e51ec2e", func := "loop.example/g00524/laws.FnOps", spec := "fnOps", unfollowed := true, recurses := true, named := ["loop.example/g00524/impl.codeWords"], apart := false, laid := [("loop.example/g00524/impl.codeWords", laid_loop_example_g00524_impl_codeWords)], narrowed := true }
def FnOpsUptoSaid : Prop := fnOpsUptoRow.holds Tryz.pinned (OpenSpec.upto fnOpsSpec)

end Rows
end Go.Proofs.YtlbcaaodkggohaaGreatDoor
