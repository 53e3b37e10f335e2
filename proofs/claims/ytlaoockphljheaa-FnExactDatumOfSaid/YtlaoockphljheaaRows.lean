/-
  No cell of these rows narrows 'for every input' (looked for: loops, veiled, ifaces, maps, wideKeys, modest, calm, conditions, laid).
  DERIVED. THE GIVEN ROWS OF THIS SEAT. 3 by the template 'for every input the law returns true; each argument reads behind the call as it read before'; 0 by the template 'total and deterministic' (their statements: YtlaoockphljheaaTotals.lean).
  GIVEN WITH THE SEED: the statements are not yours to turn. If you find one false, say at which input.
  Laid BY PROGRAM, IN A SANDBOX (cutbox-rows.mjs): the forced cells as the released guide's own fill.sh prints them over the translation 1883c6f01a43e23e… (all of the seat's roots in one cut). By AI agents, Wed Nov 11 2026. No macro, syntax, notation, axiom, sorry.
-/
import Derived.Test.YtlaoockphljheaaChecked
import GoSem.Claim
import GoSem.ClaimJoined
import GoSem.ClaimMapViews
import Derived.JoinedTies
import Derived.KernelRfl
namespace Go.Proofs.Ytlaoockphljheaa
/- THE CELL 'sum', in the pinned program and in every row, IS THE sha256 OF THE DUMP (.gsa) THAT YtlaoockphljheaaProg.lean LOADS. Nothing in Lean hashes anything: it is a label: what it is worth is what the hold of that sum in a sandbox is worth. -/
noncomputable def Try.pinned : Pinned := { name := "ytlaoockphljheaa", sum := "1883c6f01a43e23e866811353cab7ea7376dcfb0ccb06b0dbd3d36f38c7ba1e7", checked := Try.checked }
namespace Rows
def none {H : Type} : Left H := { results := [], args := [] }

/-- 'laws.FnExactDatumOf': WHATEVER THE INPUT: true; the input reads as it did. -/
def fnExactDatumOfSpec : ChangeSpec := { name := "fnExactDatumOf", fn := fun _ => fun
  | [d] => { results := [.lit (.bool true)], args := [d] }
  | _ => none }
def fnExactDatumOfRow : OpenClaim := { program := "ytlaoockphljheaa", sum := "1883c6f01a43e23e866811353cab7ea7376dcfb0ccb06b0dbd3d36f38c7ba1e7", func := "loop.example/g00524/laws.FnExactDatumOf", spec := "fnExactDatumOf", inPlace := ["slices.overlaps[loop.example/g00524/impl.Atom]"], unfollowed := true, recurses := true, apart := false }
def FnExactDatumOfSaid : Prop := fnExactDatumOfRow.holds Try.pinned (OpenSpec.ofChange fnExactDatumOfSpec)

/-- ITS FALSE NEIGHBOUR: 'it returns false'. Refute it at one input. -/
def fnExactDatumOfWrong : ChangeSpec := { name := "fnExactDatumOf", fn := fun _ => fun
  | [d] => { results := [.lit (.bool false)], args := [d] }
  | _ => none }
def FnExactDatumOfWrongFalsely : Prop := fnExactDatumOfRow.holds Try.pinned (OpenSpec.ofChange fnExactDatumOfWrong)

/-- 'laws.FnExactDatumJoin': WHATEVER THE INPUT: true; the input reads as it did. -/
def fnExactDatumJoinSpec : ChangeSpec := { name := "fnExactDatumJoin", fn := fun _ => fun
  | [d1, d2] => { results := [.lit (.bool true)], args := [d1, d2] }
  | _ => none }
def fnExactDatumJoinRow : OpenClaim := { program := "ytlaoockphljheaa", sum := "1883c6f01a43e23e866811353cab7ea7376dcfb0ccb06b0dbd3d36f38c7ba1e7", func := "loop.example/g00524/laws.FnExactDatumJoin", spec := "fnExactDatumJoin", inPlace := ["slices.overlaps[loop.example/g00524/impl.Atom]"], unfollowed := true, recurses := true, apart := false }
def FnExactDatumJoinSaid : Prop := fnExactDatumJoinRow.holds Try.pinned (OpenSpec.ofChange fnExactDatumJoinSpec)

/-- ITS FALSE NEIGHBOUR: 'it returns false'. Refute it at one input. -/
def fnExactDatumJoinWrong : ChangeSpec := { name := "fnExactDatumJoin", fn := fun _ => fun
  | [d1, d2] => { results := [.lit (.bool false)], args := [d1, d2] }
  | _ => none }
def FnExactDatumJoinWrongFalsely : Prop := fnExactDatumJoinRow.holds Try.pinned (OpenSpec.ofChange fnExactDatumJoinWrong)

/-- 'laws.FnExactDatumLess': WHATEVER THE INPUT: true; the input reads as it did. -/
def fnExactDatumLessSpec : ChangeSpec := { name := "fnExactDatumLess", fn := fun _ => fun
  | [d1, d2] => { results := [.lit (.bool true)], args := [d1, d2] }
  | _ => none }
def fnExactDatumLessRow : OpenClaim := { program := "ytlaoockphljheaa", sum := "1883c6f01a43e23e866811353cab7ea7376dcfb0ccb06b0dbd3d36f38c7ba1e7", func := "loop.example/g00524/laws.FnExactDatumLess", spec := "fnExactDatumLess", unfollowed := true, recurses := true, apart := false }
def FnExactDatumLessSaid : Prop := fnExactDatumLessRow.holds Try.pinned (OpenSpec.ofChange fnExactDatumLessSpec)

/-- ITS FALSE NEIGHBOUR: 'it returns false'. Refute it at one input. -/
def fnExactDatumLessWrong : ChangeSpec := { name := "fnExactDatumLess", fn := fun _ => fun
  | [d1, d2] => { results := [.lit (.bool false)], args := [d1, d2] }
  | _ => none }
def FnExactDatumLessWrongFalsely : Prop := fnExactDatumLessRow.holds Try.pinned (OpenSpec.ofChange fnExactDatumLessWrong)

/- THE SECOND FORM. 'bulk': how many values and letters a reading holds, each counted each time it is reached (what is shared counts as often as it is met; a slice's spare places count too). A statement '..UptoSaid' is the law's where the arguments, and the package variables that the reading takes, are together of bulk at most 1048576: NARROWER than '..Said'. Prove '..Said' where nothing that the law and all that it calls make is longer than what came in: it says more and counts as full. Else prove '..UptoSaid'. A law counts once. -/
mutual
def uptoBulk {H : Type} : DataW H → Nat
  | .lit (.string bytes) => bytes.length + 1
  | .lit _ => 1
  | .nil => 1
  | .ptr d => uptoBulk d + 1
  | .slice elems spare => uptoBulkAll elems + uptoBulkAll spare + 1
  | .agg parts => uptoBulkAll parts + 1
  | .iface _ d => uptoBulk d + 1
  | .map entries => uptoBulkEntries entries + 1
  | .held _ => 1
def uptoBulkAll {H : Type} : List (DataW H) → Nat
  | [] => 0
  | d :: r => uptoBulk d + uptoBulkAll r
def uptoBulkEntries {H : Type} : List (Lit × DataW H) → Nat
  | [] => 0
  | x :: r => uptoBulkEntry x + uptoBulkEntries r
def uptoBulkEntry {H : Type} : Lit × DataW H → Nat
  | (.string bytes, d) => bytes.length + uptoBulk d + 1
  | (_, d) => uptoBulk d + 1
 end
def uptoSmall : (H : Type) → List (DataW H) → Bool := fun _ ds => decide (uptoBulkAll ds ≤ 1048576)
def OpenSpec.upto (s : _root_.Go.ChangeSpec) : _root_.Go.OpenSpec := { _root_.Go.OpenSpec.ofChange s with cond := some uptoSmall }

/-- 'laws.FnExactDatumOf', WHERE WHAT IT READS IS OF BULK AT MOST 1048576: true; the input reads as it did. -/
def fnExactDatumOfUptoRow : OpenClaim := { program := "ytlaoockphljheaa", sum := "1883c6f01a43e23e866811353cab7ea7376dcfb0ccb06b0dbd3d36f38c7ba1e7", func := "loop.example/g00524/laws.FnExactDatumOf", spec := "fnExactDatumOf", inPlace := ["slices.overlaps[loop.example/g00524/impl.Atom]"], unfollowed := true, recurses := true, apart := false, narrowed := true }
def FnExactDatumOfUptoSaid : Prop := fnExactDatumOfUptoRow.holds Try.pinned (OpenSpec.upto fnExactDatumOfSpec)

/-- 'laws.FnExactDatumJoin', WHERE WHAT IT READS IS OF BULK AT MOST 1048576: true; the input reads as it did. -/
def fnExactDatumJoinUptoRow : OpenClaim := { program := "ytlaoockphljheaa", sum := "1883c6f01a43e23e866811353cab7ea7376dcfb0ccb06b0dbd3d36f38c7ba1e7", func := "loop.example/g00524/laws.FnExactDatumJoin", spec := "fnExactDatumJoin", inPlace := ["slices.overlaps[loop.example/g00524/impl.Atom]"], unfollowed := true, recurses := true, apart := false, narrowed := true }
def FnExactDatumJoinUptoSaid : Prop := fnExactDatumJoinUptoRow.holds Try.pinned (OpenSpec.upto fnExactDatumJoinSpec)

/-- 'laws.FnExactDatumLess', WHERE WHAT IT READS IS OF BULK AT MOST 1048576: true; the input reads as it did. -/
def fnExactDatumLessUptoRow : OpenClaim := { program := "ytlaoockphljheaa", sum := "1883c6f01a43e23e866811353cab7ea7376dcfb0ccb06b0dbd3d36f38c7ba1e7", func := "loop.example/g00524/laws.FnExactDatumLess", spec := "fnExactDatumLess", unfollowed := true, recurses := true, apart := false, narrowed := true }
def FnExactDatumLessUptoSaid : Prop := fnExactDatumLessUptoRow.holds Try.pinned (OpenSpec.upto fnExactDatumLessSpec)

end Rows
end Go.Proofs.Ytlaoockphljheaa
