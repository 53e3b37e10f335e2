/-
  No cell of these rows narrows 'for every input' (looked for: loops, veiled, ifaces, maps, wideKeys, modest, calm, conditions, laid).
  DERIVED. THE GIVEN ROWS OF THIS SEAT. 4 by the template 'for every input the law returns true; each argument reads behind the call as it read before'; 0 by the template 'total and deterministic' (their statements: YtjhkignnfdlcjaaTotals.lean).
  GIVEN WITH THE SEED: the statements are not yours to turn. If you find one false, say at which input.
  Laid BY PROGRAM, IN A SANDBOX (cutbox-rows.mjs): the forced cells as the released guide's own fill.sh prints them over the translation 8a095f37b1356b27… (all of the seat's roots in one cut). By AI agents, Wed Nov 11 2026. No macro, syntax, notation, axiom, sorry.
-/
import Derived.Test.YtjhkignnfdlcjaaChecked
import GoSem.Claim
import GoSem.ClaimJoined
import GoSem.ClaimMapViews
import Derived.JoinedTies
import Derived.KernelRfl
namespace Go.Proofs.Ytjhkignnfdlcjaa
/- THE CELL 'sum', in the pinned program and in every row, IS THE sha256 OF THE DUMP (.gsa) THAT YtjhkignnfdlcjaaProg.lean LOADS. Nothing in Lean hashes anything: it is a label: what it is worth is what the hold of that sum in a sandbox is worth. -/
noncomputable def Try.pinned : Pinned := { name := "ytjhkignnfdlcjaa", sum := "8a095f37b1356b273901df23c112bb7a14a3f5d393b783aff63844bd6ef19043", checked := Try.checked }
namespace Rows
def none {H : Type} : Left H := { results := [], args := [] }

/-- 'laws.FnExactAtomOK': WHATEVER THE INPUT: true; the input reads as it did. -/
def fnExactAtomOKSpec : ChangeSpec := { name := "fnExactAtomOK", fn := fun _ => fun
  | [d] => { results := [.lit (.bool true)], args := [d] }
  | _ => none }
def fnExactAtomOKRow : OpenClaim := { program := "ytjhkignnfdlcjaa", sum := "8a095f37b1356b273901df23c112bb7a14a3f5d393b783aff63844bd6ef19043", func := "loop.example/g00524/laws.FnExactAtomOK", spec := "fnExactAtomOK", apart := false }
def FnExactAtomOKSaid : Prop := fnExactAtomOKRow.holds Try.pinned (OpenSpec.ofChange fnExactAtomOKSpec)

/-- ITS FALSE NEIGHBOUR: 'it returns false'. Refute it at one input. -/
def fnExactAtomOKWrong : ChangeSpec := { name := "fnExactAtomOK", fn := fun _ => fun
  | [d] => { results := [.lit (.bool false)], args := [d] }
  | _ => none }
def FnExactAtomOKWrongFalsely : Prop := fnExactAtomOKRow.holds Try.pinned (OpenSpec.ofChange fnExactAtomOKWrong)

/-- 'laws.FnExactOrderAtoms': WHATEVER THE INPUT: true; the input reads as it did. -/
def fnExactOrderAtomsSpec : ChangeSpec := { name := "fnExactOrderAtoms", fn := fun _ => fun
  | [d1, d2] => { results := [.lit (.bool true)], args := [d1, d2] }
  | _ => none }
def fnExactOrderAtomsRow : OpenClaim := { program := "ytjhkignnfdlcjaa", sum := "8a095f37b1356b273901df23c112bb7a14a3f5d393b783aff63844bd6ef19043", func := "loop.example/g00524/laws.FnExactOrderAtoms", spec := "fnExactOrderAtoms", apart := false }
def FnExactOrderAtomsSaid : Prop := fnExactOrderAtomsRow.holds Try.pinned (OpenSpec.ofChange fnExactOrderAtomsSpec)

/-- ITS FALSE NEIGHBOUR: 'it returns false'. Refute it at one input. -/
def fnExactOrderAtomsWrong : ChangeSpec := { name := "fnExactOrderAtoms", fn := fun _ => fun
  | [d1, d2] => { results := [.lit (.bool false)], args := [d1, d2] }
  | _ => none }
def FnExactOrderAtomsWrongFalsely : Prop := fnExactOrderAtomsRow.holds Try.pinned (OpenSpec.ofChange fnExactOrderAtomsWrong)

/-- 'laws.FnExactDatumOK': WHATEVER THE INPUT: true; the input reads as it did. -/
def fnExactDatumOKSpec : ChangeSpec := { name := "fnExactDatumOK", fn := fun _ => fun
  | [d] => { results := [.lit (.bool true)], args := [d] }
  | _ => none }
def fnExactDatumOKRow : OpenClaim := { program := "ytjhkignnfdlcjaa", sum := "8a095f37b1356b273901df23c112bb7a14a3f5d393b783aff63844bd6ef19043", func := "loop.example/g00524/laws.FnExactDatumOK", spec := "fnExactDatumOK", unfollowed := true, recurses := true, apart := false }
def FnExactDatumOKSaid : Prop := fnExactDatumOKRow.holds Try.pinned (OpenSpec.ofChange fnExactDatumOKSpec)

/-- ITS FALSE NEIGHBOUR: 'it returns false'. Refute it at one input. -/
def fnExactDatumOKWrong : ChangeSpec := { name := "fnExactDatumOK", fn := fun _ => fun
  | [d] => { results := [.lit (.bool false)], args := [d] }
  | _ => none }
def FnExactDatumOKWrongFalsely : Prop := fnExactDatumOKRow.holds Try.pinned (OpenSpec.ofChange fnExactDatumOKWrong)

/-- 'laws.FnExactDatumHas': WHATEVER THE INPUT: true; the input reads as it did. -/
def fnExactDatumHasSpec : ChangeSpec := { name := "fnExactDatumHas", fn := fun _ => fun
  | [d1, d2] => { results := [.lit (.bool true)], args := [d1, d2] }
  | _ => none }
def fnExactDatumHasRow : OpenClaim := { program := "ytjhkignnfdlcjaa", sum := "8a095f37b1356b273901df23c112bb7a14a3f5d393b783aff63844bd6ef19043", func := "loop.example/g00524/laws.FnExactDatumHas", spec := "fnExactDatumHas", unfollowed := true, recurses := true, apart := false }
def FnExactDatumHasSaid : Prop := fnExactDatumHasRow.holds Try.pinned (OpenSpec.ofChange fnExactDatumHasSpec)

/-- ITS FALSE NEIGHBOUR: 'it returns false'. Refute it at one input. -/
def fnExactDatumHasWrong : ChangeSpec := { name := "fnExactDatumHas", fn := fun _ => fun
  | [d1, d2] => { results := [.lit (.bool false)], args := [d1, d2] }
  | _ => none }
def FnExactDatumHasWrongFalsely : Prop := fnExactDatumHasRow.holds Try.pinned (OpenSpec.ofChange fnExactDatumHasWrong)

/- THE SECOND FORM. 'bulk': how many values and letters a reading holds, each counted each time it is reached (what is shared counts as often as it is met; a slice's spare places count too). A statement '..UptoSaid' is the law's where the arguments, and the package variables that the reading takes, are together of bulk at most 1048576: NARROWER than '..Said'. Prove '..Said' where nothing that the law and all that it calls make is longer than what came in: it says more and counts as full. Else prove '..UptoSaid'. A law counts once. -/
mutual
def uptoBulk {H : Type} : DataW H → Nat
  | .lit (.string bytes) => bytes.length + 1
  | .lit _ => 1
  | .nil => 1
  | .ptr d => uptoBulk d + 1
  | .slice elems spare => uptoBulkAll elems + uptoBulkAll spare + 1
  | .agg parts => uptoBulkAll parts + 1
  | .iface _ d => uptoBulk d + 1
  | .map entries => uptoBulkEntries entries + 1
  | .held _ => 1
def uptoBulkAll {H : Type} : List (DataW H) → Nat
  | [] => 0
  | d :: r => uptoBulk d + uptoBulkAll r
def uptoBulkEntries {H : Type} : List (Lit × DataW H) → Nat
  | [] => 0
  | x :: r => uptoBulkEntry x + uptoBulkEntries r
def uptoBulkEntry {H : Type} : Lit × DataW H → Nat
  | (.string bytes, d) => bytes.length + uptoBulk d + 1
  | (_, d) => uptoBulk d + 1
 end
def uptoSmall : (H : Type) → List (DataW H) → Bool := fun _ ds => decide (uptoBulkAll ds ≤ 1048576)
def OpenSpec.upto (s : _root_.Go.ChangeSpec) : _root_.Go.OpenSpec := { _root_.Go.OpenSpec.ofChange s with cond := some uptoSmall }

/-- 'laws.FnExactAtomOK', WHERE WHAT IT READS IS OF BULK AT MOST 1048576: true; the input reads as it did. -/
def fnExactAtomOKUptoRow : OpenClaim := { program := "ytjhkignnfdlcjaa", sum := "8a095f37b1356b273901df23c112bb7a14a3f5d393b783aff63844bd6ef19043", func := "loop.example/g00524/laws.FnExactAtomOK", spec := "fnExactAtomOK", apart := false, narrowed := true }
def FnExactAtomOKUptoSaid : Prop := fnExactAtomOKUptoRow.holds Try.pinned (OpenSpec.upto fnExactAtomOKSpec)

/-- 'laws.FnExactOrderAtoms', WHERE WHAT IT READS IS OF BULK AT MOST 1048576: true; the input reads as it did. -/
def fnExactOrderAtomsUptoRow : OpenClaim := { program := "ytjhkignnfdlcjaa", sum := "8a095f37b1356b273901df23c112bb7a14a3f5d393b783aff63844bd6ef19043", func := "loop.example/g00524/laws.FnExactOrderAtoms", spec := "fnExactOrderAtoms", apart := false, narrowed := true }
def FnExactOrderAtomsUptoSaid : Prop := fnExactOrderAtomsUptoRow.holds Try.pinned (OpenSpec.upto fnExactOrderAtomsSpec)

/-- 'laws.FnExactDatumOK', WHERE WHAT IT READS IS OF BULK AT MOST 1048576: true; the input reads as it did. -/
def fnExactDatumOKUptoRow : OpenClaim := { program := "ytjhkignnfdlcjaa", sum := "8a095f37b1356b273901df23c112bb7a14a3f5d393b783aff63844bd6ef19043", func := "loop.example/g00524/laws.FnExactDatumOK", spec := "fnExactDatumOK", unfollowed := true, recurses := true, apart := false, narrowed := true }
def FnExactDatumOKUptoSaid : Prop := fnExactDatumOKUptoRow.holds Try.pinned (OpenSpec.upto fnExactDatumOKSpec)

/-- 'laws.FnExactDatumHas', WHERE WHAT IT READS IS OF BULK AT MOST 1048576: true; the input reads as it did. -/
def fnExactDatumHasUptoRow : OpenClaim := { program := "ytjhkignnfdlcjaa", sum := "8a095f37b1356b273901df23c112bb7a14a3f5d393b783aff63844bd6ef19043", func := "loop.example/g00524/laws.FnExactDatumHas", spec := "fnExactDatumHas", unfollowed := true, recurses := true, apart := false, narrowed := true }
def FnExactDatumHasUptoSaid : Prop := fnExactDatumHasUptoRow.holds Try.pinned (OpenSpec.upto fnExactDatumHasSpec)

end Rows
end Go.Proofs.Ytjhkignnfdlcjaa
