/-
  NARROWER THAN 'FOR EVERY INPUT', by the rows' own cells (each row's printed sentence says how): FnExactJsonAtom: loops · FnExactJsonDatum: loops.
  DERIVED. THE GIVEN ROWS OF THIS SEAT. 5 by the template 'for every input the law returns true; each argument reads behind the call as it read before'; 0 by the template 'total and deterministic' (their statements: YtkncpfhblciplaaTotals.lean).
  GIVEN WITH THE SEED: the statements are not yours to turn. If you find one false, say at which input.
  Laid BY PROGRAM, IN A SANDBOX (cutbox-rows.mjs): the forced cells as the released guide's own fill.sh prints them over the translation ac82899176735bd4… (all of the seat's roots in one cut). By AI agents, Wed Nov 11 2026. No macro, syntax, notation, axiom, sorry.
-/
import Derived.Test.YtkncpfhblciplaaChecked
import GoSem.Claim
import GoSem.ClaimJoined
import GoSem.ClaimMapViews
import Derived.JoinedTies
import Derived.KernelRfl
namespace Go.Proofs.Ytkncpfhblciplaa
/- THE CELL 'sum', in the pinned program and in every row, IS THE sha256 OF THE DUMP (.gsa) THAT YtkncpfhblciplaaProg.lean LOADS. Nothing in Lean hashes anything: it is a label: what it is worth is what the hold of that sum in a sandbox is worth. -/
noncomputable def Try.pinned : Pinned := { name := "ytkncpfhblciplaa", sum := "ac82899176735bd47aa51a59798e843fe3dc1c6460e87d861a526f5944fc5feb", checked := Try.checked }
namespace Rows
def none {H : Type} : Left H := { results := [], args := [] }

/-- 'laws.FnExactAtomJson': WHATEVER THE INPUT: true; the input reads as it did. -/
def fnExactAtomJsonSpec : ChangeSpec := { name := "fnExactAtomJson", fn := fun _ => fun
  | [d] => { results := [.lit (.bool true)], args := [d] }
  | _ => none }
def fnExactAtomJsonRow : OpenClaim := { program := "ytkncpfhblciplaa", sum := "ac82899176735bd47aa51a59798e843fe3dc1c6460e87d861a526f5944fc5feb", func := "loop.example/g00524/laws.FnExactAtomJson", spec := "fnExactAtomJson", recurses := true, apart := false }
def FnExactAtomJsonSaid : Prop := fnExactAtomJsonRow.holds Try.pinned (OpenSpec.ofChange fnExactAtomJsonSpec)

/-- ITS FALSE NEIGHBOUR: 'it returns false'. Refute it at one input. -/
def fnExactAtomJsonWrong : ChangeSpec := { name := "fnExactAtomJson", fn := fun _ => fun
  | [d] => { results := [.lit (.bool false)], args := [d] }
  | _ => none }
def FnExactAtomJsonWrongFalsely : Prop := fnExactAtomJsonRow.holds Try.pinned (OpenSpec.ofChange fnExactAtomJsonWrong)

/-- 'laws.FnExactJsonAtom': WHATEVER THE INPUT: true; the input reads as it did. -/
def fnExactJsonAtomSpec : ChangeSpec := { name := "fnExactJsonAtom", fn := fun _ => fun
  | [d] => { results := [.lit (.bool true)], args := [d] }
  | _ => none }
def fnExactJsonAtomRow : OpenClaim := { program := "ytkncpfhblciplaa", sum := "ac82899176735bd47aa51a59798e843fe3dc1c6460e87d861a526f5944fc5feb", func := "loop.example/g00524/laws.FnExactJsonAtom", spec := "fnExactJsonAtom", unfollowed := true, recurses := true, loops := true, apart := false }
def FnExactJsonAtomSaid : Prop := fnExactJsonAtomRow.holds Try.pinned (OpenSpec.ofChange fnExactJsonAtomSpec)

/-- ITS FALSE NEIGHBOUR: 'it returns false'. Refute it at one input. -/
def fnExactJsonAtomWrong : ChangeSpec := { name := "fnExactJsonAtom", fn := fun _ => fun
  | [d] => { results := [.lit (.bool false)], args := [d] }
  | _ => none }
def FnExactJsonAtomWrongFalsely : Prop := fnExactJsonAtomRow.holds Try.pinned (OpenSpec.ofChange fnExactJsonAtomWrong)

/-- 'laws.FnExactDatumJson': WHATEVER THE INPUT: true; the input reads as it did. -/
def fnExactDatumJsonSpec : ChangeSpec := { name := "fnExactDatumJson", fn := fun _ => fun
  | [d] => { results := [.lit (.bool true)], args := [d] }
  | _ => none }
def fnExactDatumJsonRow : OpenClaim := { program := "ytkncpfhblciplaa", sum := "ac82899176735bd47aa51a59798e843fe3dc1c6460e87d861a526f5944fc5feb", func := "loop.example/g00524/laws.FnExactDatumJson", spec := "fnExactDatumJson", unfollowed := true, recurses := true, apart := false }
def FnExactDatumJsonSaid : Prop := fnExactDatumJsonRow.holds Try.pinned (OpenSpec.ofChange fnExactDatumJsonSpec)

/-- ITS FALSE NEIGHBOUR: 'it returns false'. Refute it at one input. -/
def fnExactDatumJsonWrong : ChangeSpec := { name := "fnExactDatumJson", fn := fun _ => fun
  | [d] => { results := [.lit (.bool false)], args := [d] }
  | _ => none }
def FnExactDatumJsonWrongFalsely : Prop := fnExactDatumJsonRow.holds Try.pinned (OpenSpec.ofChange fnExactDatumJsonWrong)

/-- 'laws.FnExactJsonDatum': WHATEVER THE INPUT: true; the input reads as it did. -/
def fnExactJsonDatumSpec : ChangeSpec := { name := "fnExactJsonDatum", fn := fun _ => fun
  | [d] => { results := [.lit (.bool true)], args := [d] }
  | _ => none }
def fnExactJsonDatumRow : OpenClaim := { program := "ytkncpfhblciplaa", sum := "ac82899176735bd47aa51a59798e843fe3dc1c6460e87d861a526f5944fc5feb", func := "loop.example/g00524/laws.FnExactJsonDatum", spec := "fnExactJsonDatum", inPlace := ["slices.overlaps[loop.example/g00524/impl.Atom]"], unfollowed := true, recurses := true, loops := true, apart := false }
def FnExactJsonDatumSaid : Prop := fnExactJsonDatumRow.holds Try.pinned (OpenSpec.ofChange fnExactJsonDatumSpec)

/-- ITS FALSE NEIGHBOUR: 'it returns false'. Refute it at one input. -/
def fnExactJsonDatumWrong : ChangeSpec := { name := "fnExactJsonDatum", fn := fun _ => fun
  | [d] => { results := [.lit (.bool false)], args := [d] }
  | _ => none }
def FnExactJsonDatumWrongFalsely : Prop := fnExactJsonDatumRow.holds Try.pinned (OpenSpec.ofChange fnExactJsonDatumWrong)

/-- 'laws.FnExactRowJson': WHATEVER THE INPUT: true; the input reads as it did. -/
def fnExactRowJsonSpec : ChangeSpec := { name := "fnExactRowJson", fn := fun _ => fun
  | [d1, d2] => { results := [.lit (.bool true)], args := [d1, d2] }
  | _ => none }
def fnExactRowJsonRow : OpenClaim := { program := "ytkncpfhblciplaa", sum := "ac82899176735bd47aa51a59798e843fe3dc1c6460e87d861a526f5944fc5feb", func := "loop.example/g00524/laws.FnExactRowJson", spec := "fnExactRowJson", inPlace := ["slices.overlaps[string]", "slices.overlaps[loop.example/g00524/impl.Json]"], unfollowed := true, recurses := true, apart := false }
def FnExactRowJsonSaid : Prop := fnExactRowJsonRow.holds Try.pinned (OpenSpec.ofChange fnExactRowJsonSpec)

/-- ITS FALSE NEIGHBOUR: 'it returns false'. Refute it at one input. -/
def fnExactRowJsonWrong : ChangeSpec := { name := "fnExactRowJson", fn := fun _ => fun
  | [d1, d2] => { results := [.lit (.bool false)], args := [d1, d2] }
  | _ => none }
def FnExactRowJsonWrongFalsely : Prop := fnExactRowJsonRow.holds Try.pinned (OpenSpec.ofChange fnExactRowJsonWrong)

/- THE SECOND FORM. 'bulk': how many values and letters a reading holds, each counted each time it is reached (what is shared counts as often as it is met; a slice's spare places count too). A statement '..UptoSaid' is the law's where the arguments, and the package variables that the reading takes, are together of bulk at most 1048576: NARROWER than '..Said'. Prove '..Said' where nothing that the law and all that it calls make is longer than what came in: it says more and counts as full. Else prove '..UptoSaid'. A law counts once. -/
mutual
def uptoBulk {H : Type} : DataW H → Nat
  | .lit (.string bytes) => bytes.length + 1
  | .lit _ => 1
  | .nil => 1
  | .ptr d => uptoBulk d + 1
  | .slice elems spare => uptoBulkAll elems + uptoBulkAll spare + 1
  | .agg parts => uptoBulkAll parts + 1
  | .iface _ d => uptoBulk d + 1
  | .map entries => uptoBulkEntries entries + 1
  | .held _ => 1
def uptoBulkAll {H : Type} : List (DataW H) → Nat
  | [] => 0
  | d :: r => uptoBulk d + uptoBulkAll r
def uptoBulkEntries {H : Type} : List (Lit × DataW H) → Nat
  | [] => 0
  | x :: r => uptoBulkEntry x + uptoBulkEntries r
def uptoBulkEntry {H : Type} : Lit × DataW H → Nat
  | (.string bytes, d) => bytes.length + uptoBulk d + 1
  | (_, d) => uptoBulk d + 1
 end
def uptoSmall : (H : Type) → List (DataW H) → Bool := fun _ ds => decide (uptoBulkAll ds ≤ 1048576)
def OpenSpec.upto (s : _root_.Go.ChangeSpec) : _root_.Go.OpenSpec := { _root_.Go.OpenSpec.ofChange s with cond := some uptoSmall }

/-- 'laws.FnExactAtomJson', WHERE WHAT IT READS IS OF BULK AT MOST 1048576: true; the input reads as it did. -/
def fnExactAtomJsonUptoRow : OpenClaim := { program := "ytkncpfhblciplaa", sum := "ac82899176735bd47aa51a59798e843fe3dc1c6460e87d861a526f5944fc5feb", func := "loop.example/g00524/laws.FnExactAtomJson", spec := "fnExactAtomJson", recurses := true, apart := false, narrowed := true }
def FnExactAtomJsonUptoSaid : Prop := fnExactAtomJsonUptoRow.holds Try.pinned (OpenSpec.upto fnExactAtomJsonSpec)

/-- 'laws.FnExactJsonAtom', WHERE WHAT IT READS IS OF BULK AT MOST 1048576: true; the input reads as it did. -/
def fnExactJsonAtomUptoRow : OpenClaim := { program := "ytkncpfhblciplaa", sum := "ac82899176735bd47aa51a59798e843fe3dc1c6460e87d861a526f5944fc5feb", func := "loop.example/g00524/laws.FnExactJsonAtom", spec := "fnExactJsonAtom", unfollowed := true, recurses := true, loops := true, apart := false, narrowed := true }
def FnExactJsonAtomUptoSaid : Prop := fnExactJsonAtomUptoRow.holds Try.pinned (OpenSpec.upto fnExactJsonAtomSpec)

/-- 'laws.FnExactDatumJson', WHERE WHAT IT READS IS OF BULK AT MOST 1048576: true; the input reads as it did. -/
def fnExactDatumJsonUptoRow : OpenClaim := { program := "ytkncpfhblciplaa", sum := "ac82899176735bd47aa51a59798e843fe3dc1c6460e87d861a526f5944fc5feb", func := "loop.example/g00524/laws.FnExactDatumJson", spec := "fnExactDatumJson", unfollowed := true, recurses := true, apart := false, narrowed := true }
def FnExactDatumJsonUptoSaid : Prop := fnExactDatumJsonUptoRow.holds Try.pinned (OpenSpec.upto fnExactDatumJsonSpec)

/-- 'laws.FnExactJsonDatum', WHERE WHAT IT READS IS OF BULK AT MOST 1048576: true; the input reads as it did. -/
def fnExactJsonDatumUptoRow : OpenClaim := { program := "ytkncpfhblciplaa", sum := "ac82899176735bd47aa51a59798e843fe3dc1c6460e87d861a526f5944fc5feb", func := "loop.example/g00524/laws.FnExactJsonDatum", spec := "fnExactJsonDatum", inPlace := ["slices.overlaps[loop.example/g00524/impl.Atom]"], unfollowed := true, recurses := true, loops := true, apart := false, narrowed := true }
def FnExactJsonDatumUptoSaid : Prop := fnExactJsonDatumUptoRow.holds Try.pinned (OpenSpec.upto fnExactJsonDatumSpec)

/-- 'laws.FnExactRowJson', WHERE WHAT IT READS IS OF BULK AT MOST 1048576: true; the input reads as it did. -/
def fnExactRowJsonUptoRow : OpenClaim := { program := "ytkncpfhblciplaa", sum := "ac82899176735bd47aa51a59798e843fe3dc1c6460e87d861a526f5944fc5feb", func := "loop.example/g00524/laws.FnExactRowJson", spec := "fnExactRowJson", inPlace := ["slices.overlaps[string]", "slices.overlaps[loop.example/g00524/impl.Json]"], unfollowed := true, recurses := true, apart := false, narrowed := true }
def FnExactRowJsonUptoSaid : Prop := fnExactRowJsonUptoRow.holds Try.pinned (OpenSpec.upto fnExactRowJsonSpec)

end Rows
end Go.Proofs.Ytkncpfhblciplaa
