/-
  No cell of these rows narrows 'for every input' (looked for: loops, veiled, ifaces, maps, wideKeys, modest, calm, conditions, laid).
  DERIVED. THE GIVEN ROWS OF THIS SEAT. 6 by the template 'for every input the law returns true; each argument reads behind the call as it read before'; 0 by the template 'total and deterministic' (their statements: YtoalhminembpkaaTotals.lean).
  GIVEN WITH THE SEED: the statements are not yours to turn. If you find one false, say at which input.
  Laid BY PROGRAM, IN A SANDBOX (cutbox-rows.mjs): the forced cells as the released guide's own fill.sh prints them over the translation 30d7e0dc6343a6ad… (all of the seat's roots in one cut). By AI agents, Wed Nov 11 2026. No macro, syntax, notation, axiom, sorry.
-/
import Derived.Test.YtoalhminembpkaaChecked
import GoSem.Claim
import GoSem.ClaimJoined
import GoSem.ClaimMapViews
import Derived.JoinedTies
import Derived.KernelRfl
namespace Go.Proofs.Ytoalhminembpkaa
/- THE CELL 'sum', in the pinned program and in every row, IS THE sha256 OF THE DUMP (.gsa) THAT YtoalhminembpkaaProg.lean LOADS. Nothing in Lean hashes anything: it is a label: what it is worth is what the hold of that sum in a sandbox is worth. -/
noncomputable def Try.pinned : Pinned := { name := "ytoalhminembpkaa", sum := "30d7e0dc6343a6ad3d0c4d600a8460b13d81f5dab8878a10b3a60f207fcabb4c", checked := Try.checked }
namespace Rows
def none {H : Type} : Left H := { results := [], args := [] }

/-- 'laws.FnExactLocksOK': WHATEVER THE INPUT: true; the input reads as it did. -/
def fnExactLocksOKSpec : ChangeSpec := { name := "fnExactLocksOK", fn := fun _ => fun
  | [d] => { results := [.lit (.bool true)], args := [d] }
  | _ => none }
def fnExactLocksOKRow : OpenClaim := { program := "ytoalhminembpkaa", sum := "30d7e0dc6343a6ad3d0c4d600a8460b13d81f5dab8878a10b3a60f207fcabb4c", func := "loop.example/g00524/laws.FnExactLocksOK", spec := "fnExactLocksOK", inPlace := ["sync/atomic.AddInt32"], unfollowed := true, recurses := true, apart := false }
def FnExactLocksOKSaid : Prop := fnExactLocksOKRow.holds Try.pinned (OpenSpec.ofChange fnExactLocksOKSpec)

/-- ITS FALSE NEIGHBOUR: 'it returns false'. Refute it at one input. -/
def fnExactLocksOKWrong : ChangeSpec := { name := "fnExactLocksOK", fn := fun _ => fun
  | [d] => { results := [.lit (.bool false)], args := [d] }
  | _ => none }
def FnExactLocksOKWrongFalsely : Prop := fnExactLocksOKRow.holds Try.pinned (OpenSpec.ofChange fnExactLocksOKWrong)

/-- 'laws.FnExactTakeLock': WHATEVER THE INPUT: true; the input reads as it did. -/
def fnExactTakeLockSpec : ChangeSpec := { name := "fnExactTakeLock", fn := fun _ => fun
  | [d1, d2, d3] => { results := [.lit (.bool true)], args := [d1, d2, d3] }
  | _ => none }
def fnExactTakeLockRow : OpenClaim := { program := "ytoalhminembpkaa", sum := "30d7e0dc6343a6ad3d0c4d600a8460b13d81f5dab8878a10b3a60f207fcabb4c", func := "loop.example/g00524/laws.FnExactTakeLock", spec := "fnExactTakeLock", inPlace := ["sync/atomic.AddInt32", "(*internal/sync.Mutex).Lock", "internal/race.Disable", "sync/atomic.CompareAndSwapInt32", "internal/race.Enable", "internal/race.Acquire", "(*internal/sync.Mutex).lockSlow", "internal/sync.runtime_canSpin", "internal/sync.runtime_doSpin", "internal/sync.throw", "internal/sync.runtime_nanotime", "internal/sync.runtime_SemacquireMutex", "(*internal/sync.Mutex).Unlock", "internal/race.ReleaseMerge", "(*internal/sync.Mutex).unlockSlow", "internal/sync.fatal", "internal/sync.runtime_Semrelease", "slices.overlaps[loop.example/g00524/impl.Lock]"], unfollowed := true, recurses := true, apart := false }
def FnExactTakeLockSaid : Prop := fnExactTakeLockRow.holds Try.pinned (OpenSpec.ofChange fnExactTakeLockSpec)

/-- ITS FALSE NEIGHBOUR: 'it returns false'. Refute it at one input. -/
def fnExactTakeLockWrong : ChangeSpec := { name := "fnExactTakeLock", fn := fun _ => fun
  | [d1, d2, d3] => { results := [.lit (.bool false)], args := [d1, d2, d3] }
  | _ => none }
def FnExactTakeLockWrongFalsely : Prop := fnExactTakeLockRow.holds Try.pinned (OpenSpec.ofChange fnExactTakeLockWrong)

/-- 'laws.FnExactStealLock': WHATEVER THE INPUT: true; the input reads as it did. -/
def fnExactStealLockSpec : ChangeSpec := { name := "fnExactStealLock", fn := fun _ => fun
  | [d1, d2, d3] => { results := [.lit (.bool true)], args := [d1, d2, d3] }
  | _ => none }
def fnExactStealLockRow : OpenClaim := { program := "ytoalhminembpkaa", sum := "30d7e0dc6343a6ad3d0c4d600a8460b13d81f5dab8878a10b3a60f207fcabb4c", func := "loop.example/g00524/laws.FnExactStealLock", spec := "fnExactStealLock", inPlace := ["sync/atomic.AddInt32", "(*internal/sync.Mutex).Lock", "internal/race.Disable", "sync/atomic.CompareAndSwapInt32", "internal/race.Enable", "internal/race.Acquire", "(*internal/sync.Mutex).lockSlow", "internal/sync.runtime_canSpin", "internal/sync.runtime_doSpin", "internal/sync.throw", "internal/sync.runtime_nanotime", "internal/sync.runtime_SemacquireMutex", "(*internal/sync.Mutex).Unlock", "internal/race.ReleaseMerge", "(*internal/sync.Mutex).unlockSlow", "internal/sync.fatal", "internal/sync.runtime_Semrelease", "slices.overlaps[loop.example/g00524/impl.Lock]", "slices.overlaps[int]"], unfollowed := true, recurses := true, apart := false }
def FnExactStealLockSaid : Prop := fnExactStealLockRow.holds Try.pinned (OpenSpec.ofChange fnExactStealLockSpec)

/-- ITS FALSE NEIGHBOUR: 'it returns false'. Refute it at one input. -/
def fnExactStealLockWrong : ChangeSpec := { name := "fnExactStealLock", fn := fun _ => fun
  | [d1, d2, d3] => { results := [.lit (.bool false)], args := [d1, d2, d3] }
  | _ => none }
def FnExactStealLockWrongFalsely : Prop := fnExactStealLockRow.holds Try.pinned (OpenSpec.ofChange fnExactStealLockWrong)

/-- 'laws.FnExactLeaveLock': WHATEVER THE INPUT: true; the input reads as it did. -/
def fnExactLeaveLockSpec : ChangeSpec := { name := "fnExactLeaveLock", fn := fun _ => fun
  | [d1, d2, d3] => { results := [.lit (.bool true)], args := [d1, d2, d3] }
  | _ => none }
def fnExactLeaveLockRow : OpenClaim := { program := "ytoalhminembpkaa", sum := "30d7e0dc6343a6ad3d0c4d600a8460b13d81f5dab8878a10b3a60f207fcabb4c", func := "loop.example/g00524/laws.FnExactLeaveLock", spec := "fnExactLeaveLock", inPlace := ["sync/atomic.AddInt32", "(*internal/sync.Mutex).Lock", "internal/race.Disable", "sync/atomic.CompareAndSwapInt32", "internal/race.Enable", "internal/race.Acquire", "(*internal/sync.Mutex).lockSlow", "internal/sync.runtime_canSpin", "internal/sync.runtime_doSpin", "internal/sync.throw", "internal/sync.runtime_nanotime", "internal/sync.runtime_SemacquireMutex", "(*internal/sync.Mutex).Unlock", "internal/race.ReleaseMerge", "(*internal/sync.Mutex).unlockSlow", "internal/sync.fatal", "internal/sync.runtime_Semrelease"], unfollowed := true, recurses := true, apart := false }
def FnExactLeaveLockSaid : Prop := fnExactLeaveLockRow.holds Try.pinned (OpenSpec.ofChange fnExactLeaveLockSpec)

/-- ITS FALSE NEIGHBOUR: 'it returns false'. Refute it at one input. -/
def fnExactLeaveLockWrong : ChangeSpec := { name := "fnExactLeaveLock", fn := fun _ => fun
  | [d1, d2, d3] => { results := [.lit (.bool false)], args := [d1, d2, d3] }
  | _ => none }
def FnExactLeaveLockWrongFalsely : Prop := fnExactLeaveLockRow.holds Try.pinned (OpenSpec.ofChange fnExactLeaveLockWrong)

/-- 'laws.FnExactLeaveAll': WHATEVER THE INPUT: true; the input reads as it did. -/
def fnExactLeaveAllSpec : ChangeSpec := { name := "fnExactLeaveAll", fn := fun _ => fun
  | [d1, d2] => { results := [.lit (.bool true)], args := [d1, d2] }
  | _ => none }
def fnExactLeaveAllRow : OpenClaim := { program := "ytoalhminembpkaa", sum := "30d7e0dc6343a6ad3d0c4d600a8460b13d81f5dab8878a10b3a60f207fcabb4c", func := "loop.example/g00524/laws.FnExactLeaveAll", spec := "fnExactLeaveAll", inPlace := ["sync/atomic.AddInt32", "(*internal/sync.Mutex).Lock", "internal/race.Disable", "sync/atomic.CompareAndSwapInt32", "internal/race.Enable", "internal/race.Acquire", "(*internal/sync.Mutex).lockSlow", "internal/sync.runtime_canSpin", "internal/sync.runtime_doSpin", "internal/sync.throw", "internal/sync.runtime_nanotime", "internal/sync.runtime_SemacquireMutex", "(*internal/sync.Mutex).Unlock", "internal/race.ReleaseMerge", "(*internal/sync.Mutex).unlockSlow", "internal/sync.fatal", "internal/sync.runtime_Semrelease"], unfollowed := true, recurses := true, apart := false }
def FnExactLeaveAllSaid : Prop := fnExactLeaveAllRow.holds Try.pinned (OpenSpec.ofChange fnExactLeaveAllSpec)

/-- ITS FALSE NEIGHBOUR: 'it returns false'. Refute it at one input. -/
def fnExactLeaveAllWrong : ChangeSpec := { name := "fnExactLeaveAll", fn := fun _ => fun
  | [d1, d2] => { results := [.lit (.bool false)], args := [d1, d2] }
  | _ => none }
def FnExactLeaveAllWrongFalsely : Prop := fnExactLeaveAllRow.holds Try.pinned (OpenSpec.ofChange fnExactLeaveAllWrong)

/-- 'laws.FnExactOwnedBy': WHATEVER THE INPUT: true; the input reads as it did. -/
def fnExactOwnedBySpec : ChangeSpec := { name := "fnExactOwnedBy", fn := fun _ => fun
  | [d1, d2] => { results := [.lit (.bool true)], args := [d1, d2] }
  | _ => none }
def fnExactOwnedByRow : OpenClaim := { program := "ytoalhminembpkaa", sum := "30d7e0dc6343a6ad3d0c4d600a8460b13d81f5dab8878a10b3a60f207fcabb4c", func := "loop.example/g00524/laws.FnExactOwnedBy", spec := "fnExactOwnedBy", inPlace := ["sync/atomic.AddInt32"], unfollowed := true, recurses := true, apart := false }
def FnExactOwnedBySaid : Prop := fnExactOwnedByRow.holds Try.pinned (OpenSpec.ofChange fnExactOwnedBySpec)

/-- ITS FALSE NEIGHBOUR: 'it returns false'. Refute it at one input. -/
def fnExactOwnedByWrong : ChangeSpec := { name := "fnExactOwnedBy", fn := fun _ => fun
  | [d1, d2] => { results := [.lit (.bool false)], args := [d1, d2] }
  | _ => none }
def FnExactOwnedByWrongFalsely : Prop := fnExactOwnedByRow.holds Try.pinned (OpenSpec.ofChange fnExactOwnedByWrong)

/- THE SECOND FORM. 'bulk': how many values and letters a reading holds, each counted each time it is reached (what is shared counts as often as it is met; a slice's spare places count too). A statement '..UptoSaid' is the law's where the arguments, and the package variables that the reading takes, are together of bulk at most 1048576: NARROWER than '..Said'. Prove '..Said' where nothing that the law and all that it calls make is longer than what came in: it says more and counts as full. Else prove '..UptoSaid'. A law counts once. -/
mutual
def uptoBulk {H : Type} : DataW H → Nat
  | .lit (.string bytes) => bytes.length + 1
  | .lit _ => 1
  | .nil => 1
  | .ptr d => uptoBulk d + 1
  | .slice elems spare => uptoBulkAll elems + uptoBulkAll spare + 1
  | .agg parts => uptoBulkAll parts + 1
  | .iface _ d => uptoBulk d + 1
  | .map entries => uptoBulkEntries entries + 1
  | .held _ => 1
def uptoBulkAll {H : Type} : List (DataW H) → Nat
  | [] => 0
  | d :: r => uptoBulk d + uptoBulkAll r
def uptoBulkEntries {H : Type} : List (Lit × DataW H) → Nat
  | [] => 0
  | x :: r => uptoBulkEntry x + uptoBulkEntries r
def uptoBulkEntry {H : Type} : Lit × DataW H → Nat
  | (.string bytes, d) => bytes.length + uptoBulk d + 1
  | (_, d) => uptoBulk d + 1
 end
def uptoSmall : (H : Type) → List (DataW H) → Bool := fun _ ds => decide (uptoBulkAll ds ≤ 1048576)
def OpenSpec.upto (s : _root_.Go.ChangeSpec) : _root_.Go.OpenSpec := { _root_.Go.OpenSpec.ofChange s with cond := some uptoSmall }

/-- 'laws.FnExactLocksOK', WHERE WHAT IT READS IS OF BULK AT MOST 1048576: true; the input reads as it did. -/
def fnExactLocksOKUptoRow : OpenClaim := { program := "ytoalhminembpkaa", sum := "30d7e0dc6343a6ad3d0c4d600a8460b13d81f5dab8878a10b3a60f207fcabb4c", func := "loop.example/g00524/laws.FnExactLocksOK", spec := "fnExactLocksOK", inPlace := ["sync/atomic.AddInt32"], unfollowed := true, recurses := true, apart := false, narrowed := true }
def FnExactLocksOKUptoSaid : Prop := fnExactLocksOKUptoRow.holds Try.pinned (OpenSpec.upto fnExactLocksOKSpec)

/-- 'laws.FnExactTakeLock', WHERE WHAT IT READS IS OF BULK AT MOST 1048576: true; the input reads as it did. -/
def fnExactTakeLockUptoRow : OpenClaim := { program := "ytoalhminembpkaa", sum := "30d7e0dc6343a6ad3d0c4d600a8460b13d81f5dab8878a10b3a60f207fcabb4c", func := "loop.example/g00524/laws.FnExactTakeLock", spec := "fnExactTakeLock", inPlace := ["sync/atomic.AddInt32", "(*internal/sync.Mutex).Lock", "internal/race.Disable", "sync/atomic.CompareAndSwapInt32", "internal/race.Enable", "internal/race.Acquire", "(*internal/sync.Mutex).lockSlow", "internal/sync.runtime_canSpin", "internal/sync.runtime_doSpin", "internal/sync.throw", "internal/sync.runtime_nanotime", "internal/sync.runtime_SemacquireMutex", "(*internal/sync.Mutex).Unlock", "internal/race.ReleaseMerge", "(*internal/sync.Mutex).unlockSlow", "internal/sync.fatal", "internal/sync.runtime_Semrelease", "slices.overlaps[loop.example/g00524/impl.Lock]"], unfollowed := true, recurses := true, apart := false, narrowed := true }
def FnExactTakeLockUptoSaid : Prop := fnExactTakeLockUptoRow.holds Try.pinned (OpenSpec.upto fnExactTakeLockSpec)

/-- 'laws.FnExactStealLock', WHERE WHAT IT READS IS OF BULK AT MOST 1048576: true; the input reads as it did. -/
def fnExactStealLockUptoRow : OpenClaim := { program := "ytoalhminembpkaa", sum := "30d7e0dc6343a6ad3d0c4d600a8460b13d81f5dab8878a10b3a60f207fcabb4c", func := "loop.example/g00524/laws.FnExactStealLock", spec := "fnExactStealLock", inPlace := ["sync/atomic.AddInt32", "(*internal/sync.Mutex).Lock", "internal/race.Disable", "sync/atomic.CompareAndSwapInt32", "internal/race.Enable", "internal/race.Acquire", "(*internal/sync.Mutex).lockSlow", "internal/sync.runtime_canSpin", "internal/sync.runtime_doSpin", "internal/sync.throw", "internal/sync.runtime_nanotime", "internal/sync.runtime_SemacquireMutex", "(*internal/sync.Mutex).Unlock", "internal/race.ReleaseMerge", "(*internal/sync.Mutex).unlockSlow", "internal/sync.fatal", "internal/sync.runtime_Semrelease", "slices.overlaps[loop.example/g00524/impl.Lock]", "slices.overlaps[int]"], unfollowed := true, recurses := true, apart := false, narrowed := true }
def FnExactStealLockUptoSaid : Prop := fnExactStealLockUptoRow.holds Try.pinned (OpenSpec.upto fnExactStealLockSpec)

/-- 'laws.FnExactLeaveLock', WHERE WHAT IT READS IS OF BULK AT MOST 1048576: true; the input reads as it did. -/
def fnExactLeaveLockUptoRow : OpenClaim := { program := "ytoalhminembpkaa", sum := "30d7e0dc6343a6ad3d0c4d600a8460b13d81f5dab8878a10b3a60f207fcabb4c", func := "loop.example/g00524/laws.FnExactLeaveLock", spec := "fnExactLeaveLock", inPlace := ["sync/atomic.AddInt32", "(*internal/sync.Mutex).Lock", "internal/race.Disable", "sync/atomic.CompareAndSwapInt32", "internal/race.Enable", "internal/race.Acquire", "(*internal/sync.Mutex).lockSlow", "internal/sync.runtime_canSpin", "internal/sync.runtime_doSpin", "internal/sync.throw", "internal/sync.runtime_nanotime", "internal/sync.runtime_SemacquireMutex", "(*internal/sync.Mutex).Unlock", "internal/race.ReleaseMerge", "(*internal/sync.Mutex).unlockSlow", "internal/sync.fatal", "internal/sync.runtime_Semrelease"], unfollowed := true, recurses := true, apart := false, narrowed := true }
def FnExactLeaveLockUptoSaid : Prop := fnExactLeaveLockUptoRow.holds Try.pinned (OpenSpec.upto fnExactLeaveLockSpec)

/-- 'laws.FnExactLeaveAll', WHERE WHAT IT READS IS OF BULK AT MOST 1048576: true; the input reads as it did. -/
def fnExactLeaveAllUptoRow : OpenClaim := { program := "ytoalhminembpkaa", sum := "30d7e0dc6343a6ad3d0c4d600a8460b13d81f5dab8878a10b3a60f207fcabb4c", func := "loop.example/g00524/laws.FnExactLeaveAll", spec := "fnExactLeaveAll", inPlace := ["sync/atomic.AddInt32", "(*internal/sync.Mutex).Lock", "internal/race.Disable", "sync/atomic.CompareAndSwapInt32", "internal/race.Enable", "internal/race.Acquire", "(*internal/sync.Mutex).lockSlow", "internal/sync.runtime_canSpin", "internal/sync.runtime_doSpin", "internal/sync.throw", "internal/sync.runtime_nanotime", "internal/sync.runtime_SemacquireMutex", "(*internal/sync.Mutex).Unlock", "internal/race.ReleaseMerge", "(*internal/sync.Mutex).unlockSlow", "internal/sync.fatal", "internal/sync.runtime_Semrelease"], unfollowed := true, recurses := true, apart := false, narrowed := true }
def FnExactLeaveAllUptoSaid : Prop := fnExactLeaveAllUptoRow.holds Try.pinned (OpenSpec.upto fnExactLeaveAllSpec)

/-- 'laws.FnExactOwnedBy', WHERE WHAT IT READS IS OF BULK AT MOST 1048576: true; the input reads as it did. -/
def fnExactOwnedByUptoRow : OpenClaim := { program := "ytoalhminembpkaa", sum := "30d7e0dc6343a6ad3d0c4d600a8460b13d81f5dab8878a10b3a60f207fcabb4c", func := "loop.example/g00524/laws.FnExactOwnedBy", spec := "fnExactOwnedBy", inPlace := ["sync/atomic.AddInt32"], unfollowed := true, recurses := true, apart := false, narrowed := true }
def FnExactOwnedByUptoSaid : Prop := fnExactOwnedByUptoRow.holds Try.pinned (OpenSpec.upto fnExactOwnedBySpec)

end Rows
end Go.Proofs.Ytoalhminembpkaa
