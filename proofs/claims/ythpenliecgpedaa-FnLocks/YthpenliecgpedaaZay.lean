import Derived.Test.YthpenliecgpedaaZat
import Derived.Conc.MuLone
import Derived.KernelRfl
namespace Go.Proofs.Ythpenliecgpedaa
open Go.RowKit
abbrev muL : Go.Conc.Locks.MuLink := { lock := 46, unlock := 47, ilock := 70, iunlock := 71, lockSlow := 85, unlockSlow := 88, disable := 81, enable := 83, acquire := 84, relMerge := 86, cas32 := 82, add32 := 87, tMutex := 78, tIMutex := 76, tPMutex := 100, tPIMutex := 111, tPI32 := 113, tUP := 115, tNoCopy := 73, tU32 := 74 }
theorem muLib : Go.Conc.Locks.MuLib Try.prog muL :=
  ⟨Try.func46, Try.func47, Try.func70, Try.func71, Try.func81, Try.func83, Try.func84, Try.func86, Try.func82, Try.func87, Try.underlying76, Try.runUnderlying76, Try.sizeOf76, Try.isAgg76, Try.zeroValue76, Try.underlying78, Try.runUnderlying78, Try.sizeOf78, Try.isAgg78, Try.zeroValue78, Try.underlying100, Try.runUnderlying100, Try.sizeOf100, Try.isAgg100, Try.zeroValue100, Try.underlying111, Try.runUnderlying111, Try.sizeOf111, Try.isAgg111, Try.zeroValue111, Try.underlying113, Try.runUnderlying113, Try.sizeOf113, Try.isAgg113, Try.zeroValue113, Try.underlying115, Try.runUnderlying115, Try.sizeOf115, Try.isAgg115, Try.zeroValue115, Try.underlying73, Try.runUnderlying73, Try.sizeOf73, Try.isAgg73, Try.zeroValue73, Try.underlying21, Try.runUnderlying21, Try.sizeOf21, Try.isAgg21, Try.zeroValue21, by kernel_rfl⟩
end Go.Proofs.Ythpenliecgpedaa
