import Derived.Test.YtoalhminembpkaaUba
import Derived.Conc.MuLone
import Derived.KernelRfl
namespace Go.Proofs.Ytoalhminembpkaa
open Go.RowKit
abbrev muL : Go.Conc.Locks.MuLink := { lock := 71, unlock := 72, ilock := 91, iunlock := 92, lockSlow := 103, unlockSlow := 105, disable := 99, enable := 101, acquire := 102, relMerge := 104, cas32 := 100, add32 := 98, tMutex := 91, tIMutex := 89, tPMutex := 112, tPIMutex := 120, tPI32 := 119, tUP := 123, tNoCopy := 86, tU32 := 87 }
theorem muLib : Go.Conc.Locks.MuLib Try.prog muL :=
  ⟨Try.func71, Try.func72, Try.func91, Try.func92, Try.func99, Try.func101, Try.func102, Try.func104, Try.func100, Try.func98, Try.underlying89, Try.runUnderlying89, Try.sizeOf89, Try.isAgg89, Try.zeroValue89, Try.underlying91, Try.runUnderlying91, Try.sizeOf91, Try.isAgg91, Try.zeroValue91, Try.underlying112, Try.runUnderlying112, Try.sizeOf112, Try.isAgg112, Try.zeroValue112, Try.underlying120, Try.runUnderlying120, Try.sizeOf120, Try.isAgg120, Try.zeroValue120, Try.underlying119, Try.runUnderlying119, Try.sizeOf119, Try.isAgg119, Try.zeroValue119, Try.underlying123, Try.runUnderlying123, Try.sizeOf123, Try.isAgg123, Try.zeroValue123, Try.underlying86, Try.runUnderlying86, Try.sizeOf86, Try.isAgg86, Try.zeroValue86, Try.underlying21, Try.runUnderlying21, Try.sizeOf21, Try.isAgg21, Try.zeroValue21, by kernel_rfl⟩
end Go.Proofs.Ytoalhminembpkaa
