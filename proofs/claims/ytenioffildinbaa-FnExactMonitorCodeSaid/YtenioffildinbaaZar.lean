import Derived.Test.YtenioffildinbaaZaq
import Derived.Deep.RegionWith
import Derived.BigQuiet
namespace Go.Proofs.Ytenioffildinbaa
open Go.RowKit
set_option linter.unusedSimpArgs false
def BoxT (ty : TypeId) (w W : World) (t : Tb) (ca : Option Addr) (cc : Nat) (ua : Option Addr) (uc : Nat) : Prop := W.heap[w.heap.size]? = some (.cells #[.string ⟨t.nm.toArray⟩, .slice ca t.cols.length cc, .slice ua t.uq.length uc, .bool t.rt] ty) ∧ Below w.heap.size w W
theorem BoxT.later {ty : TypeId} {w W W' : World} {t : Tb} {ca : Option Addr} {cc : Nat} {ua : Option Addr} {uc : Nat} (h : BoxT ty w W t ca cc ua uc) (hB : Below W.heap.size W W') : BoxT ty w W' t ca cc ua uc := ⟨heap_keptC h.1 hB, h.2.trans (hB.mono h.2.size)⟩
theorem boxT (ty : TypeId) (w : World) (t : Tb) (ca : Option Addr) (cc : Nat) (ua : Option Addr) (uc : Nat) : BoxT ty w (w.alloc (.cells #[.string ⟨t.nm.toArray⟩, .slice ca t.cols.length cc, .slice ua t.uq.length uc, .bool t.rt] ty)) t ca cc ua uc := ⟨heap_newC _ _, (Below.refl _ _).alloc (Nat.le_refl _) _⟩
theorem BoxT.drew {ty : TypeId} {w W : World} {t : Tb} {ca : Option Addr} {cc : Nat} {ua : Option Addr} {uc : Nat} (h : BoxT ty w W t ca cc ua uc) : BoxT ty w W.drew t ca cc ua uc := h.later (Below.refl _ _).drew
theorem BoxT.drewN {ty : TypeId} {w W : World} {t : Tb} {ca : Option Addr} {cc : Nat} {ua : Option Addr} {uc : Nat} (h : BoxT ty w W t ca cc ua uc) (n : Nat) : BoxT ty w (W.drewN n) t ca cc ua uc := h.later (below_drewN (Below.refl _ _) n)
variable {w V V' : World} {t : Tb} {ca : Option Addr} {cc : Nat} {ua : Option Addr} {uc : Nat} {o : Array Value}
end Go.Proofs.Ytenioffildinbaa
