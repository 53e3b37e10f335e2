import Derived.Test.YtnkgojjgiemgmaaZan
import Derived.Test.YtnkgojjgiemgmaaZao
import Derived.Test.YtnkgojjgiemgmaaZap
namespace Go.Proofs.Ytnkgojjgiemgmaa
open Go.RowKit Go.Maps
set_option linter.unusedSimpArgs false
theorem zeroP (w : World) : (zeroValue 69).run Try.prog w = .ok (.pointer none) w := by
  have h : (Try.prog.info? 69).map (fun i => i.zero) = some (some (.pointer none)) := by kernel_rfl
  obtain ⟨i, hi, hz⟩ := Option.map_eq_some_iff.1 h
  simp [zeroValue, typeInfo, hi, hz]
theorem look_shelf {w : World} {m n : Nat} {D : DataW Value} {l : List RowV} {rb roff : Nat} (hown : w.ownsMap Try.prog 3 ptrR m n D) (hs : ShM D l rb roff l.length) {id : Int} (hid : iOK id) : (Instr.lookup 43 (.map (some m)) (.int .i64 id) false).run Try.prog w = .ok (ptrOf l rb roff l.length id) w := by
  obtain ⟨v, ps, hrun, hv⟩ := hown.lookup (t := 43) intK Try.underlying43 (zeroP w) (zd := .held (.pointer none)) (zp := []) rfl (keyOf_int_mk Try.underlying3 hid)
  rw [hs id] at hv
  simp only [ptrR, Option.some.injEq, Prod.mk.injEq, DataW.held.injEq] at hv
  rw [hrun, hv.1]
end Go.Proofs.Ytnkgojjgiemgmaa
