import Derived.Test.YthpenliecgpedaaYag
namespace Go.Proofs.Ythpenliecgpedaa
open Go.RowKit
set_option linter.unusedSimpArgs false
def cInt (x : Int) : Nat → D := fun _ => .i x
def dIntS (l : List Int) : D := Ls 1 cInt l
end Go.Proofs.Ythpenliecgpedaa
namespace Go.Proofs.Ythpenliecgpedaa
open Go.RowKit
set_option linter.unusedSimpArgs false
structure LkV where
  nm : List UInt8
  qu : List Int
def dLock (x : LkV) : Nat → D
  | 0 => .s x.nm
  | _ => dIntS x.qu
def dLockS (l : List LkV) : D := Ls 2 dLock l
theorem run_mkLockS (n : Nat) (hn : n ≤ 1048576) (w : World) :
    (Instr.makeSlice 23 (.int .i64 (n : Int)) (.int .i64 (n : Int))).run Try.prog w = .ok (.slice (some ⟨w.heap.size, 0, none⟩) n n) (w.alloc (.cells (madeCells #[.string ⟨#[]⟩, .slice none 0 0] (n * 2)) 54)) := by
  have h : (Try.prog.info? 54).map (fun i => (i.zero, i.size, i.bytes)) = some (some (.agg #[.string ⟨#[]⟩, .slice none 0 0]), 2, 40) := by kernel_rfl
  obtain ⟨i, hi, hzz⟩ := Option.map_eq_some_iff.1 h
  simp only [Prod.mk.injEq] at hzz
  obtain ⟨hz, hs, hb⟩ := hzz
  have hr := run_make (P := Try.prog) w 23 54 i _ Try.underlying23 hi hz .i64 .i64 n n (by omega) (Int.le_refl _) (by rw [hb]; omega) (by omega)
  rw [hr, hs]
  simp only [Int.toNat_natCast]
  rfl
structure ToV where
  se : Int
  wd : List UInt8
  tn : List UInt8
def dTold (x : ToV) : Nat → D
  | 0 => .i x.se
  | 1 => .s x.wd
  | _ => .s x.tn
def dToldS (l : List ToV) : D := Ls 3 dTold l
end Go.Proofs.Ythpenliecgpedaa
