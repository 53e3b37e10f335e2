import Derived.Test.YtjgflcffmljapaaKOf
import Derived.Test.YtjgflcffmljapaaKMk
namespace Go.Proofs.Ytjgflcffmljapaa
open Go.RowKit
set_option linter.unusedSimpArgs false
/-- what the law of two sets holds in memory: the specification's answer A, the arguments' copies X and Y, the answer G -/
structure MemB (w W : World) (a b A X Y G : List At) (pa pb pw px py pg : Option Addr) (s1 s2 s3 s4 : Nat) : Prop where
  arga : Ats w (· < w.heap.size) pa a
  argb : Ats w (· < w.heap.size) pb b
  bel : Below w.heap.size w W
  rw_ : Ats W (· < s1) pw A
  ox : OwnAts W (fun b => s1 ≤ b ∧ b < s2) px X
  oy : OwnAts W (fun b => s2 ≤ b ∧ b < s3) py Y
  og : OwnAts W (fun b => s3 ≤ b ∧ b < s4) pg G
  ord : w.heap.size ≤ s1 ∧ s1 ≤ s2 ∧ s2 ≤ s3 ∧ s3 ≤ s4 ∧ s4 ≤ W.heap.size
variable {w W W' : World} {a b A X Y G : List At} {pa pb pw px py pg : Option Addr} {s1 s2 s3 s4 : Nat}
theorem MemB.nowa (h : MemB w W a b A X Y G pa pb pw px py pg s1 s2 s3 s4) : Ats W (· < w.heap.size) pa a := h.arga.below h.bel
theorem MemB.nowb (h : MemB w W a b A X Y G pa pb pw px py pg s1 s2 s3 s4) : Ats W (· < w.heap.size) pb b := h.argb.below h.bel
theorem MemB.later (h : MemB w W a b A X Y G pa pb pw px py pg s1 s2 s3 s4) (hB : Below W.heap.size W W') : MemB w W' a b A X Y G pa pb pw px py pg s1 s2 s3 s4 := by
  have ho := h.ord
  have hs := hB.size
  exact ⟨h.arga, h.argb, h.bel.trans (hB.mono h.bel.size), h.rw_.same (fun b hb => hB.block b (by omega)) (fun _ h => h), h.ox.same (fun b hb => hB.block b (by omega)) (fun _ h => h), h.oy.same (fun b hb => hB.block b (by omega)) (fun _ h => h), h.og.same (fun b hb => hB.block b (by omega)) (fun _ h => h), by omega⟩
theorem MemB.markx {X' : List At} (h : MemB w W a b A X Y G pa pb pw px py pg s1 s2 s3 s4) (hF : Frm (fun b => s1 ≤ b ∧ b < s2) W W') (hX : OwnAts W' (fun b => s1 ≤ b ∧ b < s2) px X') : MemB w W' a b A X' Y G pa pb pw px py pg s1 s2 s3 s4 := by
  have ho := h.ord
  have hs := hF.size
  exact ⟨h.arga, h.argb, h.bel.trans (hF.below h.bel.size (fun b hb => by omega)), h.rw_.same (fun b hb => hF.block b (by omega) (by omega)) (fun _ h => h), hX, h.oy.same (fun b hb => hF.block b (by omega) (by omega)) (fun _ h => h), h.og.same (fun b hb => hF.block b (by omega) (by omega)) (fun _ h => h), by omega⟩
theorem MemB.marky {Y' : List At} (h : MemB w W a b A X Y G pa pb pw px py pg s1 s2 s3 s4) (hF : Frm (fun b => s2 ≤ b ∧ b < s3) W W') (hY : OwnAts W' (fun b => s2 ≤ b ∧ b < s3) py Y') : MemB w W' a b A X Y' G pa pb pw px py pg s1 s2 s3 s4 := by
  have ho := h.ord
  have hs := hF.size
  exact ⟨h.arga, h.argb, h.bel.trans (hF.below h.bel.size (fun b hb => by omega)), h.rw_.same (fun b hb => hF.block b (by omega) (by omega)) (fun _ h => h), h.ox.same (fun b hb => hF.block b (by omega) (by omega)) (fun _ h => h), hY, h.og.same (fun b hb => hF.block b (by omega) (by omega)) (fun _ h => h), by omega⟩
theorem MemB.markg {G' : List At} (h : MemB w W a b A X Y G pa pb pw px py pg s1 s2 s3 s4) (hF : Frm (fun b => s3 ≤ b ∧ b < s4) W W') (hG : OwnAts W' (fun b => s3 ≤ b ∧ b < s4) pg G') : MemB w W' a b A X Y G' pa pb pw px py pg s1 s2 s3 s4 := by
  have ho := h.ord
  have hs := hF.size
  exact ⟨h.arga, h.argb, h.bel.trans (hF.below h.bel.size (fun b hb => by omega)), h.rw_.same (fun b hb => hF.block b (by omega) (by omega)) (fun _ h => h), h.ox.same (fun b hb => hF.block b (by omega) (by omega)) (fun _ h => h), h.oy.same (fun b hb => hF.block b (by omega) (by omega)) (fun _ h => h), hG, by omega⟩
end Go.Proofs.Ytjgflcffmljapaa
