import Derived.Test.YtjgflcffmljapaaKOf
import Derived.Test.YtjgflcffmljapaaKMk
namespace Go.Proofs.Ytjgflcffmljapaa
open Go.RowKit
set_option linter.unusedSimpArgs false
/-- what the law holds in memory: the specification's answer A, the argument's copy X, the answer G -/
structure MemA (w W : World) (l A X G : List At) (pa pw px pg : Option Addr) (s1 s2 s3 : Nat) : Prop where
  arg : Ats w (· < w.heap.size) pa l
  bel : Below w.heap.size w W
  rw_ : Ats W (· < s1) pw A
  ox : OwnAts W (fun b => s1 ≤ b ∧ b < s2) px X
  og : OwnAts W (fun b => s2 ≤ b ∧ b < s3) pg G
  ord : w.heap.size ≤ s1 ∧ s1 ≤ s2 ∧ s2 ≤ s3 ∧ s3 ≤ W.heap.size
variable {w W W' : World} {l A X G : List At} {pa pw px pg : Option Addr} {s1 s2 s3 : Nat}
theorem MemA.now (h : MemA w W l A X G pa pw px pg s1 s2 s3) : Ats W (· < w.heap.size) pa l := h.arg.below h.bel
theorem MemA.later (h : MemA w W l A X G pa pw px pg s1 s2 s3) (hB : Below W.heap.size W W') : MemA w W' l A X G pa pw px pg s1 s2 s3 := by
  have ho := h.ord
  have hs := hB.size
  exact ⟨h.arg, h.bel.trans (hB.mono h.bel.size), h.rw_.same (fun b hb => hB.block b (by omega)) (fun _ h => h), h.ox.same (fun b hb => hB.block b (by omega)) (fun _ h => h), h.og.same (fun b hb => hB.block b (by omega)) (fun _ h => h), by omega⟩
theorem MemA.markx {X' : List At} (h : MemA w W l A X G pa pw px pg s1 s2 s3) (hF : Frm (fun b => s1 ≤ b ∧ b < s2) W W') (hX : OwnAts W' (fun b => s1 ≤ b ∧ b < s2) px X') : MemA w W' l A X' G pa pw px pg s1 s2 s3 := by
  have ho := h.ord
  have hs := hF.size
  exact ⟨h.arg, h.bel.trans (hF.below h.bel.size (fun b hb => by omega)), h.rw_.same (fun b hb => hF.block b (by omega) (by omega)) (fun _ h => h), hX, h.og.same (fun b hb => hF.block b (by omega) (by omega)) (fun _ h => h), by omega⟩
theorem MemA.markg {G' : List At} (h : MemA w W l A X G pa pw px pg s1 s2 s3) (hF : Frm (fun b => s2 ≤ b ∧ b < s3) W W') (hG : OwnAts W' (fun b => s2 ≤ b ∧ b < s3) pg G') : MemA w W' l A X G' pa pw px pg s1 s2 s3 := by
  have ho := h.ord
  have hs := hF.size
  exact ⟨h.arg, h.bel.trans (hF.below h.bel.size (fun b hb => by omega)), h.rw_.same (fun b hb => hF.block b (by omega) (by omega)) (fun _ h => h), h.ox.same (fun b hb => hF.block b (by omega) (by omega)) (fun _ h => h), hG, by omega⟩
/-- what impl.DatumOf is to answer -/
def OfSaid : Prop := ∀ (l : List At) (b off c : Nat) (S : Nat) (w : World), l.length ≤ 1048576 → (∀ x ∈ l, x.t.length ≤ maxLen) → S ≤ w.heap.size → Ats w (· < S) (some ⟨b, off, none⟩) l →
    Calls Try.prog 7 #[.slice (some ⟨b, off, none⟩) l.length c] w (AAns2 w (ofR l) (ofC l))
theorem ofR_len (l : List At) : (ofR l).length ≤ 8 := by
  unfold ofR
  split
  · omega
  · simp
end Go.Proofs.Ytjgflcffmljapaa
