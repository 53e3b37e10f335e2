import Derived.Test.YtooiejlbnddfmaaFAllS
import Derived.Test.YtooiejlbnddfmaaToO
import Derived.Test.YtooiejlbnddfmaaEq
namespace Go.Proofs.Ytooiejlbnddfmaa
open Go.RowKit
set_option linter.unusedSimpArgs false
set_option maxHeartbeats 1600000 in
theorem eqFr (f : Fr) (w : World) :
    Calls Try.prog 12 #[.agg #[.string ⟨f.buf.toArray⟩, .int .i64 f.d, .bool f.q, .bool f.s, .bool f.c], .agg #[.string ⟨f.buf.toArray⟩, .int .i64 f.d, .bool f.q, .bool f.s, .bool f.c]] w fun e w' => e = .returned (.bool true) ∧ Below w.heap.size w w' := by
  have n1 := neq_selfFB f.q
  have n2 := neq_selfFB f.s
  have n3 := neq_selfFB f.c
  go_enter Try.func12, Try.ntmps12
  go_wp2_with fail
  go_ret
  exact ⟨rfl, ((Below.refl _ _).alloc (Nat.le_refl _) _).alloc (by simp) _⟩
theorem OB.owns {W : World} {B n c : Nat} {a : Option Addr} {l : List (List UInt8)} (h : OB W B 9 (.slice a n c) (sc l)) : OwnStrs W (fun b => B ≤ b ∧ b < W.heap.size) a l := by
  rcases h.2 with ⟨-, h0⟩ | ⟨g, cap, cur, e, hg, ⟨fr, hb, hm⟩, hn, hcap, hcs, hx⟩
  · exact .inl (by rw [sc_len] at h0; exact h0)
  · injection e with e1 e2 e3
    subst e1
    refine .inr ⟨g, 0, rfl, ⟨hg, (Array.getElem?_eq_some_iff.1 hb).1⟩, fun i hi => ⟨?_, by rw [Nat.zero_add]; exact MK.free hb hm i (by rw [sc_len] at hn; omega)⟩⟩
    have h1 := congrArg (·[i]?) hx
    rw [Nat.mul_one, sc_len] at h1
    simp only [sc, List.getElem?_map, List.getElem?_eq_getElem hi, Option.map_some] at h1
    rw [List.getElem?_take_of_lt (by omega), Array.getElem?_toList] at h1
    rw [Nat.zero_add]
    simp [World.cell?, hb, h1]
/-- what the law holds in memory -/
structure LA (w W : World) (l A X G : List (List UInt8)) (g : Fr) (pa pw px pg : Option Addr) (s1 s2 s3 b6 b9 : Nat) : Prop where
  arg : Strs w (· < w.heap.size) pa l
  bel : Below w.heap.size w W
  rw_ : Strs W (· < s1) pw A
  ox : OwnStrs W (fun b => s1 ≤ b ∧ b < s2) px X
  og : OwnStrs W (fun b => s2 ≤ b ∧ b < s3) pg G
  w0 : W.heap[b6]? = some (frB g)
  g0 : W.heap[b9]? = some (frB g)
  ord : w.heap.size ≤ s1 ∧ s1 ≤ s2 ∧ s2 ≤ s3 ∧ s3 ≤ W.heap.size ∧ b6 < s1 ∧ s3 ≤ b9
variable {w W W' : World} {l A X G : List (List UInt8)} {g : Fr} {pa pw px pg : Option Addr} {s1 s2 s3 b6 b9 : Nat}
theorem LA.now (h : LA w W l A X G g pa pw px pg s1 s2 s3 b6 b9) : Strs W (· < w.heap.size) pa l := h.arg.below h.bel
theorem LA.later (h : LA w W l A X G g pa pw px pg s1 s2 s3 b6 b9) (hB : Below W.heap.size W W') : LA w W' l A X G g pa pw px pg s1 s2 s3 b6 b9 := by
  have ho := h.ord
  have hs := hB.size
  exact ⟨h.arg, h.bel.trans (hB.mono h.bel.size), h.rw_.same (fun b hb => hB.block b (by omega)) (fun _ h => h), h.ox.same (fun b hb => hB.block b (by omega)) (fun _ h => h), h.og.same (fun b hb => hB.block b (by omega)) (fun _ h => h), kept h.w0 hB, kept h.g0 hB, by omega⟩
theorem LA.markx {X' : List (List UInt8)} (h : LA w W l A X G g pa pw px pg s1 s2 s3 b6 b9) (hF : Frm (fun b => s1 ≤ b ∧ b < s2) W W') (hX : OwnStrs W' (fun b => s1 ≤ b ∧ b < s2) px X') : LA w W' l A X' G g pa pw px pg s1 s2 s3 b6 b9 := by
  have ho := h.ord
  have hs := hF.size
  have h9 := (Array.getElem?_eq_some_iff.1 h.g0).1
  exact ⟨h.arg, h.bel.trans (hF.below h.bel.size (fun b hb => by omega)), h.rw_.same (fun b hb => hF.block b (by omega) (by omega)) (fun _ h => h), hX, h.og.same (fun b hb => hF.block b (by omega) (by omega)) (fun _ h => h), by rw [hF.block b6 (by omega) (by omega)]; exact h.w0, by rw [hF.block b9 (by omega) (by omega)]; exact h.g0, by omega⟩
theorem LA.markg {G' : List (List UInt8)} (h : LA w W l A X G g pa pw px pg s1 s2 s3 b6 b9) (hF : Frm (fun b => s2 ≤ b ∧ b < s3) W W') (hG : OwnStrs W' (fun b => s2 ≤ b ∧ b < s3) pg G') : LA w W' l A X G' g pa pw px pg s1 s2 s3 b6 b9 := by
  have ho := h.ord
  have hs := hF.size
  have h9 := (Array.getElem?_eq_some_iff.1 h.g0).1
  exact ⟨h.arg, h.bel.trans (hF.below h.bel.size (fun b hb => by omega)), h.rw_.same (fun b hb => hF.block b (by omega) (by omega)) (fun _ h => h), h.ox.same (fun b hb => hF.block b (by omega) (by omega)) (fun _ h => h), hG, by rw [hF.block b6 (by omega) (by omega)]; exact h.w0, by rw [hF.block b9 (by omega) (by omega)]; exact h.g0, by omega⟩
theorem neq_selfFI (c : Int) : (c != c) = false := by simp
theorem szK_both {l : List (List UInt8)} {L : Int} (h : ¬ L - (szK l : Int) < 0) (hL : L ≤ 1048576) : l.length ≤ 1048576 ∧ l.flatten.length ≤ 1048576 := by
  unfold szK at h
  rw [List.length_flatten]
  omega
end Go.Proofs.Ytooiejlbnddfmaa
