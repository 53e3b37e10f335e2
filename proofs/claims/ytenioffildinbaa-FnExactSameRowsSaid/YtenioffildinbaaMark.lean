import Derived.Test.YtenioffildinbaaSz
import Derived.Test.YtenioffildinbaaOwn
import Derived.Deep.OwnRows
import Derived.Laws.IdiomStrings
import Derived.Deep.MidRow
import Derived.Deep.QuietTactic
import Derived.BigQuiet
import Derived.Deep.RegionWith
namespace Go.Proofs.Ytenioffildinbaa
open Go.RowKit
set_option linter.unusedSimpArgs false
theorem cell_new (w : World) {cs : Array Value} {t : TypeId} {o : Nat} {v : Value} (h : cs[o]? = some v) : (w.alloc (.cells cs t)).cell? ⟨w.heap.size, o, none⟩ = some v := by
  have e : (w.alloc (.cells cs t)).heap[w.heap.size]? = some (.cells cs t) := by show (w.heap.push _)[w.heap.size]? = _; simp
  unfold World.cell?; rw [e]; exact h
theorem str_cons (c : UInt8) (out : List UInt8) : (ByteArray.mk #[c] ++ ByteArray.mk out.toArray : ByteArray) = ⟨(c :: out).toArray⟩ := by
  apply ByteArray.ext; simp
/-- a number's digits, ahead of what is there -/
def dg : Nat → Nat → List UInt8 → List UInt8
  | 0, _, acc => acc
  | f + 1, k, acc => if k = 0 then acc else dg f (k / 10) (UInt8.ofNat (48 + k % 10) :: acc)
theorem dg_zero (f : Nat) (acc : List UInt8) : dg f 0 acc = acc := by cases f <;> simp [dg]
theorem dg_step (f k : Nat) (acc : List UInt8) (h : 0 < k) : dg (f + 1) k acc = dg f (k / 10) (UInt8.ofNat (48 + k % 10) :: acc) := by
  rw [dg, if_neg (by omega)]
/-- the text of a mark -/
def mt (k : Nat) : List UInt8 := 109 :: dg 20 k []

theorem dg_len : ∀ (f k : Nat) (acc : List UInt8), (dg f k acc).length ≤ acc.length + f
  | 0, _, acc => by simp [dg]
  | f + 1, k, acc => by
    unfold dg
    split
    · omega
    · have := dg_len f (k / 10) (UInt8.ofNat (48 + k % 10) :: acc)
      rw [List.length_cons] at this; omega
theorem mt_len (k : Nat) : (mt k).length ≤ maxLen := by
  have := dg_len 20 k []
  unfold mt maxLen; simp at this ⊢; omega

end Go.Proofs.Ytenioffildinbaa
