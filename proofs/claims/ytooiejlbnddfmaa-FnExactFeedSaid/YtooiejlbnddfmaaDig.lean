import Derived.Test.YtooiejlbnddfmaaMem
import Derived.Test.YtooiejlbnddfmaaProg
import Derived.Test.YtooiejlbnddfmaaPr
import Derived.Laws.IdiomStrings
import Derived.Deep.QuietTactic
import Derived.BigQuiet
import Derived.Deep.RegionWith
import Derived.Deep.RegionLaw
import Derived.Deep.RegionHeld3
namespace Go.Proofs.Ytooiejlbnddfmaa
open Go.RowKit
set_option linter.unusedSimpArgs false
theorem cell_new1 (w : World) {cs : Array Value} {t : TypeId} {o : Nat} {v : Value} (h : cs[o]? = some v) : (w.alloc (.cells cs t)).cell? ⟨w.heap.size, o, none⟩ = some v := by
  have e : (w.alloc (.cells cs t)).heap[w.heap.size]? = some (.cells cs t) := by show (w.heap.push _)[w.heap.size]? = _; simp
  unfold World.cell?; rw [e]; exact h
theorem keep_cell {P W' : World} {a : Addr} {v : Value} (hB : Below P.heap.size P W') (h : P.cell? a = some v) : W'.cell? a = some v := (hB.cell (World.block_lt_of_cell? _ _ h)).trans h
theorem conv1 (W : World) (b : Nat) (c : UInt8) (x : Int) (hx : x = (c.toNat : Int)) (hc : W.cell? ⟨b, 0, none⟩ = some (.int .u8 x)) :
    (convert 41 9 (.slice (some ⟨b, 0, none⟩) 1 1)).run Try.prog W = .ok (.string ⟨#[c]⟩) W :=
  run_convert_bytes_back (P := Try.prog) W 41 9 5 ⟨b, 0, none⟩ 1 [c] Try.underlying41 Try.underlying5 Try.underlying9 (fun j hj => by
    have : j = 0 := by simpa using hj
    subst this
    rw [Addr.add_mid]
    simp only [List.getElem_cons_zero]
    rw [← hx]
    exact hc)
theorem str_snoc (out : List UInt8) (c : UInt8) : (ByteArray.mk out.toArray ++ ByteArray.mk #[c] : ByteArray) = ⟨(out ++ [c]).toArray⟩ := by
  apply ByteArray.ext; simp
theorem str_app (a b : List UInt8) : (ByteArray.mk a.toArray ++ ByteArray.mk b.toArray : ByteArray) = ⟨(a ++ b).toArray⟩ := by
  apply ByteArray.ext; simp
theorem dig_len (n : Nat) : (dig n).length ≤ n + 1 := by
  induction n using Nat.strongRecOn with
  | _ n ih =>
    by_cases h : n < 10
    · rw [dig_small h]; simp
    · have := ih (n / 10) (by omega)
      rw [dig_big h, List.length_append]; simp; omega
theorem add_str (a b : List UInt8) (h : a.length + b.length ≤ 9223372036854775807) (w : World) : (binOp .add 9 (.string ⟨a.toArray⟩) (.string ⟨b.toArray⟩)).run Try.prog w = .ok (.string ⟨(a ++ b).toArray⟩) w := by
  have := run_string_add_sum (P := Try.prog) (w := w) ⟨a.toArray⟩ ⟨b.toArray⟩ (by simpa [ByteArray.size] using h)
  rw [str_app] at this
  simp only [binOp]
  exact this
theorem ret_s {a b : ByteArray} (h : a = b) : Ending.returned (.string a) = .returned (.string b) := by rw [h]
end Go.Proofs.Ytooiejlbnddfmaa
