import Derived.Test.YtkncpfhblciplaaWac
import Derived.Test.YtkncpfhblciplaaWak
import Derived.Deep.OwnRows
import Derived.Laws.IdiomStrings
import Derived.Deep.MidRow
import Derived.Deep.QuietTactic
import Derived.BigQuiet
import Derived.Deep.RegionWith
namespace Go.Proofs.Ytkncpfhblciplaa
open Go.RowKit
set_option linter.unusedSimpArgs false
theorem cell_new (w : World) {cs : Array Value} {t : TypeId} {o : Nat} {v : Value} (h : cs[o]? = some v) : (w.alloc (.cells cs t)).cell? ⟨w.heap.size, o, none⟩ = some v := by
  have e : (w.alloc (.cells cs t)).heap[w.heap.size]? = some (.cells cs t) := by show (w.heap.push _)[w.heap.size]? = _; simp
  unfold World.cell?; rw [e]; exact h
theorem str_cons (c : UInt8) (out : List UInt8) : (ByteArray.mk #[c] ++ ByteArray.mk out.toArray : ByteArray) = ⟨(c :: out).toArray⟩ := by
  apply ByteArray.ext; simp
def dg : Nat → Nat → List UInt8 → List UInt8
  | 0, _, acc => acc
  | f + 1, k, acc => if k = 0 then acc else dg f (k / 10) (UInt8.ofNat (48 + k % 10) :: acc)
theorem dg_zero (f : Nat) (acc : List UInt8) : dg f 0 acc = acc := by cases f <;> simp [dg]
theorem dg_step (f k : Nat) (acc : List UInt8) (h : 0 < k) : dg (f + 1) k acc = dg f (k / 10) (UInt8.ofNat (48 + k % 10) :: acc) := by
  rw [dg, if_neg (by omega)]
def mt (k : Nat) : List UInt8 := 109 :: dg 20 k []
theorem dg_len : ∀ (f k : Nat) (acc : List UInt8), (dg f k acc).length ≤ acc.length + f
  | 0, _, acc => by simp [dg]
  | f + 1, k, acc => by
    unfold dg
    split
    · omega
    · have := dg_len f (k / 10) (UInt8.ofNat (48 + k % 10) :: acc)
      rw [List.length_cons] at this; omega
theorem mt_len (k : Nat) : (mt k).length ≤ maxLen := by
  have := dg_len 20 k []
  unfold mt maxLen; simp at this ⊢; omega
set_option maxHeartbeats 800000 in
theorem markText (k : Nat) (w : World) (h0 : 0 < k) (h1 : k < 1000000000000) :
    Calls Try.prog 57 #[.int .i64 k] w fun e w' => e = .returned (.string ⟨(mt k).toArray⟩) ∧ Below w.heap.size w w' := by
  have hk : ¬ (k : Int) ≤ 0 := by omega
  have hk' : decide ((k : Int) ≤ 0) = false := by simp; omega
  go_enter Try.func57, Try.ntmps57
  go_wp2_with fail
  go_loopw [0, 3] (fun a o wr => ∃ m f : Nat, ∃ out : List UInt8, a = .int .i64 m ∧ m ≤ k ∧ o = .string ⟨out.toArray⟩ ∧ m < 10 ^ f ∧ f ≤ 20 ∧ Hid (dg f m out = dg 20 k []) ∧ out.length + f ≤ 20 ∧ Below w.heap.size w wr) (fun a _ _ => (intOf a).toNat)
  case atStart => exact ⟨k, 20, [], rfl, Nat.le_refl _, rfl, by omega, by omega, rfl, by simp, Below.refl _ _⟩
  case round =>
    obtain ⟨m, f, out, rfl, hm, rfl, hf, hf20, HD, hlen, hB⟩ := hrel
    by_cases hz : 0 < m
    · have hzi : (0 : Int) < (m : Int) := by omega
      have hby : (UInt8.ofNat (48 + m % 10)).toNat = 48 + m % 10 := by rw [UInt8.toNat_ofNat']; omega
      have hconv : (convert 115 9 (.slice (some ⟨wr.heap.size, 0, none⟩) 1 1)).run Try.prog (wr.alloc (.cells #[.int .u8 (48 + (m : Int) % 10)] 5)) = .ok (.string ⟨#[UInt8.ofNat (48 + m % 10)]⟩) (wr.alloc (.cells #[.int .u8 (48 + (m : Int) % 10)] 5)) :=
        run_convert_bytes_back (P := Try.prog) (wr.alloc (.cells #[.int .u8 (48 + (m : Int) % 10)] 5)) 115 9 5 ⟨wr.heap.size, 0, none⟩ 1 [UInt8.ofNat (48 + m % 10)] Try.underlying115 Try.underlying5 Try.underlying9 (fun j hj => by
          have : j = 0 := by simpa using hj
          subst this
          rw [Addr.add_mid]
          refine (cell_new _ rfl).trans ?_
          simp only [List.getElem_cons_zero, hby]
          congr 2)
      clear hby
      obtain ⟨f', hf'⟩ : ∃ f', f = f' + 1 := ⟨f - 1, by
        have : f ≠ 0 := by intro e; subst e; simp at hf; omega
        omega⟩
      have HS : Hid (dg f' (m / 10) (UInt8.ofNat (48 + m % 10) :: out) = dg 20 k []) := by
        have := HD.out
        rw [hf', dg_step f' m out hz] at this
        exact this
      have hq : m / 10 < 10 ^ f' := by rw [hf', Nat.pow_succ] at hf; omega
      have hl' : out.length + 1 + f' ≤ 20 := by omega
      clear hf' hf HD
      go_wp2_with fail
      refine ⟨⟨m / 10, f', UInt8.ofNat (48 + m % 10) :: out, rfl, by omega, ?_, hq, by omega, HS.out, by simp; omega, hB.alloc hB.size _⟩, ?_⟩
      · rw [show UInt8.ofNat (48 + m % 10) = 48 + UInt8.ofNat (m % 10) from by simp]
        exact congrArg Value.string (str_cons _ _)
      · simp [intOf]; omega
    · have hz' : m = 0 := by omega
      have HE : Hid (out = dg 20 k []) := by
        have := HD.out
        rw [hz', dg_zero] at this
        exact this
      have hm0 : ¬ (0 : Int) < (m : Int) := by omega
      clear hz'
      go_wp2_with fail
      go_ret
      refine ⟨?_, hB⟩
      unfold mt
      rw [← HE.out]
      exact congrArg (fun x => Ending.returned (.string x)) (str_cons _ _)
end Go.Proofs.Ytkncpfhblciplaa
