import Derived.Test.YtooiejlbnddfmaaFPure
import Derived.Test.YtooiejlbnddfmaaApp
import Derived.Test.YtooiejlbnddfmaaMark2
import Derived.ArgAppend
import Derived.OwnWalk
namespace Go.Proofs.Ytooiejlbnddfmaa
open Go.RowKit
set_option linter.unusedSimpArgs false
/-- texts as cells -/
def sc (l : List (List UInt8)) : List Value := l.map fun s => .string ⟨s.toArray⟩
theorem sc_len (l : List (List UInt8)) : (sc l).length = l.length := by simp [sc]
theorem sc_app (a b : List (List UInt8)) : sc (a ++ b) = sc a ++ sc b := by simp [sc]
/-- a row of the call's own, or none -/
def OB (w : World) (B : Nat) (t : TypeId) (v : Value) (xs : List Value) : Prop := w.ownsRow B t 1 v xs.length xs
/-- w' is w but for v's own row and new blocks; v' lies in v's row or in a new one -/
structure Gr (w : World) (v : Value) (w' : World) (v' : Value) : Prop where
  os : w'.os = w.os
  tape : w'.tape = w.tape
  output : w'.output = w.output
  size : w.heap.size ≤ w'.heap.size
  block : ∀ k, k < w.heap.size → v.ownBlock ≠ some k → w'.heap[k]? = w.heap[k]?
  place : ∀ g, v'.ownBlock = some g → v.ownBlock = some g ∨ w.heap.size ≤ g
theorem OB.lt {w : World} {B : Nat} {t : TypeId} {v : Value} {xs : List Value} (h : OB w B t v xs) {g : Nat} (hg : v.ownBlock = some g) : B ≤ g ∧ g < w.heap.size := World.ownsRow.lt h g hg
theorem OB.same {w w' : World} {B : Nat} {t : TypeId} {v : Value} {xs : List Value} (h : OB w B t v xs) (hs : ∀ g, v.ownBlock = some g → w'.heap[g]? = w.heap[g]?) : OB w' B t v xs := by
  refine ⟨h.1, ?_⟩
  rcases h.2 with h0 | ⟨g, cap, cur, e1, hg1, hb1, rest⟩
  · exact .inl h0
  · exact .inr ⟨g, cap, cur, e1, hg1, by rw [hs g (by rw [e1]; rfl)]; exact hb1, rest⟩
theorem OB.nil (w : World) (B : Nat) (t : TypeId) : OB w B t (.slice none 0 0) [] := ⟨rfl, .inl ⟨rfl, rfl⟩⟩
theorem OB.empty (w : World) (t : TypeId) (B : Nat) (hB : B ≤ w.heap.size) : OB (w.alloc (.cells #[] t)) B t (.slice (some ⟨w.heap.size, 0, none⟩) 0 0) [] :=
  ⟨rfl, .inr ⟨w.heap.size, 0, #[], rfl, hB, (by show (w.heap.push _)[w.heap.size]? = _; simp), Nat.le_refl _, by unfold maxLen; omega, by simp, by simp⟩⟩
theorem OB.shape {w : World} {B : Nat} {t : TypeId} {v : Value} {xs : List Value} (h : OB w B t v xs) : ∃ a c, v = .slice a xs.length c ∧ xs.length ≤ c ∧ c ≤ maxLen := by
  rcases h.2 with ⟨rfl, h0⟩ | ⟨g, cap, cur, rfl, hg, hb, hn, hcap, -⟩
  · exact ⟨none, 0, by rw [h0], by omega, by unfold maxLen; omega⟩
  · exact ⟨_, _, rfl, hn, hcap⟩
theorem OB.cut {w : World} {B : Nat} {t : TypeId} {a : Addr} {n c : Nat} {xs : List Value} (h : OB w B t (.slice (some a) n c) xs) : OB w B t (.slice (some a) 0 c) [] := by
  rcases h.2 with ⟨e, -⟩ | ⟨g, cap, cur, e, hg, hb, hn, hcap, hcs, hx⟩
  · cases e
  · injection e with e1 e2 e3
    injection e1 with e1
    subst e1 e3
    exact ⟨rfl, .inr ⟨g, c, cur, rfl, hg, hb, Nat.zero_le _, hcap, hcs, by simp⟩⟩
theorem run_pushO {w : World} {B : Nat} (t e : TypeId) (i : TypeInfo) (z : Value) (bytes : Nat) (ht : Try.prog.underlying t = some (.slice e)) (hi : Try.prog.info? e = some i) (hz : i.zero = some z) (hs : i.size = 1) (hby : i.bytes = bytes) (hzs : z.cells.size = 1)
    {v : Value} {xs : List Value} (hb : OB w B e v xs) (hB : B ≤ w.heap.size) (ys : List Value) (hl : (xs.length + ys.length) * bytes ≤ 140737488355328) (hl2 : xs.length + ys.length ≤ maxLen) (h0 : 0 < ys.length) (ad : Addr) (cp : Nat) (ty : TypeId)
    (hnews : ∀ j u, ys[j]? = some u → w.cell? (ad.add j) = some u) (h1 : ∀ u ∈ ys, u.oneCell' = true) :
    ∃ v' w', (Builtin.append_ #[t, t] ty #[v, .slice (some ad) ys.length cp]).run Try.prog w = .ok v' w' ∧ OB w' B e v' (xs ++ ys) ∧ Gr w v w' v' := by
  obtain ⟨v', w', hr, h2, h3, g, h4, h5⟩ := run_append_own2 (P := Try.prog) w B t ty e i z 1 bytes ht hi hz hs hby hzs (by omega) v xs.length xs hb ad ys.length cp ys (by omega) hnews h1 hl2 hl hB h0
  refine ⟨v', w', hr, ?_, ⟨h3.os, h3.tape, h3.output, h3.size, fun k hk hn => h3.block k hk (fun e => hn e.symm), fun p hp => ?_⟩⟩
  · unfold OB
    rw [List.length_append]
    exact h2
  · rw [h4] at hp
    injection hp with hp
    subst hp
    exact h5
/-- a byte more -/
theorem run_push1 {w : World} {B : Nat} {v : Value} {bs : List UInt8} (hb : OB w B 5 v (bc bs)) (hB : B ≤ w.heap.size) (hl : bs.length ≤ 1000000) (c : UInt8) (ad : Addr) (cp : Nat) (ty : TypeId) (hc : w.cell? ad = some (.int .u8 (c.toNat : Int))) (ha : ad.add 0 = ad) :
    ∃ v' w', (Builtin.append_ #[41, 41] ty #[v, .slice (some ad) 1 cp]).run Try.prog w = .ok v' w' ∧ OB w' B 5 v' (bc (bs ++ [c])) ∧ Gr w v w' v' := by
  obtain ⟨i, hi, hz, hs, hby⟩ := info5'
  rw [← bc_app]
  exact run_pushO 41 5 i (.int .u8 0) 1 Try.underlying41 hi hz hs hby rfl hb hB (bc [c]) (by simp [bc]; omega) (by unfold maxLen; simp [bc]; omega) (by simp [bc]) ad cp ty (fun j u hj => by
    have : j = 0 := by have := (List.getElem?_eq_some_iff.1 hj).1; simp [bc] at this; omega
    subst this
    rw [ha, hc]
    simpa [bc] using hj) (fun u hu => by simp [bc] at hu; rw [hu]; rfl)
/-- texts more -/
theorem run_pushS {w : World} {B : Nat} {v : Value} {l : List (List UInt8)} (hb : OB w B 9 v (sc l)) (hB : B ≤ w.heap.size) (ys : List (List UInt8)) (hl : l.length + ys.length ≤ 1000000000) (h0 : 0 < ys.length) (ad : Addr) (cp : Nat) (ty : TypeId) (hc : ∀ j u, (sc ys)[j]? = some u → w.cell? (ad.add j) = some u) :
    ∃ v' w', (Builtin.append_ #[29, 29] ty #[v, .slice (some ad) ys.length cp]).run Try.prog w = .ok v' w' ∧ OB w' B 9 v' (sc (l ++ ys)) ∧ Gr w v w' v' := by
  obtain ⟨i, hi, hz, hs, hby⟩ := info9'
  rw [sc_app]
  have := run_pushO 29 9 i (.string ⟨#[]⟩) 16 Try.underlying29 hi hz hs hby rfl hb hB (sc ys) (by rw [sc_len, sc_len]; omega) (by unfold maxLen; rw [sc_len, sc_len]; omega) (by rw [sc_len]; exact h0) ad cp ty hc (fun u hu => by obtain ⟨x, -, rfl⟩ := List.mem_map.1 hu; rfl)
  rw [sc_len] at this
  exact this
theorem heap_new' (w : World) (o : Obj) : (w.alloc o).heap[w.heap.size]? = some o := by
  show (w.heap.push o)[w.heap.size]? = _
  simp
theorem heap_setO (W : World) (p o k : Nat) (v : Value) (h : k ≠ p) : (W.setCell ⟨p, o, none⟩ v).heap[k]? = W.heap[k]? := Below.heap_setCell W ⟨p, o, none⟩ v k h
theorem size_setO (W : World) (p o : Nat) (v : Value) : (W.setCell ⟨p, o, none⟩ v).heap.size = W.heap.size := by simp
end Go.Proofs.Ytooiejlbnddfmaa
