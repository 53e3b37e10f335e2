import Derived.Test.YtodgijhpokjjhaaDoorZba
import Derived.Test.YtodgijhpokjjhaaDoorZbl
import Derived.Test.YtodgijhpokjjhaaDoorZac
import Derived.Test.YtodgijhpokjjhaaDoorZae
import Derived.Deep.OwnRows
import Derived.Laws.IdiomStrings
import Derived.Deep.MidRow
import Derived.Deep.QuietTactic
import Derived.BigQuiet
import Derived.Deep.RegionWith
import Derived.ArgAppend
import Derived.OwnWalk
import Derived.Laws.BytesArg
namespace Go.Proofs.YtodgijhpokjjhaaDoor
open Go.RowKit
set_option linter.unusedSimpArgs false
def sc (l : List (List UInt8)) : List Value := l.map fun s => .string ⟨s.toArray⟩
theorem sc_len (l : List (List UInt8)) : (sc l).length = l.length := by simp [sc]
theorem sc_app (a b : List (List UInt8)) : sc (a ++ b) = sc a ++ sc b := by simp [sc]
def MK (cur : Array Value) (fr : Nat × Nat) : Prop := fr = (0, 0) ∨ fr = (cur.size, cur.size + 1)
def OB (w : World) (B : Nat) (t : TypeId) (v : Value) (xs : List Value) : Prop :=
  xs.length = xs.length * 1 ∧
  ((v = .slice none 0 0 ∧ xs.length = 0) ∨
   ∃ g cap cur, v = .slice (some ⟨g, 0, none⟩) xs.length cap ∧ B ≤ g ∧ (∃ fr, w.heap[g]? = some (.cells cur t fr) ∧ MK cur fr) ∧ xs.length ≤ cap ∧ cap ≤ maxLen ∧ cur.size = cap * 1 ∧ cur.toList.take (xs.length * 1) = xs)
theorem OB.of {w : World} {B : Nat} {t : TypeId} {v : Value} {xs : List Value} (h : w.ownsRow B t 1 v xs.length xs) : OB w B t v xs := by
  refine ⟨by omega, ?_⟩
  rcases h.2 with h0 | ⟨g, cap, cur, e1, hg1, hb1, rest⟩
  · exact .inl h0
  · exact .inr ⟨g, cap, cur, e1, hg1, ⟨_, hb1, .inl rfl⟩, rest⟩
theorem MK.cell {w : World} {g : Nat} {cur : Array Value} {t : TypeId} {fr : Nat × Nat} (h : w.heap[g]? = some (.cells cur t fr)) (j : Nat) : w.cell? ⟨g, j, none⟩ = cur[j]? := by simp [World.cell?, h]
theorem MK.free {w : World} {g : Nat} {cur : Array Value} {t : TypeId} {fr : Nat × Nat} (h : w.heap[g]? = some (.cells cur t fr)) (hm : MK cur fr) (j : Nat) (hj : j < cur.size) : w.frozen? ⟨g, j, none⟩ = false := by
  rcases hm with rfl | rfl
  · simp [World.frozen?, h]
  · simp [World.frozen?, h]; omega
structure Gr (w : World) (v : Value) (w' : World) (v' : Value) : Prop where
  os : w'.os = w.os
  tape : w'.tape = w.tape
  output : w'.output = w.output
  size : w.heap.size ≤ w'.heap.size
  block : ∀ k, k < w.heap.size → v.ownBlock ≠ some k → w'.heap[k]? = w.heap[k]?
  place : ∀ g, v'.ownBlock = some g → v.ownBlock = some g ∨ w.heap.size ≤ g
theorem OB.lt {w : World} {B : Nat} {t : TypeId} {v : Value} {xs : List Value} (h : OB w B t v xs) {g : Nat} (hg : v.ownBlock = some g) : B ≤ g ∧ g < w.heap.size := by
  rcases h.2 with ⟨rfl, -⟩ | ⟨q, cap, cur, rfl, hq, ⟨fr, hb, -⟩, -⟩
  · simp [Value.ownBlock] at hg
  · have e : q = g := by simpa [Value.ownBlock] using hg
    subst e
    exact ⟨hq, (Array.getElem?_eq_some_iff.1 hb).1⟩
theorem OB.same {w w' : World} {B : Nat} {t : TypeId} {v : Value} {xs : List Value} (h : OB w B t v xs) (hs : ∀ g, v.ownBlock = some g → w'.heap[g]? = w.heap[g]?) : OB w' B t v xs := by
  refine ⟨h.1, ?_⟩
  rcases h.2 with h0 | ⟨g, cap, cur, e1, hg1, ⟨fr, hb1, hm1⟩, rest⟩
  · exact .inl h0
  · exact .inr ⟨g, cap, cur, e1, hg1, ⟨fr, by rw [hs g (by rw [e1]; rfl)]; exact hb1, hm1⟩, rest⟩
theorem OB.nil (w : World) (B : Nat) (t : TypeId) : OB w B t (.slice none 0 0) [] := ⟨rfl, .inl ⟨rfl, rfl⟩⟩
theorem OB.shape {w : World} {B : Nat} {t : TypeId} {v : Value} {xs : List Value} (h : OB w B t v xs) : ∃ a c, v = .slice a xs.length c ∧ xs.length ≤ c ∧ c ≤ maxLen := by
  rcases h.2 with ⟨rfl, h0⟩ | ⟨g, cap, cur, rfl, hg, hb, hn, hcap, -⟩
  · exact ⟨none, 0, by rw [h0], by omega, by unfold maxLen; omega⟩
  · exact ⟨_, _, rfl, hn, hcap⟩
theorem OB.cut {w : World} {B : Nat} {t : TypeId} {a : Addr} {n c : Nat} {xs : List Value} (h : OB w B t (.slice (some a) n c) xs) : OB w B t (.slice (some a) 0 c) [] := by
  rcases h.2 with ⟨e, -⟩ | ⟨g, cap, cur, e, hg, hb, hn, hcap, hcs, hx⟩
  · cases e
  · injection e with e1 e2 e3
    injection e1 with e1
    subst e1 e3
    exact ⟨rfl, .inr ⟨g, c, cur, rfl, hg, hb, Nat.zero_le _, hcap, hcs, by simp⟩⟩
theorem OB.mono {w : World} {B B' : Nat} {t : TypeId} {v : Value} {xs : List Value} (h : OB w B t v xs) (hB : B' ≤ B) : OB w B' t v xs := by
  refine ⟨h.1, ?_⟩
  rcases h.2 with h0 | ⟨g, cap, cur, e1, hg1, rest⟩
  · exact .inl h0
  · exact .inr ⟨g, cap, cur, e1, Nat.le_trans hB hg1, rest⟩
theorem OB.cells {w : World} {B : Nat} {t : TypeId} {n c : Nat} {a : Addr} {xs : List Value} (h : OB w B t (.slice (some a) n c) xs) : ∀ j u, xs[j]? = some u → w.cell? (a.add j) = some u := fun j u hj => by
  rcases h.2 with ⟨e, -⟩ | ⟨g, cap, cur, e, hg, ⟨fr, hb, hm⟩, hn, hcap, hcs, hx⟩
  · cases e
  · injection e with e1 e2 e3
    injection e1 with e1
    subst e1
    have hl := (List.getElem?_eq_some_iff.1 hj).1
    rw [Addr.add_mid, Nat.zero_add, MK.cell hb]
    rw [← hx, List.getElem?_take_of_lt (by omega), Array.getElem?_toList] at hj
    exact hj
theorem setCells_row (g : Nat) (t : TypeId) (fr : Nat × Nat) : ∀ (vs : List Value) (o : Nat) (w : World) (cur : Array Value), w.heap[g]? = some (.cells cur t fr) → o + vs.length ≤ cur.size →
    ∃ cur', (w.setCells g o vs).heap[g]? = some (.cells cur' t fr) ∧ cur'.size = cur.size ∧ (∀ j, j < o → cur'[j]? = cur[j]?) ∧ (∀ j, j < vs.length → cur'[o + j]? = vs[j]?) ∧ (∀ k, k ≠ g → (w.setCells g o vs).heap[k]? = w.heap[k]?) ∧ (w.setCells g o vs).heap.size = w.heap.size ∧ (w.setCells g o vs).os = w.os ∧ (w.setCells g o vs).tape = w.tape ∧ (w.setCells g o vs).output = w.output
  | [], o, w, cur, hg, _ => ⟨cur, hg, rfl, fun _ _ => rfl, fun j hj => by simp at hj, fun _ _ => rfl, rfl, rfl, rfl, rfl⟩
  | v :: r, o, w, cur, hg, hl => by
    simp only [List.length_cons] at hl
    have h1 : (w.setCell ⟨g, o, none⟩ v).heap[g]? = some (.cells (cur.setIfInBounds o v) t fr) := by
      rw [setCell_eq_setRow w g o cur t fr v hg]
      exact setRow_heap w g cur _ t fr hg
    obtain ⟨cur', a1, a2, a3, a4, a5, a6, a7, a8, a9⟩ := setCells_row g t fr r (o + 1) (w.setCell ⟨g, o, none⟩ v) (cur.setIfInBounds o v) h1 (by simp; omega)
    refine ⟨cur', a1, by simpa using a2, fun j hj => ?_, fun j hj => ?_, fun k hk => ?_, ?_, a7, a8, a9⟩
    · rw [a3 j (by omega), Array.getElem?_setIfInBounds]
      rw [if_neg (by omega)]
    · cases j with
      | zero =>
        rw [Nat.add_zero, a3 o (by omega), Array.getElem?_setIfInBounds, if_pos rfl, if_pos (by omega)]
        rfl
      | succ j =>
        simp only [List.length_cons] at hj
        have := a4 j (by omega)
        rw [show o + (j + 1) = o + 1 + j by omega, this]
        rfl
    · show ((w.setCell ⟨g, o, none⟩ v).setCells g (o + 1) r).heap[k]? = _
      rw [a5 k hk]
      exact Below.heap_setCell w ⟨g, o, none⟩ v k hk
    · show ((w.setCell ⟨g, o, none⟩ v).setCells g (o + 1) r).heap.size = _
      rw [a6]
      simp
theorem run_pushO {w : World} {B : Nat} (t e : TypeId) (i : TypeInfo) (z : Value) (bytes : Nat) (ht : Tryd.prog.underlying t = some (.slice e)) (hi : Tryd.prog.info? e = some i) (hz : i.zero = some z) (hs : i.size = 1) (hby : i.bytes = bytes) (hzs : z.cells.size = 1)
    {v : Value} {xs : List Value} (hb : OB w B e v xs) (hB : B ≤ w.heap.size) (ys : List Value) (hl : (xs.length + ys.length) * bytes ≤ 140737488355328) (hl2 : xs.length + ys.length ≤ maxLen) (h0 : 0 < ys.length) (ad : Addr) (cp : Nat) (ty : TypeId)
    (hnews : ∀ j u, ys[j]? = some u → w.cell? (ad.add j) = some u) (h1 : ∀ u ∈ ys, u.oneCell' = true) :
    ∃ v' w', (Builtin.append_ #[t, t] ty #[v, .slice (some ad) ys.length cp]).run Tryd.prog w = .ok v' w' ∧ OB w' B e v' (xs ++ ys) ∧ Gr w v w' v' := by
  have plain : w.ownsRow B e 1 v xs.length xs → ∃ v' w', (Builtin.append_ #[t, t] ty #[v, .slice (some ad) ys.length cp]).run Tryd.prog w = .ok v' w' ∧ OB w' B e v' (xs ++ ys) ∧ Gr w v w' v' := fun hb => by
    obtain ⟨v', w', hr, h2, h3, g, h4, h5⟩ := run_append_own2 (P := Tryd.prog) w B t ty e i z 1 bytes ht hi hz hs hby hzs (by omega) v xs.length xs hb ad ys.length cp ys (by omega) hnews h1 hl2 hl hB h0
    refine ⟨v', w', hr, OB.of ?_, ⟨h3.os, h3.tape, h3.output, h3.size, fun k hk hn => h3.block k hk (fun e => hn e.symm), fun p hp => ?_⟩⟩
    · rw [List.length_append]
      exact h2
    · rw [h4] at hp
      injection hp with hp
      subst hp
      exact h5
  rcases hb.2 with ⟨rfl, h00⟩ | ⟨g, cap, cur, rfl, hg, ⟨fr, hbq, hm⟩, hn, hcap, hcs, hx⟩
  · exact plain ⟨by omega, .inl ⟨rfl, h00⟩⟩
  · have hmm := hm
    rcases hm with rfl | rfl
    · exact plain ⟨by omega, .inr ⟨g, cap, cur, rfl, hg, hbq, hn, hcap, hcs, hx⟩⟩
    · by_cases hroom : xs.length + ys.length ≤ cap
      · have hr := run_append_room_cells (P := Tryd.prog) w t ty e i ht hi g 0 xs.length cap ad ys.length cp ys (by rw [hs]; omega) hnews h1 hroom (fun j hj => by
          have hlt : xs.length * i.size + j < cur.size := by rw [hs]; omega
          rw [Nat.zero_add, MK.cell hbq, Array.getElem?_eq_getElem hlt]; rfl) (fun j hj => by
          rw [Nat.zero_add]
          exact MK.free hbq hmm _ (by rw [hs]; omega))
        rw [hs, Nat.zero_add, Nat.mul_one] at hr
        obtain ⟨cur', a1, a2, a3, a4, a5, a6, a7, a8, a9⟩ := setCells_row g e _ ys xs.length w cur hbq (by omega)
        refine ⟨_, _, hr, ⟨by omega, .inr ⟨g, cap, cur', by rw [List.length_append], hg, ⟨_, a1, .inr (by rw [a2])⟩, by rw [List.length_append]; exact hroom, hcap, by omega, ?_⟩⟩, ⟨a7, a8, a9, by omega, fun k hk hn => a5 k (fun e => hn (by rw [e]; rfl)), fun q hq => .inl hq⟩⟩
        rw [Nat.mul_one]
        apply List.ext_getElem?
        intro j
        by_cases hj : j < (xs ++ ys).length
        · rw [List.getElem?_take_of_lt hj, Array.getElem?_toList]
          by_cases hjx : j < xs.length
          · rw [a3 j hjx, List.getElem?_append_left hjx]
            have := congrArg (·[j]?) hx
            rw [Nat.mul_one] at this
            simp only [List.getElem?_take_of_lt hjx, Array.getElem?_toList] at this
            exact this
          · obtain ⟨m, rfl⟩ : ∃ m, j = xs.length + m := ⟨j - xs.length, by omega⟩
            rw [List.length_append] at hj
            rw [a4 m (by omega), List.getElem?_append_right (by omega), Nat.add_sub_cancel_left]
        · rw [List.getElem?_eq_none (by rw [List.length_take]; omega), List.getElem?_eq_none (by omega)]
      · obtain ⟨v2, w2, hr2, h22, h23⟩ := run_append_arg_grows (P := Tryd.prog) w t ty e i z 1 bytes ht hi hz hs hby hzs (by omega) ⟨g, 0, none⟩ xs.length cap xs (by omega) (hb.cells) ad ys.length cp ys (by omega) hnews (by omega) hl2 hl
        exact ⟨v2, w2, hr2, (OB.of (by rw [List.length_append]; exact h22)).mono hB, ⟨h23.os, h23.tape, h23.output, h23.size, fun k hk _ => h23.block k hk (by simp), fun q hq => .inr (World.ownsRow.lt h22 q hq).1⟩⟩
theorem run_push1 {w : World} {B : Nat} {v : Value} {bs : List UInt8} (hb : OB w B 5 v (bc bs)) (hB : B ≤ w.heap.size) (hl : bs.length ≤ 1000000) (c : UInt8) (ad : Addr) (cp : Nat) (ty : TypeId) (hc : w.cell? ad = some (.int .u8 (c.toNat : Int))) (ha : ad.add 0 = ad) :
    ∃ v' w', (Builtin.append_ #[22, 22] ty #[v, .slice (some ad) 1 cp]).run Tryd.prog w = .ok v' w' ∧ OB w' B 5 v' (bc (bs ++ [c])) ∧ Gr w v w' v' := by
  obtain ⟨i, hi, hz, hs, hby⟩ := info5'
  rw [← bc_app]
  exact run_pushO 22 5 i (.int .u8 0) 1 Tryd.underlying22 hi hz hs hby rfl hb hB (bc [c]) (by simp [bc]; omega) (by unfold maxLen; simp [bc]; omega) (by simp [bc]) ad cp ty (fun j u hj => by
    have : j = 0 := by have := (List.getElem?_eq_some_iff.1 hj).1; simp [bc] at this; omega
    subst this
    rw [ha, hc]
    simpa [bc] using hj) (fun u hu => by simp [bc] at hu; rw [hu]; rfl)
theorem run_pushS {w : World} {B : Nat} {v : Value} {l : List (List UInt8)} (hb : OB w B 9 v (sc l)) (hB : B ≤ w.heap.size) (ys : List (List UInt8)) (hl : l.length + ys.length ≤ 1000000000) (h0 : 0 < ys.length) (ad : Addr) (cp : Nat) (ty : TypeId) (hc : ∀ j u, (sc ys)[j]? = some u → w.cell? (ad.add j) = some u) :
    ∃ v' w', (Builtin.append_ #[25, 25] ty #[v, .slice (some ad) ys.length cp]).run Tryd.prog w = .ok v' w' ∧ OB w' B 9 v' (sc (l ++ ys)) ∧ Gr w v w' v' := by
  obtain ⟨i, hi, hz, hs, hby⟩ := info9'
  rw [sc_app]
  have := run_pushO 25 9 i (.string ⟨#[]⟩) 16 Tryd.underlying25 hi hz hs hby rfl hb hB (sc ys) (by rw [sc_len, sc_len]; omega) (by unfold maxLen; rw [sc_len, sc_len]; omega) (by rw [sc_len]; exact h0) ad cp ty hc (fun u hu => by obtain ⟨x, -, rfl⟩ := List.mem_map.1 hu; rfl)
  rw [sc_len] at this
  exact this
theorem heap_new' (w : World) (o : Obj) : (w.alloc o).heap[w.heap.size]? = some o := by
  show (w.heap.push o)[w.heap.size]? = _
  simp
theorem heap_setO (W : World) (p o k : Nat) (v : Value) (h : k ≠ p) : (W.setCell ⟨p, o, none⟩ v).heap[k]? = W.heap[k]? := Below.heap_setCell W ⟨p, o, none⟩ v k h
theorem size_setO (W : World) (p o : Nat) (v : Value) : (W.setCell ⟨p, o, none⟩ v).heap.size = W.heap.size := by simp
theorem OB.conv {W : World} {B n c : Nat} {a : Option Addr} {l : List UInt8} (h : OB W B 5 (.slice a n c) (bc l)) : (convert 22 9 (.slice a n c)).run Tryd.prog W = .ok (.string ⟨l.toArray⟩) W := by
  have hn : n = l.length := by
    obtain ⟨a', c', e, -⟩ := h.shape
    injection e with e1 e2 e3
    rw [e2, bc_len]
  cases a with
  | none =>
    have h0 : l.length = 0 := by
      rcases h.2 with ⟨-, e⟩ | ⟨g, cap, cur, e, -⟩
      · rw [bc_len] at e; exact e
      · cases e
    rw [List.length_eq_zero_iff.1 h0]
    exact run_convert_bytes_nil W 22 5 Tryd.underlying22 Tryd.underlying5 n c 9 Tryd.underlying9
  | some a =>
    subst hn
    exact run_convert_bytes_back (P := Tryd.prog) W 22 9 5 a c l Tryd.underlying22 Tryd.underlying5 Tryd.underlying9 (fun j hj => h.cells j _ (by simp [bc, hj]))
end Go.Proofs.YtodgijhpokjjhaaDoor
