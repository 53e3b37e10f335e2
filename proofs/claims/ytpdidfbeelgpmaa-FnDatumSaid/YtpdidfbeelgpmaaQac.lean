import Derived.Test.YtpdidfbeelgpmaaQab
import Derived.ArgAppend
import Derived.OwnWalk
import Derived.Deep.RegionLaw
import Derived.Deep.RegionHeld3
import Derived.Lib.Hide
import Derived.Laws.CopyRow
import Derived.Lib.Overlaps
import Derived.Lib.AppendZerosOnto
namespace Go.Proofs.Ytpdidfbeelgpmaa
open Go.RowKit
set_option linter.unusedSimpArgs false
/-- the cells of a list of atoms, one behind the other -/
def atCs (l : List At) : List Value := (List.range (l.length * 3)).map (atF l)
theorem atCs_len (l : List At) : (atCs l).length = l.length * 3 := by simp [atCs]
theorem atCs_at {l : List At} {m : Nat} (h : m < l.length * 3) : (atCs l)[m]? = some (atF l m) := by simp [atCs, h]
theorem atF_left {l l' : List At} {m : Nat} (h : m < l.length * 3) : atF (l ++ l') m = atF l m := by
  have hi : m / 3 < l.length := by omega
  unfold atF
  rw [at_getD hi, at_getD (l := l ++ l') (by rw [List.length_append]; omega), List.getElem_append_left hi]
theorem atF_right {l l' : List At} {m : Nat} (h : m < l'.length * 3) : atF (l ++ l') (l.length * 3 + m) = atF l' m := by
  have hi : m / 3 < l'.length := by omega
  have e : (l.length * 3 + m) / 3 = l.length + m / 3 := by omega
  have e2 : (l.length * 3 + m) % 3 = m % 3 := by omega
  unfold atF
  rw [e, e2, at_getD hi, at_getD (l := l ++ l') (by rw [List.length_append]; omega), List.getElem_append_right (by omega)]
  simp
theorem atCs_app (l l' : List At) : atCs (l ++ l') = atCs l ++ atCs l' := by
  apply List.ext_getElem?
  intro m
  by_cases h : m < l.length * 3
  · rw [List.getElem?_append_left (by rw [atCs_len]; exact h), atCs_at h, atCs_at (by rw [List.length_append]; omega), atF_left h]
  · by_cases h2 : m < (l ++ l').length * 3
    · obtain ⟨m', rfl⟩ : ∃ m', m = l.length * 3 + m' := ⟨m - l.length * 3, by omega⟩
      rw [List.length_append] at h2
      rw [List.getElem?_append_right (by rw [atCs_len]; omega), atCs_len, Nat.add_sub_cancel_left, atCs_at (l := l') (by omega), atCs_at (by rw [List.length_append]; omega), atF_right (by omega)]
    · rw [List.getElem?_eq_none (by rw [atCs_len]; omega), List.getElem?_eq_none (by rw [List.length_append, atCs_len, atCs_len]; rw [List.length_append] at h2; omega)]
/-- the atoms l, in a row of the call's own (from block B on) -/
def ABuf (w : World) (B : Nat) (v : Value) (l : List At) : Prop := w.ownsRow B 27 3 v l.length (atCs l)
/-- w' is w but for v's own row and new blocks; v' lies in v's row or in a new one -/
structure AppA (w : World) (v : Value) (w' : World) (v' : Value) : Prop where
  os : w'.os = w.os
  tape : w'.tape = w.tape
  output : w'.output = w.output
  size : w.heap.size ≤ w'.heap.size
  block : ∀ k, k < w.heap.size → v.ownBlock ≠ some k → w'.heap[k]? = w.heap[k]?
  place : ∀ g, v'.ownBlock = some g → v.ownBlock = some g ∨ w.heap.size ≤ g
theorem AppA.refl (w : World) (v : Value) : AppA w v w v := ⟨rfl, rfl, rfl, Nat.le_refl _, fun _ _ _ => rfl, fun _ h => .inl h⟩
theorem AppA.trans {w w1 w2 : World} {v v1 v2 : Value} (h : AppA w v w1 v1) (k : AppA w1 v1 w2 v2) : AppA w v w2 v2 := by
  have hs := h.size
  refine ⟨k.os.trans h.os, k.tape.trans h.tape, k.output.trans h.output, Nat.le_trans h.size k.size, fun b hb hn => ?_, fun g hg => ?_⟩
  · rw [k.block b (by omega) (fun e => ?_), h.block b hb hn]
    rcases h.place b e with e' | e'
    · exact hn e'
    · omega
  · rcases k.place g hg with e | e
    · exact h.place g e
    · exact .inr (by omega)
theorem AppA.of_below {w w' : World} {v : Value} (h : Below w.heap.size w w') : AppA w v w' v := ⟨h.os, h.tape, h.output, h.size, fun k hk _ => h.block k hk, fun _ h => .inl h⟩
theorem ABuf.lt {w : World} {B : Nat} {v : Value} {l : List At} (h : ABuf w B v l) {g : Nat} (hg : v.ownBlock = some g) : B ≤ g ∧ g < w.heap.size := World.ownsRow.lt h g hg
theorem ABuf.on {w w' : World} {B : Nat} {v : Value} {l : List At} (h : ABuf w B v l) (hb : Below w.heap.size w w') : ABuf w' B v l := by
  refine ⟨h.1, ?_⟩
  rcases h.2 with h0 | ⟨g, cap, cur, e1, hg1, hb1, rest⟩
  · exact .inl h0
  · exact .inr ⟨g, cap, cur, e1, hg1, by rw [hb.block _ (Array.getElem?_eq_some_iff.1 hb1).1]; exact hb1, rest⟩
theorem AppA.below {w w' : World} {B : Nat} {v v' : Value} {l : List At} (h : AppA w v w' v') (hb : ABuf w B v l) (hB : B ≤ w.heap.size) : Below B w w' :=
  ⟨h.os, h.tape, h.output, h.size, fun k hk => h.block k (by omega) (fun e => by have := (hb.lt e).1; omega)⟩
/-- what is read of such a row -/
theorem ABuf.own {w : World} {B : Nat} {v : Value} {l : List At} (h : ABuf w B v l) : ∃ a c, v = .slice a l.length c ∧ OwnAts w (fun b => B ≤ b ∧ b < w.heap.size) a l := by
  rcases h.2 with ⟨rfl, h0⟩ | ⟨g, cap, cur, rfl, hg, hb, hn, hcap, hcs, hx⟩
  · exact ⟨none, 0, by rw [h0], .inl h0⟩
  · refine ⟨_, _, rfl, .inr ⟨g, 0, rfl, ⟨hg, (Array.getElem?_eq_some_iff.1 hb).1⟩, fun m hm => ⟨?_, by simp [World.frozen?, hb]⟩⟩⟩
    have h1 := congrArg (·[m]?) hx
    rw [atCs_at hm, List.getElem?_take_of_lt hm, Array.getElem?_toList] at h1
    rw [Nat.zero_add]
    simp [World.cell?, hb, h1]
theorem ABuf.empty (w : World) : ABuf (w.alloc (.cells #[] 27)) w.heap.size (.slice (some ⟨w.heap.size, 0, none⟩) 0 0) [] :=
  ⟨rfl, .inr ⟨w.heap.size, 0, #[], rfl, Nat.le_refl _, heap_newA _ _, Nat.le_refl _, by unfold maxLen; omega, by simp, by simp [atCs]⟩⟩
/-- append of atoms that lie in another row (or in the same) -/
theorem run_apush {w : World} {B : Nat} {v : Value} {l : List At} (hb : ABuf w B v l) (hB : B ≤ w.heap.size) (l' : List At) (hl : l.length + l'.length ≤ 1000000000) (ad : Addr) (cp : Nat) (ty : TypeId)
    (hv : v ≠ .slice none 0 0) (hnews : ∀ j u, (atCs l')[j]? = some u → w.cell? (ad.add j) = some u) :
    ∃ v' w', (Builtin.append_ #[23, 23] ty #[v, .slice (some ad) l'.length cp]).run Try.prog w = .ok v' w' ∧ ABuf w' B v' (l ++ l') ∧ AppA w v w' v' ∧ v' ≠ .slice none 0 0 := by
  obtain ⟨i, hi, hz, hs, hby⟩ := infoAt'
  have h1 : ∀ u ∈ atCs l', u.oneCell' = true := fun u hu => by
    obtain ⟨m, -, rfl⟩ := List.mem_map.1 hu
    unfold atF
    split
    · rfl
    · split <;> rfl
  have hll : (atCs l').length = l'.length * 3 := atCs_len l'
  obtain ⟨v', w', hr, h2, h3, h4⟩ := run_append_own (P := Try.prog) w B 23 ty 27 i (.agg zeroAt) 3 32 Try.underlying23 hi hz hs hby rfl (by omega) v l.length (atCs l) hb ad l'.length cp (atCs l') hll hnews h1 (by unfold maxLen; omega) (by omega) hB
  refine ⟨v', w', hr, ?_, ⟨h3.os, h3.tape, h3.output, h3.size, fun k hk hn => h3.block k hk (fun e => hn e.symm), ?_⟩, fun e => hv (h4.1 e).1⟩
  · unfold ABuf
    rw [atCs_app, List.length_append]
    exact h2
  · intro p hp
    rcases hb.2 with ⟨rfl, h0'⟩ | ⟨q, cap, cur, rfl, hg, hbq, hn, hcap, hcs, hx⟩
    · exact absurd rfl hv
    · by_cases hroom : l.length + l'.length ≤ cap
      · have hr2 := run_append_room_cells (P := Try.prog) w 23 ty 27 i Try.underlying23 hi q 0 l.length cap ad l'.length cp (atCs l') (by rw [hs]; exact hll) hnews h1 hroom (fun j hj => by
          have hlt : l.length * i.size + j < cur.size := by
            rw [hs]
            rw [hll] at hj
            omega
          simp [World.cell?, hbq, hlt]) (fun j hj => by simp [World.frozen?, hbq])
        rw [hr] at hr2
        injection hr2 with e1 e2
        subst e1
        exact .inl hp
      · obtain ⟨v2, w2, hr2, h22, -⟩ := run_append_arg_grows (P := Try.prog) w 23 ty 27 i (.agg zeroAt) 3 32 Try.underlying23 hi hz hs hby rfl (by omega) ⟨q, 0, none⟩ l.length cap (atCs l) hb.1 (World.ownsRow.cells hb (g := q) rfl) ad l'.length cp (atCs l') hll hnews (by omega) (by unfold maxLen; omega) (by omega)
        rw [hr] at hr2
        injection hr2 with e1 e2
        subst e1
        exact .inr (World.ownsRow.lt h22 p hp).1
theorem wpList_apush {ops : Array Oper} {rest : List Oper} {o : Oper} {a : Act} {w : World} {Q : Exit → Act → World → Prop} (hgd : o.guard = none) (s x : Operand)
    (ho : o.op = .call { callee := .builtin .append, args := #[s, x], argTypes := #[23, 23] })
    (B : Nat) (v : Value) (l l' : List At) (ad : Addr) (m cp : Nat) (hs : a.eval s = v) (hx : a.eval x = .slice (some ad) m cp) (hm : l'.length = m)
    (hb : ABuf w B v l) (hB : B ≤ w.heap.size) (hl : l.length + l'.length ≤ 1000000000) (hv : v ≠ .slice none 0 0) (hc : ∀ j u, (atCs l')[j]? = some u → w.cell? (ad.add j) = some u)
    (h : ∀ v' w', ABuf w' B v' (l ++ l') → AppA w v w' v' → v' ≠ .slice none 0 0 → wpList Try.prog ops Q rest (a.put o.dst v') w') : wpList Try.prog ops Q (o :: rest) a w := by
  subst hm
  refine wpList_plain hgd fun K hK => ?_
  obtain ⟨v', w', hr, h2, h3, h4⟩ := run_apush hb hB l' hl ad cp o.type hv hc
  unfold Oper.wp execOp
  simp only [ho, resolve, invoke, builtin, Sem.run_bind, Sem.run_pure, Result.andThen_ok, List.map_toArray, List.map_cons, List.map_nil, hs, hx, hr]
  exact hK _ _ (h v' w' h2 h3 h4)
/-- one atom, in a new row of one -/
theorem news_one (w : World) (x : At) (t : TypeId) : ∀ j u, (atCs [x])[j]? = some u → (w.alloc (.cells #[.int .i64 x.k, .int .i64 x.n, .string ⟨x.t.toArray⟩] t)).cell? ((⟨w.heap.size, 0, none⟩ : Addr).add j) = some u := fun j u hj => by
  have hl := (List.getElem?_eq_some_iff.1 hj).1
  rw [atCs_len] at hl
  simp only [List.length_singleton, Nat.one_mul] at hl
  rw [atCs_at (by simpa using hl)] at hj
  injection hj with hj
  subst hj
  rw [Addr.add_mid, Nat.zero_add]
  have hn := heap_newA w (.cells #[.int .i64 x.k, .int .i64 x.n, .string ⟨x.t.toArray⟩] t)
  rcases (by omega : j = 0 ∨ j = 1 ∨ j = 2) with rfl | rfl | rfl
  · exact cell_at (o := 0) hn rfl
  · exact cell_at (o := 1) hn rfl
  · exact cell_at (o := 2) hn rfl
end Go.Proofs.Ytpdidfbeelgpmaa
namespace Go.Proofs.Ytpdidfbeelgpmaa
open Go.RowKit
set_option linter.unusedSimpArgs false
/-- the atoms of a that b has not -/
def minusA (a b : List At) : List At := a.filter (fun x => !hasB b x)
theorem minus_snoc (a b : List At) (m : Nat) (h : m < a.length) : minusA (a.take (m + 1)) b = minusA (a.take m) b ++ (if hasB b a[m] then [] else [a[m]]) := by
  unfold minusA
  rw [List.take_succ_eq_append_getElem h, List.filter_append]
  congr 1
  cases e : hasB b a[m] <;> simp [e]
theorem minus_len (a b : List At) (m : Nat) : (minusA (a.take m) b).length ≤ m := Nat.le_trans (List.length_filter_le _ _) (List.length_take_le _ _)
/-- what a call holds that builds a list of atoms in a row of its own -/
structure AI (w : World) (B : Nat) (W : World) (v : Value) (l : List At) : Prop where
  buf : ABuf W B v l
  bel : Below w.heap.size w W
  le : B ≤ W.heap.size
  old : w.heap.size ≤ B
  no : v ≠ .slice none 0 0
theorem AI.on {w W W' : World} {B : Nat} {v : Value} {l : List At} (h : AI w B W v l) (hb : Below W.heap.size W W') : AI w B W' v l := ⟨h.buf.on hb, h.bel.trans (hb.mono h.bel.size), Nat.le_trans h.le hb.size, h.old, h.no⟩
theorem AI.push {w W W' : World} {B : Nat} {v v' : Value} {l l' : List At} (h : AI w B W v l) (hb : ABuf W' B v' l') (ha : AppA W v W' v') (hn : v' ≠ .slice none 0 0) : AI w B W' v' l' :=
  ⟨hb, h.bel.trans ((ha.below h.buf h.le).mono h.old), Nat.le_trans h.le ha.size, h.old, hn⟩
theorem AI.cast {w W : World} {B : Nat} {v : Value} {l l' : List At} (h : AI w B W v l) (e : l = l') : AI w B W v l' := by rw [← e]; exact h
theorem AI.first (w : World) : AI w w.heap.size (w.alloc (.cells #[] 27)) (.slice (some ⟨w.heap.size, 0, none⟩) 0 0) [] :=
  ⟨ABuf.empty w, (Below.refl _ _).alloc (Nat.le_refl _) _, by simp, Nat.le_refl _, by simp⟩
/-- the answer of a function that builds a list of atoms -/
def AAns (w : World) (l : List At) (e : Ending) (w' : World) : Prop := ∃ a c, e = .returned (.slice a l.length c) ∧ OwnAts w' (fun b => w.heap.size ≤ b ∧ b < w'.heap.size) a l ∧ Below w.heap.size w w'
theorem AI.ans {w W : World} {B : Nat} {v : Value} {l : List At} (h : AI w B W v l) : AAns w l (.returned v) W := by
  obtain ⟨a, c, rfl, ho⟩ := h.buf.own
  exact ⟨a, c, rfl, ho.same (fun _ _ => rfl) (fun b hb => ⟨Nat.le_trans h.old hb.1, hb.2⟩), h.bel⟩
end Go.Proofs.Ytpdidfbeelgpmaa
namespace Go.Proofs.Ytpdidfbeelgpmaa
open Go.RowKit
set_option linter.unusedSimpArgs false
/-- whether two sets go together -/
def twoC (a b : List At) : Int :=
  if 4096 < a.length ∨ 4096 < b.length then 2
  else if datumB a = false ∨ datumB b = false then 1
  else if 0 < a.length ∧ 0 < b.length ∧ (a.getD 0 atZ).k ≠ (b.getD 0 atZ).k then 9
  else 0
end Go.Proofs.Ytpdidfbeelgpmaa
namespace Go.Proofs.Ytpdidfbeelgpmaa
open Go.RowKit
set_option linter.unusedSimpArgs false
/-- the answer of a function that builds a list of atoms, with a code -/
def AAns2 (w : World) (l : List At) (c : Int) (e : Ending) (w' : World) : Prop := ∃ a cp, e = .returned (.tuple #[.slice a l.length cp, .int .i64 c]) ∧ OwnAts w' (fun b => w.heap.size ≤ b ∧ b < w'.heap.size) a l ∧ Below w.heap.size w w'
noncomputable def lessL (a b : List At) : List At := if twoC a b = 0 then minusA a b else []
theorem AAns2.none {w w' : World} {l : List At} {c : Int} {a : Option Addr} {cp : Nat} (hl : l = []) (hB : Below w.heap.size w w') : AAns2 w l c (.returned (.tuple #[.slice a 0 cp, .int .i64 c])) w' := by
  subst hl
  exact ⟨a, cp, rfl, .inl rfl, hB⟩
end Go.Proofs.Ytpdidfbeelgpmaa
namespace Go.Proofs.Ytpdidfbeelgpmaa
open Go.RowKit
set_option linter.unusedSimpArgs false
end Go.Proofs.Ytpdidfbeelgpmaa
namespace Go.Proofs.Ytpdidfbeelgpmaa
open Go.RowKit
set_option linter.unusedSimpArgs false
/-- where an atom goes: behind all that is not greater, looked for from the end -/
def posTo (l : List At) (x : At) : Nat → Nat
  | 0 => 0
  | k + 1 => if 0 < cmpA (l.getD k atZ) x then posTo l x k else k + 1
def posA (l : List At) (x : At) : Nat := posTo l x l.length
theorem posTo_le (l : List At) (x : At) : ∀ k, posTo l x k ≤ k
  | 0 => Nat.le_refl _
  | k + 1 => by
    unfold posTo
    split
    · exact Nat.le_trans (posTo_le l x k) (Nat.le_succ k)
    · exact Nat.le_refl _
noncomputable def putL (l : List At) (x : At) : List At := if hasB l x then l else l.take (posA l x) ++ [x] ++ l.drop (posA l x)
theorem step_apush {ops : Array Oper} {o : Oper} {a : Act} {w : World} {K : Act → World → Prop} {Q : Exit → Act → World → Prop} {E : Prop} (hgd : o.guard = none) (s x : Operand)
    (ho : o.op = .call { callee := .builtin .append, args := #[s, x], argTypes := #[23, 23] })
    (B : Nat) (v : Value) (l l' : List At) (ad : Addr) (m cp : Nat) (hs : a.eval s = v) (hx : a.eval x = .slice (some ad) m cp) (hm : l'.length = m)
    (hb : ABuf w B v l) (hB : B ≤ w.heap.size) (hl : l.length + l'.length ≤ 1000000000) (hv : v ≠ .slice none 0 0) (hc : ∀ j u, (atCs l')[j]? = some u → w.cell? (ad.add j) = some u)
    (h : ∀ v' w', ABuf w' B v' (l ++ l') → AppA w v w' v' → v' ≠ .slice none 0 0 → K (a.put o.dst v') w') :
    if Region.wanted o (yielded ops a.tmps) = true then Oper.wp Try.prog o a w K Q else E := by
  rw [if_pos (by simp [Region.wanted, hgd])]
  subst hm
  obtain ⟨v', w', hr, h2, h3, h4⟩ := run_apush hb hB l' hl ad cp o.type hv hc
  unfold Oper.wp execOp
  simp only [ho, resolve, invoke, builtin, Sem.run_bind, Sem.run_pure, Result.andThen_ok, List.map_toArray, List.map_cons, List.map_nil, hs, hx, hr]
  exact h v' w' h2 h3 h4
/-- a part of a list, as cells -/
theorem news_part {w : World} {B : Nat → Prop} {b off : Nat} {l : List At} (h : Ats w B (some ⟨b, off, none⟩) l) (i n : Nat) (hn : i + n ≤ l.length) :
    ∀ j u, (atCs ((l.drop i).take n))[j]? = some u → w.cell? ((⟨b, off + i * 3, none⟩ : Addr).add j) = some u := fun j u hj => by
  have hlen : ((l.drop i).take n).length = n := by simp; omega
  have hjl := (List.getElem?_eq_some_iff.1 hj).1
  rw [atCs_len, hlen] at hjl
  rw [atCs_at (by rw [hlen]; exact hjl)] at hj
  injection hj with hj
  subst hj
  rw [Addr.add_mid]
  rcases h with h | ⟨b', off', e, -, hc⟩
  · omega
  · injection e with e
    injection e with e1 e2
    subst e1 e2
    rw [Nat.add_assoc, hc _ (by omega)]
    congr 1
    have hi : j / 3 < n := by omega
    have e3 : (i * 3 + j) / 3 = i + j / 3 := by omega
    have e4 : (i * 3 + j) % 3 = j % 3 := by omega
    unfold atF
    rw [e3, e4, at_getD (l := l) (by omega), at_getD (l := (l.drop i).take n) (by rw [hlen]; exact hi)]
    simp
/-- a row of one atom that is not the row of v -/
def OneA (W : World) (v : Value) (g : Nat) (x : At) : Prop := W.heap[g]? = some (.cells #[.int .i64 x.k, .int .i64 x.n, .string ⟨x.t.toArray⟩] 27) ∧ v.ownBlock ≠ some g
theorem OneA.push {W W' : World} {v v' : Value} {g : Nat} {x : At} (h : OneA W v g x) (ha : AppA W v W' v') : OneA W' v' g x := by
  have hlt := (Array.getElem?_eq_some_iff.1 h.1).1
  refine ⟨by rw [ha.block g hlt h.2]; exact h.1, fun e => ?_⟩
  rcases ha.place g e with e' | e'
  · exact h.2 e'
  · omega
theorem OneA.news {W : World} {v : Value} {g : Nat} {x : At} (h : OneA W v g x) : ∀ j u, (atCs [x])[j]? = some u → W.cell? ((⟨g, 0, none⟩ : Addr).add j) = some u := fun j u hj => by
  have hl := (List.getElem?_eq_some_iff.1 hj).1
  rw [atCs_len] at hl
  simp only [List.length_singleton, Nat.one_mul] at hl
  rw [atCs_at (by simpa using hl)] at hj
  injection hj with hj
  subst hj
  rw [Addr.add_mid, Nat.zero_add]
  rcases (by omega : j = 0 ∨ j = 1 ∨ j = 2) with rfl | rfl | rfl
  · exact cell_at (o := 0) h.1 rfl
  · exact cell_at (o := 1) h.1 rfl
  · exact cell_at (o := 2) h.1 rfl
theorem ABuf.mono {w : World} {B B' : Nat} {v : Value} {l : List At} (h : ABuf w B v l) (hB : B' ≤ B) : ABuf w B' v l := by
  refine ⟨h.1, ?_⟩
  rcases h.2 with h0 | ⟨g, cap, cur, e1, hg1, rest⟩
  · exact .inl h0
  · exact .inr ⟨g, cap, cur, e1, Nat.le_trans hB hg1, rest⟩
theorem BoxA.drew {w W : World} {x : At} (h : BoxA w W x) : BoxA w W.drew x := h.later (Below.refl _ _).drew
theorem BoxA.al {w W : World} {x : At} (h : BoxA w W x) (o : Obj) : BoxA w (W.alloc o) x := h.later ((Below.refl _ _).alloc (Nat.le_refl _) _)
/-- the three worlds in which the first append of l03Put can begin -/
theorem begin1 {w W : World} (h : Below w.heap.size w W) : AI w W.heap.size (W.alloc (.cells #[] 27)).drew (.slice (some ⟨W.heap.size, 0, none⟩) 0 0) [] :=
  ⟨(ABuf.empty W).on (Below.refl _ _).drew, (h.alloc h.size _).drew, by show W.heap.size ≤ (W.alloc (.cells #[] 27)).heap.size; simp, h.size, by simp⟩
theorem begin2 {w W : World} (x : At) (h : Below w.heap.size w W) : AI w W.heap.size ((W.alloc (.cells #[] 27)).alloc (.cells #[.int .i64 x.k, .int .i64 x.n, .string ⟨x.t.toArray⟩] 27)).drew (.slice (some ⟨W.heap.size, 0, none⟩) 0 0) [] ∧
    OneA ((W.alloc (.cells #[] 27)).alloc (.cells #[.int .i64 x.k, .int .i64 x.n, .string ⟨x.t.toArray⟩] 27)).drew (.slice (some ⟨W.heap.size, 0, none⟩) 0 0) (W.heap.size + 1) x := by
  refine ⟨⟨((ABuf.empty W).on ((Below.refl _ _).alloc (Nat.le_refl _) _)).on (Below.refl _ _).drew, ((h.alloc h.size _).alloc (by have := h.size; simp; omega) _).drew, ?_, h.size, by simp⟩, ?_, ?_⟩
  · show W.heap.size ≤ ((W.alloc (.cells #[] 27)).alloc _).heap.size
    simp; omega
  · have := heap_newA (W.alloc (.cells #[] 27)) (.cells #[.int .i64 x.k, .int .i64 x.n, .string ⟨x.t.toArray⟩] 27)
    rw [show (W.alloc (.cells #[] 27)).heap.size = W.heap.size + 1 by simp] at this
    exact this
  · simp [Value.ownBlock]
theorem begin3 {w W : World} (x : At) (h : Below w.heap.size w W) : AI w W.heap.size ((W.alloc (.cells #[.int .i64 x.k, .int .i64 x.n, .string ⟨x.t.toArray⟩] 27)).alloc (.cells #[] 27)).drew (.slice (some ⟨W.heap.size + 1, 0, none⟩) 0 0) [] ∧
    OneA ((W.alloc (.cells #[.int .i64 x.k, .int .i64 x.n, .string ⟨x.t.toArray⟩] 27)).alloc (.cells #[] 27)).drew (.slice (some ⟨W.heap.size + 1, 0, none⟩) 0 0) W.heap.size x := by
  have e : (W.alloc (.cells #[.int .i64 x.k, .int .i64 x.n, .string ⟨x.t.toArray⟩] 27)).heap.size = W.heap.size + 1 := by simp
  have hb := ABuf.empty (W.alloc (.cells #[.int .i64 x.k, .int .i64 x.n, .string ⟨x.t.toArray⟩] 27))
  rw [e] at hb
  refine ⟨⟨(hb.mono (by omega)).on (Below.refl _ _).drew, ((h.alloc h.size _).alloc (by have := h.size; simp; omega) _).drew, ?_, h.size, by simp⟩, ?_, ?_⟩
  · show W.heap.size ≤ ((W.alloc _).alloc (.cells #[] 27)).heap.size
    simp; omega
  · show ((W.alloc _).alloc (.cells #[] 27)).heap[W.heap.size]? = _
    rw [Below.heap_alloc _ _ _ (by simp)]
    exact heap_newA _ _
  · simp [Value.ownBlock]
theorem boxed {W w1 : World} {v0 v1 : Value} {b : Nat} {o r : Obj} (ha : AppA (W.alloc r).drew v0 w1 v1) (hv : v0.ownBlock = some W.heap.size) (h : W.heap[b]? = some o) : w1.heap[b]? = some o := by
  have hlt := (Array.getElem?_eq_some_iff.1 h).1
  rw [ha.block b (by show b < (W.alloc r).heap.size; simp; omega) (by rw [hv]; intro e; injection e with e; omega)]
  show (W.alloc r).heap[b]? = some o
  rw [Below.heap_alloc _ _ _ hlt]
  exact h
theorem AI.oneAl {w W : World} {B : Nat} {v : Value} {l : List At} (h : AI w B W v l) (x : At) : OneA (W.alloc (.cells #[.int .i64 x.k, .int .i64 x.n, .string ⟨x.t.toArray⟩] 27)) v W.heap.size x :=
  ⟨heap_newA _ _, fun e => by have := (h.buf.lt e).2; omega⟩
theorem AI.al {w W : World} {B : Nat} {v : Value} {l : List At} (h : AI w B W v l) (o : Obj) : AI w B (W.alloc o) v l := h.on ((Below.refl _ _).alloc (Nat.le_refl _) _)
end Go.Proofs.Ytpdidfbeelgpmaa
namespace Go.Proofs.Ytpdidfbeelgpmaa
open Go.RowKit
set_option linter.unusedSimpArgs false
theorem putL_len (l : List At) (x : At) : (putL l x).length ≤ l.length + 1 := by
  unfold putL
  split
  · omega
  · have := posTo_le l x l.length
    unfold posA
    simp; omega
noncomputable def joinL (a b : List At) : List At := b.foldl putL a
theorem join_snoc (a b : List At) (m : Nat) (h : m < b.length) : joinL a (b.take (m + 1)) = putL (joinL a (b.take m)) b[m] := by
  unfold joinL
  rw [List.take_succ_eq_append_getElem h, List.foldl_append]
  rfl
theorem join_len (a : List At) : ∀ b : List At, (joinL a b).length ≤ a.length + b.length := by
  intro b
  induction b generalizing a with
  | nil => simp [joinL]
  | cons x b ih =>
    have h1 := ih (putL a x)
    have h2 := putL_len a x
    unfold joinL at h1 ⊢
    simp only [List.foldl_cons, List.length_cons]
    omega
/-- a list of atoms in a row of the call's own, as a slice -/
theorem AI.open {w W : World} {B : Nat} {v : Value} {l : List At} (h : AI w B W v l) : ∃ g c, v = .slice (some ⟨g, 0, none⟩) l.length c ∧ l.length ≤ c ∧ Ats W (· < W.heap.size) (some ⟨g, 0, none⟩) l := by
  obtain ⟨a, c, e, ho⟩ := h.buf.own
  rcases h.buf.2 with ⟨e', -⟩ | ⟨g, cap, cur, rfl, hg, hb, hn, -⟩
  · exact absurd e' h.no
  · injection e with e1 e2 e3
    subst e1
    exact ⟨g, cap, rfl, hn, ho.ats.same (fun _ _ => rfl) (fun b hb => hb.2)⟩
theorem AI.base {w w0 W : World} {B : Nat} {v : Value} {l : List At} (h : AI w0 B W v l) (hb : Below w.heap.size w w0) : AI w B W v l := ⟨h.buf, hb.trans (h.bel.mono hb.size), h.le, Nat.le_trans hb.size h.old, h.no⟩
end Go.Proofs.Ytpdidfbeelgpmaa
namespace Go.Proofs.Ytpdidfbeelgpmaa
open Go.RowKit
set_option linter.unusedSimpArgs false
noncomputable def joinC (a b : List At) : Int := if twoC a b = 0 then (if 8 < (joinL a b).length then 6 else 0) else twoC a b
noncomputable def joinR (a b : List At) : List At := if twoC a b = 0 ∧ ¬ 8 < (joinL a b).length then joinL a b else []
theorem two_len {a b : List At} (h : twoC a b = 0) : a.length ≤ 4096 ∧ b.length ≤ 4096 := by
  unfold twoC at h
  split at h
  · omega
  · omega
/-- the last limb of both: a list that was built, or none where it is too long -/
theorem AI.ans2 {w W : World} {B : Nat} {v : Value} {l : List At} {c : Int} (h : AI w B W v l) : AAns2 w l c (.returned (.tuple #[v, .int .i64 c])) W := by
  obtain ⟨a, cp, rfl, ho⟩ := h.buf.own
  exact ⟨a, cp, rfl, ho.same (fun _ _ => rfl) (fun b hb => ⟨Nat.le_trans h.old hb.1, hb.2⟩), h.bel⟩
end Go.Proofs.Ytpdidfbeelgpmaa
namespace Go.Proofs.Ytpdidfbeelgpmaa
open Go.RowKit
set_option linter.unusedSimpArgs false
theorem ABuf.nil (w : World) (B : Nat) : ABuf w B (.slice none 0 0) [] := ⟨rfl, .inl ⟨rfl, rfl⟩⟩
/-- append of atoms that lie in another row, where v may be nil -/
theorem run_apushN {w : World} {B : Nat} {v : Value} {l : List At} (hb : ABuf w B v l) (hB : B ≤ w.heap.size) (l' : List At) (hl : l.length + l'.length ≤ 1000000000) (hl0 : 0 < l'.length) (ad : Addr) (cp : Nat) (ty : TypeId)
    (hnews : ∀ j u, (atCs l')[j]? = some u → w.cell? (ad.add j) = some u) :
    ∃ v' w', (Builtin.append_ #[23, 23] ty #[v, .slice (some ad) l'.length cp]).run Try.prog w = .ok v' w' ∧ ABuf w' B v' (l ++ l') ∧ AppA w v w' v' := by
  by_cases hv : v = .slice none 0 0
  · subst hv
    have hl1 : l = [] := by
      rcases hb.2 with ⟨-, h0⟩ | ⟨g, cap, cur, e1, -⟩
      · exact List.length_eq_zero_iff.1 h0
      · cases e1
    subst hl1
    obtain ⟨i, hi, hz, hs, hby⟩ := infoAt'
    have h1 : ∀ u ∈ atCs l', u.oneCell' = true := fun u hu => by
      obtain ⟨m, -, rfl⟩ := List.mem_map.1 hu
      unfold atF
      split
      · rfl
      · split <;> rfl
    have hll : (atCs l').length = l'.length * 3 := atCs_len l'
    have hb' : ABuf w w.heap.size (.slice none 0 0) [] := ABuf.nil _ _
    obtain ⟨v', w', hr, h2, h3, h4⟩ := run_append_own (P := Try.prog) w w.heap.size 23 ty 27 i (.agg zeroAt) 3 32 Try.underlying23 hi hz hs hby rfl (by omega) (.slice none 0 0) 0 (atCs []) hb' ad l'.length cp (atCs l') hll hnews h1 (by unfold maxLen; simp at hl; omega) (by simp at hl; omega) (Nat.le_refl _)
    have hb2 : ABuf w' w.heap.size v' ([] ++ l') := by
      unfold ABuf
      rw [atCs_app, List.length_append]
      exact h2
    refine ⟨v', w', hr, hb2.mono hB, ⟨h3.os, h3.tape, h3.output, h3.size, fun k hk hn => h3.block k hk (fun e => hn e.symm), fun g hg => .inr (hb2.lt hg).1⟩⟩
  · obtain ⟨v', w', hr, h2, h3, -⟩ := run_apush hb hB l' hl ad cp ty hv hnews
    exact ⟨v', w', hr, h2, h3⟩
theorem wpList_apushN {ops : Array Oper} {rest : List Oper} {o : Oper} {a : Act} {w : World} {Q : Exit → Act → World → Prop} (hgd : o.guard = none) (s x : Operand)
    (ho : o.op = .call { callee := .builtin .append, args := #[s, x], argTypes := #[23, 23] })
    (B : Nat) (v : Value) (l l' : List At) (ad : Addr) (m cp : Nat) (hs : a.eval s = v) (hx : a.eval x = .slice (some ad) m cp) (hm : l'.length = m)
    (hb : ABuf w B v l) (hB : B ≤ w.heap.size) (hl : l.length + l'.length ≤ 1000000000) (hl0 : 0 < l'.length) (hc : ∀ j u, (atCs l')[j]? = some u → w.cell? (ad.add j) = some u)
    (h : ∀ v' w', ABuf w' B v' (l ++ l') → AppA w v w' v' → wpList Try.prog ops Q rest (a.put o.dst v') w') : wpList Try.prog ops Q (o :: rest) a w := by
  subst hm
  refine wpList_plain hgd fun K hK => ?_
  obtain ⟨v', w', hr, h2, h3⟩ := run_apushN hb hB l' hl hl0 ad cp o.type hc
  unfold Oper.wp execOp
  simp only [ho, resolve, invoke, builtin, Sem.run_bind, Sem.run_pure, Result.andThen_ok, List.map_toArray, List.map_cons, List.map_nil, hs, hx, hr]
  exact hK _ _ (h v' w' h2 h3)
/-- a list of atoms in a row of the call's own, or none -/
structure AN (w : World) (B : Nat) (W : World) (v : Value) (l : List At) : Prop where
  buf : ABuf W B v l
  bel : Below w.heap.size w W
  le : B ≤ W.heap.size
  old : w.heap.size ≤ B
theorem AN.on {w W W' : World} {B : Nat} {v : Value} {l : List At} (h : AN w B W v l) (hb : Below W.heap.size W W') : AN w B W' v l := ⟨h.buf.on hb, h.bel.trans (hb.mono h.bel.size), Nat.le_trans h.le hb.size, h.old⟩
theorem AN.push {w W W' : World} {B : Nat} {v v' : Value} {l l' : List At} (h : AN w B W v l) (hb : ABuf W' B v' l') (ha : AppA W v W' v') : AN w B W' v' l' :=
  ⟨hb, h.bel.trans ((ha.below h.buf h.le).mono h.old), Nat.le_trans h.le ha.size, h.old⟩
theorem AN.cast {w W : World} {B : Nat} {v : Value} {l l' : List At} (h : AN w B W v l) (e : l = l') : AN w B W v l' := by rw [← e]; exact h
theorem AN.first {w W : World} (h : Below w.heap.size w W) : AN w w.heap.size W (.slice none 0 0) [] := ⟨ABuf.nil _ _, h, h.size, Nat.le_refl _⟩
theorem AN.ans2 {w W : World} {B : Nat} {v : Value} {l : List At} {c : Int} (h : AN w B W v l) : AAns2 w l c (.returned (.tuple #[v, .int .i64 c])) W := by
  obtain ⟨a, cp, rfl, ho⟩ := h.buf.own
  exact ⟨a, cp, rfl, ho.same (fun _ _ => rfl) (fun b hb => ⟨Nat.le_trans h.old hb.1, hb.2⟩), h.bel⟩
end Go.Proofs.Ytpdidfbeelgpmaa
namespace Go.Proofs.Ytpdidfbeelgpmaa
open Go.RowKit
set_option linter.unusedSimpArgs false
theorem atCs_take (l : List At) (i : Nat) (h : i ≤ l.length) : (atCs l).take (i * 3) = atCs (l.take i) := by
  have hl : (atCs (l.take i)).length = i * 3 := by rw [atCs_len]; simp; omega
  conv => lhs; rw [← List.take_append_drop i l, atCs_app, ← hl]
  exact List.take_left
theorem atCs_drop (l : List At) (i : Nat) (h : i ≤ l.length) : (atCs l).drop (i * 3) = atCs (l.drop i) := by
  have hl : (atCs (l.take i)).length = i * 3 := by rw [atCs_len]; simp; omega
  conv => lhs; rw [← List.take_append_drop i l, atCs_app, ← hl]
  exact List.drop_left
theorem atCs_one' {l : List At} : ∀ u ∈ atCs l, u.oneCell' = true := fun u hu => by
  obtain ⟨m, -, rfl⟩ := List.mem_map.1 hu
  unfold atF
  split
  · rfl
  · split <;> rfl
/-- copy of atoms into a row of the call's own -/
theorem run_copyA (w : World) (ty : TypeId) (g o dLen dCap : Nat) (a : Addr) (sLen sCap : Nat) (cur : Array Value) (l : List At) (hg : w.heap[g]? = some (.cells cur 27 (0, 0))) (hn : l.length = Nat.min sLen dLen)
    (hsrc : ∀ j v, (atCs l)[j]? = some v → w.cell? (a.add j) = some v) (hfit : o + l.length * 3 ≤ cur.size) :
    (Builtin.copy_ #[23, 23] ty #[.slice (some ⟨g, o, none⟩) dLen dCap, .slice (some a) sLen sCap]).run Try.prog w =
      .ok (goInt l.length) (w.setRow g (cur.toList.take o ++ atCs l ++ cur.toList.drop (o + l.length * 3)).toArray) := by
  obtain ⟨i, hi, hz, hs, hby⟩ := infoAt'
  have hl := run_loadCells_list (P := Try.prog) w a (atCs l) hsrc
  have hst := run_storeCells_at Try.prog g o 27 (atCs l) 0 cur w hg (by rw [atCs_len]; simpa using hfit) atCs_one'
  rw [atCs_len] at hl hst
  simp [Builtin.copy_, run_underlying Try.underlying23, Builtin.lenOf, Builtin.firstCells, sizeOf, typeInfo, hi, hs, ← hn, hl, hst]
theorem wpList_copyA {ops : Array Oper} {rest : List Oper} {o : Oper} {a : Act} {w : World} {Q : Exit → Act → World → Prop} (hgd : o.guard = none) (d x : Operand)
    (ho : o.op = .call { callee := .builtin .copy, args := #[d, x], argTypes := #[23, 23] }) (v u : Value) (hd : a.eval d = v) (hx : a.eval x = u) {v' : Value} {w' : World}
    (hr : (Builtin.copy_ #[23, 23] o.type #[v, u]).run Try.prog w = .ok v' w') (h : wpList Try.prog ops Q rest (a.put o.dst v') w') : wpList Try.prog ops Q (o :: rest) a w := by
  refine wpList_plain hgd fun K hK => ?_
  unfold Oper.wp execOp
  simp only [ho, resolve, invoke, builtin, Sem.run_bind, Sem.run_pure, Result.andThen_ok, List.map_toArray, List.map_cons, List.map_nil, hd, hx, hr]
  exact hK _ _ h
theorem step_copyA {ops : Array Oper} {o : Oper} {a : Act} {w : World} {K : Act → World → Prop} {Q : Exit → Act → World → Prop} {E : Prop} (hgd : o.guard = none) (d x : Operand)
    (ho : o.op = .call { callee := .builtin .copy, args := #[d, x], argTypes := #[23, 23] }) (v u : Value) (hd : a.eval d = v) (hx : a.eval x = u) {v' : Value} {w' : World}
    (hr : (Builtin.copy_ #[23, 23] o.type #[v, u]).run Try.prog w = .ok v' w') (h : K (a.put o.dst v') w') :
    if Region.wanted o (yielded ops a.tmps) = true then Oper.wp Try.prog o a w K Q else E := by
  rw [if_pos (by simp [Region.wanted, hgd])]
  unfold Oper.wp execOp
  simp only [ho, resolve, invoke, builtin, Sem.run_bind, Sem.run_pure, Result.andThen_ok, List.map_toArray, List.map_cons, List.map_nil, hd, hx, hr]
  exact h
/-- l with x at i -/
def insA (l : List At) (i : Nat) (x : At) : List At := l.take i ++ [x] ++ l.drop i
theorem insA_len (l : List At) (i : Nat) (x : At) (h : i ≤ l.length) : (insA l i x).length = l.length + 1 := by unfold insA; simp; omega
/-- the row behind the two copies in place -/
theorem row_in {cur : List Value} {l : List At} {i : Nat} (x : At) (h : cur.take (l.length * 3) = atCs l) (hi : i ≤ l.length) (hc : (l.length + 1) * 3 ≤ cur.length) (c1 c2 : List Value)
    (h1 : c1 = cur.take ((i + 1) * 3) ++ atCs (l.drop i) ++ cur.drop ((i + 1) * 3 + (l.drop i).length * 3)) (h2 : c2 = c1.take (i * 3) ++ atCs [x] ++ c1.drop (i * 3 + [x].length * 3)) :
    c2.length = cur.length ∧ c2.take ((l.length + 1) * 3) = atCs (insA l i x) := by
  have hA : (cur.take ((i + 1) * 3)).length = (i + 1) * 3 := by rw [List.length_take]; omega
  have hD : (atCs (l.drop i)).length = (l.length - i) * 3 := by rw [atCs_len, List.length_drop]
  have hX : (atCs [x]).length = 3 := by rw [atCs_len]; rfl
  have e1 : c1.take (i * 3) = atCs (l.take i) := by
    rw [h1, List.append_assoc, List.take_append_of_le_length (by omega), List.take_take, show min (i * 3) ((i + 1) * 3) = i * 3 by omega, ← atCs_take l i hi, ← h, List.take_take, show min (i * 3) (l.length * 3) = i * 3 by omega]
  have e2 : c1.drop (i * 3 + [x].length * 3) = atCs (l.drop i) ++ cur.drop ((l.length + 1) * 3) := by
    rw [h1, List.append_assoc, show i * 3 + [x].length * 3 = (cur.take ((i + 1) * 3)).length by rw [hA]; simp; omega, List.drop_left, List.length_drop, show (i + 1) * 3 + (l.length - i) * 3 = (l.length + 1) * 3 by omega]
  have hT : (atCs (l.take i)).length = i * 3 := by rw [atCs_len]; simp; omega
  rw [h2, e1, e2]
  constructor
  · simp only [List.length_append, List.length_drop, hT, hD, hX]; omega
  · rw [← List.append_assoc]
    unfold insA
    rw [atCs_app, atCs_app]
    have hL : (atCs (l.take i) ++ atCs [x] ++ atCs (l.drop i)).length = (l.length + 1) * 3 := by
      simp only [List.length_append, hT, hD, hX]; omega
    rw [← hL]
    exact List.take_left
/-- the row behind the two copies into a new row -/
theorem row_new {r0 : List Value} {l : List At} {i : Nat} (x : At) (h : r0.take (i * 3) = atCs (l.take i)) (hi : i ≤ l.length) (hc : (l.length + 1) * 3 ≤ r0.length) (c1 c2 : List Value)
    (h1 : c1 = r0.take (i * 3) ++ atCs [x] ++ r0.drop (i * 3 + [x].length * 3)) (h2 : c2 = c1.take ((i + 1) * 3) ++ atCs (l.drop i) ++ c1.drop ((i + 1) * 3 + (l.drop i).length * 3)) :
    c2.length = r0.length ∧ c2.take ((l.length + 1) * 3) = atCs (insA l i x) := by
  have hT : (atCs (l.take i)).length = i * 3 := by rw [atCs_len]; simp; omega
  have hD : (atCs (l.drop i)).length = (l.length - i) * 3 := by rw [atCs_len, List.length_drop]
  have hX : (atCs [x]).length = 3 := by rw [atCs_len]; rfl
  have hl1 : c1.length = r0.length := by rw [h1, h]; simp only [List.length_append, List.length_drop, hT, hX, List.length_singleton]; omega
  have e1 : c1.take ((i + 1) * 3) = atCs (l.take i) ++ atCs [x] := by
    rw [h1, h]
    have hL : (atCs (l.take i) ++ atCs [x]).length = (i + 1) * 3 := by simp only [List.length_append, hT, hX]; omega
    rw [← hL]
    exact List.take_left
  rw [h2, e1]
  constructor
  · simp only [List.length_append, List.length_drop, hT, hD, hX, hl1]; omega
  · unfold insA
    rw [atCs_app, atCs_app]
    have hL : (atCs (l.take i) ++ atCs [x] ++ atCs (l.drop i)).length = (l.length + 1) * 3 := by
      simp only [List.length_append, hT, hD, hX]; omega
    rw [← hL]
    exact List.take_left
end Go.Proofs.Ytpdidfbeelgpmaa
namespace Go.Proofs.Ytpdidfbeelgpmaa
open Go.RowKit
set_option linter.unusedSimpArgs false
def InsAns (w : World) (B : Nat) (v : Value) (l : List At) (e : Ending) (w' : World) : Prop := ∃ v', e = .returned v' ∧ ABuf w' B v' l ∧ AppA w v w' v'
theorem insA_end (l : List At) (x : At) : insA l l.length x = l ++ [x] := by unfold insA; simp
set_option maxRecDepth 100000 in
set_option maxHeartbeats 1600000 in
/-- at the end -/
theorem insertEnd (l : List At) (x : At) (v : Value) (vb B : Nat) (w : World) (hl : l.length ≤ 1000) (hb : ABuf w B v l) (hB : B ≤ w.heap.size) (ho : OneA w v vb x) :
    Calls Try.prog 29 #[v, .int .i64 l.length, .slice (some ⟨vb, 0, none⟩) 1 1] w (InsAns w B v (l ++ [x])) := by
  have HB : Hid (ABuf w B v l) := hb
  have HO : Hid (OneA w v vb x) := ho
  rcases hb.2 with ⟨rfl, h0⟩ | ⟨g, cap, cur, rfl, hg, hbq, hn, hcap, hcs, hxs⟩
  · clear ho hb
    rw [h0] at *
    go_enter Try.func29, Try.ntmps29
    go_wp2_with (at_builtin; refine wpList_apushN rfl (.tmp 23) (.tmp 24) rfl B (.slice none 0 0) l [x] ⟨vb, 0, none⟩ 1 1 rfl rfl rfl HB.out hB (by simp; omega) (by simp) HO.out.news ?_; intro v2 w3 hb2 ha2)
    go_ret
    exact ⟨v2, rfl, hb2, ha2⟩
  · clear ho hb hbq hcs hxs
    unfold maxLen at hcap
    by_cases hc : cap = l.length
    · subst hc
      go_enter Try.func29, Try.ntmps29
      go_wp2_with (at_builtin; refine wpList_apushN rfl (.tmp 23) (.tmp 24) rfl B _ l [x] ⟨vb, 0, none⟩ 1 1 rfl rfl rfl HB.out hB (by simp; omega) (by simp) HO.out.news ?_; intro v2 w3 hb2 ha2)
      go_ret
      exact ⟨v2, rfl, hb2, ha2⟩
    · go_enter Try.func29, Try.ntmps29
      go_wp2_with (at_builtin; refine wpList_apushN rfl (.tmp 23) (.tmp 24) rfl B _ l [x] ⟨vb, 0, none⟩ 1 1 rfl rfl rfl HB.out hB (by simp; omega) (by simp) HO.out.news ?_; intro v2 w3 hb2 ha2)
      go_ret
      exact ⟨v2, rfl, hb2, ha2⟩
theorem sizeAt (w : World) : (Go.sizeOf 27).run Try.prog w = .ok 3 w := by
  obtain ⟨i, hi, hz, hs, hby⟩ := infoAt'
  simp [sizeOf, typeInfo, hi, hs]
theorem cell_row {w : World} {g : Nat} {cur : Array Value} {t : TypeId} (h : w.heap[g]? = some (.cells cur t (0, 0))) (j : Nat) : w.cell? ⟨g, j, none⟩ = cur[j]? := by simp [World.cell?, h]
/-- atoms of a row, from i on -/
theorem news_row {w : World} {g : Nat} {cur : Array Value} {l : List At} (h : w.heap[g]? = some (.cells cur 27 (0, 0))) (hx : cur.toList.take (l.length * 3) = atCs l) (i : Nat) (hi : i ≤ l.length) :
    ∀ j u, (atCs (l.drop i))[j]? = some u → w.cell? ((⟨g, i * 3, none⟩ : Addr).add j) = some u := fun j u hj => by
  rw [Addr.add_mid, cell_row h]
  rw [← atCs_drop l i hi, ← hx, List.getElem?_drop] at hj
  have hlt := (List.getElem?_eq_some_iff.1 hj).1
  rw [List.length_take] at hlt
  rw [List.getElem?_take_of_lt (by omega), Array.getElem?_toList] at hj
  exact hj
theorem news_head {w : World} {g : Nat} {cur : Array Value} {l : List At} (h : w.heap[g]? = some (.cells cur 27 (0, 0))) (hx : cur.toList.take (l.length * 3) = atCs l) (i : Nat) (hi : i ≤ l.length) :
    ∀ j u, (atCs (l.take i))[j]? = some u → w.cell? ((⟨g, 0, none⟩ : Addr).add j) = some u := fun j u hj => by
  rw [Addr.add_mid, cell_row h, Nat.zero_add]
  rw [← atCs_take l i hi, ← hx, List.take_take] at hj
  have hlt := (List.getElem?_eq_some_iff.1 hj).1
  rw [List.length_take] at hlt
  rw [List.getElem?_take_of_lt (by omega), Array.getElem?_toList] at hj
  exact hj
theorem ov_apart {w : World} {g vb : Nat} {cur cv : Array Value} (hg : w.heap[g]? = some (.cells cur 27 (0, 0))) (hv : w.heap[vb]? = some (.cells cv 27 (0, 0))) (hne : vb ≠ g) (hc : cur.size ≠ 0) (o la ca lb cb : Nat) :
    (callFunc 32 #[.slice (some ⟨vb, 0, none⟩) la ca, .slice (some ⟨g, o, none⟩) lb cb]).run Try.prog w = .ok (.value (.bool false)) w := by
  rw [run_callFunc_extern Try.func32 (by kernel_rfl) (by kernel_rfl) (by kernel_rfl) (e := Extern.SlicesOverlaps.overlaps #[23, 23] #[4]) (by kernel_rfl),
    Lib.run_overlaps_apart w 23 4 27 Try.underlying23 3 sizeAt ⟨vb, 0, none⟩ ⟨g, o, none⟩ la ca lb cb hne 27 27 cv.size cur.size (by simp [World.shape?, hv]) (by simp [World.shape?, hg]) hc (by simp [World.frozen?, hv]) (by simp [World.frozen?, hv])]
  rfl
end Go.Proofs.Ytpdidfbeelgpmaa
