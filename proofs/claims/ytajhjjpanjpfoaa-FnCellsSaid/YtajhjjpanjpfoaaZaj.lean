import Derived.Test.YtajhjjpanjpfoaaZai
import Derived.Test.YtajhjjpanjpfoaaZad
import Derived.ArgAppend
import Derived.OwnWalk
import Derived.Test.YtajhjjpanjpfoaaZaf
namespace Go.Proofs.Ytajhjjpanjpfoaa
open Go.RowKit
set_option linter.unusedSimpArgs false
theorem errFrom_zero (l : List At) : ∀ n i, errFrom l n i = 0 ↔ ∀ j, i ≤ j → j < i + n → errAt l j = 0
  | 0, i => ⟨fun _ j h h' => by omega, fun _ => rfl⟩
  | n + 1, i => by
    rw [errFrom]
    constructor
    · intro h j h1 h2
      split at h
      · rename_i e
        by_cases hj : j = i
        · rw [hj]; exact e
        · exact (errFrom_zero l n (i + 1)).1 h j (by omega) (by omega)
      · rename_i e
        exact absurd h e
    · intro h
      rw [if_pos (h i (by omega) (by omega))]
      exact (errFrom_zero l n (i + 1)).2 (fun j h1 h2 => h j (by omega) (by omega))
theorem errOf_zero (l : List At) : errOf l = 0 ↔ ∀ j, j < l.length → errAt l j = 0 := by
  unfold errOf
  rw [errFrom_zero]
  exact ⟨fun h j hj => h j (by omega) (by omega), fun h j _ hj => h j (by omega)⟩
theorem errAt_zero {l : List At} {i : Nat} : errAt l i = 0 ↔ atOK (l.getD i atZ) = true ∧ (l.getD i atZ).k = (l.getD 0 atZ).k := by
  unfold errAt
  split
  · rename_i h
    exact ⟨fun h => by omega, fun h' => by rw [h] at h'; exact absurd h'.1 (by simp)⟩
  · rename_i h
    split
    · rename_i h2
      exact ⟨fun h => by omega, fun h' => absurd h'.2 h2⟩
    · rename_i h2
      exact ⟨fun _ => ⟨by simpa using h, by simpa using h2⟩, fun _ => rfl⟩
theorem datumB_eq (l : List At) : datumB l = (decide (l.length ≤ 8) && (decide (errOf l = 0) && riseB l)) := by
  unfold datumB
  congr 1
  rw [Bool.eq_iff_iff, List.all_eq_true, Bool.and_eq_true, decide_eq_true_iff, errOf_zero]
  unfold riseB
  rw [List.all_eq_true]
  unfold stepB
  constructor
  · intro h
    refine ⟨fun j hj => ?_, fun j hj => ?_⟩
    · have := h j (List.mem_range.2 hj)
      rw [Bool.and_eq_true, Bool.and_eq_true, beq_iff_eq] at this
      exact errAt_zero.2 ⟨this.1, this.2.1⟩
    · have := h j hj
      rw [Bool.and_eq_true, Bool.and_eq_true] at this
      exact this.2.2
  · intro h j hj
    have h1 := errAt_zero.1 (h.1 j (List.mem_range.1 hj))
    rw [Bool.and_eq_true, Bool.and_eq_true, beq_iff_eq]
    exact ⟨h1.1, h1.2, h.2 j hj⟩
set_option maxRecDepth 100000 in
set_option maxHeartbeats 3200000 in
theorem datumOKi (l : List At) (a : Option Addr) (c : Nat) (S : Nat) (w : World) (hl : l.length ≤ maxLen) (hx : ∀ x ∈ l, x.t.length ≤ maxLen) (hw : S ≤ w.heap.size) (hA : Ats w (· < S) a l) :
    Calls Try.prog 50 #[.slice a l.length c] w fun e w' => e = .returned (.bool (datumB l)) ∧ Below w.heap.size w w' := by
  have AC : Hid (∀ W, Below w.heap.size w W → Calls Try.prog 68 #[.slice a l.length c] W fun e w' => e = .returned (.int .i64 (errOf l)) ∧ Below w.heap.size w w') := fun W h => (atomsCodeI l a c S W hl hx (Nat.le_trans hw h.size) (hA.below (h.mono hw))).mono (fun e w' ⟨he, hB⟩ => ⟨he, h.trans (hB.mono h.size)⟩)
  have RI : Hid (∀ W, Below w.heap.size w W → Calls Try.prog 69 #[.slice a l.length c, .func (.func 70) #[] #[]] W fun e w' => e = .returned (.bool (riseB l)) ∧ Below w.heap.size w w') := fun W h => (risesI l a c S W hl (Nat.le_trans hw h.size) (hA.below (h.mono hw))).mono (fun e w' ⟨he, hB⟩ => ⟨he, h.trans (hB.mono h.size)⟩)
  have HD : Hid (datumB l = _) := datumB_eq l
  have hr := Below.refl w.heap.size w
  unfold maxLen at hl
  clear hA hx hw
  by_cases h8 : l.length ≤ 8
  case neg =>
    have d8 : decide ((l.length : Int) ≤ 8) = false := by simp; omega
    have HR : Hid (datumB l = false) := datumB_long (by omega)
    clear h8 HD
    go_enter Try.func50, Try.ntmps50
    go_wp2_with fail
    go_ret
    exact ⟨ret_b HR.out.symm, hr⟩
  have d8 : decide ((l.length : Int) ≤ 8) = true := by simp; omega
  by_cases he : errOf l = 0
  case neg =>
    have HR : Hid (datumB l = false) := by show datumB l = false; rw [HD.out, decide_eq_false he]; simp
    have d9 : (errOf l == 0) = false := by simpa using he
    clear h8 HD he
    generalize errOf l = q at *
    go_enter Try.func50, Try.ntmps50
    go_wp2_with (go_at_call 68; refine (AC.out _ hr).mono ?_; rintro e w1 ⟨rfl, hr⟩)
    go_ret
    exact ⟨ret_b HR.out.symm, hr⟩
  have HR : Hid (datumB l = riseB l) := by show datumB l = riseB l; rw [HD.out, decide_eq_true he, decide_eq_true h8]; simp
  rw [he] at AC
  clear h8 HD he
  generalize riseB l = q at *
  go_enter Try.func50, Try.ntmps50
  go_wp2_with (first | (go_at_call 68; refine (AC.out _ hr).mono ?_; rintro e w1 ⟨rfl, hr⟩) | (go_at_call 69; refine (RI.out _ hr).mono ?_; rintro e w2 ⟨rfl, hr⟩))
  go_ret
  exact ⟨ret_b HR.out.symm, hr⟩
end Go.Proofs.Ytajhjjpanjpfoaa
namespace Go.Proofs.Ytajhjjpanjpfoaa
open Go.RowKit
set_option linter.unusedSimpArgs false
def atCs (l : List At) : List Value := (List.range (l.length * 3)).map (atF l)
theorem atCs_len (l : List At) : (atCs l).length = l.length * 3 := by simp [atCs]
theorem atCs_at {l : List At} {m : Nat} (h : m < l.length * 3) : (atCs l)[m]? = some (atF l m) := by simp [atCs, h]
theorem atF_left {l l' : List At} {m : Nat} (h : m < l.length * 3) : atF (l ++ l') m = atF l m := by
  have hi : m / 3 < l.length := by omega
  unfold atF
  rw [at_getD hi, at_getD (l := l ++ l') (by rw [List.length_append]; omega), List.getElem_append_left hi]
theorem atF_right {l l' : List At} {m : Nat} (h : m < l'.length * 3) : atF (l ++ l') (l.length * 3 + m) = atF l' m := by
  have hi : m / 3 < l'.length := by omega
  have e : (l.length * 3 + m) / 3 = l.length + m / 3 := by omega
  have e2 : (l.length * 3 + m) % 3 = m % 3 := by omega
  unfold atF
  rw [e, e2, at_getD hi, at_getD (l := l ++ l') (by rw [List.length_append]; omega), List.getElem_append_right (by omega)]
  simp
theorem atCs_app (l l' : List At) : atCs (l ++ l') = atCs l ++ atCs l' := by
  apply List.ext_getElem?
  intro m
  by_cases h : m < l.length * 3
  · rw [List.getElem?_append_left (by rw [atCs_len]; exact h), atCs_at h, atCs_at (by rw [List.length_append]; omega), atF_left h]
  · by_cases h2 : m < (l ++ l').length * 3
    · obtain ⟨m', rfl⟩ : ∃ m', m = l.length * 3 + m' := ⟨m - l.length * 3, by omega⟩
      rw [List.length_append] at h2
      rw [List.getElem?_append_right (by rw [atCs_len]; omega), atCs_len, Nat.add_sub_cancel_left, atCs_at (l := l') (by omega), atCs_at (by rw [List.length_append]; omega), atF_right (by omega)]
    · rw [List.getElem?_eq_none (by rw [atCs_len]; omega), List.getElem?_eq_none (by rw [List.length_append, atCs_len, atCs_len]; rw [List.length_append] at h2; omega)]
def ABuf (w : World) (B : Nat) (v : Value) (l : List At) : Prop := w.ownsRow B 51 3 v l.length (atCs l)
structure AppA (w : World) (v : Value) (w' : World) (v' : Value) : Prop where
  os : w'.os = w.os
  tape : w'.tape = w.tape
  output : w'.output = w.output
  size : w.heap.size ≤ w'.heap.size
  block : ∀ k, k < w.heap.size → v.ownBlock ≠ some k → w'.heap[k]? = w.heap[k]?
  place : ∀ g, v'.ownBlock = some g → v.ownBlock = some g ∨ w.heap.size ≤ g
theorem AppA.refl (w : World) (v : Value) : AppA w v w v := ⟨rfl, rfl, rfl, Nat.le_refl _, fun _ _ _ => rfl, fun _ h => .inl h⟩
theorem AppA.trans {w w1 w2 : World} {v v1 v2 : Value} (h : AppA w v w1 v1) (k : AppA w1 v1 w2 v2) : AppA w v w2 v2 := by
  have hs := h.size
  refine ⟨k.os.trans h.os, k.tape.trans h.tape, k.output.trans h.output, Nat.le_trans h.size k.size, fun b hb hn => ?_, fun g hg => ?_⟩
  · rw [k.block b (by omega) (fun e => ?_), h.block b hb hn]
    rcases h.place b e with e' | e'
    · exact hn e'
    · omega
  · rcases k.place g hg with e | e
    · exact h.place g e
    · exact .inr (by omega)
theorem AppA.of_below {w w' : World} {v : Value} (h : Below w.heap.size w w') : AppA w v w' v := ⟨h.os, h.tape, h.output, h.size, fun k hk _ => h.block k hk, fun _ h => .inl h⟩
theorem ABuf.lt {w : World} {B : Nat} {v : Value} {l : List At} (h : ABuf w B v l) {g : Nat} (hg : v.ownBlock = some g) : B ≤ g ∧ g < w.heap.size := World.ownsRow.lt h g hg
theorem ABuf.on {w w' : World} {B : Nat} {v : Value} {l : List At} (h : ABuf w B v l) (hb : Below w.heap.size w w') : ABuf w' B v l := by
  refine ⟨h.1, ?_⟩
  rcases h.2 with h0 | ⟨g, cap, cur, e1, hg1, hb1, rest⟩
  · exact .inl h0
  · exact .inr ⟨g, cap, cur, e1, hg1, by rw [hb.block _ (Array.getElem?_eq_some_iff.1 hb1).1]; exact hb1, rest⟩
theorem AppA.below {w w' : World} {B : Nat} {v v' : Value} {l : List At} (h : AppA w v w' v') (hb : ABuf w B v l) (hB : B ≤ w.heap.size) : Below B w w' :=
  ⟨h.os, h.tape, h.output, h.size, fun k hk => h.block k (by omega) (fun e => by have := (hb.lt e).1; omega)⟩
theorem ABuf.own {w : World} {B : Nat} {v : Value} {l : List At} (h : ABuf w B v l) : ∃ a c, v = .slice a l.length c ∧ OwnAts w (fun b => B ≤ b ∧ b < w.heap.size) a l := by
  rcases h.2 with ⟨rfl, h0⟩ | ⟨g, cap, cur, rfl, hg, hb, hn, hcap, hcs, hx⟩
  · exact ⟨none, 0, by rw [h0], .inl h0⟩
  · refine ⟨_, _, rfl, .inr ⟨g, 0, rfl, ⟨hg, (Array.getElem?_eq_some_iff.1 hb).1⟩, fun m hm => ⟨?_, by simp [World.frozen?, hb]⟩⟩⟩
    have h1 := congrArg (·[m]?) hx
    rw [atCs_at hm, List.getElem?_take_of_lt hm, Array.getElem?_toList] at h1
    rw [Nat.zero_add]
    simp [World.cell?, hb, h1]
theorem ABuf.empty (w : World) : ABuf (w.alloc (.cells #[] 51)) w.heap.size (.slice (some ⟨w.heap.size, 0, none⟩) 0 0) [] :=
  ⟨rfl, .inr ⟨w.heap.size, 0, #[], rfl, Nat.le_refl _, heap_newA _ _, Nat.le_refl _, by unfold maxLen; omega, by simp, by simp [atCs]⟩⟩
theorem run_apush {w : World} {B : Nat} {v : Value} {l : List At} (hb : ABuf w B v l) (hB : B ≤ w.heap.size) (l' : List At) (hl : l.length + l'.length ≤ 1000000000) (ad : Addr) (cp : Nat) (ty : TypeId)
    (hv : v ≠ .slice none 0 0) (hnews : ∀ j u, (atCs l')[j]? = some u → w.cell? (ad.add j) = some u) :
    ∃ v' w', (Builtin.append_ #[42, 42] ty #[v, .slice (some ad) l'.length cp]).run Try.prog w = .ok v' w' ∧ ABuf w' B v' (l ++ l') ∧ AppA w v w' v' ∧ v' ≠ .slice none 0 0 := by
  obtain ⟨i, hi, hz, hs, hby⟩ := infoAt'
  have h1 : ∀ u ∈ atCs l', u.oneCell' = true := fun u hu => by
    obtain ⟨m, -, rfl⟩ := List.mem_map.1 hu
    unfold atF
    split
    · rfl
    · split <;> rfl
  have hll : (atCs l').length = l'.length * 3 := atCs_len l'
  obtain ⟨v', w', hr, h2, h3, h4⟩ := run_append_own (P := Try.prog) w B 42 ty 51 i (.agg zeroAt) 3 32 Try.underlying42 hi hz hs hby rfl (by omega) v l.length (atCs l) hb ad l'.length cp (atCs l') hll hnews h1 (by unfold maxLen; omega) (by omega) hB
  refine ⟨v', w', hr, ?_, ⟨h3.os, h3.tape, h3.output, h3.size, fun k hk hn => h3.block k hk (fun e => hn e.symm), ?_⟩, fun e => hv (h4.1 e).1⟩
  · unfold ABuf
    rw [atCs_app, List.length_append]
    exact h2
  · intro p hp
    rcases hb.2 with ⟨rfl, h0'⟩ | ⟨q, cap, cur, rfl, hg, hbq, hn, hcap, hcs, hx⟩
    · exact absurd rfl hv
    · by_cases hroom : l.length + l'.length ≤ cap
      · have hr2 := run_append_room_cells (P := Try.prog) w 42 ty 51 i Try.underlying42 hi q 0 l.length cap ad l'.length cp (atCs l') (by rw [hs]; exact hll) hnews h1 hroom (fun j hj => by
          have hlt : l.length * i.size + j < cur.size := by
            rw [hs]
            rw [hll] at hj
            omega
          simp [World.cell?, hbq, hlt]) (fun j hj => by simp [World.frozen?, hbq])
        rw [hr] at hr2
        injection hr2 with e1 e2
        subst e1
        exact .inl hp
      · obtain ⟨v2, w2, hr2, h22, -⟩ := run_append_arg_grows (P := Try.prog) w 42 ty 51 i (.agg zeroAt) 3 32 Try.underlying42 hi hz hs hby rfl (by omega) ⟨q, 0, none⟩ l.length cap (atCs l) hb.1 (World.ownsRow.cells hb (g := q) rfl) ad l'.length cp (atCs l') hll hnews (by omega) (by unfold maxLen; omega) (by omega)
        rw [hr] at hr2
        injection hr2 with e1 e2
        subst e1
        exact .inr (World.ownsRow.lt h22 p hp).1
end Go.Proofs.Ytajhjjpanjpfoaa
namespace Go.Proofs.Ytajhjjpanjpfoaa
open Go.RowKit
set_option linter.unusedSimpArgs false
structure AI (w : World) (B : Nat) (W : World) (v : Value) (l : List At) : Prop where
  buf : ABuf W B v l
  bel : Below w.heap.size w W
  le : B ≤ W.heap.size
  old : w.heap.size ≤ B
  no : v ≠ .slice none 0 0
theorem AI.on {w W W' : World} {B : Nat} {v : Value} {l : List At} (h : AI w B W v l) (hb : Below W.heap.size W W') : AI w B W' v l := ⟨h.buf.on hb, h.bel.trans (hb.mono h.bel.size), Nat.le_trans h.le hb.size, h.old, h.no⟩
theorem AI.push {w W W' : World} {B : Nat} {v v' : Value} {l l' : List At} (h : AI w B W v l) (hb : ABuf W' B v' l') (ha : AppA W v W' v') (hn : v' ≠ .slice none 0 0) : AI w B W' v' l' :=
  ⟨hb, h.bel.trans ((ha.below h.buf h.le).mono h.old), Nat.le_trans h.le ha.size, h.old, hn⟩
theorem AI.cast {w W : World} {B : Nat} {v : Value} {l l' : List At} (h : AI w B W v l) (e : l = l') : AI w B W v l' := by rw [← e]; exact h
theorem AI.first (w : World) : AI w w.heap.size (w.alloc (.cells #[] 51)) (.slice (some ⟨w.heap.size, 0, none⟩) 0 0) [] :=
  ⟨ABuf.empty w, (Below.refl _ _).alloc (Nat.le_refl _) _, by simp, Nat.le_refl _, by simp⟩
end Go.Proofs.Ytajhjjpanjpfoaa
