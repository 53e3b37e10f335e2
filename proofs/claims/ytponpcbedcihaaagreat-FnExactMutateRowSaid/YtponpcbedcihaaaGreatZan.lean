import Derived.Test.YtponpcbedcihaaaGreatZam
import Derived.Test.YtponpcbedcihaaaGreatZaj
import Derived.ArgAppend
import Derived.OwnWalk
namespace Go.Proofs.YtponpcbedcihaaaGreat
open Go.RowKit
set_option linter.unusedSimpArgs false
theorem errFrom_zero (l : List At) : ∀ n i, errFrom l n i = 0 ↔ ∀ j, i ≤ j → j < i + n → errAt l j = 0
  | 0, i => ⟨fun _ j h h' => by omega, fun _ => rfl⟩
  | n + 1, i => by
    rw [errFrom]
    constructor
    · intro h j h1 h2
      split at h
      · rename_i e
        by_cases hj : j = i
        · rw [hj]; exact e
        · exact (errFrom_zero l n (i + 1)).1 h j (by omega) (by omega)
      · rename_i e
        exact absurd h e
    · intro h
      rw [if_pos (h i (by omega) (by omega))]
      exact (errFrom_zero l n (i + 1)).2 (fun j h1 h2 => h j (by omega) (by omega))
theorem errOf_zero (l : List At) : errOf l = 0 ↔ ∀ j, j < l.length → errAt l j = 0 := by
  unfold errOf
  rw [errFrom_zero]
  exact ⟨fun h j hj => h j (by omega) (by omega), fun h j _ hj => h j (by omega)⟩
theorem errAt_zero {l : List At} {i : Nat} : errAt l i = 0 ↔ atOK (l.getD i atZ) = true ∧ (l.getD i atZ).k = (l.getD 0 atZ).k := by
  unfold errAt
  split
  · rename_i h
    exact ⟨fun h => by omega, fun h' => by rw [h] at h'; exact absurd h'.1 (by simp)⟩
  · rename_i h
    split
    · rename_i h2
      exact ⟨fun h => by omega, fun h' => absurd h'.2 h2⟩
    · rename_i h2
      exact ⟨fun _ => ⟨by simpa using h, by simpa using h2⟩, fun _ => rfl⟩
theorem datumB_eq (l : List At) : datumB l = (decide (l.length ≤ 8) && (decide (errOf l = 0) && riseB l)) := by
  unfold datumB
  congr 1
  rw [Bool.eq_iff_iff, List.all_eq_true, Bool.and_eq_true, decide_eq_true_iff, errOf_zero]
  unfold riseB
  rw [List.all_eq_true]
  unfold stepB
  constructor
  · intro h
    refine ⟨fun j hj => ?_, fun j hj => ?_⟩
    · have := h j (List.mem_range.2 hj)
      rw [Bool.and_eq_true, Bool.and_eq_true, beq_iff_eq] at this
      exact errAt_zero.2 ⟨this.1, this.2.1⟩
    · have := h j hj
      rw [Bool.and_eq_true, Bool.and_eq_true] at this
      exact this.2.2
  · intro h j hj
    have h1 := errAt_zero.1 (h.1 j (List.mem_range.1 hj))
    rw [Bool.and_eq_true, Bool.and_eq_true, beq_iff_eq]
    exact ⟨h1.1, h1.2, h.2 j hj⟩
set_option maxRecDepth 100000 in
set_option maxHeartbeats 3200000 in
theorem datumOKi (l : List At) (a : Option Addr) (c : Nat) (S : Nat) (w : World) (hl : l.length ≤ maxLen) (hx : ∀ x ∈ l, x.t.length ≤ maxLen) (hw : S ≤ w.heap.size) (hA : Ats w (· < S) a l) :
    Calls Tryz.prog 62 #[.slice a l.length c] w fun e w' => e = .returned (.bool (datumB l)) ∧ Below w.heap.size w w' := by
  have AC : Hid (∀ W, Below w.heap.size w W → Calls Tryz.prog 84 #[.slice a l.length c] W fun e w' => e = .returned (.int .i64 (errOf l)) ∧ Below w.heap.size w w') := fun W h => (atomsCodeI l a c S W hl hx (Nat.le_trans hw h.size) (hA.below (h.mono hw))).mono (fun e w' ⟨he, hB⟩ => ⟨he, h.trans (hB.mono h.size)⟩)
  have RI : Hid (∀ W, Below w.heap.size w W → Calls Tryz.prog 85 #[.slice a l.length c, .func (.func 86) #[] #[]] W fun e w' => e = .returned (.bool (riseB l)) ∧ Below w.heap.size w w') := fun W h => (risesI l a c S W hl (Nat.le_trans hw h.size) (hA.below (h.mono hw))).mono (fun e w' ⟨he, hB⟩ => ⟨he, h.trans (hB.mono h.size)⟩)
  have HD : Hid (datumB l = _) := datumB_eq l
  have hr := Below.refl w.heap.size w
  unfold maxLen at hl
  clear hA hx hw
  by_cases h8 : l.length ≤ 8
  case neg =>
    have d8 : decide ((l.length : Int) ≤ 8) = false := by simp; omega
    have HR : Hid (datumB l = false) := datumB_long (by omega)
    clear h8 HD
    go_enter Tryz.func62, Tryz.ntmps62
    go_wp2_with fail
    go_ret
    exact ⟨ret_b HR.out.symm, hr⟩
  have d8 : decide ((l.length : Int) ≤ 8) = true := by simp; omega
  by_cases he : errOf l = 0
  case neg =>
    have HR : Hid (datumB l = false) := by show datumB l = false; rw [HD.out, decide_eq_false he]; simp
    have d9 : (errOf l == 0) = false := by simpa using he
    clear h8 HD he
    generalize errOf l = q at *
    go_enter Tryz.func62, Tryz.ntmps62
    go_wp2_with (go_at_call 84; refine (AC.out _ hr).mono ?_; rintro e w1 ⟨rfl, hr⟩)
    go_ret
    exact ⟨ret_b HR.out.symm, hr⟩
  have HR : Hid (datumB l = riseB l) := by show datumB l = riseB l; rw [HD.out, decide_eq_true he, decide_eq_true h8]; simp
  rw [he] at AC
  clear h8 HD he
  generalize riseB l = q at *
  go_enter Tryz.func62, Tryz.ntmps62
  go_wp2_with (first | (go_at_call 84; refine (AC.out _ hr).mono ?_; rintro e w1 ⟨rfl, hr⟩) | (go_at_call 85; refine (RI.out _ hr).mono ?_; rintro e w2 ⟨rfl, hr⟩))
  go_ret
  exact ⟨ret_b HR.out.symm, hr⟩
def IdxAns (l : List At) (x : At) (w : World) (e : Ending) (w' : World) : Prop := ∃ q : Int, e = .returned (.int .i64 q) ∧ decide (q ≥ 0) = hasB l x ∧ Below w.heap.size w w'
set_option maxHeartbeats 3200000 in
theorem indexI (l : List At) (x : At) (a : Option Addr) (c : Nat) (B : Nat → Prop) (w : World) (hl : l.length ≤ maxLen) (hA : Ats w B a l) :
    Calls Tryz.prog 122 #[.slice a l.length c, .agg #[.int .i64 x.k, .int .i64 x.n, .string ⟨x.t.toArray⟩]] w (IdxAns l x w) := by
  unfold maxLen at hl
  have HA : Hid (Ats w B a l) := hA
  clear hA
  go_enter Tryz.func122, Tryz.ntmps122
  go_wp2_with fail
  go_loopw [8] (fun i wr => ∃ k : Nat, k ≤ l.length ∧ i = .int .i64 k ∧ Hid ((∀ m (h : m < l.length), m < k → l[m] ≠ x) ∧ BoxA w wr x)) (fun i _ => l.length - (intOf i).toNat)
  case atStart => exact ⟨0, Nat.zero_le _, rfl, fun m _ h => absurd h (by omega), heap_newA _ _, (Below.refl _ _).alloc (Nat.le_refl _) _⟩
  case round =>
    obtain ⟨k, hk, rfl, HW⟩ := hrel
    have x0 := cell_at (o := 0) HW.out.2.1 rfl
    have x1 := cell_at (o := 1) HW.out.2.1 rfl
    have x2 := cell_at (o := 2) HW.out.2.1 rfl
    by_cases hlt : k < l.length
    · obtain ⟨b, off, rfl, -, c0, c1, c2⟩ := (HA.out.later HW.out.2.2).item k hlt
      have hki : (k : Int) < (l.length : Int) := by omega
      by_cases he : l[k] = x
      · have HR : Hid (hasB l x = true) := hasB_true hlt he
        rw [he] at c0 c1 c2
        clear he
        go_wp2_with fail
        go_quiet (fail)
        go_wp2_with fail
        go_ret
        exact ⟨k, rfl, by rw [HR.out]; exact decide_eq_true (by omega), (HW.out.2.drewN _).2⟩
      · have HN : Hid (∀ m (h : m < l.length), m < k + 1 → l[m] ≠ x) := fun m h hm => by
          by_cases e : m = k
          · subst e; exact he
          · exact HW.out.1 m h (by omega)
        rcases differ (fun e => he e.symm) with hd | ⟨hd, hd2⟩ | ⟨hd, hd2, hd3⟩
        · clear he
          go_wp2_with fail
          go_quiet (fail)
          go_wp2_with fail
          go_roundw
          case rel => exact ⟨k + 1, by omega, by go_num, HN.out, HW.out.2.drewN _⟩
          case measure => simp [intOf]; omega
        · rw [← hd] at c0
          clear he hd
          go_wp2_with fail
          go_quiet (fail)
          go_wp2_with fail
          go_roundw
          case rel => exact ⟨k + 1, by omega, by go_num, HN.out, HW.out.2.drewN _⟩
          case measure => simp [intOf]; omega
        · rw [← hd] at c0
          rw [← hd2] at c1
          clear he hd hd2
          go_wp2_with fail
          go_quiet (fail)
          go_wp2_with fail
          go_roundw
          case rel => exact ⟨k + 1, by omega, by go_num, HN.out, HW.out.2.drewN _⟩
          case measure => simp [intOf]; omega
    · have HR : Hid (hasB l x = false) := hasB_false (fun m h => HW.out.1 m h (by omega))
      have hki : decide ((k : Int) < (l.length : Int)) = false := by simp; omega
      go_wp2_with fail
      go_ret
      exact ⟨-1, rfl, by rw [HR.out]; rfl, HW.out.2.2⟩
set_option maxHeartbeats 1600000 in
theorem containsI (l : List At) (x : At) (a : Option Addr) (c : Nat) (B : Nat → Prop) (w : World) (hl : l.length ≤ maxLen) (hA : Ats w B a l) :
    Calls Tryz.prog 108 #[.slice a l.length c, .agg #[.int .i64 x.k, .int .i64 x.n, .string ⟨x.t.toArray⟩]] w fun e w' => e = .returned (.bool (hasB l x)) ∧ Below w.heap.size w w' := by
  have hx : BoxA w (w.alloc (.cells #[.int .i64 x.k, .int .i64 x.n, .string ⟨x.t.toArray⟩] 104)) x := ⟨heap_newA _ _, (Below.refl _ _).alloc (Nat.le_refl _) _⟩
  have IX : Hid (∀ W, BoxA w W x → Calls Tryz.prog 122 #[.slice a l.length c, .agg #[.int .i64 x.k, .int .i64 x.n, .string ⟨x.t.toArray⟩]] W fun e w' => ∃ q : Int, e = .returned (.int .i64 q) ∧ decide (q ≥ 0) = hasB l x ∧ BoxA w w' x) := fun W h => (indexI l x a c B W hl (hA.later h.2)).mono (fun e w' ⟨q, he, hq, hB⟩ => ⟨q, he, hq, h.later hB⟩)
  clear hA hl
  go_enter Tryz.func108, Tryz.ntmps108
  go_wp2_with (go_at_call 122; refine (IX.out _ hx).mono ?_; rintro e w1 ⟨q, rfl, hq, hx⟩)
  go_ret
  exact ⟨rfl, hx.2⟩
end Go.Proofs.YtponpcbedcihaaaGreat
namespace Go.Proofs.YtponpcbedcihaaaGreat
open Go.RowKit
set_option linter.unusedSimpArgs false
def atCs (l : List At) : List Value := (List.range (l.length * 3)).map (atF l)
theorem atCs_len (l : List At) : (atCs l).length = l.length * 3 := by simp [atCs]
theorem atCs_at {l : List At} {m : Nat} (h : m < l.length * 3) : (atCs l)[m]? = some (atF l m) := by simp [atCs, h]
theorem atF_left {l l' : List At} {m : Nat} (h : m < l.length * 3) : atF (l ++ l') m = atF l m := by
  have hi : m / 3 < l.length := by omega
  unfold atF
  rw [at_getD hi, at_getD (l := l ++ l') (by rw [List.length_append]; omega), List.getElem_append_left hi]
theorem atF_right {l l' : List At} {m : Nat} (h : m < l'.length * 3) : atF (l ++ l') (l.length * 3 + m) = atF l' m := by
  have hi : m / 3 < l'.length := by omega
  have e : (l.length * 3 + m) / 3 = l.length + m / 3 := by omega
  have e2 : (l.length * 3 + m) % 3 = m % 3 := by omega
  unfold atF
  rw [e, e2, at_getD hi, at_getD (l := l ++ l') (by rw [List.length_append]; omega), List.getElem_append_right (by omega)]
  simp
theorem atCs_app (l l' : List At) : atCs (l ++ l') = atCs l ++ atCs l' := by
  apply List.ext_getElem?
  intro m
  by_cases h : m < l.length * 3
  · rw [List.getElem?_append_left (by rw [atCs_len]; exact h), atCs_at h, atCs_at (by rw [List.length_append]; omega), atF_left h]
  · by_cases h2 : m < (l ++ l').length * 3
    · obtain ⟨m', rfl⟩ : ∃ m', m = l.length * 3 + m' := ⟨m - l.length * 3, by omega⟩
      rw [List.length_append] at h2
      rw [List.getElem?_append_right (by rw [atCs_len]; omega), atCs_len, Nat.add_sub_cancel_left, atCs_at (l := l') (by omega), atCs_at (by rw [List.length_append]; omega), atF_right (by omega)]
    · rw [List.getElem?_eq_none (by rw [atCs_len]; omega), List.getElem?_eq_none (by rw [List.length_append, atCs_len, atCs_len]; rw [List.length_append] at h2; omega)]
def ABuf (w : World) (B : Nat) (v : Value) (l : List At) : Prop := w.ownsRow B 104 3 v l.length (atCs l)
structure AppA (w : World) (v : Value) (w' : World) (v' : Value) : Prop where
  os : w'.os = w.os
  tape : w'.tape = w.tape
  output : w'.output = w.output
  size : w.heap.size ≤ w'.heap.size
  block : ∀ k, k < w.heap.size → v.ownBlock ≠ some k → w'.heap[k]? = w.heap[k]?
  place : ∀ g, v'.ownBlock = some g → v.ownBlock = some g ∨ w.heap.size ≤ g
theorem AppA.refl (w : World) (v : Value) : AppA w v w v := ⟨rfl, rfl, rfl, Nat.le_refl _, fun _ _ _ => rfl, fun _ h => .inl h⟩
theorem AppA.trans {w w1 w2 : World} {v v1 v2 : Value} (h : AppA w v w1 v1) (k : AppA w1 v1 w2 v2) : AppA w v w2 v2 := by
  have hs := h.size
  refine ⟨k.os.trans h.os, k.tape.trans h.tape, k.output.trans h.output, Nat.le_trans h.size k.size, fun b hb hn => ?_, fun g hg => ?_⟩
  · rw [k.block b (by omega) (fun e => ?_), h.block b hb hn]
    rcases h.place b e with e' | e'
    · exact hn e'
    · omega
  · rcases k.place g hg with e | e
    · exact h.place g e
    · exact .inr (by omega)
theorem AppA.of_below {w w' : World} {v : Value} (h : Below w.heap.size w w') : AppA w v w' v := ⟨h.os, h.tape, h.output, h.size, fun k hk _ => h.block k hk, fun _ h => .inl h⟩
theorem ABuf.lt {w : World} {B : Nat} {v : Value} {l : List At} (h : ABuf w B v l) {g : Nat} (hg : v.ownBlock = some g) : B ≤ g ∧ g < w.heap.size := World.ownsRow.lt h g hg
theorem ABuf.on {w w' : World} {B : Nat} {v : Value} {l : List At} (h : ABuf w B v l) (hb : Below w.heap.size w w') : ABuf w' B v l := by
  refine ⟨h.1, ?_⟩
  rcases h.2 with h0 | ⟨g, cap, cur, e1, hg1, hb1, rest⟩
  · exact .inl h0
  · exact .inr ⟨g, cap, cur, e1, hg1, by rw [hb.block _ (Array.getElem?_eq_some_iff.1 hb1).1]; exact hb1, rest⟩
theorem AppA.below {w w' : World} {B : Nat} {v v' : Value} {l : List At} (h : AppA w v w' v') (hb : ABuf w B v l) (hB : B ≤ w.heap.size) : Below B w w' :=
  ⟨h.os, h.tape, h.output, h.size, fun k hk => h.block k (by omega) (fun e => by have := (hb.lt e).1; omega)⟩
theorem ABuf.own {w : World} {B : Nat} {v : Value} {l : List At} (h : ABuf w B v l) : ∃ a c, v = .slice a l.length c ∧ OwnAts w (fun b => B ≤ b ∧ b < w.heap.size) a l := by
  rcases h.2 with ⟨rfl, h0⟩ | ⟨g, cap, cur, rfl, hg, hb, hn, hcap, hcs, hx⟩
  · exact ⟨none, 0, by rw [h0], .inl h0⟩
  · refine ⟨_, _, rfl, .inr ⟨g, 0, rfl, ⟨hg, (Array.getElem?_eq_some_iff.1 hb).1⟩, fun m hm => ⟨?_, by simp [World.frozen?, hb]⟩⟩⟩
    have h1 := congrArg (·[m]?) hx
    rw [atCs_at hm, List.getElem?_take_of_lt hm, Array.getElem?_toList] at h1
    rw [Nat.zero_add]
    simp [World.cell?, hb, h1]
theorem ABuf.empty (w : World) : ABuf (w.alloc (.cells #[] 104)) w.heap.size (.slice (some ⟨w.heap.size, 0, none⟩) 0 0) [] :=
  ⟨rfl, .inr ⟨w.heap.size, 0, #[], rfl, Nat.le_refl _, heap_newA _ _, Nat.le_refl _, by unfold maxLen; omega, by simp, by simp [atCs]⟩⟩
theorem run_apush {w : World} {B : Nat} {v : Value} {l : List At} (hb : ABuf w B v l) (hB : B ≤ w.heap.size) (l' : List At) (hl : l.length + l'.length ≤ 1000000000) (ad : Addr) (cp : Nat) (ty : TypeId)
    (hv : v ≠ .slice none 0 0) (hnews : ∀ j u, (atCs l')[j]? = some u → w.cell? (ad.add j) = some u) :
    ∃ v' w', (Builtin.append_ #[65, 65] ty #[v, .slice (some ad) l'.length cp]).run Tryz.prog w = .ok v' w' ∧ ABuf w' B v' (l ++ l') ∧ AppA w v w' v' ∧ v' ≠ .slice none 0 0 := by
  obtain ⟨i, hi, hz, hs, hby⟩ := infoAt'
  have h1 : ∀ u ∈ atCs l', u.oneCell' = true := fun u hu => by
    obtain ⟨m, -, rfl⟩ := List.mem_map.1 hu
    unfold atF
    split
    · rfl
    · split <;> rfl
  have hll : (atCs l').length = l'.length * 3 := atCs_len l'
  obtain ⟨v', w', hr, h2, h3, h4⟩ := run_append_own (P := Tryz.prog) w B 65 ty 104 i (.agg zeroAt) 3 32 Tryz.underlying65 hi hz hs hby rfl (by omega) v l.length (atCs l) hb ad l'.length cp (atCs l') hll hnews h1 (by unfold maxLen; omega) (by omega) hB
  refine ⟨v', w', hr, ?_, ⟨h3.os, h3.tape, h3.output, h3.size, fun k hk hn => h3.block k hk (fun e => hn e.symm), ?_⟩, fun e => hv (h4.1 e).1⟩
  · unfold ABuf
    rw [atCs_app, List.length_append]
    exact h2
  · intro p hp
    rcases hb.2 with ⟨rfl, h0'⟩ | ⟨q, cap, cur, rfl, hg, hbq, hn, hcap, hcs, hx⟩
    · exact absurd rfl hv
    · by_cases hroom : l.length + l'.length ≤ cap
      · have hr2 := run_append_room_cells (P := Tryz.prog) w 65 ty 104 i Tryz.underlying65 hi q 0 l.length cap ad l'.length cp (atCs l') (by rw [hs]; exact hll) hnews h1 hroom (fun j hj => by
          have hlt : l.length * i.size + j < cur.size := by
            rw [hs]
            rw [hll] at hj
            omega
          simp [World.cell?, hbq, hlt]) (fun j hj => by simp [World.frozen?, hbq])
        rw [hr] at hr2
        injection hr2 with e1 e2
        subst e1
        exact .inl hp
      · obtain ⟨v2, w2, hr2, h22, -⟩ := run_append_arg_grows (P := Tryz.prog) w 65 ty 104 i (.agg zeroAt) 3 32 Tryz.underlying65 hi hz hs hby rfl (by omega) ⟨q, 0, none⟩ l.length cap (atCs l) hb.1 (World.ownsRow.cells hb (g := q) rfl) ad l'.length cp (atCs l') hll hnews (by omega) (by unfold maxLen; omega) (by omega)
        rw [hr] at hr2
        injection hr2 with e1 e2
        subst e1
        exact .inr (World.ownsRow.lt h22 p hp).1
theorem wpList_apush {ops : Array Oper} {rest : List Oper} {o : Oper} {a : Act} {w : World} {Q : Exit → Act → World → Prop} (hgd : o.guard = none) (s x : Operand)
    (ho : o.op = .call { callee := .builtin .append, args := #[s, x], argTypes := #[65, 65] })
    (B : Nat) (v : Value) (l l' : List At) (ad : Addr) (m cp : Nat) (hs : a.eval s = v) (hx : a.eval x = .slice (some ad) m cp) (hm : l'.length = m)
    (hb : ABuf w B v l) (hB : B ≤ w.heap.size) (hl : l.length + l'.length ≤ 1000000000) (hv : v ≠ .slice none 0 0) (hc : ∀ j u, (atCs l')[j]? = some u → w.cell? (ad.add j) = some u)
    (h : ∀ v' w', ABuf w' B v' (l ++ l') → AppA w v w' v' → v' ≠ .slice none 0 0 → wpList Tryz.prog ops Q rest (a.put o.dst v') w') : wpList Tryz.prog ops Q (o :: rest) a w := by
  subst hm
  refine wpList_plain hgd fun K hK => ?_
  obtain ⟨v', w', hr, h2, h3, h4⟩ := run_apush hb hB l' hl ad cp o.type hv hc
  unfold Oper.wp execOp
  simp only [ho, resolve, invoke, builtin, Sem.run_bind, Sem.run_pure, Result.andThen_ok, List.map_toArray, List.map_cons, List.map_nil, hs, hx, hr]
  exact hK _ _ (h v' w' h2 h3 h4)
theorem news_one (w : World) (x : At) (t : TypeId) : ∀ j u, (atCs [x])[j]? = some u → (w.alloc (.cells #[.int .i64 x.k, .int .i64 x.n, .string ⟨x.t.toArray⟩] t)).cell? ((⟨w.heap.size, 0, none⟩ : Addr).add j) = some u := fun j u hj => by
  have hl := (List.getElem?_eq_some_iff.1 hj).1
  rw [atCs_len] at hl
  simp only [List.length_singleton, Nat.one_mul] at hl
  rw [atCs_at (by simpa using hl)] at hj
  injection hj with hj
  subst hj
  rw [Addr.add_mid, Nat.zero_add]
  have hn := heap_newA w (.cells #[.int .i64 x.k, .int .i64 x.n, .string ⟨x.t.toArray⟩] t)
  rcases (by omega : j = 0 ∨ j = 1 ∨ j = 2) with rfl | rfl | rfl
  · exact cell_at (o := 0) hn rfl
  · exact cell_at (o := 1) hn rfl
  · exact cell_at (o := 2) hn rfl
end Go.Proofs.YtponpcbedcihaaaGreat
