import Derived.Test.YtlddhbamcndggaaGreatDoorZag
import Derived.ArgAppend
import Derived.OwnWalk
import Derived.Deep.CutRange
namespace Go.Proofs.YtlddhbamcndggaaGreatDoor
open Go.RowKit
set_option linter.unusedSimpArgs false
def atCs (l : List At) : List Value := (List.range (l.length * 3)).map (atF l)
theorem atCs_len (l : List At) : (atCs l).length = l.length * 3 := by simp [atCs]
theorem atCs_at {l : List At} {m : Nat} (h : m < l.length * 3) : (atCs l)[m]? = some (atF l m) := by simp [atCs, h]
theorem atF_left {l l' : List At} {m : Nat} (h : m < l.length * 3) : atF (l ++ l') m = atF l m := by
 have hi : m / 3 < l.length := by omega
 unfold atF
 rw [at_getD hi, at_getD (l := l ++ l') (by rw [List.length_append]; omega), List.getElem_append_left hi]
theorem atF_right {l l' : List At} {m : Nat} (h : m < l'.length * 3) : atF (l ++ l') (l.length * 3 + m) = atF l' m := by
 have hi : m / 3 < l'.length := by omega
 have e : (l.length * 3 + m) / 3 = l.length + m / 3 := by omega
 have e2 : (l.length * 3 + m) % 3 = m % 3 := by omega
 unfold atF
 rw [e, e2, at_getD hi, at_getD (l := l ++ l') (by rw [List.length_append]; omega), List.getElem_append_right (by omega)]
 simp
theorem atCs_app (l l' : List At) : atCs (l ++ l') = atCs l ++ atCs l' := by
 apply List.ext_getElem?
 intro m
 by_cases h : m < l.length * 3
 ·
  rw [List.getElem?_append_left (by rw [atCs_len]; exact h), atCs_at h, atCs_at (by rw [List.length_append]; omega), atF_left h]
 ·
  by_cases h2 : m < (l ++ l').length * 3
  ·
   obtain ⟨m', rfl⟩ : ∃ m', m = l.length * 3 + m' := ⟨m - l.length * 3, by omega⟩
   rw [List.length_append] at h2
   rw [List.getElem?_append_right (by rw [atCs_len]; omega), atCs_len, Nat.add_sub_cancel_left, atCs_at (l := l') (by omega), atCs_at (by rw [List.length_append]; omega), atF_right (by omega)]
  ·
   rw [List.getElem?_eq_none (by rw [atCs_len]; omega), List.getElem?_eq_none (by rw [List.length_append, atCs_len, atCs_len]; rw [List.length_append] at h2; omega)]
def ABuf (w : World) (B : Nat) (v : Value) (l : List At) : Prop := w.ownsRow B 165 3 v l.length (atCs l)
structure AppA (w : World) (v : Value) (w' : World) (v' : Value) : Prop where
 os : w'.os = w.os
 tape : w'.tape = w.tape
 output : w'.output = w.output
 size : w.heap.size ≤ w'.heap.size
 block : ∀ k, k < w.heap.size → v.ownBlock ≠ some k → w'.heap[k]? = w.heap[k]?
 place : ∀ g, v'.ownBlock = some g → v.ownBlock = some g ∨ w.heap.size ≤ g
theorem ABuf.lt {w : World} {B : Nat} {v : Value} {l : List At} (h : ABuf w B v l) {g : Nat} (hg : v.ownBlock = some g) : B ≤ g ∧ g < w.heap.size := World.ownsRow.lt h g hg
theorem ABuf.on {w w' : World} {B : Nat} {v : Value} {l : List At} (h : ABuf w B v l) (hb : Below w.heap.size w w') : ABuf w' B v l := by
  refine ⟨h.1, ?_⟩
  rcases h.2 with h0 | ⟨g, cap, cur, e1, hg1, hb1, rest⟩
  · exact .inl h0
  · exact .inr ⟨g, cap, cur, e1, hg1, by rw [hb.block _ (Array.getElem?_eq_some_iff.1 hb1).1]; exact hb1, rest⟩
theorem AppA.below {w w' : World} {B : Nat} {v v' : Value} {l : List At} (h : AppA w v w' v') (hb : ABuf w B v l) (hB : B ≤ w.heap.size) : Below B w w' :=
 ⟨h.os, h.tape, h.output, h.size, fun k hk => h.block k (by omega) (fun e => by have := (hb.lt e).1; omega)⟩
theorem ABuf.own {w : World} {B : Nat} {v : Value} {l : List At} (h : ABuf w B v l) : ∃ a c, v = .slice a l.length c ∧ OwnAts w (fun b => B ≤ b ∧ b < w.heap.size) a l := by
 rcases h.2 with ⟨rfl, h0⟩ | ⟨g, cap, cur, rfl, hg, hb, hn, hcap, hcs, hx⟩
 ·
  exact ⟨none, 0, by rw [h0], .inl h0⟩
 ·
  refine ⟨_, _, rfl, .inr ⟨g, 0, rfl, ⟨hg, (Array.getElem?_eq_some_iff.1 hb).1⟩, fun m hm => ⟨?_, by simp [World.frozen?, hb]⟩⟩⟩
  have h1 := congrArg (·[m]?) hx
  rw [atCs_at hm, List.getElem?_take_of_lt hm, Array.getElem?_toList] at h1
  rw [Nat.zero_add]
  simp [World.cell?, hb, h1]
theorem ABuf.empty (w : World) : ABuf (w.alloc (.cells #[] 165)) w.heap.size (.slice (some ⟨w.heap.size, 0, none⟩) 0 0) [] :=
 ⟨rfl, .inr ⟨w.heap.size, 0, #[], rfl, Nat.le_refl _, heap_newA _ _, Nat.le_refl _, by unfold maxLen; omega, by simp, by simp [atCs]⟩⟩
theorem run_apush {w : World} {B : Nat} {v : Value} {l : List At} (hb : ABuf w B v l) (hB : B ≤ w.heap.size) (l' : List At) (hl : l.length + l'.length ≤ 1000000000) (ad : Addr) (cp : Nat) (ty : TypeId)
  (hv : v ≠ .slice none 0 0) (hnews : ∀ j u, (atCs l')[j]? = some u → w.cell? (ad.add j) = some u) :
  ∃ v' w', (Builtin.append_ #[117, 117] ty #[v, .slice (some ad) l'.length cp]).run Tryz.prog w = .ok v' w' ∧ ABuf w' B v' (l ++ l') ∧ AppA w v w' v' ∧ v' ≠ .slice none 0 0 := by
 obtain ⟨i, hi, hz, hs, hby⟩ := infoAt'
 have h1 : ∀ u ∈ atCs l', u.oneCell' = true := fun u hu => by
  obtain ⟨m, -, rfl⟩ := List.mem_map.1 hu
  unfold atF
  split
  ·
   rfl
  ·
   split <;> rfl
 have hll : (atCs l').length = l'.length * 3 := atCs_len l'
 obtain ⟨v', w', hr, h2, h3, h4⟩ := run_append_own (P := Tryz.prog) w B 117 ty 165 i (.agg zeroAt) 3 32 Tryz.underlying117 hi hz hs hby rfl (by omega) v l.length (atCs l) hb ad l'.length cp (atCs l') hll hnews h1 (by unfold maxLen; omega) (by omega) hB
 refine ⟨v', w', hr, ?_, ⟨h3.os, h3.tape, h3.output, h3.size, fun k hk hn => h3.block k hk (fun e => hn e.symm), ?_⟩, fun e => hv (h4.1 e).1⟩
 ·
  unfold ABuf
  rw [atCs_app, List.length_append]
  exact h2
 ·
  intro p hp
  rcases hb.2 with ⟨rfl, h0'⟩ | ⟨q, cap, cur, rfl, hg, hbq, hn, hcap, hcs, hx⟩
  ·
   exact absurd rfl hv
  ·
   by_cases hroom : l.length + l'.length ≤ cap
   ·
    have hr2 := run_append_room_cells (P := Tryz.prog) w 117 ty 165 i Tryz.underlying117 hi q 0 l.length cap ad l'.length cp (atCs l') (by rw [hs]; exact hll) hnews h1 hroom (fun j hj => by
     have hlt : l.length * i.size + j < cur.size := by
      rw [hs]
      rw [hll] at hj
      omega
     simp [World.cell?, hbq, hlt]) (fun j hj => by simp [World.frozen?, hbq])
    rw [hr] at hr2
    injection hr2 with e1 e2
    subst e1
    exact .inl hp
   ·
    obtain ⟨v2, w2, hr2, h22, -⟩ := run_append_arg_grows (P := Tryz.prog) w 117 ty 165 i (.agg zeroAt) 3 32 Tryz.underlying117 hi hz hs hby rfl (by omega) ⟨q, 0, none⟩ l.length cap (atCs l) hb.1 (World.ownsRow.cells hb (g := q) rfl) ad l'.length cp (atCs l') hll hnews (by omega) (by unfold maxLen; omega) (by omega)
    rw [hr] at hr2
    injection hr2 with e1 e2
    subst e1
    exact .inr (World.ownsRow.lt h22 p hp).1
theorem wpList_apush {ops : Array Oper} {rest : List Oper} {o : Oper} {a : Act} {w : World} {Q : Exit → Act → World → Prop} (hgd : o.guard = none) (s x : Operand)
  (ho : o.op = .call { callee := .builtin .append, args := #[s, x], argTypes := #[117, 117] })
  (B : Nat) (v : Value) (l l' : List At) (ad : Addr) (m cp : Nat) (hs : a.eval s = v) (hx : a.eval x = .slice (some ad) m cp) (hm : l'.length = m)
  (hb : ABuf w B v l) (hB : B ≤ w.heap.size) (hl : l.length + l'.length ≤ 1000000000) (hv : v ≠ .slice none 0 0) (hc : ∀ j u, (atCs l')[j]? = some u → w.cell? (ad.add j) = some u)
  (h : ∀ v' w', ABuf w' B v' (l ++ l') → AppA w v w' v' → v' ≠ .slice none 0 0 → wpList Tryz.prog ops Q rest (a.put o.dst v') w') : wpList Tryz.prog ops Q (o :: rest) a w := by
 subst hm
 refine wpList_plain hgd fun K hK => ?_
 obtain ⟨v', w', hr, h2, h3, h4⟩ := run_apush hb hB l' hl ad cp o.type hv hc
 unfold Oper.wp execOp
 simp only [ho, resolve, invoke, builtin, Sem.run_bind, Sem.run_pure, Result.andThen_ok, List.map_toArray, List.map_cons, List.map_nil, hs, hx, hr]
 exact hK _ _ (h v' w' h2 h3 h4)
theorem news_one (w : World) (x : At) (t : TypeId) : ∀ j u, (atCs [x])[j]? = some u → (w.alloc (.cells #[.int .i64 x.k, .int .i64 x.n, .string ⟨x.t.toArray⟩] t)).cell? ((⟨w.heap.size, 0, none⟩ : Addr).add j) = some u := fun j u hj => by
 have hl := (List.getElem?_eq_some_iff.1 hj).1
 rw [atCs_len] at hl
 simp only [List.length_singleton, Nat.one_mul] at hl
 rw [atCs_at (by simpa using hl)] at hj
 injection hj with hj
 subst hj
 rw [Addr.add_mid, Nat.zero_add]
 have hn := heap_newA w (.cells #[.int .i64 x.k, .int .i64 x.n, .string ⟨x.t.toArray⟩] t)
 rcases (by omega : j = 0 ∨ j = 1 ∨ j = 2) with rfl | rfl | rfl
 ·
  exact cell_at (o := 0) hn rfl
 ·
  exact cell_at (o := 1) hn rfl
 ·
  exact cell_at (o := 2) hn rfl
def atOK (x : At) : Bool :=
 if x.k = 1 then inB (-1000000000) x.n 1000000000 && x.t.isEmpty
 else if x.k = 2 then (x.n == 0) && textB x.t
 else if x.k = 3 then inB 0 x.n 1 && x.t.isEmpty
 else if x.k = 4 then inB 1 x.n 1000000 && x.t.isEmpty
 else false
theorem atOK1 {x : At} (h : x.k = 1) : atOK x = (inB (-1000000000) x.n 1000000000 && x.t.isEmpty) := by unfold atOK; rw [if_pos h]
theorem atOK2 {x : At} (h : x.k = 2) : atOK x = ((x.n == 0) && textB x.t) := by unfold atOK; rw [if_neg (by omega), if_pos h]
theorem atOK3 {x : At} (h : x.k = 3) : atOK x = (inB 0 x.n 1 && x.t.isEmpty) := by unfold atOK; rw [if_neg (by omega), if_neg (by omega), if_pos h]
theorem atOK4 {x : At} (h : x.k = 4) : atOK x = (inB 1 x.n 1000000 && x.t.isEmpty) := by unfold atOK; rw [if_neg (by omega), if_neg (by omega), if_neg (by omega), if_pos h]
theorem atOKN {x : At} (h : x.k < 1 ∨ 4 < x.k) : atOK x = false := by unfold atOK; rw [if_neg (by omega), if_neg (by omega), if_neg (by omega), if_neg (by omega)]
theorem end_b {a x y : Bool} (HP : Hid (a = x)) (h : y = x) : y = a := by rw [HP.out]; exact h
set_option maxHeartbeats 1600000 in
theorem atomOKs (x : At) (w : World) (ht : x.t.length ≤ maxLen) :
  Calls Tryz.prog 131 #[.agg #[.int .i64 x.k, .int .i64 x.n, .string ⟨x.t.toArray⟩]] w fun e w' => e = .returned (.bool (atOK x)) ∧ Below w.heap.size w w' := by
 have HTL : Hid (x.t.length ≤ maxLen) := ht
 clear ht
 rcases (by omega : x.k = 1 ∨ x.k = 2 ∨ x.k = 3 ∨ x.k = 4 ∨ (x.k < 1 ∨ 4 < x.k)) with k | k | k | k | k
 ·
  have HP : Hid (atOK x = _) := atOK1 k
  rw [k]
  go_enter Tryz.func131, Tryz.ntmps131
  go_wp2_with (go_at_call 54; refine (inS _ _ _ _).mono ?_; rintro e w' ⟨rfl, rfl⟩)
  all_goals
   go_ret
   exact ⟨ret_b (end_b HP (by simp [*])), (Below.refl _ _).alloc (Nat.le_refl _) _⟩
 ·
  have HP : Hid (atOK x = _) := atOK2 k
  rw [k]
  go_enter Tryz.func131, Tryz.ntmps131
  go_wp2_with (go_at_call 160; refine (textS _ _ HTL.out).mono ?_; rintro e w' ⟨rfl, rfl⟩)
  all_goals
   go_ret
   exact ⟨ret_b (end_b HP (by simp [*])), (Below.refl _ _).alloc (Nat.le_refl _) _⟩
 ·
  have HP : Hid (atOK x = _) := atOK3 k
  rw [k]
  go_enter Tryz.func131, Tryz.ntmps131
  go_wp2_with (go_at_call 54; refine (inS _ _ _ _).mono ?_; rintro e w' ⟨rfl, rfl⟩)
  all_goals
   go_ret
   exact ⟨ret_b (end_b HP (by simp [*])), (Below.refl _ _).alloc (Nat.le_refl _) _⟩
 ·
  have HP : Hid (atOK x = _) := atOK4 k
  rw [k]
  go_enter Tryz.func131, Tryz.ntmps131
  go_wp2_with (go_at_call 54; refine (inS _ _ _ _).mono ?_; rintro e w' ⟨rfl, rfl⟩)
  all_goals
   go_ret
   exact ⟨ret_b (end_b HP (by simp [*])), (Below.refl _ _).alloc (Nat.le_refl _) _⟩
 ·
  have HP : Hid (atOK x = false) := atOKN k
  have k1 : (x.k == 1) = false := by simp; omega
  have k2 : (x.k == 2) = false := by simp; omega
  have k3 : (x.k == 3) = false := by simp; omega
  have k4 : (x.k == 4) = false := by simp; omega
  go_enter Tryz.func131, Tryz.ntmps131
  go_wp2_with fail
  go_ret
  exact ⟨ret_b (end_b HP rfl), (Below.refl _ _).alloc (Nat.le_refl _) _⟩
def cmpA (a b : At) : Int :=
 if a.k ≠ b.k then (if a.k < b.k then -1 else 1)
 else if a.n ≠ b.n then (if a.n < b.n then -1 else 1)
 else if a.t ≠ b.t then (if Op.bytesLess a.t b.t then -1 else 1)
 else 0
theorem bitS (b : Bool) (w : World) : Calls Tryz.prog 161 #[.bool b] w fun e w' => e = .returned (.int .i64 (if b then 1 else 0)) ∧ w' = w := by
 cases b
 ·
  go_enter Tryz.func161, Tryz.ntmps161
  go_wp2_with fail
  go_ret
  exact ⟨rfl, rfl⟩
 ·
  go_enter Tryz.func161, Tryz.ntmps161
  go_wp2_with fail
  go_ret
  exact ⟨rfl, rfl⟩
theorem cmp_k {a b : At} (h : a.k ≠ b.k) : cmpA a b = 1 - 2 * (if decide (a.k < b.k) then 1 else 0) := by
 unfold cmpA
 rw [if_pos h]
 by_cases hl : a.k < b.k <;> simp [hl]
theorem cmp_n {a b : At} (h : a.k = b.k) (h2 : a.n ≠ b.n) : cmpA a b = 1 - 2 * (if decide (a.n < b.n) then 1 else 0) := by
 unfold cmpA
 rw [if_neg (by simp [h]), if_pos h2]
 by_cases hl : a.n < b.n <;> simp [hl]
theorem cmp_t {a b : At} (h : a.k = b.k) (h2 : a.n = b.n) (h3 : a.t ≠ b.t) : cmpA a b = 1 - 2 * (if Op.bytesLess a.t b.t then 1 else 0) := by
 unfold cmpA
 rw [if_neg (by simp [h]), if_neg (by simp [h2]), if_pos h3]
 by_cases hl : Op.bytesLess a.t b.t = true <;> simp [hl]
theorem cmp_0 {a b : At} (h : a.k = b.k) (h2 : a.n = b.n) (h3 : a.t = b.t) : cmpA a b = 0 := by
 unfold cmpA
 rw [if_neg (by simp [h]), if_neg (by simp [h2]), if_neg (by simp [h3])]
theorem below2 (w : World) (o o' : Obj) : Below w.heap.size w ((w.alloc o).alloc o') := ((Below.refl _ _).alloc (Nat.le_refl _) _).alloc (by simp) _
set_option maxHeartbeats 1600000 in
theorem orderS (a b : At) (w : World) :
  Calls Tryz.prog 132 #[.agg #[.int .i64 a.k, .int .i64 a.n, .string ⟨a.t.toArray⟩], .agg #[.int .i64 b.k, .int .i64 b.n, .string ⟨b.t.toArray⟩]] w fun e w' => e = .returned (.int .i64 (cmpA a b)) ∧ Below w.heap.size w w' := by
 by_cases h : a.k = b.k
 case neg =>
  have HC : Hid (cmpA a b = _) := cmp_k h
  have hk : (a.k != b.k) = true := by simpa using h
  obtain ⟨l, hl⟩ : ∃ l, l = decide (a.k < b.k) := ⟨_, rfl⟩
  rw [← hl] at HC
  clear h
  cases l
  ·
   have hd : decide (a.k < b.k) = false := hl.symm
   clear hl
   go_enter Tryz.func132, Tryz.ntmps132
   go_wp2_with (go_at_call 161; refine (bitS false _).mono ?_; rintro e w' ⟨rfl, rfl⟩)
   go_ret
   exact ⟨by rw [HC.out]; rfl, below2 _ _ _⟩
  ·
   have hd : decide (a.k < b.k) = true := hl.symm
   clear hl
   go_enter Tryz.func132, Tryz.ntmps132
   go_wp2_with (go_at_call 161; refine (bitS true _).mono ?_; rintro e w' ⟨rfl, rfl⟩)
   go_ret
   exact ⟨by rw [HC.out]; rfl, below2 _ _ _⟩
 by_cases h2 : a.n = b.n
 case neg =>
  have HC : Hid (cmpA a b = _) := cmp_n h h2
  have hk : (a.n != b.n) = true := by simpa using h2
  obtain ⟨l, hl⟩ : ∃ l, l = decide (a.n < b.n) := ⟨_, rfl⟩
  rw [← hl] at HC
  clear h2
  rw [h]
  clear h
  cases l
  ·
   have hd : decide (a.n < b.n) = false := hl.symm
   clear hl
   go_enter Tryz.func132, Tryz.ntmps132
   go_wp2_with (go_at_call 161; refine (bitS false _).mono ?_; rintro e w' ⟨rfl, rfl⟩)
   go_ret
   exact ⟨by rw [HC.out]; rfl, below2 _ _ _⟩
  ·
   have hd : decide (a.n < b.n) = true := hl.symm
   clear hl
   go_enter Tryz.func132, Tryz.ntmps132
   go_wp2_with (go_at_call 161; refine (bitS true _).mono ?_; rintro e w' ⟨rfl, rfl⟩)
   go_ret
   exact ⟨by rw [HC.out]; rfl, below2 _ _ _⟩
 by_cases h3 : a.t = b.t
 case neg =>
  have HC : Hid (cmpA a b = _) := cmp_t h h2 h3
  have hk : (a.t == b.t) = false := by simpa using h3
  obtain ⟨l, hl⟩ : ∃ l, l = Op.bytesLess a.t b.t := ⟨_, rfl⟩
  rw [← hl] at HC
  rw [h, h2]
  clear h h2
  cases l
  ·
   have hd : Op.bytesLess a.t b.t = false := hl.symm
   clear hl
   go_enter Tryz.func132, Tryz.ntmps132
   go_wp2_with (go_at_call 161; refine (bitS false _).mono ?_; rintro e w' ⟨rfl, rfl⟩)
   go_ret
   exact ⟨by rw [HC.out]; rfl, below2 _ _ _⟩
  ·
   have hd : Op.bytesLess a.t b.t = true := hl.symm
   clear hl
   go_enter Tryz.func132, Tryz.ntmps132
   go_wp2_with (go_at_call 161; refine (bitS true _).mono ?_; rintro e w' ⟨rfl, rfl⟩)
   go_ret
   exact ⟨by rw [HC.out]; rfl, below2 _ _ _⟩
 have HC : Hid (cmpA a b = 0) := cmp_0 h h2 h3
 rw [h, h2, h3]
 clear h h2 h3
 go_enter Tryz.func132, Tryz.ntmps132
 go_wp2_with fail
 go_ret
 exact ⟨by rw [HC.out]; rfl, below2 _ _ _⟩
def sameAt (x y : At) : Bool := (x.k == y.k) && ((x.n == y.n) && (x.t == y.t))
theorem sameAt_iff {x y : At} : sameAt x y = true ↔ x = y := by
 unfold sameAt
 constructor
 ·
  intro h
  simp at h
  exact At.ext' h.1 h.2.1 h.2.2
 ·
  rintro rfl; simp
theorem differ {x y : At} (h : x ≠ y) : ¬ x.k = y.k ∨ (x.k = y.k ∧ ¬ x.n = y.n) ∨ (x.k = y.k ∧ x.n = y.n ∧ ¬ x.t = y.t) := by
  by_cases h1 : x.k = y.k
  · by_cases h2 : x.n = y.n
    · by_cases h3 : x.t = y.t
      · exact absurd (At.ext' h1 h2 h3) h
      · exact .inr (.inr ⟨h1, h2, h3⟩)
    · exact .inr (.inl ⟨h1, h2⟩)
  · exact .inl h1
def hasB (l : List At) (a : At) : Bool := l.any (fun x => sameAt x a)
theorem hasB_true {l : List At} {a : At} {k : Nat} (hk : k < l.length) (h : l[k] = a) : hasB l a = true := by
 unfold hasB
 rw [List.any_eq_true]
 exact ⟨l[k], List.getElem_mem hk, sameAt_iff.2 h⟩
theorem hasB_false {l : List At} {a : At} (h : ∀ k (hk : k < l.length), l[k] ≠ a) : hasB l a = false := by
 unfold hasB
 rw [List.any_eq_false]
 intro x hx
 obtain ⟨k, hk, rfl⟩ := List.getElem_of_mem hx
 intro e
 exact h k hk (sameAt_iff.1 e)
def BoxA (w W : World) (x : At) : Prop := W.heap[w.heap.size]? = some (.cells #[.int .i64 x.k, .int .i64 x.n, .string ⟨x.t.toArray⟩] 165) ∧ Below w.heap.size w W
theorem BoxA.later {w W W' : World} {x : At} (h : BoxA w W x) (hB : Below W.heap.size W W') : BoxA w W' x := ⟨heap_keptA h.1 hB, h.2.trans (hB.mono h.2.size)⟩
theorem BoxA.drewN {w W : World} {x : At} (h : BoxA w W x) (n : Nat) : BoxA w (W.drewN n) x := h.later (below_drewN (Below.refl _ _) _)
set_option maxHeartbeats 3200000 in
theorem hasS (l : List At) (x : At) (a : Option Addr) (c : Nat) (B : Nat → Prop) (w : World) (hl : l.length ≤ maxLen) (hA : Ats w B a l) :
  Calls Tryz.prog 174 #[.slice a l.length c, .agg #[.int .i64 x.k, .int .i64 x.n, .string ⟨x.t.toArray⟩]] w fun e w' => e = .returned (.bool (hasB l x)) ∧ Below w.heap.size w w' := by
 unfold maxLen at hl
 have HA : Hid (Ats w B a l) := hA
 clear hA
 go_enter Tryz.func174, Tryz.ntmps174
 go_wp2_with fail
 go_loopw [5] (fun i wr => ∃ k : Nat, k ≤ l.length ∧ i = .int .i64 k ∧ Hid ((∀ m (h : m < l.length), m < k → l[m] ≠ x) ∧ BoxA w wr x)) (fun i _ => l.length - (intOf i).toNat)
 case atStart => exact ⟨0, Nat.zero_le _, rfl, fun m _ h => absurd h (by omega), heap_newA _ _, (Below.refl _ _).alloc (Nat.le_refl _) _⟩
 case round =>
  obtain ⟨k, hk, rfl, HW⟩ := hrel
  have x0 := cell_at (o := 0) HW.out.2.1 rfl
  have x1 := cell_at (o := 1) HW.out.2.1 rfl
  have x2 := cell_at (o := 2) HW.out.2.1 rfl
  by_cases hlt : k < l.length
  ·
   obtain ⟨b, off, rfl, -, c0, c1, c2⟩ := (HA.out.later HW.out.2.2).item k hlt
   have hki : (k : Int) < (l.length : Int) := by omega
   by_cases he : l[k] = x
   ·
    have HR : Hid (hasB l x = true) := hasB_true hlt he
    rw [he] at c0 c1 c2
    clear he
    go_wp2_with fail
    go_quiet (fail)
    go_wp2_with fail
    go_ret
    exact ⟨ret_b HR.out.symm, (HW.out.2.drewN _).2⟩
   ·
    have HN : Hid (∀ m (h : m < l.length), m < k + 1 → l[m] ≠ x) := fun m h hm => by
     by_cases e : m = k
     ·
      subst e; exact he
     ·
      exact HW.out.1 m h (by omega)
    rcases differ he with hd | ⟨hd, hd2⟩ | ⟨hd, hd2, hd3⟩
    ·
     clear he
     go_wp2_with fail
     go_quiet (fail)
     go_wp2_with fail
     go_roundw
     case rel => exact ⟨k + 1, by omega, by go_num, HN.out, HW.out.2.drewN _⟩
     case measure => simp [intOf]; omega
    ·
     rw [hd] at c0
     clear he hd
     go_wp2_with fail
     go_quiet (fail)
     go_wp2_with fail
     go_roundw
     case rel => exact ⟨k + 1, by omega, by go_num, HN.out, HW.out.2.drewN _⟩
     case measure => simp [intOf]; omega
    ·
     rw [hd] at c0
     rw [hd2] at c1
     clear he hd hd2
     go_wp2_with fail
     go_quiet (fail)
     go_wp2_with fail
     go_roundw
     case rel => exact ⟨k + 1, by omega, by go_num, HN.out, HW.out.2.drewN _⟩
     case measure => simp [intOf]; omega
  ·
   have HR : Hid (hasB l x = false) := hasB_false (fun m h => HW.out.1 m h (by omega))
   have hki : decide ((k : Int) < (l.length : Int)) = false := by simp; omega
   go_wp2_with fail
   go_ret
   exact ⟨ret_b HR.out.symm, HW.out.2.2⟩
def minusA (a b : List At) : List At := a.filter (fun x => !hasB b x)
theorem minus_snoc (a b : List At) (m : Nat) (h : m < a.length) : minusA (a.take (m + 1)) b = minusA (a.take m) b ++ (if hasB b a[m] then [] else [a[m]]) := by
 unfold minusA
 rw [List.take_succ_eq_append_getElem h, List.filter_append]
 congr 1
 cases e : hasB b a[m] <;> simp [e]
theorem minus_len (a b : List At) (m : Nat) : (minusA (a.take m) b).length ≤ m := Nat.le_trans (List.length_filter_le _ _) (List.length_take_le _ _)
structure AI (w : World) (B : Nat) (W : World) (v : Value) (l : List At) : Prop where
 buf : ABuf W B v l
 bel : Below w.heap.size w W
 le : B ≤ W.heap.size
 old : w.heap.size ≤ B
 no : v ≠ .slice none 0 0
theorem AI.on {w W W' : World} {B : Nat} {v : Value} {l : List At} (h : AI w B W v l) (hb : Below W.heap.size W W') : AI w B W' v l := ⟨h.buf.on hb, h.bel.trans (hb.mono h.bel.size), Nat.le_trans h.le hb.size, h.old, h.no⟩
theorem AI.push {w W W' : World} {B : Nat} {v v' : Value} {l l' : List At} (h : AI w B W v l) (hb : ABuf W' B v' l') (ha : AppA W v W' v') (hn : v' ≠ .slice none 0 0) : AI w B W' v' l' :=
 ⟨hb, h.bel.trans ((ha.below h.buf h.le).mono h.old), Nat.le_trans h.le ha.size, h.old, hn⟩
theorem AI.cast {w W : World} {B : Nat} {v : Value} {l l' : List At} (h : AI w B W v l) (e : l = l') : AI w B W v l' := by rw [← e]; exact h
theorem AI.first (w : World) : AI w w.heap.size (w.alloc (.cells #[] 165)) (.slice (some ⟨w.heap.size, 0, none⟩) 0 0) [] :=
 ⟨ABuf.empty w, (Below.refl _ _).alloc (Nat.le_refl _) _, by simp, Nat.le_refl _, by simp⟩
def AAns (w : World) (l : List At) (e : Ending) (w' : World) : Prop := ∃ a c, e = .returned (.slice a l.length c) ∧ OwnAts w' (fun b => w.heap.size ≤ b ∧ b < w'.heap.size) a l ∧ Below w.heap.size w w'
theorem AI.ans {w W : World} {B : Nat} {v : Value} {l : List At} (h : AI w B W v l) : AAns w l (.returned v) W := by
 obtain ⟨a, c, rfl, ho⟩ := h.buf.own
 exact ⟨a, c, rfl, ho.same (fun _ _ => rfl) (fun b hb => ⟨Nat.le_trans h.old hb.1, hb.2⟩), h.bel⟩
set_option maxRecDepth 100000 in
set_option maxHeartbeats 3200000 in
theorem minusS (a b : List At) (pa pb : Option Addr) (ca cb : Nat) (S : Nat) (w : World) (hla : a.length ≤ 1048576) (hlb : b.length ≤ maxLen) (hw : S ≤ w.heap.size) (hA : Ats w (· < S) pa a) (hB : Ats w (· < S) pb b) :
  Calls Tryz.prog 163 #[.slice pa a.length ca, .slice pb b.length cb] w (AAns w (minusA a b)) := by
 have HA : Hid (Ats w (· < S) pa a) := hA
 have HB : Hid (Ats w (· < S) pb b) := hB
 have H0 : Hid (AI w w.heap.size (w.alloc (.cells #[] 165)) (.slice (some ⟨w.heap.size, 0, none⟩) 0 0) []) := AI.first w
 clear hA hB
 go_enter Tryz.func163, Tryz.ntmps163
 go_wp2_with fail
 go_loopw [5, 6] (fun o i wr => ∃ m : Nat, ∃ vo, m ≤ a.length ∧ i = .int .i64 m ∧ vo = o ∧ Hid (AI w w.heap.size wr vo (minusA (a.take m) b))) (fun _ i _ => a.length - (intOf i).toNat)
 case atStart => exact ⟨0, _, Nat.zero_le _, rfl, rfl, by show AI _ _ _ _ _; exact H0.out.cast (by simp [minusA])⟩
 case round =>
  obtain ⟨m, vo, hm, rfl, rfl, HI⟩ := hrel
  by_cases hlt : m < a.length
  ·
   obtain ⟨b1, o1, rfl, -, c0, c1, c2⟩ := (HA.out.below (HI.out.bel.mono hw)).item m hlt
   have HN : Hid (minusA (a.take (m + 1)) b = minusA (a.take m) b ++ (if hasB b a[m] then [] else [a[m]])) := minus_snoc a b m hlt
   have HM : Hid ((minusA (a.take m) b).length ≤ m) := minus_len a b m
   have hmi : (m : Int) < (a.length : Int) := by omega
   have CE : Hid (∀ W, Below w.heap.size w W → W.cell? ⟨b1, o1 + m * 3, none⟩ = some (.int .i64 a[m].k) ∧ W.cell? ⟨b1, o1 + m * 3 + 1, none⟩ = some (.int .i64 a[m].n) ∧ W.cell? ⟨b1, o1 + m * 3 + 2, none⟩ = some (.string ⟨a[m].t.toArray⟩)) := fun W h => by
    obtain ⟨b', o', e, -, h0, h1, h2⟩ := (HA.out.below (h.mono hw)).item m hlt
    injection e with e
    injection e with e1 e2
    subst e1 e2
    exact ⟨h0, h1, h2⟩
   have HS : Hid (∀ W, Below w.heap.size w W → Calls Tryz.prog 174 #[.slice pb b.length cb, .agg #[.int .i64 a[m].k, .int .i64 a[m].n, .string ⟨a[m].t.toArray⟩]] W fun e w' => e = .returned (.bool (hasB b a[m])) ∧ Below W.heap.size W w') := fun W h => hasS b a[m] pb cb _ W hlb (HB.out.below (h.mono hw))
   generalize minusA (a.take m) b = l at *
   cases hh : hasB b a[m]
   ·
    rw [hh] at HN HS
    clear hh
    generalize a[m] = x at *
    go_wp2_with (first
     | (go_at_call 174; refine (HS.out _ HI.out.bel).mono ?_; rintro e w1 ⟨rfl, hB1⟩; have H1 : Hid (AI w w.heap.size w1 vo l) := HI.out.on hB1; have d0 := (CE.out _ H1.out.bel).1; have d1 := (CE.out _ H1.out.bel).2.1; have d2 := (CE.out _ H1.out.bel).2.2; clear hB1)
     | (at_builtin; refine wpList_apush rfl (.tmp 21) (.tmp 26) rfl w.heap.size vo l [x] ⟨w1.heap.size, 0, none⟩ 1 1 rfl rfl rfl (H1.out.buf.on ((Below.refl _ _).alloc (Nat.le_refl _) _)) (by have := H1.out.le; simp; omega) (by have := HM.out; simp; omega) H1.out.no (news_one _ _ _) ?_; intro v2 w2 hb2 ha2 hn2; have H2 : Hid (AI w w.heap.size w2 v2 (l ++ [x])) := (H1.out.on ((Below.refl _ _).alloc (Nat.le_refl _) _)).push hb2 ha2 hn2; clear hb2 ha2 hn2))
    go_roundw
    case rel => exact ⟨m + 1, v2, by omega, by go_num, rfl, by show AI _ _ _ _ _; rw [HN.out]; exact H2.out⟩
    case measure => simp [intOf]; omega
   ·
    rw [hh] at HN HS
    clear hh
    generalize a[m] = x at *
    go_wp2_with (go_at_call 174; refine (HS.out _ HI.out.bel).mono ?_; rintro e w1 ⟨rfl, hB1⟩; have H1 : Hid (AI w w.heap.size w1 vo l) := HI.out.on hB1; clear hB1)
    go_roundw
    case rel => exact ⟨m + 1, vo, by omega, by go_num, rfl, by show AI _ _ _ _ _; rw [HN.out]; exact H1.out.cast (by simp)⟩
    case measure => simp [intOf]; omega
  ·
   have HE : Hid (minusA (a.take m) b = minusA a b) := by show _ = _; rw [List.take_of_length_le (by omega)]
   have hmi : decide ((m : Int) < (a.length : Int)) = false := by simp; omega
   go_wp2_with fail
   go_ret
   exact (HI.out.cast HE.out).ans
end Go.Proofs.YtlddhbamcndggaaGreatDoor
