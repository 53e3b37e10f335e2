import Derived.Test.YtkncpfhblciplaaYbv
import Derived.Test.YtkncpfhblciplaaYbn
namespace Go.Proofs.Ytkncpfhblciplaa
open Go.RowKit
set_option linter.unusedSimpArgs false
theorem jdR_bad {j : J} (h : okB j = false) : jdR j = ([], 1) := by unfold jdR; rw [h]; rfl
theorem jdR_ok {j : J} (h : okB j = true) : jdR j = (match jdO j with | some A => (A, 0) | none => ([], 3)) := by unfold jdR; rw [h]; rfl
theorem ans2 {w w' : World} {A : List At} {n : Int} {R : List At × Int} (h : R = (A, n)) {va : Option Addr} {vc : Nat} (hA : OwnAts w' (fun b => w.heap.size ≤ b ∧ b < w'.heap.size) va A) (hB : Below w.heap.size w w') : AAns2 w R.1 R.2 (.returned (.tuple #[.slice va A.length vc, .int .i64 n])) w' := by
  subst h
  exact ⟨va, vc, rfl, hA, hB⟩
set_option maxRecDepth 100000 in
set_option maxHeartbeats 6400000 in
theorem jsonDatumS (j : J) (cs : List Value) (B : Nat → Prop) (w : World) (hz : j.sz ≤ 1048576) (hr : RJ w B j cs) :
    Calls Try.prog 26 #[.agg cs.toArray] w (AAns2 w (jdR j).1 (jdR j).2) := by
  have HJ : Hid (RJ w B j cs) := hr
  have HZ := Lib.hid hz
  rw [RJ_eq] at hr
  obtain ⟨ka, kc, ia, ic, rfl, -⟩ := hr
  clear hz
  go_enter Try.func26, Try.ntmps26
  go_upto_region 1 with fail
  have hb := heap_new' w (.cells #[.int .i64 j.k, .int .i64 j.n, .string ⟨j.t.toArray⟩, .slice ka j.keys.length kc, .slice ia j.items.length ic] 28) rfl
  have HB0 : Hid (Below w.heap.size w (w.alloc (.cells #[.int .i64 j.k, .int .i64 j.n, .string ⟨j.t.toArray⟩, .slice ka j.keys.length kc, .slice ia j.items.length ic] 28)) ∧ (w.alloc (.cells #[.int .i64 j.k, .int .i64 j.n, .string ⟨j.t.toArray⟩, .slice ka j.keys.length kc, .slice ia j.items.length ic] 28)).heap[w.heap.size]? = some (.cells #[.int .i64 j.k, .int .i64 j.n, .string ⟨j.t.toArray⟩, .slice ka j.keys.length kc, .slice ia j.items.length ic] 28)) := ⟨(Below.refl _ _).alloc (Nat.le_refl _) _, hb⟩
  obtain ⟨W0, hW0⟩ : ∃ W, W = (w.alloc (.cells #[.int .i64 j.k, .int .i64 j.n, .string ⟨j.t.toArray⟩, .slice ka j.keys.length kc, .slice ia j.items.length ic] 28)) := ⟨_, rfl⟩
  rw [← hW0] at HB0 ⊢
  clear hW0 hb
  have x0 := cell_at (o := 0) HB0.out.2 rfl
  have x1 := cell_at (o := 1) HB0.out.2 rfl
  have x2 := cell_at (o := 2) HB0.out.2 rfl
  have x3 := cell_at (o := 3) HB0.out.2 rfl
  have x4 := cell_at (o := 4) HB0.out.2 rfl
  go_wp2_with fail
  refine (jsonOKs j _ B _ (HJ.out.later HB0.out.1)).mono ?_
  rintro e w1 ⟨rfl, hB⟩
  have HB1 : Hid (Below w.heap.size w w1 ∧ w1.heap[w.heap.size]? = some (.cells #[.int .i64 j.k, .int .i64 j.n, .string ⟨j.t.toArray⟩, .slice ka j.keys.length kc, .slice ia j.items.length ic] 28)) := ⟨HB0.out.1.trans (hB.mono HB0.out.1.size), heap_kept2 HB0.out.2 hB⟩
  clear hB HB0 x0 x1 x2 x3 x4
  have x0 := cell_at (o := 0) HB1.out.2 rfl
  have x1 := cell_at (o := 1) HB1.out.2 rfl
  have x2 := cell_at (o := 2) HB1.out.2 rfl
  have x3 := cell_at (o := 3) HB1.out.2 rfl
  have x4 := cell_at (o := 4) HB1.out.2 rfl
  cases hok : okB j
  case false =>
    have HP := Lib.hid (jdR_bad hok)
    clear hok HJ
    go_wp2_with fail
    go_ret2
    exact ans2 HP.out (.inl rfl) (HB1.out.1.alloc HB1.out.1.size _)
  have HK := Lib.hid hok
  have HP := Lib.hid (jdR_ok hok)
  clear hok
  go_wp2_with fail
  refine (toDatumS j _ B _ (ok_rt HK.out) HZ.out (HJ.out.later HB1.out.1)).mono ?_
  rintro e w2 ⟨A, va, vc, b, rfl, ho, hd, hB⟩
  have H2 : Hid (OwnAts w2 (fun c => w.heap.size ≤ c ∧ c < w2.heap.size) va A ∧ Below w.heap.size w w2) := ⟨ho.same (fun _ _ => rfl) (fun c hc => ⟨Nat.le_trans HB1.out.1.size hc.1, hc.2⟩), HB1.out.1.trans (hB.mono HB1.out.1.size)⟩
  have HD := Lib.hid hd
  clear ho hd hB HB1 HJ HK HZ x0 x1 x2 x3 x4
  cases b
  case false =>
    have HF : Hid (jdR j = ([], 3)) := by show _ = _; rw [HP.out, HD.out]; rfl
    go_wp2_with fail
    go_ret2
    exact ans2 HF.out (.inl rfl) (H2.out.2.alloc H2.out.2.size _)
  have HF : Hid (jdR j = (A, 0)) := by show _ = _; rw [HP.out, HD.out]; rfl
  go_wp2_with fail
  go_ret2
  exact ans2 HF.out H2.out.1 H2.out.2
end Go.Proofs.Ytkncpfhblciplaa
namespace Go.Proofs.Ytkncpfhblciplaa
open Go.RowKit
set_option linter.unusedSimpArgs false
theorem wpList_append_isW {P : Program} {ops : Array Oper} {rest : List Oper} {o : Oper} {a : Act} {w : World} {Q : Exit → Act → World → Prop} (hgd : o.guard = none) (s x : Operand) (t : TypeId)
    (ho : o.op = .call { callee := .builtin .append, args := #[s, x], argTypes := #[t, t] }) (v y : Value) (hs : a.eval s = v) (hx : a.eval x = y) (v' : Value) (w' : World) (hr : (Builtin.append_ #[t, t] o.type #[v, y]).run P w = .ok v' w')
    (hk : wpList P ops Q rest (a.put o.dst v') w') : wpList P ops Q (o :: rest) a w := by
  refine wpList_plain hgd fun _ hK => ?_
  unfold Oper.wp execOp
  simp only [ho, resolve, invoke, builtin, Sem.run_bind, Sem.run_pure, Result.andThen_ok, List.map_toArray, List.map_cons, List.map_nil, hs, hx, hr]
  exact hK _ _ hk
noncomputable def dO (L : List J) : Option (List At) := match atomsO L with | some A => if ofC A = 0 then some (ofR A) else none | none => none
theorem set_noA {j : J} (h : isSet j) : paA j = none := by
  have h4 := (pairB_yes h.1).1
  rw [paA4 (by omega) (by omega) (by omega), if_pos h.1]
  unfold wdA
  rw [if_neg (fun e => absurd (h.2.symm.trans e.1) (by decide))]
theorem set_noN {j : J} (h : isSet j) : paN j = none := by
  unfold paN
  rw [if_pos h.1]
  unfold wdN
  rw [if_neg (fun e => absurd (h.2.symm.trans e.1) (by decide))]
theorem jdO_list {j : J} {l : List J} (hl : paL j = some l) : jdO j = dO l ∧ l = (it1 j).items ∧ isSet j := by
  unfold paL at hl
  split at hl
  · rename_i hp
    unfold wdL at hl
    split at hl
    · rename_i hc
      cases hl
      have hs : isSet j := ⟨hp, hc.1⟩
      refine ⟨?_, rfl, hs⟩
      rw [jdO_set hs]
      unfold dO
      cases atomsO (it1 j).items with
      | none => rfl
      | some A => simp [hc.2]
    · cases hl
  · cases hl
theorem one_set {a : At} (h : atOK a = true) : ofC [a] = 0 ∧ ofR [a] = [a] := by
  have e0 : errOf [a] = 0 := by simp [errOf, errFrom, errAt, h]
  have ej : joinL [] [a] = [a] := by
    show putL [] a = [a]
    unfold putL
    by_cases h1 : hasB [] a = true
    · simp [hasB] at h1
    · rw [if_neg h1]; simp
  unfold ofC ofR
  simp [e0, ej]
theorem jdO_alone {j : J} (hj : Rt j) (hl : paL j = none) : jdO j = dO [j] := by
  cases h : paA j with
  | some a =>
    have hns : ¬ isSet j := fun hs => by rw [set_noA hs] at h; cases h
    rw [jdO_one hns, h]
    obtain ⟨e1, e2⟩ := one_set (pa_ok hj h)
    simp [dO, atomsO, h, e1, e2]
  | none =>
    have e : dO [j] = none := by simp [dO, atomsO, h]
    rw [e]
    by_cases hs : isSet j
    · rw [jdO_set hs]
      have hk : ¬ (it1 j).k = 4 := fun hk => by
        unfold paL at hl
        rw [if_pos hs.1] at hl
        unfold wdL at hl
        rw [if_pos ⟨hs.2, hk⟩] at hl
        cases hl
      cases atomsO (it1 j).items with
      | none => rfl
      | some A => simp [hk]
    · rw [jdO_one hs, h]; rfl
structure RC2 (w : World) (base : Nat) (W : World) (av : Value) (A : List At) (nv : Value) (nn : Nat) : Prop where
  a : ABuf W base av A
  n : ∃ xs, W.ownsRow base 9 1 nv nn xs
  bel : Below w.heap.size w W
  le : base ≤ W.heap.size
  old : w.heap.size ≤ base
  ne : ∀ g, av.ownBlock = some g → nv.ownBlock ≠ some g
theorem owns_kept {w w' : World} {base : Nat} {T : TypeId} {n k : Nat} {v : Value} {xs : List Value} (h : w.ownsRow base T n v k xs) (hs : ∀ g, v.ownBlock = some g → w'.heap[g]? = w.heap[g]?) : w'.ownsRow base T n v k xs := by
  refine ⟨h.1, ?_⟩
  rcases h.2 with h0 | ⟨g, cap, cur, e1, hg1, hb1, rest⟩
  · exact .inl h0
  · exact .inr ⟨g, cap, cur, e1, hg1, by rw [hs g (by rw [e1]; rfl)]; exact hb1, rest⟩
theorem owns_lt {w : World} {base : Nat} {T : TypeId} {n k : Nat} {v : Value} {xs : List Value} (h : w.ownsRow base T n v k xs) {g : Nat} (hg : v.ownBlock = some g) : base ≤ g ∧ g < w.heap.size := World.ownsRow.lt h g hg
variable {w W W' : World} {base : Nat} {av nv : Value} {A : List At} {nn : Nat}
theorem RC2.on (h : RC2 w base W av A nv nn) (hb : Below W.heap.size W W') : RC2 w base W' av A nv nn := by
  obtain ⟨xs, hx⟩ := h.n
  exact ⟨h.a.on hb, ⟨xs, owns_kept hx (fun g hg => hb.block g (owns_lt hx hg).2)⟩, h.bel.trans (hb.mono h.bel.size), Nat.le_trans h.le hb.size, h.old, h.ne⟩
theorem RC2.first {w W : World} (h : Below w.heap.size w W) : RC2 w W.heap.size W (.slice none 0 0) [] (.slice none 0 0) 0 :=
  ⟨ABuf.nil _ _, ⟨[], rfl, .inl ⟨rfl, rfl⟩⟩, h, Nat.le_refl _, h.size, fun g hg => by cases hg⟩
theorem RC2.pushA (h : RC2 w base W av A nv nn) {av' : Value} {A' : List At} (hb : ABuf W' base av' A') (ha : AppA W av W' av') : RC2 w base W' av' A' nv nn := by
  obtain ⟨xs, hx⟩ := h.n
  refine ⟨hb, ⟨xs, owns_kept hx (fun g hg => ?_)⟩, h.bel.trans ((ha.below h.a h.le).mono h.old), Nat.le_trans h.le ha.size, h.old, fun g hg => ?_⟩
  · exact ha.block g (owns_lt hx hg).2 (fun e => h.ne g e hg)
  · rcases ha.place g hg with e | e
    · exact h.ne g e
    · intro e2
      have := (owns_lt hx e2).2
      omega
theorem RC2.pushN (h : RC2 w base W av A nv nn) {nv' : Value} {xs' : List Value} {n' : Nat} (hn : W'.ownsRow base 9 1 nv' n' xs') (hg : W.grownBy W' nv.ownBlock) (hgg : ∃ g, nv'.ownBlock = some g ∧ (nv.ownBlock = some g ∨ W.heap.size ≤ g)) : RC2 w base W' av A nv' n' := by
  obtain ⟨xs, hx⟩ := h.n
  have hk : ∀ g, av.ownBlock = some g → W'.heap[g]? = W.heap[g]? := fun g hg2 => hg.block g (h.a.lt hg2).2 (fun e => h.ne g hg2 e.symm)
  have hlow : ∀ g, nv.ownBlock = some g → base ≤ g := fun g hg2 => (owns_lt hx hg2).1
  refine ⟨owns_kept h.a hk, ⟨xs', hn⟩, ?_, Nat.le_trans h.le hg.size, h.old, fun g hg2 e => ?_⟩
  · have hb := h.bel
    have ho := h.old
    exact ⟨hg.os.trans hb.os, hg.tape.trans hb.tape, hg.output.trans hb.output, Nat.le_trans hb.size hg.size, fun b hlt => (hg.block b (Nat.lt_of_lt_of_le hlt hb.size) (fun e => by have := hlow b e.symm; omega)).trans (hb.block b hlt)⟩
  · obtain ⟨g2, e2, e3⟩ := hgg
    rw [e] at e2
    simp only [Option.some.injEq] at e2
    subst e2
    rcases e3 with e3 | e3
    · exact h.ne g hg2 e3
    · have := (h.a.lt hg2).2
      omega
end Go.Proofs.Ytkncpfhblciplaa
