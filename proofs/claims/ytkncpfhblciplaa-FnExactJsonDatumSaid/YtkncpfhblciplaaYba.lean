import Derived.Test.YtkncpfhblciplaaYaz
namespace Go.Proofs.Ytkncpfhblciplaa
open Go.RowKit
set_option linter.unusedSimpArgs false
theorem place_ex (l : List At) (x : At) : ∃ m, m ≤ l.length ∧ (∀ q (h : q < l.length), q < m → cmpA l[q] x < 0) ∧ ∀ h : m < l.length, ¬ cmpA l[m] x < 0 := by
  refine ⟨l.findIdx (fun y => !decide (cmpA y x < 0)), List.findIdx_le_length, fun q h hq => ?_, fun h => ?_⟩
  · have := List.not_of_lt_findIdx hq
    simpa using this
  · have := List.findIdx_getElem (w := h)
    simpa using this
theorem rise_put {l : List At} (hR : Rise l) (x : At) : Rise (putL l x) := by
  obtain ⟨m, hm, h1, h2⟩ := place_ex l x
  by_cases h : ∃ h : m < l.length, l[m] = x
  · obtain ⟨h, he⟩ := h
    rw [put_has h he]; exact hR
  · obtain ⟨e, hr⟩ := put_ins hR hm h1 (fun h' => ⟨h2 h', fun e => h ⟨h', e⟩⟩)
    rw [e]; exact hr
theorem put_more (l : List At) (x : At) : l.length ≤ (putL l x).length := by
  unfold putL
  split
  · omega
  · have := posTo_le l x l.length
    unfold posA
    simp; omega
theorem join_app (a b c : List At) : joinL a (b ++ c) = joinL (joinL a b) c := by unfold joinL; rw [List.foldl_append]
theorem rise_join {a : List At} (hR : Rise a) : ∀ b : List At, Rise (joinL a b) := by
  intro b
  induction b generalizing a with
  | nil => exact hR
  | cons x b ih => exact ih (rise_put hR x)
theorem join_more (a : List At) : ∀ b : List At, a.length ≤ (joinL a b).length := by
  intro b
  induction b generalizing a with
  | nil => exact Nat.le_refl _
  | cons x b ih => exact Nat.le_trans (put_more a x) (ih (putL a x))
structure Sl where
  l : List At
  a : Option Addr
  c : Nat
def flat (s : List Sl) : List At := s.flatMap (·.l)
theorem flat_snoc (s : List Sl) (m : Nat) (h : m < s.length) : flat (s.take (m + 1)) = flat (s.take m) ++ s[m].l := by
  unfold flat
  rw [List.take_succ_eq_append_getElem h, List.flatMap_append]
  simp
noncomputable def setR (l : List At) : List At := if 8 < (joinL [] l).length then [] else joinL [] l
noncomputable def setC (l : List At) : Int := if 8 < (joinL [] l).length then 6 else 0
structure Lists (w : World) (S p : Nat) (s : List Sl) : Prop where
  cell : ∀ m (h : m < s.length), w.cell? ⟨p, m, none⟩ = some (.slice s[m].a s[m].l.length s[m].c)
  ats : ∀ m (h : m < s.length), Ats w (· < S) s[m].a s[m].l
  len : ∀ m (h : m < s.length), s[m].l.length ≤ 1048576
theorem Lists.cells {w W : World} {S p : Nat} {s : List Sl} (h : Lists w S p s) (hp : p < w.heap.size) (hB : Below w.heap.size w W) (m : Nat) (hm : m < s.length) : W.cell? ⟨p, m, none⟩ = some (.slice s[m].a s[m].l.length s[m].c) := by
  rw [World.cell?_of_block (w := w) (a := ⟨p, m, none⟩) (hB.block p hp)]
  exact h.cell m hm
def SetI (w : World) (W : World) (v : Value) (l : List At) : Prop := AN w w.heap.size W v (joinL [] l) ∧ (joinL [] l).length ≤ 8
theorem set_over {l l' : List At} (h : 8 < (joinL [] l).length) : 8 < (joinL [] (l ++ l')).length := by
  rw [join_app]
  exact Nat.lt_of_lt_of_le h (join_more _ _)
theorem rise_nil : Rise [] := List.Pairwise.nil
end Go.Proofs.Ytkncpfhblciplaa
namespace Go.Proofs.Ytkncpfhblciplaa
open Go.RowKit
set_option linter.unusedSimpArgs false
set_option maxRecDepth 100000 in
set_option maxHeartbeats 6400000 in
theorem setOfI (s : List Sl) (p cp S : Nat) (w : World) (hs : s.length ≤ 1000) (hw : S ≤ w.heap.size) (hp : p < w.heap.size) (hL : Lists w S p s) :
    Calls Try.prog 120 #[.slice (some ⟨p, 0, none⟩) s.length cp] w (AAns2 w (setR (flat s)) (setC (flat s))) := by
  have HL : Hid (Lists w S p s) := hL
  have PU : Hid (∀ (x : At) (l : List At) (v : Value) (W : World), SetI w W v l → Calls Try.prog 127 #[v, .agg #[.int .i64 x.k, .int .i64 x.n, .string ⟨x.t.toArray⟩], .func (.func 90) #[] #[]] W (fun e w' => ∃ a cc, e = .returned (.slice a (joinL [] (l ++ [x])).length cc) ∧ AN w w.heap.size w' (.slice a (joinL [] (l ++ [x])).length cc) (joinL [] (l ++ [x])))) := fun x l v W h =>
    (putI (joinL [] l) x v w.heap.size W (by have := h.2; omega) (rise_join rise_nil l) h.1.buf h.1.le).mono (fun e w' ⟨v', he, hb, ha⟩ => by
      rw [show putL (joinL [] l) x = joinL [] (l ++ [x]) by rw [join_app]; rfl] at hb
      have han := h.1.push hb ha
      obtain ⟨a, cc, e2, -⟩ := hb.own
      subst e2
      exact ⟨a, cc, he, han⟩)
  have H0 : Hid (SetI w w (.slice none 0 0) (flat (s.take 0))) := by
    refine ⟨(AN.first (Below.refl _ _)).cast (by simp [flat, joinL]), by simp [flat, joinL]⟩
  clear hL
  go_enter Try.func120, Try.ntmps120
  go_wp2_with fail
  go_loopw [4, 11] (fun o i wr => ∃ m : Nat, ∃ vo, m ≤ s.length ∧ i = .int .i64 m ∧ vo = o ∧ Hid (SetI w wr vo (flat (s.take m)))) (fun _ i _ => s.length - (intOf i).toNat)
  case atStart => exact ⟨0, _, Nat.zero_le _, rfl, rfl, H0.out⟩
  case round =>
    obtain ⟨m, vo, hm, rfl, rfl, HI⟩ := hrel
    by_cases hlt : m < s.length
    · have hmi : (m : Int) < (s.length : Int) := by omega
      have c0 := HL.out.cells hp HI.out.1.bel m hlt
      have HF : Hid (flat (s.take (m + 1)) = flat (s.take m) ++ s[m].l) := flat_snoc s m hlt
      have HT : Hid (flat s = flat (s.take m) ++ (s[m].l ++ flat (s.drop (m + 1)))) := by
        show flat s = _
        conv => lhs; rw [← List.take_append_drop (m + 1) s]
        rw [← List.append_assoc, ← HF.out]
        unfold flat
        rw [List.flatMap_append]
      have HA : Hid (∀ W, Below w.heap.size w W → Ats W (· < S) s[m].a s[m].l) := fun W h => (HL.out.ats m hlt).below (h.mono hw)
      have hll := HL.out.len m hlt
      have HX : Hid (flat s = flat s) := rfl
      generalize s[m] = sl at *
      obtain ⟨l, a, c⟩ := sl
      dsimp only at *
      generalize flat (s.take m) = f at *
      generalize flat (s.drop (m + 1)) = f' at *
      go_wp2_with fail
      go_loopw [4, 17] (fun o j wr => ∃ q : Nat, ∃ vq, q ≤ l.length ∧ j = .int .i64 q ∧ vq = o ∧ Hid (SetI w wr vq (f ++ l.take q))) (fun _ j _ => l.length - (intOf j).toNat)
      case atStart => exact ⟨0, _, Nat.zero_le _, rfl, rfl, by show SetI _ _ _ _; rw [List.take_zero, List.append_nil]; exact HI.out⟩
      case round =>
        obtain ⟨q, vq, hq, rfl, rfl, HJ⟩ := hrel
        by_cases hqlt : q < l.length
        · have hqi : (q : Int) < (l.length : Int) := by omega
          obtain ⟨b, off, rfl, -, d0, d1, d2⟩ := (HA.out _ HJ.out.1.bel).item q hqlt
          have HN : Hid (f ++ l.take (q + 1) = (f ++ l.take q) ++ [l[q]]) := by
            show f ++ l.take (q + 1) = _
            rw [List.take_succ_eq_append_getElem hqlt, List.append_assoc]
          have HT2 : Hid (flat s = (f ++ l.take (q + 1)) ++ (l.drop (q + 1) ++ f')) := by
            show flat s = _
            rw [HT.out]
            conv => lhs; rw [← List.take_append_drop (q + 1) l]
            simp only [List.append_assoc]
          rw [HN.out] at HT2
          generalize l[q] = x at *
          generalize f ++ l.take q = g at *
          have hA1 : Below wr.heap.size wr (wr.alloc (.cells #[.int .i64 x.k, .int .i64 x.n, .string ⟨x.t.toArray⟩] 31)) := (Below.refl _ _).alloc (Nat.le_refl _) _
          have HJ1 : Hid (SetI w (wr.alloc (.cells #[.int .i64 x.k, .int .i64 x.n, .string ⟨x.t.toArray⟩] 31)) vq g) := ⟨HJ.out.1.on hA1, HJ.out.2⟩
          clear hA1
          by_cases h8 : 8 < (joinL [] (g ++ [x])).length
          · have HC : Hid (setC (flat s) = 6 ∧ setR (flat s) = []) := by
              have h9 : 8 < (joinL [] (flat s)).length := by rw [HT2.out]; exact set_over h8
              exact ⟨by unfold setC; rw [if_pos h9], by unfold setR; rw [if_pos h9]⟩
            have d8 : decide (8 < ((joinL [] (g ++ [x])).length : Int)) = true := decide_eq_true (by omega)
            have PU' := Lib.hid (PU.out x g)
            clear h8 HN HT2 HT
            generalize (joinL [] (g ++ [x])).length = n at *
            go_wp2_with (go_at_call 127; refine (PU'.out _ _ HJ1.out).mono ?_; rintro e w2 ⟨a2, c2, rfl, H2⟩)
            go_ret2
            rw [HC.out.1]
            exact AAns2.none HC.out.2 H2.bel
          · have d8 : decide (8 < ((joinL [] (g ++ [x])).length : Int)) = false := decide_eq_false (by omega)
            have HE : Hid (∀ W v, AN w w.heap.size W v (joinL [] (g ++ [x])) → SetI w W v (f ++ l.take (q + 1))) := fun W v h => by rw [HN.out]; exact ⟨h, by omega⟩
            have PU' := Lib.hid (PU.out x g)
            clear h8 HT2
            generalize (joinL [] (g ++ [x])).length = n at *
            go_wp2_with (go_at_call 127; refine (PU'.out _ _ HJ1.out).mono ?_; rintro e w2 ⟨a2, c2, rfl, H2⟩)
            go_roundw
            case rel => exact ⟨q + 1, _, by omega, by go_num, rfl, HE.out _ _ H2⟩
            case measure => simp [intOf]; omega
        · have hqi : decide ((q : Int) < (l.length : Int)) = false := by simp; omega
          have HE : Hid (SetI w wr vq (flat (s.take (m + 1)))) := by
            show SetI _ _ _ _
            rw [HF.out, ← List.take_of_length_le (show l.length ≤ q by omega)]
            exact HJ.out
          go_wp2_with fail
          go_roundw
          case rel => exact ⟨m + 1, _, by omega, by go_num, rfl, HE.out⟩
          case measure => simp [intOf]; omega
    · have hmi : decide ((m : Int) < (s.length : Int)) = false := by simp; omega
      have HE : Hid (setC (flat s) = 0 ∧ setR (flat s) = joinL [] (flat s) ∧ SetI w wr vo (flat s)) := by
        have h := HI.out
        rw [List.take_of_length_le (by omega)] at h
        have h9 : ¬ 8 < (joinL [] (flat s)).length := by have := h.2; omega
        exact ⟨by unfold setC; rw [if_neg h9], by unfold setR; rw [if_neg h9], h⟩
      go_wp2_with fail
      go_ret2
      rw [HE.out.1, HE.out.2.1]
      exact HE.out.2.2.1.ans2
end Go.Proofs.Ytkncpfhblciplaa
