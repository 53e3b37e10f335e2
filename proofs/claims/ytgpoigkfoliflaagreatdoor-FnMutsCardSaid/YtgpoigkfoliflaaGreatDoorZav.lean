import Derived.Test.YtgpoigkfoliflaaGreatDoorZau
import Derived.Test.YtgpoigkfoliflaaGreatDoorZak
import Derived.Test.YtgpoigkfoliflaaGreatDoorZal
import Derived.Test.YtgpoigkfoliflaaGreatDoorZan
namespace Go.Proofs.YtgpoigkfoliflaaGreatDoor
open Go.RowKit
set_option linter.unusedSimpArgs false
def minusA (a b : List At) : List At := a.filter (fun x => !hasB b x)
theorem minus_snoc (a b : List At) (m : Nat) (h : m < a.length) : minusA (a.take (m + 1)) b = minusA (a.take m) b ++ (if hasB b a[m] then [] else [a[m]]) := by
  unfold minusA
  rw [List.take_succ_eq_append_getElem h, List.filter_append]
  congr 1
  cases e : hasB b a[m] <;> simp [e]
theorem minus_len (a b : List At) (m : Nat) : (minusA (a.take m) b).length ≤ m := Nat.le_trans (List.length_filter_le _ _) (List.length_take_le _ _)
structure AI (w : World) (B : Nat) (W : World) (v : Value) (l : List At) : Prop where
  buf : ABuf W B v l
  bel : Below w.heap.size w W
  le : B ≤ W.heap.size
  old : w.heap.size ≤ B
  no : v ≠ .slice none 0 0
theorem AI.on {w W W' : World} {B : Nat} {v : Value} {l : List At} (h : AI w B W v l) (hb : Below W.heap.size W W') : AI w B W' v l := ⟨h.buf.on hb, h.bel.trans (hb.mono h.bel.size), Nat.le_trans h.le hb.size, h.old, h.no⟩
theorem AI.push {w W W' : World} {B : Nat} {v v' : Value} {l l' : List At} (h : AI w B W v l) (hb : ABuf W' B v' l') (ha : AppA W v W' v') (hn : v' ≠ .slice none 0 0) : AI w B W' v' l' :=
  ⟨hb, h.bel.trans ((ha.below h.buf h.le).mono h.old), Nat.le_trans h.le ha.size, h.old, hn⟩
theorem AI.cast {w W : World} {B : Nat} {v : Value} {l l' : List At} (h : AI w B W v l) (e : l = l') : AI w B W v l' := by rw [← e]; exact h
theorem AI.first (w : World) : AI w w.heap.size (w.alloc (.cells #[] 55)) (.slice (some ⟨w.heap.size, 0, none⟩) 0 0) [] :=
  ⟨ABuf.empty w, (Below.refl _ _).alloc (Nat.le_refl _) _, by simp, Nat.le_refl _, by simp⟩
def AAns (w : World) (l : List At) (e : Ending) (w' : World) : Prop := ∃ a c, e = .returned (.slice a l.length c) ∧ OwnAts w' (fun b => w.heap.size ≤ b ∧ b < w'.heap.size) a l ∧ Below w.heap.size w w'
theorem AI.ans {w W : World} {B : Nat} {v : Value} {l : List At} (h : AI w B W v l) : AAns w l (.returned v) W := by
  obtain ⟨a, c, rfl, ho⟩ := h.buf.own
  exact ⟨a, c, rfl, ho.same (fun _ _ => rfl) (fun b hb => ⟨Nat.le_trans h.old hb.1, hb.2⟩), h.bel⟩
set_option maxRecDepth 100000 in
set_option maxHeartbeats 3200000 in
theorem minusS (a b : List At) (pa pb : Option Addr) (ca cb : Nat) (S : Nat) (w : World) (hla : a.length ≤ 1048576) (hlb : b.length ≤ maxLen) (hw : S ≤ w.heap.size) (hA : Ats w (· < S) pa a) (hB : Ats w (· < S) pb b) :
    Calls Tryz.prog 72 #[.slice pa a.length ca, .slice pb b.length cb] w (AAns w (minusA a b)) := by
  have HA : Hid (Ats w (· < S) pa a) := hA
  have HB : Hid (Ats w (· < S) pb b) := hB
  have H0 : Hid (AI w w.heap.size (w.alloc (.cells #[] 55)) (.slice (some ⟨w.heap.size, 0, none⟩) 0 0) []) := AI.first w
  clear hA hB
  go_enter Tryz.func72, Tryz.ntmps72
  go_wp2_with fail
  go_loopw [5, 6] (fun o i wr => ∃ m : Nat, ∃ vo, m ≤ a.length ∧ i = .int .i64 m ∧ vo = o ∧ Hid (AI w w.heap.size wr vo (minusA (a.take m) b))) (fun _ i _ => a.length - (intOf i).toNat)
  case atStart => exact ⟨0, _, Nat.zero_le _, rfl, rfl, by show AI _ _ _ _ _; exact H0.out.cast (by simp [minusA])⟩
  case round =>
    obtain ⟨m, vo, hm, rfl, rfl, HI⟩ := hrel
    by_cases hlt : m < a.length
    · obtain ⟨b1, o1, rfl, -, c0, c1, c2⟩ := (HA.out.below (HI.out.bel.mono hw)).item m hlt
      have HN : Hid (minusA (a.take (m + 1)) b = minusA (a.take m) b ++ (if hasB b a[m] then [] else [a[m]])) := minus_snoc a b m hlt
      have HM : Hid ((minusA (a.take m) b).length ≤ m) := minus_len a b m
      have hmi : (m : Int) < (a.length : Int) := by omega
      have CE : Hid (∀ W, Below w.heap.size w W → W.cell? ⟨b1, o1 + m * 3, none⟩ = some (.int .i64 a[m].k) ∧ W.cell? ⟨b1, o1 + m * 3 + 1, none⟩ = some (.int .i64 a[m].n) ∧ W.cell? ⟨b1, o1 + m * 3 + 2, none⟩ = some (.string ⟨a[m].t.toArray⟩)) := fun W h => by
        obtain ⟨b', o', e, -, h0, h1, h2⟩ := (HA.out.below (h.mono hw)).item m hlt
        injection e with e
        injection e with e1 e2
        subst e1 e2
        exact ⟨h0, h1, h2⟩
      have HS : Hid (∀ W, Below w.heap.size w W → Calls Tryz.prog 79 #[.slice pb b.length cb, .agg #[.int .i64 a[m].k, .int .i64 a[m].n, .string ⟨a[m].t.toArray⟩]] W fun e w' => e = .returned (.bool (hasB b a[m])) ∧ Below W.heap.size W w') := fun W h => hasS b a[m] pb cb _ W hlb (HB.out.below (h.mono hw))
      generalize minusA (a.take m) b = l at *
      cases hh : hasB b a[m]
      · rw [hh] at HN HS
        clear hh
        generalize a[m] = x at *
        go_wp2_with (first
          | (go_at_call 79; refine (HS.out _ HI.out.bel).mono ?_; rintro e w1 ⟨rfl, hB1⟩; have H1 : Hid (AI w w.heap.size w1 vo l) := HI.out.on hB1; have d0 := (CE.out _ H1.out.bel).1; have d1 := (CE.out _ H1.out.bel).2.1; have d2 := (CE.out _ H1.out.bel).2.2; clear hB1)
          | (at_builtin; refine wpList_apush rfl (.tmp 21) (.tmp 26) rfl w.heap.size vo l [x] ⟨w1.heap.size, 0, none⟩ 1 1 rfl rfl rfl (H1.out.buf.on ((Below.refl _ _).alloc (Nat.le_refl _) _)) (by have := H1.out.le; simp; omega) (by have := HM.out; simp; omega) H1.out.no (news_one _ _ _) ?_; intro v2 w2 hb2 ha2 hn2; have H2 : Hid (AI w w.heap.size w2 v2 (l ++ [x])) := (H1.out.on ((Below.refl _ _).alloc (Nat.le_refl _) _)).push hb2 ha2 hn2; clear hb2 ha2 hn2))
        go_roundw
        case rel => exact ⟨m + 1, v2, by omega, by go_num, rfl, by show AI _ _ _ _ _; rw [HN.out]; exact H2.out⟩
        case measure => simp [intOf]; omega
      · rw [hh] at HN HS
        clear hh
        generalize a[m] = x at *
        go_wp2_with (go_at_call 79; refine (HS.out _ HI.out.bel).mono ?_; rintro e w1 ⟨rfl, hB1⟩; have H1 : Hid (AI w w.heap.size w1 vo l) := HI.out.on hB1; clear hB1)
        go_roundw
        case rel => exact ⟨m + 1, vo, by omega, by go_num, rfl, by show AI _ _ _ _ _; rw [HN.out]; exact H1.out.cast (by simp)⟩
        case measure => simp [intOf]; omega
    · have HE : Hid (minusA (a.take m) b = minusA a b) := by show _ = _; rw [List.take_of_length_le (by omega)]
      have hmi : decide ((m : Int) < (a.length : Int)) = false := by simp; omega
      go_wp2_with fail
      go_ret
      exact (HI.out.cast HE.out).ans
end Go.Proofs.YtgpoigkfoliflaaGreatDoor
namespace Go.Proofs.YtgpoigkfoliflaaGreatDoor
open Go.RowKit
set_option linter.unusedSimpArgs false
def twoC (a b : List At) : Int :=
  if 4096 < a.length ∨ 4096 < b.length then 2
  else if datumB a = false ∨ datumB b = false then 1
  else if 0 < a.length ∧ 0 < b.length ∧ (a.getD 0 atZ).k ≠ (b.getD 0 atZ).k then 9
  else 0
end Go.Proofs.YtgpoigkfoliflaaGreatDoor
namespace Go.Proofs.YtgpoigkfoliflaaGreatDoor
open Go.RowKit
set_option linter.unusedSimpArgs false
def AAns2 (w : World) (l : List At) (c : Int) (e : Ending) (w' : World) : Prop := ∃ a cp, e = .returned (.tuple #[.slice a l.length cp, .int .i64 c]) ∧ OwnAts w' (fun b => w.heap.size ≤ b ∧ b < w'.heap.size) a l ∧ Below w.heap.size w w'
noncomputable def lessL (a b : List At) : List At := if twoC a b = 0 then minusA a b else []
theorem AAns2.none {w w' : World} {l : List At} {c : Int} {a : Option Addr} {cp : Nat} (hl : l = []) (hB : Below w.heap.size w w') : AAns2 w l c (.returned (.tuple #[.slice a 0 cp, .int .i64 c])) w' := by
  subst hl
  exact ⟨a, cp, rfl, .inl rfl, hB⟩
end Go.Proofs.YtgpoigkfoliflaaGreatDoor
namespace Go.Proofs.YtgpoigkfoliflaaGreatDoor
open Go.RowKit
set_option linter.unusedSimpArgs false
set_option maxRecDepth 100000 in
set_option maxHeartbeats 3200000 in
theorem pairI (a b : List At) (pa pb : Option Addr) (ca cb : Nat) (S : Nat) (w : World) (hla : a.length ≤ maxLen) (hlb : b.length ≤ maxLen) (hxa : ∀ x ∈ a, x.t.length ≤ maxLen) (hxb : ∀ x ∈ b, x.t.length ≤ maxLen) (hw : S ≤ w.heap.size) (hA : Ats w (· < S) pa a) (hB : Ats w (· < S) pb b) :
    Calls Tryz.prog 83 #[.slice pa a.length ca, .slice pb b.length cb] w fun e w' => e = .returned (.int .i64 (twoC a b)) ∧ Below w.heap.size w w' := by
  have HA : Hid (Ats w (· < S) pa a) := hA
  have HB : Hid (Ats w (· < S) pb b) := hB
  have DA : Hid (∀ W, Below w.heap.size w W → Calls Tryz.prog 44 #[.slice pa a.length ca] W fun e w' => e = .returned (.bool (datumB a)) ∧ Below w.heap.size w w') := fun W h => (datumOKi a pa ca S W hla hxa (Nat.le_trans hw h.size) (hA.below (h.mono hw))).mono (fun e w' ⟨he, hb⟩ => ⟨he, h.trans (hb.mono h.size)⟩)
  have DB : Hid (∀ W, Below w.heap.size w W → Calls Tryz.prog 44 #[.slice pb b.length cb] W fun e w' => e = .returned (.bool (datumB b)) ∧ Below w.heap.size w w') := fun W h => (datumOKi b pb cb S W hlb hxb (Nat.le_trans hw h.size) (hB.below (h.mono hw))).mono (fun e w' ⟨he, hb⟩ => ⟨he, h.trans (hb.mono h.size)⟩)
  clear hA hB hxa hxb
  unfold maxLen at hla hlb
  by_cases h1 : 4096 < a.length
  · have HR : Hid (twoC a b = 2) := by show twoC a b = 2; unfold twoC; rw [if_pos (.inl h1)]
    have d1 : decide (4096 < (a.length : Int)) = true := by simp; omega
    go_enter Tryz.func83, Tryz.ntmps83
    go_wp2_with fail
    go_ret
    exact ⟨ret_i HR.out.symm, Below.refl _ _⟩
  have d1 : decide (4096 < (a.length : Int)) = false := by simp; omega
  by_cases h2 : 4096 < b.length
  · have HR : Hid (twoC a b = 2) := by show twoC a b = 2; unfold twoC; rw [if_pos (.inr h2)]
    have d2 : decide (4096 < (b.length : Int)) = true := by simp; omega
    go_enter Tryz.func83, Tryz.ntmps83
    go_wp2_with fail
    go_ret
    exact ⟨ret_i HR.out.symm, Below.refl _ _⟩
  have d2 : decide (4096 < (b.length : Int)) = false := by simp; omega
  have hx := Below.refl w.heap.size w
  cases ha : datumB a
  · have HR : Hid (twoC a b = 1) := by show twoC a b = 1; unfold twoC; rw [if_neg (by omega), if_pos (.inl ha)]
    rw [ha] at DA
    clear ha
    go_enter Tryz.func83, Tryz.ntmps83
    go_wp2_with (go_at_call 44; (with_reducible refine (DA.out _ ?_).mono ?_); exact hx; rintro e w1 ⟨rfl, hx⟩)
    go_ret
    exact ⟨ret_i HR.out.symm, hx⟩
  rw [ha] at DA
  cases hb : datumB b
  · have HR : Hid (twoC a b = 1) := by show twoC a b = 1; unfold twoC; rw [if_neg (by omega), if_pos (.inr hb)]
    rw [hb] at DB
    clear ha hb
    go_enter Tryz.func83, Tryz.ntmps83
    go_wp2_with (first | (go_at_call 44; (with_reducible refine (DA.out _ ?_).mono ?_); exact hx; rintro e w1 ⟨rfl, hx⟩) | (go_at_call 44; (with_reducible refine (DB.out _ ?_).mono ?_); exact hx; rintro e w2 ⟨rfl, hx⟩))
    go_ret
    exact ⟨ret_i HR.out.symm, hx⟩
  rw [hb] at DB
  have HC : Hid (twoC a b = if 0 < a.length ∧ 0 < b.length ∧ (a.getD 0 atZ).k ≠ (b.getD 0 atZ).k then 9 else 0) := by
    show twoC a b = _
    unfold twoC
    rw [if_neg (by omega), if_neg (by rw [ha, hb]; simp)]
  clear ha hb h1 h2
  by_cases ea : a.length = 0
  · have HR : Hid (twoC a b = 0) := by show twoC a b = 0; rw [HC.out, if_neg (by omega)]
    have e1 : decide (0 < (a.length : Int)) = false := decide_eq_false (by omega)
    have e1' : decide (0 < a.length) = false := decide_eq_false (by omega)
    clear ea
    go_enter Tryz.func83, Tryz.ntmps83
    go_wp2_with (first | (go_at_call 44; (with_reducible refine (DA.out _ ?_).mono ?_); exact hx; rintro e w1 ⟨rfl, hx⟩) | (go_at_call 44; (with_reducible refine (DB.out _ ?_).mono ?_); exact hx; rintro e w2 ⟨rfl, hx⟩))
    go_quiet (fail)
    go_wp2_with fail
    go_ret
    exact ⟨ret_i HR.out.symm, below_drewN hx _⟩
  have e1 : decide (0 < (a.length : Int)) = true := decide_eq_true (by omega)
  have e1' : decide (0 < a.length) = true := decide_eq_true (by omega)
  by_cases eb : b.length = 0
  · have HR : Hid (twoC a b = 0) := by show twoC a b = 0; rw [HC.out, if_neg (by omega)]
    have e2 : decide (0 < (b.length : Int)) = false := decide_eq_false (by omega)
    have e2' : decide (0 < b.length) = false := decide_eq_false (by omega)
    clear eb ea
    go_enter Tryz.func83, Tryz.ntmps83
    go_wp2_with (first | (go_at_call 44; (with_reducible refine (DA.out _ ?_).mono ?_); exact hx; rintro e w1 ⟨rfl, hx⟩) | (go_at_call 44; (with_reducible refine (DB.out _ ?_).mono ?_); exact hx; rintro e w2 ⟨rfl, hx⟩))
    go_quiet (fail)
    go_wp2_with fail
    go_ret
    exact ⟨ret_i HR.out.symm, below_drewN hx _⟩
  have e2 : decide (0 < (b.length : Int)) = true := decide_eq_true (by omega)
  have e2' : decide (0 < b.length) = true := decide_eq_true (by omega)
  have la : 0 < a.length := by omega
  have lb : 0 < b.length := by omega
  have ia : (0 : Int) < (a.length : Int) := by omega
  have ib : (0 : Int) < (b.length : Int) := by omega
  obtain ⟨b1, o1, rfl, -, -⟩ := HA.out.item 0 la
  obtain ⟨b2, o2, rfl, -, -⟩ := HB.out.item 0 lb
  have CE : Hid (∀ W, Below w.heap.size w W → W.cell? ⟨b1, o1, none⟩ = some (.int .i64 (a.getD 0 atZ).k) ∧ W.cell? ⟨b2, o2, none⟩ = some (.int .i64 (b.getD 0 atZ).k)) := fun W h => by
    have f := (HA.out.below (h.mono hw)).three 0 la
    have g := (HB.out.below (h.mono hw)).three 0 lb
    rw [Nat.zero_mul, Nat.add_zero] at f g
    rw [at_getD la, at_getD lb]
    exact ⟨f.1, g.1⟩
  generalize (a.getD 0 atZ).k = ka at *
  generalize (b.getD 0 atZ).k = kb at *
  by_cases ek : ka = kb
  · have HR : Hid (twoC a b = 0) := by show twoC a b = 0; rw [HC.out, if_neg (by simp [ek])]
    have hkn : (ka != kb) = false := by simpa using ek
    clear ek
    go_enter Tryz.func83, Tryz.ntmps83
    go_wp2_with (first | (go_at_call 44; (with_reducible refine (DA.out _ ?_).mono ?_); exact hx; rintro e w1 ⟨rfl, hx⟩) | (go_at_call 44; (with_reducible refine (DB.out _ ?_).mono ?_); exact hx; rintro e w2 ⟨rfl, hx⟩; have c1 := (CE.out _ hx).1; have c2 := (CE.out _ hx).2))
    go_quiet (fail)
    go_wp2_with fail
    go_ret
    exact ⟨ret_i HR.out.symm, below_drewN hx _⟩
  · have HR : Hid (twoC a b = 9) := by show twoC a b = 9; rw [HC.out, if_pos ⟨la, lb, ek⟩]
    have hkn : (ka != kb) = true := by simpa using ek
    clear ek
    go_enter Tryz.func83, Tryz.ntmps83
    go_wp2_with (first | (go_at_call 44; (with_reducible refine (DA.out _ ?_).mono ?_); exact hx; rintro e w1 ⟨rfl, hx⟩) | (go_at_call 44; (with_reducible refine (DB.out _ ?_).mono ?_); exact hx; rintro e w2 ⟨rfl, hx⟩; have c1 := (CE.out _ hx).1; have c2 := (CE.out _ hx).2))
    go_quiet (fail)
    go_wp2_with fail
    go_ret
    exact ⟨ret_i HR.out.symm, below_drewN hx _⟩
end Go.Proofs.YtgpoigkfoliflaaGreatDoor
