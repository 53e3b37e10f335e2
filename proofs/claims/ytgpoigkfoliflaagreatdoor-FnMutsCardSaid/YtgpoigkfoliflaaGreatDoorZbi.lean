import Derived.Test.YtgpoigkfoliflaaGreatDoorZbb
import Derived.Test.YtgpoigkfoliflaaGreatDoorZah
import Derived.Test.YtgpoigkfoliflaaGreatDoorZaa
import Derived.Test.YtgpoigkfoliflaaGreatDoorZax
import Derived.Test.YtgpoigkfoliflaaGreatDoorZam
namespace Go.Proofs.YtgpoigkfoliflaaGreatDoor
open Go.RowKit
set_option linter.unusedSimpArgs false
set_option maxRecDepth 100000 in
set_option maxHeartbeats 6400000 in
theorem setOfI (s : List Sl) (p cp S : Nat) (w : World) (hs : s.length ≤ 1000) (hw : S ≤ w.heap.size) (hp : p < w.heap.size) (hL : Lists w S p s) :
    Calls Tryz.prog 84 #[.slice (some ⟨p, 0, none⟩) s.length cp] w (AAns2 w (setR (flat s)) (setC (flat s))) := by
  have HL : Hid (Lists w S p s) := hL
  have PU : Hid (∀ (x : At) (l : List At) (v : Value) (W : World), SetI w W v l → Calls Tryz.prog 86 #[v, .agg #[.int .i64 x.k, .int .i64 x.n, .string ⟨x.t.toArray⟩], .func (.func 64) #[] #[]] W (fun e w' => ∃ a cc, e = .returned (.slice a (joinL [] (l ++ [x])).length cc) ∧ AN w w.heap.size w' (.slice a (joinL [] (l ++ [x])).length cc) (joinL [] (l ++ [x])))) := fun x l v W h =>
    (putI (joinL [] l) x v w.heap.size W (by have := h.2; omega) (rise_join rise_nil l) h.1.buf h.1.le).mono (fun e w' ⟨v', he, hb, ha⟩ => by
      rw [show putL (joinL [] l) x = joinL [] (l ++ [x]) by rw [join_app]; rfl] at hb
      have han := h.1.push hb ha
      obtain ⟨a, cc, e2, -⟩ := hb.own
      subst e2
      exact ⟨a, cc, he, han⟩)
  have H0 : Hid (SetI w w (.slice none 0 0) (flat (s.take 0))) := by
    refine ⟨(AN.first (Below.refl _ _)).cast (by simp [flat, joinL]), by simp [flat, joinL]⟩
  clear hL
  go_enter Tryz.func84, Tryz.ntmps84
  go_wp2_with fail
  go_loopw [4, 11] (fun o i wr => ∃ m : Nat, ∃ vo, m ≤ s.length ∧ i = .int .i64 m ∧ vo = o ∧ Hid (SetI w wr vo (flat (s.take m)))) (fun _ i _ => s.length - (intOf i).toNat)
  case atStart => exact ⟨0, _, Nat.zero_le _, rfl, rfl, H0.out⟩
  case round =>
    obtain ⟨m, vo, hm, rfl, rfl, HI⟩ := hrel
    by_cases hlt : m < s.length
    · have hmi : (m : Int) < (s.length : Int) := by omega
      have c0 := HL.out.cells hp HI.out.1.bel m hlt
      have HF : Hid (flat (s.take (m + 1)) = flat (s.take m) ++ s[m].l) := flat_snoc s m hlt
      have HT : Hid (flat s = flat (s.take m) ++ (s[m].l ++ flat (s.drop (m + 1)))) := by
        show flat s = _
        conv => lhs; rw [← List.take_append_drop (m + 1) s]
        rw [← List.append_assoc, ← HF.out]
        unfold flat
        rw [List.flatMap_append]
      have HA : Hid (∀ W, Below w.heap.size w W → Ats W (· < S) s[m].a s[m].l) := fun W h => (HL.out.ats m hlt).below (h.mono hw)
      have hll := HL.out.len m hlt
      have HX : Hid (flat s = flat s) := rfl
      generalize s[m] = sl at *
      obtain ⟨l, a, c⟩ := sl
      dsimp only at *
      generalize flat (s.take m) = f at *
      generalize flat (s.drop (m + 1)) = f' at *
      go_wp2_with fail
      go_loopw [4, 17] (fun o j wr => ∃ q : Nat, ∃ vq, q ≤ l.length ∧ j = .int .i64 q ∧ vq = o ∧ Hid (SetI w wr vq (f ++ l.take q))) (fun _ j _ => l.length - (intOf j).toNat)
      case atStart => exact ⟨0, _, Nat.zero_le _, rfl, rfl, by show SetI _ _ _ _; rw [List.take_zero, List.append_nil]; exact HI.out⟩
      case round =>
        obtain ⟨q, vq, hq, rfl, rfl, HJ⟩ := hrel
        by_cases hqlt : q < l.length
        · have hqi : (q : Int) < (l.length : Int) := by omega
          obtain ⟨b, off, rfl, -, d0, d1, d2⟩ := (HA.out _ HJ.out.1.bel).item q hqlt
          have HN : Hid (f ++ l.take (q + 1) = (f ++ l.take q) ++ [l[q]]) := by
            show f ++ l.take (q + 1) = _
            rw [List.take_succ_eq_append_getElem hqlt, List.append_assoc]
          have HT2 : Hid (flat s = (f ++ l.take (q + 1)) ++ (l.drop (q + 1) ++ f')) := by
            show flat s = _
            rw [HT.out]
            conv => lhs; rw [← List.take_append_drop (q + 1) l]
            simp only [List.append_assoc]
          rw [HN.out] at HT2
          generalize l[q] = x at *
          generalize f ++ l.take q = g at *
          have hA1 : Below wr.heap.size wr (wr.alloc (.cells #[.int .i64 x.k, .int .i64 x.n, .string ⟨x.t.toArray⟩] 55)) := (Below.refl _ _).alloc (Nat.le_refl _) _
          have HJ1 : Hid (SetI w (wr.alloc (.cells #[.int .i64 x.k, .int .i64 x.n, .string ⟨x.t.toArray⟩] 55)) vq g) := ⟨HJ.out.1.on hA1, HJ.out.2⟩
          clear hA1
          by_cases h8 : 8 < (joinL [] (g ++ [x])).length
          · have HC : Hid (setC (flat s) = 6 ∧ setR (flat s) = []) := by
              have h9 : 8 < (joinL [] (flat s)).length := by rw [HT2.out]; exact set_over h8
              exact ⟨by unfold setC; rw [if_pos h9], by unfold setR; rw [if_pos h9]⟩
            have d8 : decide (8 < ((joinL [] (g ++ [x])).length : Int)) = true := decide_eq_true (by omega)
            have PU' := Lib.hid (PU.out x g)
            clear h8 HN HT2 HT
            generalize (joinL [] (g ++ [x])).length = n at *
            go_wp2_with (go_at_call 86; refine (PU'.out _ _ HJ1.out).mono ?_; rintro e w2 ⟨a2, c2, rfl, H2⟩)
            go_ret2
            rw [HC.out.1]
            exact AAns2.none HC.out.2 H2.bel
          · have d8 : decide (8 < ((joinL [] (g ++ [x])).length : Int)) = false := decide_eq_false (by omega)
            have HE : Hid (∀ W v, AN w w.heap.size W v (joinL [] (g ++ [x])) → SetI w W v (f ++ l.take (q + 1))) := fun W v h => by rw [HN.out]; exact ⟨h, by omega⟩
            have PU' := Lib.hid (PU.out x g)
            clear h8 HT2
            generalize (joinL [] (g ++ [x])).length = n at *
            go_wp2_with (go_at_call 86; refine (PU'.out _ _ HJ1.out).mono ?_; rintro e w2 ⟨a2, c2, rfl, H2⟩)
            go_roundw
            case rel => exact ⟨q + 1, _, by omega, by go_num, rfl, HE.out _ _ H2⟩
            case measure => simp [intOf]; omega
        · have hqi : decide ((q : Int) < (l.length : Int)) = false := by simp; omega
          have HE : Hid (SetI w wr vq (flat (s.take (m + 1)))) := by
            show SetI _ _ _ _
            rw [HF.out, ← List.take_of_length_le (show l.length ≤ q by omega)]
            exact HJ.out
          go_wp2_with fail
          go_roundw
          case rel => exact ⟨m + 1, _, by omega, by go_num, rfl, HE.out⟩
          case measure => simp [intOf]; omega
    · have hmi : decide ((m : Int) < (s.length : Int)) = false := by simp; omega
      have HE : Hid (setC (flat s) = 0 ∧ setR (flat s) = joinL [] (flat s) ∧ SetI w wr vo (flat s)) := by
        have h := HI.out
        rw [List.take_of_length_le (by omega)] at h
        have h9 : ¬ 8 < (joinL [] (flat s)).length := by have := h.2; omega
        exact ⟨by unfold setC; rw [if_neg h9], by unfold setR; rw [if_neg h9], h⟩
      go_wp2_with fail
      go_ret2
      rw [HE.out.1, HE.out.2.1]
      exact HE.out.2.2.1.ans2
end Go.Proofs.YtgpoigkfoliflaaGreatDoor
namespace Go.Proofs.YtgpoigkfoliflaaGreatDoor
open Go.RowKit
set_option linter.unusedSimpArgs false
theorem OwnAts.row {w : World} {B : Nat → Prop} {a : Option Addr} {l : List At} (h : OwnAts w B a l) : ∃ b off, (0 < l.length → a = some ⟨b, off, none⟩ ∧ B b) ∧ Row w b off (l.length * 3) (atF l) := by
  rcases h with h | ⟨b, off, ha, hb, hc⟩
  · exact ⟨0, 0, fun h' => absurd h (by omega), fun m hm => absurd hm (by omega)⟩
  · exact ⟨b, off, fun _ => ⟨ha, hb⟩, hc⟩
end Go.Proofs.YtgpoigkfoliflaaGreatDoor
namespace Go.Proofs.YtgpoigkfoliflaaGreatDoor
open Go.RowKit
set_option linter.unusedSimpArgs false
theorem AAns2.base {w W w' : World} {l : List At} {c : Int} {e : Ending} (h : AAns2 W l c e w') (hb : Below w.heap.size w W) : AAns2 w l c e w' := by
  obtain ⟨a, cp, he, ho, hB⟩ := h
  exact ⟨a, cp, he, ho.same (fun _ _ => rfl) (fun b hb' => ⟨Nat.le_trans hb.size hb'.1, hb'.2⟩), hb.trans (hB.mono hb.size)⟩
theorem two_rise {a b : List At} (h : twoC a b = 0) : Rise a := by
  unfold twoC at h
  split at h
  · omega
  · split at h
    · omega
    · rename_i h2
      have ha : datumB a = true := by cases e : datumB a <;> simp [e] at h2 ⊢
      rw [datumB_eq] at ha
      simp at ha
      exact rise_of ha.2.2
end Go.Proofs.YtgpoigkfoliflaaGreatDoor
namespace Go.Proofs.YtgpoigkfoliflaaGreatDoor
open Go.RowKit
set_option linter.unusedSimpArgs false
set_option maxRecDepth 100000 in
set_option maxHeartbeats 3200000 in
theorem datumJoinO (a b : List At) (pa pb : Option Addr) (ca cb : Nat) (S : Nat) (w : World) (hla : a.length ≤ 1048576) (hlb : b.length ≤ 1048576) (hxa : ∀ x ∈ a, x.t.length ≤ maxLen) (hxb : ∀ x ∈ b, x.t.length ≤ maxLen) (hw : S ≤ w.heap.size) (hA : Ats w (· < S) pa a) (hB : Ats w (· < S) pb b) :
    Calls Tryz.prog 66 #[.slice pa a.length ca, .slice pb b.length cb] w (AAns2 w (joinR a b) (joinC a b)) := by
  have TW : Hid (∀ W, Below w.heap.size w W → Calls Tryz.prog 83 #[.slice pa a.length ca, .slice pb b.length cb] W fun e w' => e = .returned (.int .i64 (twoC a b)) ∧ Below w.heap.size w w') := fun W h =>
    (pairI a b _ _ ca cb S W (by unfold maxLen; omega) (by unfold maxLen; omega) hxa hxb (Nat.le_trans hw h.size) (hA.below (h.mono hw)) (hB.below (h.mono hw))).mono (fun e w' ⟨he, hb⟩ => ⟨he, h.trans (hb.mono h.size)⟩)
  have SE : Hid (∀ W, Below w.heap.size w W → Calls Tryz.prog 84 #[.slice (some ⟨W.heap.size, 0, none⟩) 2 2] (W.alloc (.cells #[.slice pa a.length ca, .slice pb b.length cb] 35)) (fun e w' => ∃ p cp, e = .returned (.tuple #[.slice p (setR (a ++ b)).length cp, .int .i64 (setC (a ++ b))]) ∧ AAns2 w (setR (a ++ b)) (setC (a ++ b)) (.returned (.tuple #[.slice p (setR (a ++ b)).length cp, .int .i64 (setC (a ++ b))])) w')) := fun W h => by
    have hb : Below w.heap.size w (W.alloc (.cells #[.slice pa a.length ca, .slice pb b.length cb] 35)) := h.alloc h.size _
    have hs := h.size
    have hfl : flat [⟨a, pa, ca⟩, ⟨b, pb, cb⟩] = a ++ b := by simp [flat]
    have := setOfI [⟨a, pa, ca⟩, ⟨b, pb, cb⟩] W.heap.size 2 S (W.alloc (.cells #[.slice pa a.length ca, .slice pb b.length cb] 35)) (by simp) (by have := hb.size; omega) (by simp) ⟨fun m hm => by
        rcases (by simp at hm; omega : m = 0 ∨ m = 1) with rfl | rfl
        · exact cell_at (o := 0) (heap_newA _ _) rfl
        · exact cell_at (o := 1) (heap_newA _ _) rfl, fun m hm => by
        rcases (by simp at hm; omega : m = 0 ∨ m = 1) with rfl | rfl
        · exact hA.below (hb.mono hw)
        · exact hB.below (hb.mono hw), fun m hm => by
        rcases (by simp at hm; omega : m = 0 ∨ m = 1) with rfl | rfl
        · exact hla
        · exact hlb⟩
    rw [hfl] at this
    refine this.mono (fun e w' h2 => ?_)
    have h3 := h2.base hb
    obtain ⟨a, cp, rfl, -⟩ := h2
    exact ⟨a, cp, rfl, h3⟩
  clear hA hB hxa hxb
  have hr := Below.refl w.heap.size w
  by_cases h0 : twoC a b = 0
  · have HC : Hid (joinC a b = setC (a ++ b) ∧ joinR a b = setR (a ++ b)) := by
      have e : joinL [] (a ++ b) = joinL a b := by rw [join_app, join_self (two_rise h0)]
      unfold joinC joinR setC setR
      rw [e, if_pos h0]
      refine ⟨rfl, ?_⟩
      by_cases h8 : 8 < (joinL a b).length
      · rw [if_pos h8, if_neg (fun h => h.2 h8)]
      · rw [if_neg h8, if_pos ⟨h0, h8⟩]
    rw [h0] at TW
    clear h0
    generalize setC (a ++ b) = q at *
    go_enter Tryz.func66, Tryz.ntmps66
    go_wp2_with (first | (go_at_call 83; refine (TW.out _ hr).mono ?_; rintro e w1 ⟨rfl, hr⟩) | (go_at_call 84; refine (SE.out _ hr).mono ?_; rintro e w2 ⟨a2, c2, rfl, H2⟩))
    go_ret2
    rw [HC.out.1, HC.out.2]
    exact H2
  · have HC : Hid (joinC a b = twoC a b ∧ joinR a b = []) := ⟨by unfold joinC; rw [if_neg h0], by unfold joinR; rw [if_neg (fun h => h0 h.1)]⟩
    have hn : (twoC a b != 0) = true := by simpa using h0
    clear h0
    generalize twoC a b = q at *
    go_enter Tryz.func66, Tryz.ntmps66
    go_wp2_with (go_at_call 83; refine (TW.out _ hr).mono ?_; rintro e w1 ⟨rfl, hr⟩)
    go_ret2
    rw [HC.out.1]
    exact AAns2.none HC.out.2 hr
end Go.Proofs.YtgpoigkfoliflaaGreatDoor
namespace Go.Proofs.YtgpoigkfoliflaaGreatDoor
open Go.RowKit
set_option linter.unusedSimpArgs false
set_option maxRecDepth 100000 in
set_option maxHeartbeats 3200000 in
theorem datumLessI (a b : List At) (pa pb : Option Addr) (ca cb : Nat) (S : Nat) (w : World) (hla : a.length ≤ 1048576) (hlb : b.length ≤ 1048576) (hxa : ∀ x ∈ a, x.t.length ≤ maxLen) (hxb : ∀ x ∈ b, x.t.length ≤ maxLen) (hw : S ≤ w.heap.size) (hA : Ats w (· < S) pa a) (hB : Ats w (· < S) pb b) :
    Calls Tryz.prog 67 #[.slice pa a.length ca, .slice pb b.length cb] w (AAns2 w (lessL a b) (twoC a b)) := by
  have TW : Hid (∀ W, Below w.heap.size w W → Calls Tryz.prog 83 #[.slice pa a.length ca, .slice pb b.length cb] W fun e w' => e = .returned (.int .i64 (twoC a b)) ∧ Below w.heap.size w w') := fun W h =>
    (pairI a b pa pb ca cb S W (by unfold maxLen; omega) (by unfold maxLen; omega) hxa hxb (Nat.le_trans hw h.size) (hA.below (h.mono hw)) (hB.below (h.mono hw))).mono (fun e w' ⟨he, hb⟩ => ⟨he, h.trans (hb.mono h.size)⟩)
  have HA : Hid (Ats w (· < S) pa a) := hA
  have HS : Hid (∀ x W, Below w.heap.size w W → Calls Tryz.prog 85 #[.slice pb b.length cb, .agg #[.int .i64 x.k, .int .i64 x.n, .string ⟨x.t.toArray⟩]] W fun e w' => e = .returned (.bool (hasB b x)) ∧ Below W.heap.size W w') := fun x W h => containsI b x pb cb _ W (by unfold maxLen; omega) (hB.below (h.mono hw))
  clear hA hB hxa hxb
  have hx := Below.refl w.heap.size w
  by_cases h0 : twoC a b = 0
  · have HL : Hid (lessL a b = minusA a b) := by show lessL a b = _; unfold lessL; rw [if_pos h0]
    rw [h0] at TW ⊢
    rw [HL.out]
    clear h0 HL
    go_enter Tryz.func67, Tryz.ntmps67
    go_wp2_with (go_at_call 83; refine (TW.out _ hx).mono ?_; rintro e w1 ⟨rfl, hx⟩)
    go_loopw [7, 18] (fun o i wr => ∃ m : Nat, ∃ vo, m ≤ a.length ∧ i = .int .i64 m ∧ vo = o ∧ Hid (AN w w.heap.size wr vo (minusA (a.take m) b))) (fun _ i _ => a.length - (intOf i).toNat)
    case atStart => exact ⟨0, _, Nat.zero_le _, rfl, rfl, by show AN _ _ _ _ _; exact (AN.first hx).cast (by simp [minusA])⟩
    case round =>
      obtain ⟨m, vo, hm, rfl, rfl, HI⟩ := hrel
      by_cases hlt : m < a.length
      · obtain ⟨b1, o1, rfl, -, c0, c1, c2⟩ := (HA.out.below (HI.out.bel.mono hw)).item m hlt
        have HN : Hid (minusA (a.take (m + 1)) b = minusA (a.take m) b ++ (if hasB b a[m] then [] else [a[m]])) := minus_snoc a b m hlt
        have HM : Hid ((minusA (a.take m) b).length ≤ m) := minus_len a b m
        have hmi : (m : Int) < (a.length : Int) := by omega
        generalize minusA (a.take m) b = l at *
        generalize a[m] = x at *
        have hA1 : Below wr.heap.size wr (wr.alloc (.cells #[.int .i64 x.k, .int .i64 x.n, .string ⟨x.t.toArray⟩] 55)) := (Below.refl _ _).alloc (Nat.le_refl _) _
        have hN1 := heap_newA wr (.cells #[.int .i64 x.k, .int .i64 x.n, .string ⟨x.t.toArray⟩] 55)
        have H0 : Hid (AN w w.heap.size (wr.alloc (.cells #[.int .i64 x.k, .int .i64 x.n, .string ⟨x.t.toArray⟩] 55)) vo l) := HI.out.on hA1
        have HX : Hid ((wr.alloc (.cells #[.int .i64 x.k, .int .i64 x.n, .string ⟨x.t.toArray⟩] 55)).heap[wr.heap.size]? = some (.cells #[.int .i64 x.k, .int .i64 x.n, .string ⟨x.t.toArray⟩] 55)) := hN1
        clear hA1 hN1
        cases hh : hasB b x
        · rw [hh] at HN
          have HS' : Hid (∀ W, Below w.heap.size w W → Calls Tryz.prog 85 #[.slice pb b.length cb, .agg #[.int .i64 x.k, .int .i64 x.n, .string ⟨x.t.toArray⟩]] W fun e w' => e = .returned (.bool false) ∧ Below W.heap.size W w') := fun W h => by have := HS.out x W h; rw [hh] at this; exact this
          clear hh
          go_wp2_with (first
            | (go_at_call 85; refine (HS'.out _ H0.out.bel).mono ?_; rintro e w2 ⟨rfl, hB1⟩; have H1 : Hid (AN w w.heap.size w2 vo l) := H0.out.on hB1; have hk := heap_keptA HX.out hB1; have d0 := cell_at (o := 0) hk rfl; have d1 := cell_at (o := 1) hk rfl; have d2 := cell_at (o := 2) hk rfl; clear hB1 hk)
            | (at_builtin; refine wpList_apushN rfl (.tmp 26) (.tmp 28) rfl w.heap.size vo l [x] ⟨w2.heap.size, 0, none⟩ 1 1 rfl rfl rfl (H1.out.buf.on ((Below.refl _ _).alloc (Nat.le_refl _) _)) (by have := H1.out.le; simp; omega) (by have := HM.out; simp; omega) (by simp) (news_one _ _ _) ?_; intro v2 w3 hb2 ha2; have H2 : Hid (AN w w.heap.size w3 v2 (l ++ [x])) := (H1.out.on ((Below.refl _ _).alloc (Nat.le_refl _) _)).push hb2 ha2; clear hb2 ha2))
          go_roundw
          case rel => exact ⟨m + 1, v2, by omega, by go_num, rfl, by show AN _ _ _ _ _; rw [HN.out]; exact H2.out⟩
          case measure => simp [intOf]; omega
        · rw [hh] at HN
          have HS' : Hid (∀ W, Below w.heap.size w W → Calls Tryz.prog 85 #[.slice pb b.length cb, .agg #[.int .i64 x.k, .int .i64 x.n, .string ⟨x.t.toArray⟩]] W fun e w' => e = .returned (.bool true) ∧ Below W.heap.size W w') := fun W h => by have := HS.out x W h; rw [hh] at this; exact this
          clear hh
          go_wp2_with (go_at_call 85; refine (HS'.out _ H0.out.bel).mono ?_; rintro e w2 ⟨rfl, hB1⟩; have H1 : Hid (AN w w.heap.size w2 vo l) := H0.out.on hB1; clear hB1)
          go_roundw
          case rel => exact ⟨m + 1, vo, by omega, by go_num, rfl, by show AN _ _ _ _ _; rw [HN.out]; exact H1.out.cast (by simp)⟩
          case measure => simp [intOf]; omega
      · have HE : Hid (minusA (a.take m) b = minusA a b) := by show _ = _; rw [List.take_of_length_le (by omega)]
        have hmi : decide ((m : Int) < (a.length : Int)) = false := by simp; omega
        go_wp2_with fail
        go_ret2
        exact (HI.out.cast HE.out).ans2
  · have HL : Hid (lessL a b = []) := by show lessL a b = _; unfold lessL; rw [if_neg h0]
    obtain ⟨q, hq⟩ : ∃ q, q = twoC a b := ⟨_, rfl⟩
    rw [← hq] at TW h0 ⊢
    have hq0 : (q != 0) = true := by simpa using h0
    clear hq h0
    go_enter Tryz.func67, Tryz.ntmps67
    go_wp2_with (go_at_call 83; refine (TW.out _ hx).mono ?_; rintro e w1 ⟨rfl, hx⟩)
    go_ret2
    exact AAns2.none HL.out hx
end Go.Proofs.YtgpoigkfoliflaaGreatDoor
