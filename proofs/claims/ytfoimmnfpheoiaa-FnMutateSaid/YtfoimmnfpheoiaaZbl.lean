import Derived.Test.YtfoimmnfpheoiaaZap
import Derived.Test.YtfoimmnfpheoiaaZao
import Derived.Test.YtfoimmnfpheoiaaZag
import Derived.Test.YtfoimmnfpheoiaaZad
import Derived.Test.YtfoimmnfpheoiaaZaa
import Derived.Test.YtfoimmnfpheoiaaZac
import Derived.Deep.OwnRows
import Derived.Laws.IdiomStrings
import Derived.Deep.MidRow
import Derived.Deep.QuietTactic
import Derived.BigQuiet
import Derived.Deep.RegionWith
namespace Go.Proofs.Ytfoimmnfpheoiaa
open Go.RowKit
set_option linter.unusedSimpArgs false
set_option maxRecDepth 100000 in
set_option maxHeartbeats 3200000 in
theorem datumLessI (a b : List At) (pa pb : Option Addr) (ca cb : Nat) (S : Nat) (w : World) (hla : a.length ≤ 1048576) (hlb : b.length ≤ 1048576) (hxa : ∀ x ∈ a, x.t.length ≤ maxLen) (hxb : ∀ x ∈ b, x.t.length ≤ maxLen) (hw : S ≤ w.heap.size) (hA : Ats w (· < S) pa a) (hB : Ats w (· < S) pb b) :
    Calls Try.prog 7 #[.slice pa a.length ca, .slice pb b.length cb] w (AAns2 w (lessL a b) (twoC a b)) := by
  have TW : Hid (∀ W, Below w.heap.size w W → Calls Try.prog 18 #[.slice pa a.length ca, .slice pb b.length cb] W fun e w' => e = .returned (.int .i64 (twoC a b)) ∧ Below w.heap.size w w') := fun W h =>
    (pairI a b pa pb ca cb S W (by unfold maxLen; omega) (by unfold maxLen; omega) hxa hxb (Nat.le_trans hw h.size) (hA.below (h.mono hw)) (hB.below (h.mono hw))).mono (fun e w' ⟨he, hb⟩ => ⟨he, h.trans (hb.mono h.size)⟩)
  have HA : Hid (Ats w (· < S) pa a) := hA
  have HS : Hid (∀ x W, Below w.heap.size w W → Calls Try.prog 20 #[.slice pb b.length cb, .agg #[.int .i64 x.k, .int .i64 x.n, .string ⟨x.t.toArray⟩]] W fun e w' => e = .returned (.bool (hasB b x)) ∧ Below W.heap.size W w') := fun x W h => containsI b x pb cb _ W (by unfold maxLen; omega) (hB.below (h.mono hw))
  clear hA hB hxa hxb
  have hx := Below.refl w.heap.size w
  by_cases h0 : twoC a b = 0
  · have HL : Hid (lessL a b = minusA a b) := by show lessL a b = _; unfold lessL; rw [if_pos h0]
    rw [h0] at TW ⊢
    rw [HL.out]
    clear h0 HL
    go_enter Try.func7, Try.ntmps7
    go_wp2_with (go_at_call 18; refine (TW.out _ hx).mono ?_; rintro e w1 ⟨rfl, hx⟩)
    go_loopw [7, 18] (fun o i wr => ∃ m : Nat, ∃ vo, m ≤ a.length ∧ i = .int .i64 m ∧ vo = o ∧ Hid (AN w w.heap.size wr vo (minusA (a.take m) b))) (fun _ i _ => a.length - (intOf i).toNat)
    case atStart => exact ⟨0, _, Nat.zero_le _, rfl, rfl, by show AN _ _ _ _ _; exact (AN.first hx).cast (by simp [minusA])⟩
    case round =>
      obtain ⟨m, vo, hm, rfl, rfl, HI⟩ := hrel
      by_cases hlt : m < a.length
      · obtain ⟨b1, o1, rfl, -, c0, c1, c2⟩ := (HA.out.below (HI.out.bel.mono hw)).item m hlt
        have HN : Hid (minusA (a.take (m + 1)) b = minusA (a.take m) b ++ (if hasB b a[m] then [] else [a[m]])) := minus_snoc a b m hlt
        have HM : Hid ((minusA (a.take m) b).length ≤ m) := minus_len a b m
        have hmi : (m : Int) < (a.length : Int) := by omega
        generalize minusA (a.take m) b = l at *
        generalize a[m] = x at *
        have hA1 : Below wr.heap.size wr (wr.alloc (.cells #[.int .i64 x.k, .int .i64 x.n, .string ⟨x.t.toArray⟩] 34)) := (Below.refl _ _).alloc (Nat.le_refl _) _
        have hN1 := heap_newA wr (.cells #[.int .i64 x.k, .int .i64 x.n, .string ⟨x.t.toArray⟩] 34)
        have H0 : Hid (AN w w.heap.size (wr.alloc (.cells #[.int .i64 x.k, .int .i64 x.n, .string ⟨x.t.toArray⟩] 34)) vo l) := HI.out.on hA1
        have HX : Hid ((wr.alloc (.cells #[.int .i64 x.k, .int .i64 x.n, .string ⟨x.t.toArray⟩] 34)).heap[wr.heap.size]? = some (.cells #[.int .i64 x.k, .int .i64 x.n, .string ⟨x.t.toArray⟩] 34)) := hN1
        clear hA1 hN1
        cases hh : hasB b x
        · rw [hh] at HN
          have HS' : Hid (∀ W, Below w.heap.size w W → Calls Try.prog 20 #[.slice pb b.length cb, .agg #[.int .i64 x.k, .int .i64 x.n, .string ⟨x.t.toArray⟩]] W fun e w' => e = .returned (.bool false) ∧ Below W.heap.size W w') := fun W h => by have := HS.out x W h; rw [hh] at this; exact this
          clear hh
          go_wp2_with (first
            | (go_at_call 20; refine (HS'.out _ H0.out.bel).mono ?_; rintro e w2 ⟨rfl, hB1⟩; have H1 : Hid (AN w w.heap.size w2 vo l) := H0.out.on hB1; have hk := heap_keptA HX.out hB1; have d0 := cell_at (o := 0) hk rfl; have d1 := cell_at (o := 1) hk rfl; have d2 := cell_at (o := 2) hk rfl; clear hB1 hk)
            | (at_builtin; refine wpList_apushN rfl (.tmp 26) (.tmp 28) rfl w.heap.size vo l [x] ⟨w2.heap.size, 0, none⟩ 1 1 rfl rfl rfl (H1.out.buf.on ((Below.refl _ _).alloc (Nat.le_refl _) _)) (by have := H1.out.le; simp; omega) (by have := HM.out; simp; omega) (by simp) (news_one _ _ _) ?_; intro v2 w3 hb2 ha2; have H2 : Hid (AN w w.heap.size w3 v2 (l ++ [x])) := (H1.out.on ((Below.refl _ _).alloc (Nat.le_refl _) _)).push hb2 ha2; clear hb2 ha2))
          go_roundw
          case rel => exact ⟨m + 1, v2, by omega, by go_num, rfl, by show AN _ _ _ _ _; rw [HN.out]; exact H2.out⟩
          case measure => simp [intOf]; omega
        · rw [hh] at HN
          have HS' : Hid (∀ W, Below w.heap.size w W → Calls Try.prog 20 #[.slice pb b.length cb, .agg #[.int .i64 x.k, .int .i64 x.n, .string ⟨x.t.toArray⟩]] W fun e w' => e = .returned (.bool true) ∧ Below W.heap.size W w') := fun W h => by have := HS.out x W h; rw [hh] at this; exact this
          clear hh
          go_wp2_with (go_at_call 20; refine (HS'.out _ H0.out.bel).mono ?_; rintro e w2 ⟨rfl, hB1⟩; have H1 : Hid (AN w w.heap.size w2 vo l) := H0.out.on hB1; clear hB1)
          go_roundw
          case rel => exact ⟨m + 1, vo, by omega, by go_num, rfl, by show AN _ _ _ _ _; rw [HN.out]; exact H1.out.cast (by simp)⟩
          case measure => simp [intOf]; omega
      · have HE : Hid (minusA (a.take m) b = minusA a b) := by show _ = _; rw [List.take_of_length_le (by omega)]
        have hmi : decide ((m : Int) < (a.length : Int)) = false := by simp; omega
        go_wp2_with fail
        go_ret2
        exact (HI.out.cast HE.out).ans2
  · have HL : Hid (lessL a b = []) := by show lessL a b = _; unfold lessL; rw [if_neg h0]
    obtain ⟨q, hq⟩ : ∃ q, q = twoC a b := ⟨_, rfl⟩
    rw [← hq] at TW h0 ⊢
    have hq0 : (q != 0) = true := by simpa using h0
    clear hq h0
    go_enter Try.func7, Try.ntmps7
    go_wp2_with (go_at_call 18; refine (TW.out _ hx).mono ?_; rintro e w1 ⟨rfl, hx⟩)
    go_ret2
    exact AAns2.none HL.out hx
end Go.Proofs.Ytfoimmnfpheoiaa
