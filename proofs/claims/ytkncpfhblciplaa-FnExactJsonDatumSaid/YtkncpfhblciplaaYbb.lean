import Derived.Test.YtkncpfhblciplaaYau
import Derived.Test.YtkncpfhblciplaaYan
namespace Go.Proofs.Ytkncpfhblciplaa
open Go.RowKit
set_option linter.unusedSimpArgs false
noncomputable def ofC (l : List At) : Int := if 4096 < l.length then 2 else if errOf l = 0 then (if 8 < (joinL [] l).length then 6 else 0) else errOf l
noncomputable def ofR (l : List At) : List At := if ¬ 4096 < l.length ∧ errOf l = 0 ∧ ¬ 8 < (joinL [] l).length then joinL [] l else []
set_option maxRecDepth 100000 in
set_option maxHeartbeats 3200000 in
theorem datumOfS (l : List At) (b off c : Nat) (S : Nat) (w : World) (hl : l.length ≤ 1048576) (hx : ∀ x ∈ l, x.t.length ≤ maxLen) (hw : S ≤ w.heap.size) (hA : Ats w (· < S) (some ⟨b, off, none⟩) l) :
    Calls Try.prog 91 #[.slice (some ⟨b, off, none⟩) l.length c] w (AAns2 w (ofR l) (ofC l)) := by
  have HA : Hid (Ats w (· < S) (some ⟨b, off, none⟩) l) := hA
  have HX : Hid (∀ x ∈ l, x.t.length ≤ maxLen) := hx
  clear hA hx
  by_cases h1 : 4096 < l.length
  · have HC : Hid (ofC l = 2 ∧ ofR l = []) := ⟨by unfold ofC; rw [if_pos h1], by unfold ofR; rw [if_neg (by intro h; exact h.1 h1)]⟩
    rw [HC.out.1]
    have d1 : decide (4096 < (l.length : Int)) = true := decide_eq_true (by omega)
    go_enter Try.func91, Try.ntmps91
    go_wp2_with fail
    go_ret2
    exact AAns2.none HC.out.2 ((Below.refl _ _).alloc (Nat.le_refl _) _)
  have d1 : decide (4096 < (l.length : Int)) = false := decide_eq_false (by omega)
  have HE : Hid (∀ q, q ≠ 0 → errOf l = q → ofC l = q ∧ ofR l = []) := fun q hq he => ⟨by unfold ofC; rw [if_neg h1, he, if_neg hq], by unfold ofR; rw [if_neg (by intro h; exact hq (he ▸ h.2.1))]⟩
  have JN : Hid (∀ W, Below w.heap.size w W → Calls Try.prog 107 #[.slice (some ⟨W.heap.size, 0, none⟩) 0 0, .slice (some ⟨b, off, none⟩) l.length c] (W.alloc (.cells #[] 31)) (fun e w' => ∃ g cp B, e = .returned (.slice (some ⟨g, 0, none⟩) (joinL [] l).length cp) ∧ AI w B w' (.slice (some ⟨g, 0, none⟩) (joinL [] l).length cp) (joinL [] l))) := fun W h => by
    have hb : Below w.heap.size w (W.alloc (.cells #[] 31)) := h.alloc h.size _
    refine (joinS [] l W.heap.size 0 0 c (some ⟨b, off, none⟩) S (W.alloc (.cells #[] 31)) (by simp) (by omega) (Nat.le_trans hw hb.size) (.inl rfl) (HA.out.below (hb.mono hw))).mono (fun e w' ⟨v, B, he, hai⟩ => ?_)
    obtain ⟨g, cp, rfl, -, -⟩ := hai.open
    exact ⟨g, cp, B, he, hai.base hb⟩
  have HF : Hid (errOf l = 0 → (8 < (joinL [] l).length → ofC l = 6 ∧ ofR l = []) ∧ (¬ 8 < (joinL [] l).length → ofC l = 0 ∧ ofR l = joinL [] l)) := fun he => ⟨fun h8 => ⟨by unfold ofC; rw [if_neg h1, if_pos he, if_pos h8], by unfold ofR; rw [if_neg (by intro h; exact h.2.2 h8)]⟩, fun h8 => ⟨by unfold ofC; rw [if_neg h1, if_pos he, if_neg h8], by unfold ofR; rw [if_pos ⟨h1, he, h8⟩]⟩⟩
  clear h1
  go_enter Try.func91, Try.ntmps91
  go_wp2_with fail
  go_loopw [4] (fun i wr => ∃ k : Nat, k ≤ l.length ∧ i = .int .i64 k ∧ Hid (errFrom l (l.length - k) k = errOf l ∧ Below w.heap.size w wr)) (fun i _ => l.length - (intOf i).toNat)
  case atStart => exact ⟨0, Nat.zero_le _, rfl, rfl, Below.refl _ _⟩
  case round =>
    obtain ⟨k, hk, rfl, HW⟩ := hrel
    by_cases hlt : k < l.length
    · have hki : (k : Int) < (l.length : Int) := by omega
      have hln : 0 < l.length := by omega
      have hki0 : (0 : Int) < (l.length : Int) := by omega
      have HTX : Hid (l[k].t.length ≤ maxLen) := HX.out _ (List.getElem_mem hlt)
      have CE : Hid (∀ W, Below w.heap.size w W → W.cell? ⟨b, off + k * 3, none⟩ = some (.int .i64 l[k].k) ∧ W.cell? ⟨b, off + k * 3 + 1, none⟩ = some (.int .i64 l[k].n) ∧ W.cell? ⟨b, off + k * 3 + 2, none⟩ = some (.string ⟨l[k].t.toArray⟩) ∧ W.cell? ⟨b, off, none⟩ = some (.int .i64 l[0].k)) := fun W hb => by
        have f := (HA.out.below (hb.mono hw)).three 0 hln
        rw [Nat.zero_mul, Nat.add_zero] at f
        obtain ⟨h0, h1, h2⟩ := (HA.out.below (hb.mono hw)).three k hlt
        exact ⟨h0, h1, h2, f.1⟩
      have AO : Hid (∀ W, Below w.heap.size w W → Calls Try.prog 39 #[.agg #[.int .i64 l[k].k, .int .i64 l[k].n, .string ⟨l[k].t.toArray⟩]] W fun e w' => e = .returned (.bool (atOK l[k])) ∧ Below w.heap.size w w') := fun W h => (atomOKs l[k] W HTX.out).mono (fun e w' ⟨he, hB⟩ => ⟨he, h.trans (hB.mono h.size)⟩)
      have HSU := errFrom_succ l k hlt
      rw [HW.out.1] at HSU
      have HEA : errAt l k = if atOK l[k] = false then 1 else if l[k].k ≠ l[0].k then 9 else 0 := by unfold errAt; rw [at_getD hlt, at_getD hln]
      have hx := HW.out.2
      have c0 := (CE.out _ hx).1
      have c1 := (CE.out _ hx).2.1
      have c2 := (CE.out _ hx).2.2.1
      cases hok : atOK l[k]
      · rw [hok, if_pos rfl] at HEA
        rw [HEA, if_neg (by omega)] at HSU
        have HC : Hid (ofC l = 1 ∧ ofR l = []) := HE.out 1 (by omega) HSU
        rw [HC.out.1]
        rw [hok] at AO
        clear hok HEA HSU HW CE
        generalize l[k] = x at *
        go_wp2_with (go_at_call 39; refine (AO.out _ hx).mono ?_; rintro e w1 ⟨rfl, hx⟩)
        go_ret2
        exact AAns2.none HC.out.2 (hx.alloc hx.size _)
      · rw [hok, if_neg (by simp)] at HEA
        rw [hok] at AO
        by_cases hkd : l[k].k = l[0].k
        · rw [if_neg (by simp [hkd])] at HEA
          rw [HEA, if_pos rfl] at HSU
          have HN : Hid (errFrom l (l.length - (k + 1)) (k + 1) = errOf l) := HSU.symm
          have hkn : (l[k].k != l[0].k) = false := by simpa using hkd
          clear hok HEA HSU HW hkd
          generalize l[k] = x at *
          generalize l[0] = z at *
          go_wp2_with (go_at_call 39; refine (AO.out _ hx).mono ?_; rintro e w1 ⟨rfl, hx⟩; have f0 := (CE.out _ hx).1; have f1 := (CE.out _ hx).2.2.2)
          go_quiet (fail)
          go_wp2_with fail
          go_roundw
          case rel => exact ⟨k + 1, by omega, by go_num, HN.out, below_drewN hx _⟩
          case measure => simp [intOf]; omega
        · rw [if_pos hkd] at HEA
          rw [HEA, if_neg (by omega)] at HSU
          have HC : Hid (ofC l = 9 ∧ ofR l = []) := HE.out 9 (by omega) HSU
          rw [HC.out.1]
          have hkn : (l[k].k != l[0].k) = true := by simpa using hkd
          clear hok HEA HSU HW hkd
          generalize l[k] = x at *
          generalize l[0] = z at *
          go_wp2_with (go_at_call 39; refine (AO.out _ hx).mono ?_; rintro e w1 ⟨rfl, hx⟩; have f0 := (CE.out _ hx).1; have f1 := (CE.out _ hx).2.2.2)
          go_quiet (fail)
          go_wp2_with fail
          go_ret2
          exact AAns2.none HC.out.2 ((below_drewN hx _).alloc hx.size _)
    · have he : errOf l = 0 := by rw [← HW.out.1, show l.length - k = 0 by omega]; rfl
      have hmi : decide ((k : Int) < (l.length : Int)) = false := by simp; omega
      have hx := HW.out.2
      by_cases h8 : 8 < (joinL [] l).length
      · have HC : Hid (ofC l = 6 ∧ ofR l = []) := (HF.out he).1 h8
        have d8 : decide (8 < ((joinL [] l).length : Int)) = true := decide_eq_true (by omega)
        clear he h8 HF HE HW
        generalize (joinL [] l).length = n at *
        go_wp2_with (go_at_call 107; refine (JN.out _ hx).mono ?_; rintro e w2 ⟨g2, c2, B2, rfl, H2⟩)
        go_ret2
        rw [HC.out.1]
        exact AAns2.none HC.out.2 (H2.bel.alloc H2.bel.size _)
      · have HC : Hid (ofC l = 0 ∧ ofR l = joinL [] l) := (HF.out he).2 h8
        have d8 : decide (8 < ((joinL [] l).length : Int)) = false := decide_eq_false (by omega)
        have EN : Hid (∀ {W : World} {g cp B : Nat}, AI w B W (.slice (some ⟨g, 0, none⟩) (joinL [] l).length cp) (joinL [] l) → AAns2 w (joinL [] l) 0 (.returned (.tuple #[.slice (some ⟨g, 0, none⟩) (joinL [] l).length cp, .int .i64 0])) W) := fun h => h.ans2
        clear he h8 HF HE HW
        generalize hn : (joinL [] l).length = n at *
        clear hn
        go_wp2_with (go_at_call 107; refine (JN.out _ hx).mono ?_; rintro e w2 ⟨g2, c2, B2, rfl, H2⟩)
        go_ret2
        rw [HC.out.1, HC.out.2]
        exact EN.out H2
end Go.Proofs.Ytkncpfhblciplaa
