import Derived.Test.YthpenliecgpedaaZbs
import Derived.Test.YthpenliecgpedaaZbm
namespace Go.Proofs.Ythpenliecgpedaa
open Go.RowKit Go.MuLone
set_option linter.unusedSimpArgs false
theorem stealFn (x n : Int) (pb : Nat) (w : World) (hp : w.cell? ⟨pb, 0, none⟩ = some (.int .i64 n)) :
    Calls Try.prog 57 #[.int .i64 x, .pointer (some ⟨pb, 0, none⟩)] w fun e w' => e = .returned (.bool (x == n)) ∧ w' = w := by
  go_enter Try.func57, Try.ntmps57
  go_wp2_with fail
  go_ret
  exact ⟨rfl, rfl⟩
theorem indexFnQ (q : List Int) (g c pb : Nat) (n : Int) (w : World) (hl : q.length ≤ 1000) (hc : ∀ j (h : j < q.length), w.cell? ⟨g, j, none⟩ = some (.int .i64 q[j])) (hp : w.cell? ⟨pb, 0, none⟩ = some (.int .i64 n)) :
    Calls Try.prog 76 #[.slice (some ⟨g, 0, none⟩) q.length c, .func (.func 57) #[] #[.pointer (some ⟨pb, 0, none⟩)]] w fun e w' => e = .returned (.int .i64 (fqI q n)) ∧ w' = w := by
  have HC := Lib.hid hc
  have HP := Lib.hid hp
  clear hc hp
  go_enter Try.func76, Try.ntmps76
  go_wp2_with fail
  go_loopw [8] (fun t wr => ∃ k : Nat, k ≤ q.length ∧ t = .int .i64 k ∧ Hid ((∀ m (h : m < q.length), m < k → q[m] ≠ n) ∧ wr = w)) (fun t _ => q.length - (intOf t).toNat)
  case atStart => exact ⟨0, Nat.zero_le _, rfl, fun m _ h => absurd h (by omega), rfl⟩
  case round =>
    obtain ⟨k, hk, rfl, HW⟩ := hrel
    obtain rfl := HW.out.2
    by_cases hlt : k < q.length
    case neg =>
      have hkd : decide ((k : Int) < (q.length : Int)) = false := by simp; omega
      have HR : Hid (fqI q n = -1) := by
        have h1 : fq q n = q.length := fq_none (fun m h => HW.out.1 m h (by omega))
        show _ = _
        unfold fqI; rw [if_neg (by omega)]
      go_wp2_with fail
      go_ret
      exact ⟨by rw [HR.out]; rfl, rfl⟩
    have hki : (k : Int) < (q.length : Int) := by omega
    have c0 := HC.out k hlt
    have CC := Lib.hid (stealFn q[k] n pb wr HP.out)
    by_cases he : q[k] = n
    · have hb : (q[k] == n) = true := by simpa using he
      have HR : Hid (fqI q n = (k : Int)) := by
        have h1 : fq q n = k := fq_eq hlt he (fun m h1 h2 => HW.out.1 m h1 h2)
        show _ = _
        unfold fqI; rw [if_pos (by omega), h1]
      rw [hb] at CC
      clear he hb
      generalize q[k] = y at *
      go_wp2_with (go_at_call 57; refine CC.out.mono ?_; rintro e w1 ⟨rfl, rfl⟩)
      go_ret
      exact ⟨by rw [HR.out]; rfl, rfl⟩
    · have hb : (q[k] == n) = false := by simpa using he
      rw [hb] at CC
      have HN : Hid (∀ m (h : m < q.length), m < k + 1 → q[m] ≠ n) := fun m h hm => by
        by_cases e : m = k
        · subst e; exact he
        · exact HW.out.1 m h (by omega)
      clear he hb
      generalize q[k] = y at *
      go_wp2_with (go_at_call 57; refine CC.out.mono ?_; rintro e w1 ⟨rfl, rfl⟩)
      go_roundw
      case rel => exact ⟨k + 1, by omega, by go_num, HN.out, trivial⟩
      case measure => simp [intOf]; omega
def shN (f : Nat → Value) (k m : Nat) : Nat → Value := fun p => if k ≤ p ∧ p < m then f (p + 1) else f p
set_option maxRecDepth 100000 in
set_option maxHeartbeats 3200000 in
theorem deleteFnQ (q : List Int) (g cap pb k : Nat) (n : Int) (f : Nat → Value) (w : World) (hl : q.length ≤ 1000) (hlc : q.length ≤ cap) (hcm : cap ≤ maxLen) (hk : k < q.length) (hke : q[k] = n) (hu : ∀ m (h : m < q.length), m ≠ k → q[m] ≠ n) (hr : w.rowIs g 3 cap f) (hf : ∀ j (h : j < q.length), f j = .int .i64 q[j]) (hp : w.cell? ⟨pb, 0, none⟩ = some (.int .i64 n)) (hpg : pb ≠ g) :
    Calls Try.prog 56 #[.slice (some ⟨g, 0, none⟩) q.length cap, .func (.func 57) #[] #[.pointer (some ⟨pb, 0, none⟩)]] w fun e w' => e = .returned (.slice (some ⟨g, 0, none⟩) (q.length - 1) cap) ∧ Frm (· = g) w w' ∧ ∃ f', w'.rowIs g 3 cap f' ∧ ∀ m, m < q.length - 1 → f' m = shN f k (q.length - 1) m := by
  have hfq : fqI q n = (k : Int) := by
    have h1 : fq q n = k := fq_eq hk hke (fun m h1 h2 => hu m h1 (by omega))
    unfold fqI; rw [if_pos (by omega), h1]
  have IX := Lib.hid (indexFnQ q g cap pb n w hl (fun j h => by rw [hr.cell (i := j) (by omega), hf j h]) hp)
  rw [hfq] at IX
  have HR := Lib.hid hr
  have HG := Lib.hid hf
  have HU := Lib.hid hu
  have HPP := Lib.hid (And.intro hp hpg)
  have hpl := World.block_lt_of_cell? w ⟨pb, 0, none⟩ hp
  have HPL := Lib.hid hpl
  have HCM := Lib.hid hcm
  unfold maxLen at hcm
  clear hfq hr hf hu hp hpg hke hpl
  go_enter Try.func56, Try.ntmps56
  go_wp2_with fail
  refine IX.out.mono ?_
  rintro e w1 ⟨rfl, hB⟩
  have H1 : Hid (Frm (· = g) w w1 ∧ w1.rowIs g 3 cap (shN f k k)) := by
    rw [hB]
    exact ⟨Frm.refl _ _, HR.out.congr (fun m _ => by unfold shN; rw [if_neg (by omega)])⟩
  have hkn : ((k : Int) == -1) = false := by simp <;> omega
  have hkn2 : ¬ ((k : Int) = -1) := by omega
  clear hB
  go_wp2_with fail
  go_loopw [5, 6] (fun s t wr => ∃ m : Nat, k ≤ m ∧ m + 1 ≤ q.length ∧ s = .int .i64 m ∧ t = .int .i64 ((m + 1 : Nat) : Int) ∧ Hid (Frm (· = g) w wr ∧ wr.rowIs g 3 cap (shN f k m))) (fun _ t _ => q.length - (intOf t).toNat)
  case atStart => exact ⟨k, Nat.le_refl _, by omega, rfl, by go_num, H1.out⟩
  case round =>
    obtain ⟨m, hkm, hml, rfl, rfl, HW⟩ := hrel
    by_cases hlt : m + 1 < q.length
    case neg =>
      have hkd : decide (((m + 1 : Nat) : Int) < (q.length : Int)) = false := by simp; omega
      have hm1 : q.length = m + 1 := by omega
      have hr := HW.out.2
      obtain ⟨w2, hrun, hfr, hrow⟩ := run_clearIn wr g m (cap - m) _ (hr.cell (i := m) (by omega)) (hr.frozen _)
      obtain ⟨g', hr2, hg2⟩ := hrow hr
      have HE : Hid (Frm (· = g) w w2 ∧ w2.rowIs g 3 cap g' ∧ ∀ p, p < m → g' p = shN f k m p) := ⟨HW.out.1.trans hfr, hr2, hg2⟩
      have h1 : q.length - m = 1 := by omega
      have h2 : (m : Int) ≤ (q.length : Int) := by omega
      have h3 : (m : Int) ≤ (cap : Int) := by omega
      have h4 : ¬ cap = m := by omega
      have h5 : (q.length : Int) ≤ (cap : Int) := by omega
      have HM := Lib.hid hm1
      clear hr hfr hrow hr2 hg2 hm1
      go_wp2_with fail
      go_ret
      have hm1 := HM.out
      have hl1 : q.length - 1 = m := by omega
      refine ⟨?_, HE.out.1, g', HE.out.2.1, fun p hp => ?_⟩
      · rw [hl1]; rfl
      · rw [hl1] at hp ⊢
        exact HE.out.2.2 p hp
    have hki : ((m + 1 : Nat) : Int) < (q.length : Int) := by omega
    have hr := HW.out.2
    have c0 := hr.cell (i := m + 1) (by omega)
    have hsv : shN f k m (m + 1) = .int .i64 q[m + 1] := by unfold shN; rw [if_neg (by omega)]; exact HG.out _ hlt
    rw [hsv] at c0
    have HNE := HU.out (m + 1) hlt (by omega)
    have hne : (q[m + 1] == n) = false := by simpa using HNE
    have hp2 : wr.cell? ⟨pb, 0, none⟩ = some (.int .i64 n) := by
      rw [World.cell?_of_block (w := w) (a := ⟨pb, 0, none⟩) (HW.out.1.block pb HPL.out HPP.out.2)]
      exact HPP.out.1
    have CC := Lib.hid (stealFn q[m + 1] n pb wr hp2)
    rw [hne] at CC
    have k0 := hr.cell (i := m) (by omega)
    have z0 := hr.frozen m
    have HN : Hid (Frm (· = g) w (wr.setCell ⟨g, m, none⟩ (.int .i64 q[m + 1])) ∧ (wr.setCell ⟨g, m, none⟩ (.int .i64 q[m + 1])).rowIs g 3 cap (shN f k (m + 1))) := by
      refine ⟨HW.out.1.trans (frm_set _ _ _ _), (hr.set m _).congr (fun p _ => ?_)⟩
      by_cases e0 : p = m
      · subst e0
        have h := hsv
        unfold shN at h ⊢
        rw [if_neg (by omega)] at h
        rw [if_pos rfl, if_pos (by omega), ← h]
      · unfold shN
        rw [if_neg e0]
        by_cases e1 : k ≤ p ∧ p < m
        · rw [if_pos e1, if_pos (by omega)]
        · rw [if_neg e1, if_neg (by omega)]
    have hmq : (m : Int) < (q.length : Int) := by omega
    clear hr HNE hne hp2 hsv
    generalize q[m + 1] = y at *
    go_wp2_with (go_at_call 57; refine CC.out.mono ?_; rintro e w1 ⟨rfl, rfl⟩)
    go_roundw
    case rel => exact ⟨m + 1, by omega, by omega, by go_num, by go_num, HN.out⟩
    case measure => simp [intOf]; omega
theorem delFnQ {base : Nat} {W : World} {q : List Int} {g cap : Nat} (n : Int) (pb : Nat) (h : QOw base W q (.slice (some ⟨g, 0, none⟩) q.length cap)) (hl : q.length ≤ 1000) (hq : ∀ i (hi : i < q.length) j (hj : j < q.length), q[i] = q[j] → i = j) (hp : W.cell? ⟨pb, 0, none⟩ = some (.int .i64 n)) (hpg : pb ≠ g) :
    Calls Try.prog 56 #[.slice (some ⟨g, 0, none⟩) q.length cap, .func (.func 57) #[] #[.pointer (some ⟨pb, 0, none⟩)]] W fun e w' => e = .returned (.slice (some ⟨g, 0, none⟩) (q.filter (fun x => x != n)).length cap) ∧ Frm (· = g) W w' ∧ QOw base w' (q.filter (fun x => x != n)) (.slice (some ⟨g, 0, none⟩) (q.filter (fun x => x != n)).length cap) := by
  rcases h.2 with ⟨e0, -⟩ | ⟨g2, cap2, cur, e, hg, hh, r1, r2, r3, r4⟩
  · cases e0
  simp only [Value.slice.injEq, Option.some.injEq, Addr.mk.injEq, and_true, true_and] at e
  obtain ⟨rfl, rfl⟩ := e
  have hcell : ∀ j (hj : j < q.length), cur[j]? = some (.int .i64 q[j]) := fun j hj => by
    have h1 : (ints q)[j]? = some (.int .i64 q[j]) := by unfold ints; rw [List.getElem?_map, List.getElem?_eq_getElem hj]; rfl
    rw [← r4, List.getElem?_take_of_lt (by omega), Array.getElem?_toList] at h1
    exact h1
  by_cases hf : fq q n < q.length
  case neg =>
    have hfil : q.filter (fun x => x != n) = q := List.filter_eq_self.2 (fun x hx => by
      obtain ⟨j, hj, rfl⟩ := List.mem_iff_getElem.1 hx
      have h2 := fq_lt (q := q) (n := n) (m := j) (by have := fq_le q n; omega)
      simpa using h2)
    have hfi : fqI q n = -1 := by unfold fqI; rw [if_neg hf]
    have IX := Lib.hid (indexFnQ q g cap pb n W hl (fun j hj => by simp [World.cell?, hh, hcell j hj]) hp)
    rw [hfi] at IX
    rw [hfil]
    have HH := Lib.hid h
    clear h hh r1 r2 r3 r4 hcell hp hf hfil hfi hq
    go_enter Try.func56, Try.ntmps56
    go_wp2_with fail
    refine IX.out.mono ?_
    rintro e w1 ⟨rfl, hw1⟩
    rw [hw1]
    clear hw1
    go_wp2_with fail
    go_ret
    exact ⟨rfl, Frm.refl _ _, HH.out⟩
  case pos =>
    have hke := fq_at hf
    have hu : ∀ m (hm : m < q.length), m ≠ fq q n → q[m] ≠ n := fun m hm hne e => hne (hq m hm _ hf (by rw [e, hke]))
    have hrow : W.rowIs g 3 cap (fun j => cur.getD j (.int .i64 0)) := ⟨cur, hh, by omega, fun j hj => by
      dsimp only
      rw [Array.getD_eq_getD_getElem?, Array.getElem?_eq_getElem (by omega)]; rfl⟩
    have hfil : q.filter (fun x => x != n) = q.take (fq q n) ++ q.drop (fq q n + 1) := by
      have h1 : q = q.take (fq q n) ++ ([q[fq q n]] ++ q.drop (fq q n + 1)) := by
        rw [List.singleton_append, List.getElem_cons_drop, List.take_append_drop]
      have hA : (q.take (fq q n)).filter (fun x => x != n) = q.take (fq q n) := List.filter_eq_self.2 (fun x hx => by
        obtain ⟨j, hj, rfl⟩ := List.mem_iff_getElem.1 hx
        rw [List.length_take] at hj
        rw [List.getElem_take]
        have h2 := hu j (by omega) (by omega)
        simpa using h2)
      have hB : (q.drop (fq q n + 1)).filter (fun x => x != n) = q.drop (fq q n + 1) := List.filter_eq_self.2 (fun x hx => by
        obtain ⟨j, hj, rfl⟩ := List.mem_iff_getElem.1 hx
        rw [List.length_drop] at hj
        rw [List.getElem_drop]
        have h2 := hu (fq q n + 1 + j) (by omega) (by omega)
        simpa using h2)
      conv => lhs; rw [h1]
      rw [List.filter_append, List.filter_append, hA, hB, hke]
      simp
    have hfl : (q.filter (fun x => x != n)).length = q.length - 1 := by rw [hfil, List.length_append, List.length_take, List.length_drop]; omega
    refine (deleteFnQ q g cap pb (fq q n) n _ W hl r1 r2 hf hke hu hrow (fun j hj => by rw [Array.getD_eq_getD_getElem?, hcell j hj]; rfl) hp hpg).mono ?_
    rintro e w' ⟨rfl, hF, f', ⟨c', hb, hn, hc⟩, hf'⟩
    refine ⟨by rw [hfl], hF, ⟨by rw [ints_len]; omega, .inr ⟨g, cap, c', rfl, hg, hb, by omega, r2, by omega, ?_⟩⟩⟩
    refine List.ext_getElem? (fun j => ?_)
    by_cases hj : j < q.length - 1
    · rw [List.getElem?_take_of_lt (by omega), Array.getElem?_toList, hc j (by omega), hf' j hj]
      have h1 : (ints (q.filter (fun x => x != n)))[j]? = some (.int .i64 ((q.filter (fun x => x != n))[j]'(by omega))) := by unfold ints; rw [List.getElem?_map, List.getElem?_eq_getElem (by omega)]; rfl
      rw [h1]
      congr 1
      have hsh : ∀ i (hi : i < q.length), cur.getD i (.int .i64 0) = .int .i64 q[i] := fun i hi => by rw [Array.getD_eq_getD_getElem?, hcell i hi]; rfl
      simp only [hfil]
      unfold shN
      by_cases hjk : j < fq q n
      · rw [if_neg (by omega)]
        dsimp only
        rw [hsh j (by omega), List.getElem_append_left (by rw [List.length_take]; omega), List.getElem_take]
      · rw [if_pos (by omega)]
        dsimp only
        rw [hsh (j + 1) (by omega), List.getElem_append_right (by rw [List.length_take]; omega), List.getElem_drop]
        congr 2
        rw [List.length_take]
        omega
    · rw [List.getElem?_eq_none (by rw [List.length_take]; omega), List.getElem?_eq_none (by rw [ints_len]; omega)]
end Go.Proofs.Ythpenliecgpedaa
