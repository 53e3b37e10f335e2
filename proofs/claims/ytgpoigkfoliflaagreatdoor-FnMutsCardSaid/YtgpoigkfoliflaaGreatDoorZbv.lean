import Derived.Test.YtgpoigkfoliflaaGreatDoorZbn
import Derived.Test.YtgpoigkfoliflaaGreatDoorZbm
import Derived.Test.YtgpoigkfoliflaaGreatDoorZbp
import Derived.Test.YtgpoigkfoliflaaGreatDoorZbf
import Derived.Test.YtgpoigkfoliflaaGreatDoorZbu
import Derived.WalkSpells
import Derived.WalkLawsBesides
import Derived.Test.YtgpoigkfoliflaaGreatDoorZbq
import Derived.Test.YtgpoigkfoliflaaGreatDoorZbs
import Derived.Test.YtgpoigkfoliflaaGreatDoorZah
namespace Go.Proofs.YtgpoigkfoliflaaGreatDoor
open Go.RowKit
set_option linter.unusedSimpArgs false
def FitP (t : Tb) (cs : List (List At)) : Prop := cs.length = t.cols.length ∧ ∀ i (h : i < cs.length) (h' : i < t.cols.length), datumB cs[i] = true ∧ fitC t.cols[i] cs[i] = 0
theorem rowM_fit {t : Tb} (hT : TabP t) : ∀ {list : List MutV} {cs : List (List At)}, FitP t cs → (∀ x ∈ list, mutB x = true ∧ mutC t x = 0) → (rowM t cs list).1 = 0 → FitP t (rowM t cs list).2
  | [], _, hI, _, _ => hI
  | c :: l, cs, hI, hq, h0 => by
    obtain ⟨hb, hm⟩ := hq c (by simp)
    obtain ⟨k, hk, hp, hm2⟩ := mutC_place hm
    have hkc : k < cs.length := by rw [hI.1]; exact hk
    have e1 : t.cols.getD k clZ = t.cols[k] := by rw [List.getD_eq_getElem?_getD, List.getElem?_eq_getElem hk]; rfl
    have e2 : cs.getD k [] = cs[k] := by rw [List.getD_eq_getElem?_getD, List.getElem?_eq_getElem hkc]; rfl
    have hcan : CanM t.cols[k] cs[k] c := CanM.mk' (hT.cols k hk).1 (hI.2 k hkc hk).1 (hI.2 k hkc hk).2 hb hm2
    have h00 : (mutP t.cols[k] cs[k] c).1 = 0 := by
      unfold rowM at h0
      rw [hp, Int.toNat_natCast, e1, e2] at h0
      by_cases hh : (mutP t.cols[k] cs[k] c).1 = 0
      · exact hh
      · rw [if_neg hh] at h0; exact absurd h0 hh
    have hw : rowM t cs (c :: l) = rowM t (cs.set k (mutP t.cols[k] cs[k] c).2) l := by
      conv => lhs; unfold rowM
      rw [hp, Int.toNat_natCast, e1, e2, if_pos h00]
    rw [hw] at h0 ⊢
    obtain ⟨q1, q2, q3⟩ := mutP_ok hcan h00
    refine rowM_fit hT ⟨by simpa using hI.1, fun i h h' => ?_⟩ (fun y hy => hq y (by simp [hy])) h0
    by_cases e : i = k
    · subst e; rw [List.getElem_set_self]; exact ⟨q1.datum q2, q3⟩
    · rw [List.getElem_set_ne (fun h => e h.symm)]; exact hI.2 i (by simpa using h) h'
theorem muts_codes {t : Tb} : ∀ {list : List MutV}, mutsC t list = 0 → ∀ x ∈ list, mutC t x = 0
  | [], _, _, hx => absurd hx List.not_mem_nil
  | c :: l, h, x, hx => by
    unfold mutsC at h
    by_cases hc : mutC t c = 0
    · rw [if_pos hc] at h
      rcases List.mem_cons.1 hx with rfl | hx
      · exact hc
      · exact muts_codes h x hx
    · rw [if_neg hc] at h; exact absurd h hc
theorem mr_right {t : Tb} (hT : TabP t) {r : RowV} {list : List MutV} (hr : rokM t r = true) (h0 : mrC t r list = 0) : (mrR t r list).id = r.id ∧ rokM t (mrR t r list) = true := by
  have hb : tabB t = true := tab_yes hT
  have hrow : RowP t r.id r.cells := by unfold rokM at hr; simp only [Bool.and_eq_true] at hr; have h9 := hr.2; unfold rowB at h9; exact @of_decide_eq_true _ (Classical.propDecidable _) h9
  by_cases h4 : 4096 < list.length
  · rw [(mr_long h4).2] at h0; cases h0
  by_cases hv : mutsB list = true
  case neg => rw [(mr_bad h4 (fun h => hv h.2)).2] at h0; cases h0
  by_cases hc : mutsC t list = 0
  case neg => rw [(mr_code h4 ⟨hr, hv⟩ hc).2] at h0; exact absurd h0 hc
  obtain ⟨e1, e2⟩ := mr_ok h4 ⟨hr, hv⟩ hc
  rw [e2] at h0
  have hq : ∀ x ∈ list, mutB x = true ∧ mutC t x = 0 := fun x hx => ⟨by
    unfold mutsB at hv
    simp only [Bool.and_eq_true] at hv
    exact List.all_eq_true.1 hv.1 x hx, muts_codes hc x hx⟩
  have hD := rowM_fit hT ⟨hrow.len, fun i h h' => hrow.fit i h h'⟩ hq h0
  have e3 : mrR t r list = ⟨r.id, (rowM t r.cells list).2⟩ := by rw [e1]; unfold rowR; rw [if_pos h0]
  rw [e3]
  refine ⟨rfl, ?_⟩
  unfold rokM
  rw [hb, row_yes ⟨hrow.id, hD.1, fun i h h' => hD.2 i h h'⟩]
  rfl
theorem mr_zero {t : Tb} {r : RowV} {list : List MutV} (h : ¬ mrC t r list = 0) : (mrR t r list).cells.length = 0 := by
  have hz : rowZ.cells.length = 0 := rfl
  by_cases h4 : 4096 < list.length
  · rw [(mr_long h4).1]; exact hz
  by_cases hb : rokM t r = true ∧ mutsB list = true
  case neg => rw [(mr_bad h4 hb).1]; exact hz
  by_cases hc : mutsC t list = 0
  case neg => rw [(mr_code h4 hb hc).1]; exact hz
  obtain ⟨e1, e2⟩ := mr_ok h4 hb hc
  rw [e2] at h
  rw [e1]
  unfold rowR
  rw [if_neg h]
  exact hz
theorem rok_smallM {t : Tb} {r : RowV} (h : rokM t r = true) (h6 : t.cols.length ≤ 6) : (dAtomSS r.cells).le 1048576 := by
  obtain ⟨h1, h2⟩ := rowI_le (rok_I h) h6
  exact D.le.mono (by omega) _ (D.le_of_sz _ h1 h2)
theorem plT_rowD {t : Nat} (ht : t < 3) {id : Int} (hi : inB 1 id 1000000 = true) : rokM (plT t) ⟨id, (plT t).cols.map dfL⟩ = true := by
  have hT := tab_yes (plT_tab t ht).1
  unfold rokM
  rw [hT, row_yes ⟨hi, by simp, fun i h h' => ?_⟩]
  · rfl
  · rw [List.getElem_map]
    exact plT_def t ht _ (List.getElem_mem h')
theorem TS.laterG {wr W : World} {T : TypeId} {n L : Nat} {f : Nat → Nat → D} {b i : Nat} (h : TS wr T n L f b i) (hB : Below wr.heap.size wr W) : TS W T n L f b i := by
  obtain ⟨g, X, hr, hX, hd, hx⟩ := h
  refine ⟨g, X, hr.of_block (hB.block _ hr.lt), fun i' j c hc => ?_, hd, fun i' j h1 h2 => (hx i' j h1 h2).later hB⟩
  have := hX i' j c hc
  exact ⟨this.1, this.2.1, Nat.lt_of_lt_of_le this.2.2 hB.size⟩
def wordsW : List (List UInt8) := [[], [43, 61], [45, 61], [42, 61], [47, 61], [37, 61], [105, 110, 115, 101, 114, 116], [100, 101, 108, 101, 116, 101]]
def TabW (w : World) : Prop := ∀ k : Nat, k < 8 → w.cell? ⟨0, k, none⟩ = some (.string ⟨(wordsW.getD k []).toArray⟩)
theorem TabW.later {w w1 : World} (hT : TabW w) (h0 : 0 < w.heap.size) (hB : Below w.heap.size w w1) : TabW w1 := fun k hk => by
  rw [hB.cell (p := ⟨0, k, none⟩) h0]; exact hT k hk
theorem words_ne : ∀ j k : Nat, j < k → k < 8 → (wordsW.getD j [] == wordsW.getD k []) = false := by
  intro j k hj hk
  rcases (by omega : k = 0 ∨ k = 1 ∨ k = 2 ∨ k = 3 ∨ k = 4 ∨ k = 5 ∨ k = 6 ∨ k = 7) with rfl | rfl | rfl | rfl | rfl | rfl | rfl | rfl
  · omega
  all_goals
    rcases (by omega : j = 0 ∨ j = 1 ∨ j = 2 ∨ j = 3 ∨ j = 4 ∨ j = 5 ∨ j = 6) with rfl | rfl | rfl | rfl | rfl | rfl | rfl <;> first | decide | omega
set_option maxHeartbeats 1600000 in
theorem wordMI (k : Nat) (hk : k < 8) (w : World) (hT : TabW w) : Calls Tryz.prog 15 #[.int .i64 (k : Int)] w fun e w' => e = .returned (.string ⟨(wordsW.getD k []).toArray⟩) ∧ w' = w := by
  have hc := hT k hk
  have hi : (k : Int) < 8 := by omega
  have d1 : decide ((k : Int) < 0) = false := by simp
  have d2 : decide (8 ≤ (k : Int)) = false := by simp; omega
  clear hT hk
  generalize wordsW.getD k [] = s at *
  go_enter Tryz.func15, Tryz.ntmps15
  go_wp2_with fail
  go_ret
  exact ⟨rfl, rfl⟩
set_option maxHeartbeats 1600000 in
theorem ofMI (k : Nat) (hk : k < 8) (w : World) (hT : TabW w) : Calls Tryz.prog 14 #[.string ⟨(wordsW.getD k []).toArray⟩] w fun e w' => e = .returned (.int .i64 (k : Int)) ∧ w' = w := by
  have HT : Hid (TabW w) := hT
  have HK := Lib.hid hk
  have HN : Hid (∀ j, j < k → (wordsW.getD j [] == wordsW.getD k []) = false) := fun j hj => words_ne j k hj hk
  obtain ⟨s, hs⟩ : ∃ s, s = wordsW.getD k [] := ⟨_, rfl⟩
  have HS := Lib.hid hs
  rw [← hs] at HN ⊢
  clear hT hk hs
  go_enter Tryz.func14, Tryz.ntmps14
  go_wp2_with fail
  go_loop [4] (fun t => ∃ j : Nat, t = .int .i64 (j : Int) ∧ Hid (j ≤ k)) (fun t => 8 - (intOf t).toNat)
  case atStart => exact ⟨0, rfl, Nat.zero_le _⟩
  case round =>
    obtain ⟨j, rfl, HJ⟩ := hrel
    have hj8 : j < 8 := by have := HJ.out; have := HK.out; omega
    have hji : (j : Int) < 8 := by omega
    have hc := HT.out j hj8
    have f1 : IntKind.i64.wrap ((j : Int) + 1) = ((j + 1 : Nat) : Int) := by rw [IntKind.wrap_i64]; omega
    by_cases hjk : j < k
    · have e1 := HN.out j hjk
      have HJ2 : Hid (j + 1 ≤ k) := hjk
      clear hjk
      generalize wordsW.getD j [] = u at *
      go_wp2_with fail
      go_round
      case rel => exact ⟨j + 1, by go_num, HJ2⟩
      case measure => simp [intOf]; omega
    · obtain rfl : j = k := by have := HJ.out; omega
      rw [← HS.out] at hc
      have e1 : (s == s) = true := by simp
      clear hjk
      go_wp2_with fail
      go_ret
      exact ⟨rfl, rfl⟩
end Go.Proofs.YtgpoigkfoliflaaGreatDoor
namespace Go.Proofs.YtgpoigkfoliflaaGreatDoor
open Go.RowKit
set_option linter.unusedSimpArgs false
set_option maxRecDepth 100000 in
set_option maxHeartbeats 3200000 in
theorem atS (l : List UInt8) (a : Option Addr) (c n : Nat) (B : Nat → Prop) (W : World) (hb : Byts W B a l) (hl : l.length ≤ 1048576) (h1 : 1 < n) (h2 : n ≤ 1000000) :
    Calls Tryz.prog 4 #[.slice a l.length c, .int .i64 0, .int .i64 (n : Int)] W fun e W' => ∃ k : Nat, e = .returned (.int .i64 (k : Int)) ∧ k < n ∧ Below W.heap.size W W' := by
  have d1 : decide ((n : Int) ≤ 1) = false := decide_eq_false (by omega)
  have d2 : decide (n ≤ 1) = false := decide_eq_false (by omega)
  have d5 : ((n : Int) == 0) = false := by rw [beq_eq_false_iff_ne]; omega
  have hn0 : n ≠ 0 := by omega
  have HB : Hid (Below W.heap.size W W ∧ Below W.heap.size W W.drew) := ⟨Below.refl _ _, (Below.refl _ _).drew⟩
  have HN : Hid (0 < n) := by show 0 < n; omega
  rcases hb with h0 | ⟨b, off, rfl, hb, hc⟩
  · have e0 : l = [] := List.length_eq_zero_iff.1 h0
    subst e0
    clear h1 h2 hl h0
    go_enter Tryz.func4, Tryz.ntmps4
    go_wp2_with fail
    go_ret
    exact ⟨0, rfl, HN.out, HB.out.1⟩
  by_cases h0 : l.length = 0
  · have e0 : l = [] := List.length_eq_zero_iff.1 h0
    subst e0
    clear h1 h2 hl h0 hc
    go_enter Tryz.func4, Tryz.ntmps4
    go_wp2_with fail
    go_ret
    exact ⟨0, rfl, HN.out, HB.out.1⟩
  have g1 : ((l.length : Int) == 0) = false := by rw [beq_eq_false_iff_ne]; omega
  have g2 : (l.length == 0) = false := by rw [beq_eq_false_iff_ne]; omega
  have g3 : l ≠ [] := fun e => h0 (by rw [e]; rfl)
  have hp : 0 < l.length := by omega
  obtain ⟨r, hr⟩ : ∃ r : Nat, r = 1 % l.length := ⟨_, rfl⟩
  have hrl : r < l.length := by rw [hr]; exact Nat.mod_lt _ hp
  have t1 : (1 : Int).tmod (l.length : Int) = (r : Int) := by rw [Int.tmod_eq_emod_of_nonneg (by omega), hr, Int.natCast_emod]; rfl
  have t2 : IntKind.i64.wrap (r : Int) = (r : Int) := by rw [IntKind.wrap_i64]; omega
  have c0 := hc 0 hp
  have c1 := hc r hrl
  rw [Nat.add_zero] at c0
  obtain ⟨v0, e0⟩ : ∃ v : Nat, v = l[0].toNat := ⟨_, rfl⟩
  obtain ⟨v1, e1⟩ : ∃ v : Nat, v = l[r].toNat := ⟨_, rfl⟩
  have b0 : v0 < 256 := by rw [e0]; exact UInt8.toNat_lt _
  have b1 : v1 < 256 := by rw [e1]; exact UInt8.toNat_lt _
  rw [← e0] at c0
  rw [← e1] at c1
  obtain ⟨u1, q1⟩ : ∃ u : Nat, u = v0 * 31 := ⟨_, rfl⟩
  obtain ⟨u2, q2⟩ : ∃ u : Nat, u = u1 + v1 := ⟨_, rfl⟩
  obtain ⟨k, q3⟩ : ∃ u : Nat, u = u2 % n := ⟨_, rfl⟩
  have f0 : IntKind.i64.wrap (v0 : Int) = (v0 : Int) := by rw [IntKind.wrap_i64]; omega
  have f1 : IntKind.i64.wrap (v1 : Int) = (v1 : Int) := by rw [IntKind.wrap_i64]; omega
  have f2 : IntKind.i64.wrap ((v0 : Int) * 31) = (u1 : Int) := by rw [IntKind.wrap_i64]; omega
  have f3 : IntKind.i64.wrap ((u1 : Int) + (v1 : Int)) = (u2 : Int) := by rw [IntKind.wrap_i64]; omega
  have f4 : IntKind.i64.wrap (u2 : Int) = (u2 : Int) := by rw [IntKind.wrap_i64]; omega
  have HK : Hid (k < n) := by show k < n; rw [q3]; exact Nat.mod_lt _ HN.out
  have f5 : (u2 : Int).tmod (n : Int) = (k : Int) := by rw [Int.tmod_eq_emod_of_nonneg (by omega), q3, Int.natCast_emod]
  have f6 : IntKind.i64.wrap (k : Int) = (k : Int) := by have := HK.out; rw [IntKind.wrap_i64]; omega
  clear h1 h2 hl hc hb e0 e1 b0 b1 q1 q2 q3 hr h0
  go_enter Tryz.func4, Tryz.ntmps4
  go_wp2_with fail
  go_region
  go_wp2_with fail
  go_ret
  exact ⟨k, rfl, HK.out, HB.out.2⟩
end Go.Proofs.YtgpoigkfoliflaaGreatDoor
namespace Go.Proofs.YtgpoigkfoliflaaGreatDoor
open Go.RowKit
set_option linter.unusedSimpArgs false
set_option maxHeartbeats 1600000 in
theorem sameDatumS (l : List At) (a a' : Option Addr) (c c' : Nat) (A B : Nat → Prop) (w : World) (hl : l.length ≤ 1048576) (hA : Ats w A a l) (hB : Ats w B a' l) :
    Calls Tryz.prog 31 #[.slice a l.length c, .slice a' l.length c'] w fun e w' => e = .returned (.bool true) ∧ Below w.heap.size w w' := by
  have HA : Hid (Ats w A a l) := hA
  have HB : Hid (Ats w B a' l) := hB
  have nn : ((l.length : Int) != (l.length : Int)) = false := by simp
  clear hA hB
  go_enter Tryz.func31, Tryz.ntmps31
  go_wp2_with fail
  go_loopw [5] (fun i wr => ∃ k : Nat, k ≤ l.length ∧ i = .int .i64 k ∧ Hid (Below w.heap.size w wr)) (fun i _ => l.length - (intOf i).toNat)
  case atStart => exact ⟨0, Nat.zero_le _, rfl, Below.refl _ _⟩
  case round =>
    obtain ⟨k, hk, rfl, HW⟩ := hrel
    by_cases hlt : k < l.length
    · obtain ⟨b, off, rfl, -, c0, c1, c2⟩ := (HA.out.later HW.out).item k hlt
      obtain ⟨b', off', rfl, -, d0, d1, d2⟩ := (HB.out.later HW.out).item k hlt
      generalize l[k] = x at *
      have hki : (k : Int) < (l.length : Int) := by omega
      have n1 : (x.k != x.k) = false := by simp
      have n2 : (x.n != x.n) = false := by simp
      go_wp2_with fail
      go_region
      go_wp2_with fail
      go_roundw
      case rel => exact ⟨k + 1, by omega, by go_num, HW.out.drew⟩
      case measure => simp [intOf]; omega
    · have hki : decide ((k : Int) < (l.length : Int)) = false := by simp; omega
      go_wp2_with fail
      go_ret
      exact ⟨rfl, HW.out⟩
end Go.Proofs.YtgpoigkfoliflaaGreatDoor
