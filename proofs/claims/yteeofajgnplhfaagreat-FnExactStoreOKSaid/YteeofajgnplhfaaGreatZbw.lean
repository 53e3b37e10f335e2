import Derived.Test.YteeofajgnplhfaaGreatZbt
import Derived.Test.YteeofajgnplhfaaGreatZTk
namespace Go.Proofs.YteeofajgnplhfaaGreat
open Go.RowKit Go.Maps
set_option linter.unusedSimpArgs false
def Sn (x : List (List RowV)) (i k : Nat) (id : Int) : Prop := (∃ j, ∃ hj : j < x.length, j < i ∧ ∃ m, ∃ hm : m < x[j].length, x[j][m].id = id) ∨ ∃ hi : i < x.length, ∃ m, ∃ hm : m < x[i].length, m < k ∧ x[i][m].id = id
def MapSn (D : DataW Value) (x : List (List RowV)) (i k : Nat) : Prop := ∀ id : Int, ∃ p : Option Addr, D.atKey (.int .i64 id) (.held (.pointer none)) = .held (.pointer p) ∧ (p = none ↔ ¬ Sn x i k id)
theorem MapSn.put {D : DataW Value} {x : List (List RowV)} {i k : Nat} (h : MapSn D x i k) (hD : IsMap D) (hi : i < x.length) (hk : k < x[i].length) (a : Addr) : MapSn (D.put (.int .i64 x[i][k].id) (.held (.pointer (some a)))) x i (k + 1) := fun id => by
  by_cases e : x[i][k].id = id
  · subst e
    refine ⟨some a, by rw [atKey_put_same hD (by simp [WideAt.IsKeyLit])], ⟨fun h => (by cases h), fun h => (h (.inr ⟨hi, k, hk, by omega, rfl⟩)).elim⟩⟩
  · obtain ⟨p, hp, hq⟩ := h id
    refine ⟨p, by rw [atKey_put_other (by simpa using fun h => e h.symm), hp], hq.trans (not_congr ?_)⟩
    constructor
    · rintro (h | ⟨h1, m, hm, hmk, he⟩)
      · exact .inl h
      · exact .inr ⟨h1, m, hm, by omega, he⟩
    · rintro (h | ⟨h1, m, hm, hmk, he⟩)
      · exact .inl h
      · refine .inr ⟨h1, m, hm, ?_, he⟩
        rcases Nat.lt_or_ge m k with h | h
        · exact h
        · have : m = k := by omega
          subst this; exact absurd he e
theorem MapSn.next {D : DataW Value} {x : List (List RowV)} {i : Nat} (hi : i < x.length) (h : MapSn D x i x[i].length) : MapSn D x (i + 1) 0 := fun id => by
  obtain ⟨p, hp, hq⟩ := h id
  refine ⟨p, hp, hq.trans (not_congr ?_)⟩
  constructor
  · rintro (⟨j, hj, hji, h⟩ | ⟨h1, m, hm, hmk, he⟩)
    · exact .inl ⟨j, hj, by omega, h⟩
    · exact .inl ⟨i, hi, by omega, m, hm, he⟩
  · rintro (⟨j, hj, hji, m, hm, he⟩ | ⟨h1, m, hm, hmk, he⟩)
    · rcases Nat.lt_or_ge j i with h | h
      · exact .inl ⟨j, hj, h, m, hm, he⟩
      · have : j = i := by omega
        subst this; exact .inr ⟨hi, m, hm, hm, he⟩
    · omega
theorem sn_no {x : List (List RowV)} {i k : Nat} (hi : i < x.length) (hk : k < x[i].length) (h : ¬ Sn x i k x[i][k].id) : ∀ j (hj : j < i), rplI (x[j]'(by omega)) x[i][k].id = -1 := fun j hj => by
  rcases rpl_cases (x[j]'(by omega)) x[i][k].id with ⟨hr, -⟩ | ⟨m, hm, -, he, -⟩
  · exact hr
  · exact (h (.inl ⟨j, by omega, hj, m, hm, he⟩)).elim
theorem sn_yes {x : List (List RowV)} {i k : Nat} (hi : i < x.length) (hk : k < x[i].length) (hr : riseIds x[i]) (h : Sn x i k x[i][k].id) : ¬ onceI x i := fun hn => by
  rcases h with ⟨j, hj, hji, m, hm, he⟩ | ⟨_, m, hm, hmk, he⟩
  · rcases rpl_cases x[j] x[i][k].id with ⟨-, hno⟩ | ⟨m2, hm2, hr2, -, -⟩
    · exact hno m hm he
    · have := hn hi k hk j hji; omega
  · have := rise_uniq hr m k hm hk he; omega
theorem lookSn {w : World} {m n : Nat} {D : DataW Value} {x : List (List RowV)} {i k : Nat} (hown : w.ownsMap Tryz.prog 3 ptrR m n D) (hs : MapSn D x i k) {id : Int} (hid : iOK id) : ∃ p, (Instr.lookup 81 (.map (some m)) (.int .i64 id) false).run Tryz.prog w = .ok (.pointer p) w ∧ (p = none ↔ ¬ Sn x i k id) := by
  obtain ⟨v, ps, hrun, hv⟩ := hown.lookup (t := 81) intK Tryz.underlying81 (zeroPS w) (zd := .held (.pointer none)) (zp := []) rfl (keyOf_int_mk Tryz.underlying3 hid)
  obtain ⟨p, hp, hq⟩ := hs id
  rw [hp] at hv
  simp only [ptrR, Option.some.injEq, Prod.mk.injEq, DataW.held.injEq] at hv
  exact ⟨p, by rw [hrun, hv.1], hq⟩
theorem run_makeMapN (w : World) : (Instr.makeMap 81 none).run Tryz.prog w = .ok (.map (some w.heap.size)) (w.alloc (.map #[] 0)) := by
  simp [Instr.makeMap, run_underlying Tryz.underlying81, Result.andThen]
set_option maxRecDepth 100000 in
set_option maxHeartbeats 6400000 in
theorem onceJ (x : StV) (xa : Option Addr) (xc : Nat) (B : Nat → Prop) (w : World) (ho : (dRowSS x.tables).le maxLen) (hx4 : x.tables.length ≤ 4) (hr12 : ∀ i (h : i < x.tables.length), x.tables[i].length ≤ 12 ∧ riseIds x.tables[i]) (hR : Rd w B (dRowSS x.tables) (.slice xa x.tables.length xc)) :
    Calls Tryz.prog 23 #[.agg #[.slice xa x.tables.length xc, .int .i64 x.next]] w fun e w' => e = .returned (.bool (onceB x.tables)) ∧ Below w.heap.size w w' := by
  have HR := Lib.hid hR
  have HO := Lib.hid (And.intro ho hr12)
  have hmm := run_makeMapN
  have hown0 := World.ownsMap_made (H := Value) (w.alloc (.cells #[.slice xa x.tables.length xc, .int .i64 x.next] 37)) Tryz.prog 3 ptrR
  have es : (w.alloc (.cells #[.slice xa x.tables.length xc, .int .i64 x.next] 37)).heap.size = w.heap.size + 1 := by simp
  rw [es] at hown0
  have H0 : Hid (Below w.heap.size w ((w.alloc (.cells #[.slice xa x.tables.length xc, .int .i64 x.next] 37)).alloc (.map #[] 0)) ∧ ∃ D, IsMap D ∧ ((w.alloc (.cells #[.slice xa x.tables.length xc, .int .i64 x.next] 37)).alloc (.map #[] 0)).ownsMap Tryz.prog 3 ptrR (w.heap.size + 1) 0 D ∧ MapSn D x.tables 0 0) := ⟨(below_allocD _ _).alloc (by simp) _, _, isMap_empty, hown0, fun id => ⟨none, rfl, ⟨fun _ h => by
    rcases h with ⟨j, _, h, _⟩ | ⟨_, m, _, h, _⟩ <;> omega, fun _ => rfl⟩⟩⟩
  clear ho hr12 hR hown0 es
  go_enter Tryz.func23, Tryz.ntmps23
  go_wp2_with fail
  clear hmm
  go_loopw [11] (fun t wr => ∃ i : Nat, i ≤ x.tables.length ∧ t = .int .i64 i ∧ Hid ((∀ m, m < x.tables.length → m < i → onceI x.tables m) ∧ Below w.heap.size w wr ∧ ∃ D, IsMap D ∧ wr.ownsMap Tryz.prog 3 ptrR (w.heap.size + 1) (i * 12) D ∧ MapSn D x.tables i 0)) (fun t _ => x.tables.length - (intOf t).toNat)
  case atStart => exact ⟨0, Nat.zero_le _, rfl, fun m _ h => absurd h (by omega), H0.out.1, by obtain ⟨D, h1, h2, h3⟩ := H0.out.2; exact ⟨D, h1, by simpa using h2, h3⟩⟩
  case round =>
    obtain ⟨i, hi, rfl, HW⟩ := hrel
    generalize wr = wo at *
    by_cases hix : i < x.tables.length
    case neg =>
      have hki : decide ((i : Int) < (x.tables.length : Int)) = false := by simp; omega
      have HE := Lib.hid (once_yes (fun m hm => HW.out.1 m hm (by omega)))
      have HB2 := Lib.hid HW.out.2.1
      clear HW
      go_wp2_with fail
      go_ret
      exact ⟨ret_b HE.out.symm, HB2.out⟩
    have hi1 : (i : Int) < (x.tables.length : Int) := by omega
    obtain ⟨xb, xo, ra, rq, hxa, hti⟩ := tabsAt HR.out hix
    subst hxa
    have HTI := Lib.hid hti
    have c0 := (hti _ HW.out.2.1).1
    have hr12 := (HO.out.2 i hix).1
    have HRS := Lib.hid (HO.out.2 i hix).2
    have HID : Hid (∀ k (h : k < x.tables[i].length), iOK x.tables[i][k].id) := fun k h => (Ls_le.1 ((Ls_le.1 HO.out.1).2.2 i hix 0 (by omega) : (dRowS x.tables[i]).le maxLen)).2.2 k h 0 (by omega)
    have HW0 := Lib.hid HW.out.1
    have HM0 := Lib.hid HW.out.2
    clear hti HW H0
    go_wp2_with fail
    clear c0
    go_loopw [17] (fun t wr => ∃ k : Nat, k ≤ x.tables[i].length ∧ t = .int .i64 k ∧ Hid ((∀ n (hn : n < x.tables[i].length), n < k → ∀ j (hj : j < i), rplI (x.tables[j]'(by omega)) x.tables[i][n].id = -1) ∧ Below w.heap.size w wr ∧ ∃ D, IsMap D ∧ wr.ownsMap Tryz.prog 3 ptrR (w.heap.size + 1) (i * 12 + k) D ∧ MapSn D x.tables i k)) (fun t _ => x.tables[i].length - (intOf t).toNat)
    case atStart => exact ⟨0, Nat.zero_le _, rfl, fun n _ h => absurd h (by omega), HM0.out⟩
    case round =>
      clear HM0
      obtain ⟨k, hk, rfl, HV⟩ := hrel
      obtain ⟨hdone, hb, D, hD, hown, hP⟩ := HV.out
      by_cases hkl : k < x.tables[i].length
      case neg =>
        have hkd : decide ((k : Int) < (x.tables[i].length : Int)) = false := by simp; omega
        have HN : Hid (∀ m, m < x.tables.length → m < i + 1 → onceI x.tables m) := fun m hm hmi => by
          by_cases e : m = i
          · subst e; exact fun _ n hn j hj => hdone n hn (by omega) j hj
          · exact HW0.out m hm (by omega)
        have hke : k = x.tables[i].length := by omega
        have HN2 : Hid (Below w.heap.size w wr ∧ ∃ D, IsMap D ∧ wr.ownsMap Tryz.prog 3 ptrR (w.heap.size + 1) ((i + 1) * 12) D ∧ MapSn D x.tables (i + 1) 0) := ⟨hb, D, hD, hown.mono (by omega), MapSn.next hix (hke ▸ hP)⟩
        clear HV hdone hb hD hown hP hke
        go_wp2_with fail
        go_roundw
        case rel => exact ⟨i + 1, by omega, by go_num, HN.out, HN2.out⟩
        case measure => simp [intOf]; omega
      have hk1 : (k : Int) < (x.tables[i].length : Int) := by omega
      obtain ⟨rb, ro, va, vq, hra, hrk⟩ := rowsAt (HTI.out _ (Below.refl _ _)).2 hkl
      subst hra
      have CE : Hid (∀ W, Below w.heap.size w W → W.cell? ⟨rb, ro + k * 2, none⟩ = some (.int .i64 x.tables[i][k].id)) := fun W h => (hrk W h).1
      have c1 := CE.out _ hb
      obtain ⟨pp, hlk, hpq⟩ := lookSn hown hP (HID.out k hkl)
      have hkey : keyOf Tryz.prog 3 (.int .i64 x.tables[i][k].id) = some (.int .i64 x.tables[i][k].id) := keyOf_int_mk Tryz.underlying3 (HID.out k hkl)
      obtain ⟨w1, hrun, hown1, hgr1⟩ := World.ownsMap.update (w := wr.drew) (t := 81) (val := .pointer (some ⟨rb, ro + k * 2, none⟩)) hown.drew intK Tryz.underlying81 (by unfold maxLen; omega) hkey rfl
      have HB := Lib.hid hb
      have HB1 : Hid (Below w.heap.size w w1) := hb.drew.grown hgr1 hb.size (fun q hq => by cases hq; omega)
      have HN2 : Hid (∃ D, IsMap D ∧ w1.ownsMap Tryz.prog 3 ptrR (w.heap.size + 1) (i * 12 + (k + 1)) D ∧ MapSn D x.tables i (k + 1)) := ⟨_, hD.put (.int .i64 x.tables[i][k].id) (.held (.pointer (some ⟨rb, ro + k * 2, none⟩))), hown1, hP.put hD hix hkl _⟩
      have HNX : Hid (pp = none → ∀ n (hn : n < x.tables[i].length), n < k + 1 → ∀ j (hj : j < i), rplI (x.tables[j]'(by omega)) x.tables[i][n].id = -1) := fun he n hn hnk j hj => by
        by_cases e : n = k
        · subst e; exact sn_no hix hkl (hpq.1 he) j hj
        · exact hdone n hn (by omega) j hj
      have HNO : Hid (¬ pp = none → onceB x.tables = false) := fun he => once_no hix (sn_yes hix hkl HRS.out (Classical.byContradiction fun hn => he (hpq.2 hn)))
      clear HV hb hown hP hD hown1 hgr1 hkey hrk hdone hpq
      generalize x.tables[i][k].id = y at *
      cases pp
      case some pp =>
        have HE := Lib.hid (HNO.out (by simp))
        clear HNO HNX hrun
        go_wp2_with fail
        go_ret
        exact ⟨ret_b HE.out.symm, HB.out⟩
      have HN := Lib.hid (HNX.out rfl)
      clear HNO HNX
      go_wp2_with fail
      clear c1 hlk
      refine wp_region_held_drew (S := (fun W => W.cell? ⟨rb, ro + k * 2, none⟩ = some (.int .i64 y))) (by kernel_rfl) ?_ (fun hHeld => ?_)
      · (first | exact CE.out _ HB.out | exact CE.out _ HB.out.drew | exact CE.out _ HB1.out)
      refine wpAnyH_take (i := 0) (v := ?_) rfl (by kernel_rfl) (by kernel_rfl) (by kernel_rfl) (fun _ _ _ h => h) (Or.inl ⟨by kernel_rfl, ?_⟩) (by assumption) ?_
      rotate_left
      · (intro wS hSw; (try dsimp only at hSw); go_simp <;> with_reducible rfl)
      try simp only [Act.put, tkS]
      refine wpAnyH_take (i := 1) (v := ?_) rfl (by kernel_rfl) (by kernel_rfl) (by kernel_rfl) (fun _ _ _ h => h) (Or.inl ⟨by kernel_rfl, ?_⟩) (by assumption) ?_
      rotate_left
      · (intro wS hSw; (try dsimp only at hSw); go_simp <;> with_reducible rfl)
      try simp only [Act.put, tkS]
      refine wpAnyH_take (i := 2) (v := ?_) rfl (by kernel_rfl) (by kernel_rfl) (by kernel_rfl) (fun _ _ _ h => h) (Or.inl ⟨by kernel_rfl, ?_⟩) (by assumption) ?_
      rotate_left
      · (intro wS hSw; (try dsimp only at hSw); go_simp <;> with_reducible rfl)
      try simp only [Act.put, tkS]
      refine wpAnyH_take (i := 3) (v := ?_) rfl (by kernel_rfl) (by kernel_rfl) (by kernel_rfl) (fun _ _ _ h => h) (Or.inl ⟨by kernel_rfl, ?_⟩) (by assumption) ?_
      rotate_left
      · (intro wS hSw; (try dsimp only at hSw); go_simp <;> with_reducible rfl)
      try simp only [Act.put, tkS]
      refine wpAnyH_take (i := 4) (v := ?_) rfl (by kernel_rfl) (by kernel_rfl) (by kernel_rfl) (fun _ _ _ h => h) (Or.inl ⟨by kernel_rfl, ?_⟩) (by assumption) ?_
      rotate_left
      · (intro wS hSw; (try dsimp only at hSw); go_simp <;> with_reducible rfl)
      try simp only [Act.put, tkS]
      refine wpAnyH_take (i := 5) (v := ?_) rfl (by kernel_rfl) (by kernel_rfl) (by kernel_rfl) (fun _ _ _ h => h) (Or.inl ⟨by kernel_rfl, ?_⟩) (by assumption) ?_
      rotate_left
      · (intro wS hSw; (try dsimp only at hSw); go_simp <;> with_reducible rfl)
      try simp only [Act.put, tkS]
      refine wpAnyH_take (i := 6) (v := ?_) rfl (by kernel_rfl) (by kernel_rfl) (by kernel_rfl) (fun _ _ _ h => h) (Or.inl ⟨by kernel_rfl, ?_⟩) (by assumption) ?_
      rotate_left
      · (intro wS hSw; (try dsimp only at hSw); go_simp <;> with_reducible rfl)
      try simp only [Act.put, tkS]
      refine wpAnyH_take (i := 7) (v := ?_) rfl (by kernel_rfl) (by kernel_rfl) (by kernel_rfl) (fun _ _ _ h => h) (Or.inl ⟨by kernel_rfl, ?_⟩) (by assumption) ?_
      rotate_left
      · (intro wS hSw; (try dsimp only at hSw); go_simp <;> with_reducible rfl)
      try simp only [Act.put, tkS]
      refine wpAnyH_take (i := 8) (v := ?_) rfl (by kernel_rfl) (by kernel_rfl) (by kernel_rfl) (fun _ _ _ h => h) (Or.inl ⟨by kernel_rfl, ?_⟩) (by assumption) ?_
      rotate_left
      · (intro wS hSw; (try dsimp only at hSw); go_simp <;> with_reducible rfl)
      try simp only [Act.put, tkS]
      refine wpAnyH_ready (rs := [9]) (by kernel_rfl) (by simp) (AllReadyH.cons rfl (fun K hK => ?_) AllReadyH.nil)
      go_simp
      skip
      refine hK.out _ _ ?_ (fun hHeld => ?_)
      · (first | exact CE.out _ HB.out | exact CE.out _ HB.out.drew | exact CE.out _ HB1.out)
      clear hK K
      try simp only [Act.put, tkS]
      refine wpAnyH_done (by kernel_rfl) ?_ _
      clear hrun
      go_wp2_with fail
      go_roundw
      case rel => exact ⟨k + 1, by omega, by go_num, HN.out, HB1.out, HN2.out⟩
      case measure => simp [intOf]; omega
end Go.Proofs.YteeofajgnplhfaaGreat
