/- impl.Matches answers of every table, row and condition what the specification answers, and writes into nothing that came in (the table of words as the program text lays it: the card ties it). No condition besides: at every argument, in every world that the row's reading allows. -/
import Derived.Test.YtpjjpdbmooiplaaGreatDoorCards
import Derived.Test.YtpjjpdbmooiplaaGreatDoorTie
import Derived.Test.YtpjjpdbmooiplaaGreatDoorXbv
import Derived.Test.YtpjjpdbmooiplaaGreatDoorXbx
import Derived.Test.YtpjjpdbmooiplaaGreatDoorXby
import Derived.WalkKit
import Derived.ProofKit
import Derived.OpenShut
import Derived.ChangeOld
import Derived.Below
import Derived.ShutString
import Derived.WalkSmall
import Derived.LaidMore
import Derived.Lib.LaidTab
namespace Go.Proofs.YtpjjpdbmooiplaaGreatDoor
open Go.ChangeShapes Go.WideShapes Go.ChangeAt Go.RowKit
theorem own : ownKnob Tryz.prog.godebug = none := by kernel_rfl
theorem laidOut : laidOutB Tryz.prog = true := by kernel_rfl
theorem gW : Tryz.prog.globalNamed "loop.example/g00524/impl.funcWords" = some 0 := by kernel_rfl
theorem gWType : (Tryz.prog.globals[0]?).map (·.type) = some 165 := by kernel_rfl
theorem cellsG : Tryz.prog.cellsOf 165 = 9 := by kernel_rfl
theorem cells9 : Tryz.prog.cellsOf 9 = 1 := by kernel_rfl
theorem cells_of_texts {H : Type} {enc : TypeId × Value → H} {P : Program} {w : World} {base : Nat} {sp : Nat → Bool} {held : Bool} {fuel : Nat} {t e : TypeId} {n : Nat} {cs : List Value} {zs : List (List UInt8)} {p : List MemPlace}
    (ht : P.underlying t = some (.array n e)) (he : P.underlying e = some .string) (hce : P.cellsOf e = 1) (hct : P.cellsOf t = n)
    (h : DataW.trod enc P w base sp held fuel t cs = some (.agg (zs.map fun z => .lit (.string z)), p)) : cs = zs.map fun z => Value.string ⟨z.toArray⟩ := by
  cases fuel with
  | zero => simp [DataW.trod] at h
  | succ fuel =>
    simp only [DataW.trod, ht, hce, hct, Nat.mul_one] at h
    split at h
    · rename_i hl
      obtain ⟨xs, hm, hx⟩ := Option.map_eq_some_iff.1 h
      have hxs : xs.map (·.1) = zs.map fun z => (DataW.lit (.string z) : DataW H) := by
        have := congrArg Prod.fst hx
        simpa using this
      have hxl : xs.length = n := by simpa using Lib.mapM_length hm
      have hzl : zs.length = n := by
        have := congrArg List.length hxs
        simp at this
        omega
      apply List.ext_getElem?
      intro i
      by_cases hi : i < n
      · obtain ⟨b, hb, hf⟩ := Lib.mapM_at hm i i (by simp [hi])
        obtain ⟨s, hc, rfl, _⟩ := DataW.trod_string he hf
        have h1 : cs[i]? = some (.string s) := by
          have := congrArg (·[0]?) hc
          simpa [List.getElem?_take, List.getElem?_drop] using this
        have h2 : (xs.map (·.1))[i]? = some (DataW.lit (.string s.data.toList) : DataW H) := by simp [hb]
        rw [hxs] at h2
        simp only [List.getElem?_map, Option.map_eq_some_iff, DataW.lit.injEq, Lit.string.injEq] at h2
        obtain ⟨z', hz', rfl⟩ := h2
        simp [h1, hz']
      · rw [List.getElem?_eq_none (by omega), List.getElem?_eq_none (by simp; omega)]
    · cases h
theorem tab_ofD {W : World} (h : laidMetH Tryz.prog [("loop.example/g00524/impl.funcWords", Rows.laid_loop_example_g00524_impl_funcWords)] W) : TabW W ∧ 0 < W.heap.size := by
  rw [MakeChecks.laidMetH_plain _ _ _ (by kernel_rfl)] at h
  obtain ⟨ps, ⟨g, t, cs, f, p, q, hg, ht, hv, hd, _⟩, _⟩ := h
  obtain rfl := Option.some.inj (gW.symm.trans hg)
  obtain rfl := Option.some.inj (gWType.symm.trans ht)
  have hc := cells_of_texts (zs := wordsW) Tryz.underlying165 Tryz.underlying9 cells9 cellsG hd
  have hcell : ∀ k : Nat, W.cell? ⟨0, k, none⟩ = cs[k]? := fun k => World.var?_cell hg hv k
  have hT : TabW W := by
    intro k hk
    rw [hcell k, ← Array.getElem?_toList, hc, List.getElem?_map]
    have hl : k < wordsW.length := hk
    rw [List.getD_eq_getElem?_getD, List.getElem?_eq_getElem hl]; rfl
  exact ⟨hT, World.block_lt_of_cell? _ _ (hT 0 (by decide))⟩
theorem door_met (os : Os) (args : Array Value) : laidMetH Tryz.prog [("loop.example/g00524/impl.funcWords", Rows.laid_loop_example_g00524_impl_funcWords)] ((World.doorLaid Tryz.prog 400 os).forCall (fun _ _ => 0) ⟨#[], args, []⟩).memory :=
  laidMetH_of_parts3 (fuel := 8) (laidMet_of_run' 8 (by kernel_rfl) (by kernel_rfl)) (by kernel_rfl) (by kernel_rfl)
set_option maxRecDepth 100000 in
theorem liftedFnExactMatches (os : Os) (started : os.Started) (H : Type) (enc : TypeId × Value → H) :
    ReturnsInHanded {} Tryz.checked os 3 .any (fun w args => (Rows.fnExactMatchesSpec.pre enc Tryz.prog Tryz.f3 [] false w args ∧ laidMetH Tryz.prog Rows.fnExactMatchesRow.laid w) ∧ sizedMet enc Tryz.prog Tryz.f3 (OpenSpec.ofChange Rows.fnExactMatchesSpec) false w args)
      (Rows.fnExactMatchesSpec.post enc Tryz.prog Tryz.f3 false true false false) := by
  refine returnsInHanded_of_change_and (C := Tryz.checked) (X := fun w _ => laidMetH Tryz.prog Rows.fnExactMatchesRow.laid w) (fun _ _ _ hh h => h.of_heap hh) own started (by kernel_rfl) Tryz.func3
    (ChangeSpec.witness_shaped (enc := enc) (C := Tryz.checked) (os := os) (X := fun w _ => laidMetH Tryz.prog Rows.fnExactMatchesRow.laid w) false (World.doorLaid Tryz.prog 400 os) #[.agg #[.string ByteArray.empty, .slice none 0 0, .slice none 0 0, .bool false], .agg #[.int .i64 0, .slice none 0 0], .agg #[.string ByteArray.empty, .int .i64 0, .slice none 0 0]] 8 rfl (World.shaped_of_RefB (by kernel_rfl) (by kernel_rfl)) (by kernel_rfl) (by kernel_rfl) (by kernel_rfl) (door_met os _)) ?_
  intro W base args ds gs before hval0 hW _ _ hL _
  have hval : ∀ (j : Nat) t v, Tryz.f3.params[j]? = some t → args[j]? = some v → Value.okWide Tryz.prog W .any base t v := hval0
  have hW' := hW
  obtain ⟨p, q, hA0, hV0, rfl, hfz, hnd⟩ := hW
  have hV : DataW.TrodVars enc Tryz.prog W (fun _ => true) ["loop.example/g00524/impl.funcWords"] gs q := hV0
  have hA : DataW.TrodAll enc Tryz.prog W 0 (fun _ => true) true Tryz.f3.params.toList args.toList ds p := hA0
  rw [Tryz.params3] at hA hval
  obtain ⟨v0, vs0, d0, ds0, p0, q0, hargs, rfl, rfl, h0, r0⟩ := trodAll_cons hA
  obtain ⟨v1, vs1, d1, ds1, p1, q1, rfl, rfl, rfl, h1, r1⟩ := trodAll_cons r0
  obtain ⟨v2, vs2, d2, ds2, p2, q2, rfl, rfl, rfl, h2, r2⟩ := trodAll_cons r1
  obtain ⟨rfl, rfl, rfl⟩ := trodAll_nil r2
  obtain rfl : args = #[v0, v1, v2] := by cases args; simp_all
  obtain ⟨g, t, cs, fuel, d, p', rfl, hg, ht, hvar, hd, rfl⟩ := trodVars_one hV
  obtain rfl := Option.some.inj (gW.symm.trans hg)
  obtain rfl := Option.some.inj (gWType.symm.trans ht)
  obtain ⟨hT, hlt⟩ := tab_ofD hL
  have hltv : ∀ x ∈ p', x.block < W.heap.size := fun x hx => hW'.lt x (List.mem_append_right _ (List.mem_append_right _ hx))
  have k0 := h0
  have lt0 : ∀ x ∈ p0, x.block < W.heap.size := by obtain ⟨m, hm⟩ := k0; exact DataW.trod_lt m _ _ _ hm
  obtain ⟨cs0, rfl, -⟩ := okWide_struct Tryz.underlying25 (hval 0 25 v0 rfl rfl)
  obtain ⟨x0, hlen0, hx0⟩ : ∃ y : Tb, RdTh W 4 (dTable y) cs0.toList := by
    obtain ⟨fuel, hf⟩ := h0
    exact rdTable fuel _ _ (by simpa [Value.cells] using hf)
  obtain ⟨u0_0, eu0_0, ru0_0, lu0_0⟩ := hx0 0 (by omega)
  obtain rfl : u0_0 = .string ⟨x0.nm.toArray⟩ := ru0_0
  obtain ⟨u0_1, eu0_1, ru0_1, lu0_1⟩ := hx0 1 (by omega)
  replace ru0_1 : Rd W (· < W.heap.size) (dColumnS x0.cols) u0_1 := ru0_1
  obtain ⟨a0_1, c0_1, rfl⟩ := ru0_1.lsSlice
  obtain ⟨u0_2, eu0_2, ru0_2, lu0_2⟩ := hx0 2 (by omega)
  replace ru0_2 : Rd W (· < W.heap.size) (dIntS x0.uq) u0_2 := ru0_2
  obtain ⟨a0_2, c0_2, rfl⟩ := ru0_2.lsSlice
  obtain ⟨u0_3, eu0_3, ru0_3, lu0_3⟩ := hx0 3 (by omega)
  obtain rfl : u0_3 = .bool x0.rt := ru0_3
  obtain rfl : cs0 = #[.string ⟨x0.nm.toArray⟩, .slice a0_1 x0.cols.length c0_1, .slice a0_2 x0.uq.length c0_2, .bool x0.rt] := by
    apply Array.ext'
    apply List.ext_getElem?
    intro j
    by_cases hj : j < 4
    · rcases (by omega : j = 0 ∨ j = 1 ∨ j = 2 ∨ j = 3) with rfl | rfl | rfl | rfl
      · simpa using eu0_0
      · simpa using eu0_1
      · simpa using eu0_2
      · simpa using eu0_3
    · rw [List.getElem?_eq_none (by omega), List.getElem?_eq_none (by simp; omega)]
  have k1 := h1
  have lt1 : ∀ x ∈ p1, x.block < W.heap.size := by obtain ⟨m, hm⟩ := k1; exact DataW.trod_lt m _ _ _ hm
  obtain ⟨cs1, rfl, -⟩ := okWide_struct Tryz.underlying28 (hval 1 28 v1 rfl rfl)
  obtain ⟨x1, hlen1, hx1⟩ : ∃ y : RowV, RdTh W 2 (dRow y) cs1.toList := by
    obtain ⟨fuel, hf⟩ := h1
    exact rdRow fuel _ _ (by simpa [Value.cells] using hf)
  obtain ⟨u1_0, eu1_0, ru1_0, lu1_0⟩ := hx1 0 (by omega)
  obtain rfl : u1_0 = .int .i64 x1.id := ru1_0
  obtain ⟨u1_1, eu1_1, ru1_1, lu1_1⟩ := hx1 1 (by omega)
  replace ru1_1 : Rd W (· < W.heap.size) (dAtomSS x1.cells) u1_1 := ru1_1
  obtain ⟨a1_1, c1_1, rfl⟩ := ru1_1.lsSlice
  obtain rfl : cs1 = #[.int .i64 x1.id, .slice a1_1 x1.cells.length c1_1] := by
    apply Array.ext'
    apply List.ext_getElem?
    intro j
    by_cases hj : j < 2
    · rcases (by omega : j = 0 ∨ j = 1) with rfl | rfl
      · simpa using eu1_0
      · simpa using eu1_1
    · rw [List.getElem?_eq_none (by omega), List.getElem?_eq_none (by simp; omega)]
  have k2 := h2
  have lt2 : ∀ x ∈ p2, x.block < W.heap.size := by obtain ⟨m, hm⟩ := k2; exact DataW.trod_lt m _ _ _ hm
  obtain ⟨cs2, rfl, -⟩ := okWide_struct Tryz.underlying31 (hval 2 31 v2 rfl rfl)
  obtain ⟨x2, hlen2, hx2⟩ : ∃ y : CondV, RdTh W 3 (dCond y) cs2.toList := by
    obtain ⟨fuel, hf⟩ := h2
    exact rdCond fuel _ _ (by simpa [Value.cells] using hf)
  obtain ⟨u2_0, eu2_0, ru2_0, lu2_0⟩ := hx2 0 (by omega)
  obtain rfl : u2_0 = .string ⟨x2.col.toArray⟩ := ru2_0
  obtain ⟨u2_1, eu2_1, ru2_1, lu2_1⟩ := hx2 1 (by omega)
  obtain rfl : u2_1 = .int .i64 x2.fn := ru2_1
  obtain ⟨u2_2, eu2_2, ru2_2, lu2_2⟩ := hx2 2 (by omega)
  replace ru2_2 : Rd W (· < W.heap.size) (dAtomS x2.val) u2_2 := ru2_2
  obtain ⟨a2_2, c2_2, rfl⟩ := ru2_2.lsSlice
  obtain rfl : cs2 = #[.string ⟨x2.col.toArray⟩, .int .i64 x2.fn, .slice a2_2 x2.val.length c2_2] := by
    apply Array.ext'
    apply List.ext_getElem?
    intro j
    by_cases hj : j < 3
    · rcases (by omega : j = 0 ∨ j = 1 ∨ j = 2) with rfl | rfl | rfl
      · simpa using eu2_0
      · simpa using eu2_1
      · simpa using eu2_2
    · rw [List.getElem?_eq_none (by omega), List.getElem?_eq_none (by simp; omega)]
  clear hA0 hV0 hval0
  refine (lawMatches x0 x1 x2 a0_1 c0_1 a0_2 c0_2 a1_1 c1_1 a2_2 c2_2 W lu0_1 lu0_2 lu1_1 lu2_2 lu0_0 lu1_0 lu2_0 lu2_1 ru0_1 ru0_2 ru1_1 ru2_2 hT hlt).mono fun e W' ⟨he, bel⟩ => ?_
  subst he
  obtain ⟨fuel', hd'⟩ := Below.trod laidOut (by kernel_rfl) (of_decide_eq_true (by kernel_rfl)) (v := .agg cs) (⟨fuel, by simpa [Value.cells] using hd⟩ : DataW.Trod enc Tryz.prog W 0 (fun _ => true) true 165 (.agg cs) d p') bel hltv
  have hv' := trodVars_mk1 (enc := enc) (spare := fun b => decide (b < W.heap.size)) hg ht (var?_below bel hg hlt hvar) (by simpa [Value.cells] using hd')
  exact ⟨_, rfl, _, _, _, [], _, (MemPlace.row ⟨0, 0, none⟩ cs.size ++ p'), hW', trodAll_mk1 (shut_bool Tryz.underlying4 _), (trodAll_cons_mk (Below.trod laidOut (by kernel_rfl) (of_decide_eq_true (by kernel_rfl)) k0 bel lt0) (trodAll_cons_mk (Below.trod laidOut (by kernel_rfl) (of_decide_eq_true (by kernel_rfl)) k1 bel lt1) (trodAll_cons_mk (Below.trod laidOut (by kernel_rfl) (of_decide_eq_true (by kernel_rfl)) k2 bel lt2) trodAll_mk0))), hv', bel.frame _, fun h => by cases h⟩
theorem saidFnExactMatches : Rows.FnExactMatchesSaid :=
  OpenClaim.holds_of_wide 3 Tryz.f3 rfl rfl rfl rfl rfl rfl rfl ⟨rfl, rfl, rfl, rfl, rfl⟩ rfl rfl rfl rfl rfl (by kernel_rfl) Tryz.func3 (by kernel_rfl)
    (of_decide_eq_true (by kernel_rfl)) (by unfold Func.isWrapper; first | (rw [if_pos (by decide +kernel)]; kernel_rfl) | (rw [if_neg (by decide +kernel)]; exact ⟨rfl, rfl⟩))
    (fun os started H enc _ => liftedFnExactMatches os started H enc)
theorem plainFnExactMatches (f : FuncId) (fn : Func) (hf : Tryz.pinned.checked.prog.funcNamed "loop.example/g00524/laws.FnExactMatches" = some f) (hfn : Tryz.pinned.checked.prog.funcs[f]? = some fn) :
    false = Tryz.pinned.checked.prog.looks [] ∧ ∀ (j : Nat) t, fn.params[j]? = some t → Tryz.pinned.checked.prog.wantsStandIn t = false := by
  obtain rfl : f = 3 := Option.some.inj ((show Tryz.prog.funcNamed "loop.example/g00524/laws.FnExactMatches" = some 3 by kernel_rfl).symm.trans hf) |>.symm
  obtain rfl : fn = Tryz.f3 := (Option.some.inj (Tryz.func3.symm.trans hfn)).symm
  refine ⟨by kernel_rfl, fun j t ht => ?_⟩
  rw [Tryz.params3] at ht
  rcases (show t = 25 ∨ t = 28 ∨ t = 31 by simpa using Array.mem_of_getElem? ht) with rfl | rfl | rfl
  · exact (show Tryz.prog.wantsStandIn 25 = false by kernel_rfl)
  · exact (show Tryz.prog.wantsStandIn 28 = false by kernel_rfl)
  · exact (show Tryz.prog.wantsStandIn 31 = false by kernel_rfl)
theorem fnExactMatches_card : Rows.FnExactMatchesCardSaid :=
  Claim7.holds_tied_plain_at .later [] _ _ _ _ saidFnExactMatches (fun _ h => by cases h) (by kernel_rfl) (fun _ h => by cases h) fnExactMatches_row_tie rfl ⟨rfl, rfl⟩ (by kernel_rfl) rfl plainFnExactMatches (by kernel_rfl)
#print axioms fnExactMatches_card
end Go.Proofs.YtpjjpdbmooiplaaGreatDoor
