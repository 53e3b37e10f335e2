/- impl.SelectIds answers of every schema, store, table and list of conditions what the specification answers, Ids and code, in memory of its own, and writes into nothing that came in (the table of words as the program text lays it: the card ties it). No condition besides: at every argument, in every world that the row's reading allows. -/
import Derived.Test.YtpjjpdbmooiplaaGreatDoorCards
import Derived.Test.YtpjjpdbmooiplaaGreatDoorTie
import Derived.Test.YtpjjpdbmooiplaaGreatDoorZbw
import Derived.Test.YtpjjpdbmooiplaaGreatDoorZbx
import Derived.Test.YtpjjpdbmooiplaaGreatDoorZby
import Derived.WalkKit
import Derived.ProofKit
import Derived.OpenShut
import Derived.ChangeOld
import Derived.Below
import Derived.ShutString
import Derived.WalkSmall
import Derived.LaidMore
import Derived.Lib.LaidTab
namespace Go.Proofs.YtpjjpdbmooiplaaGreatDoor
open Go.ChangeShapes Go.WideShapes Go.ChangeAt Go.RowKit
theorem own : ownKnob Tryz.prog.godebug = none := by kernel_rfl
theorem laidOut : laidOutB Tryz.prog = true := by kernel_rfl
theorem gW : Tryz.prog.globalNamed "loop.example/g00524/impl.funcWords" = some 0 := by kernel_rfl
theorem gWType : (Tryz.prog.globals[0]?).map (·.type) = some 165 := by kernel_rfl
theorem cellsG : Tryz.prog.cellsOf 165 = 9 := by kernel_rfl
theorem cells9 : Tryz.prog.cellsOf 9 = 1 := by kernel_rfl
theorem cells_of_texts {H : Type} {enc : TypeId × Value → H} {P : Program} {w : World} {base : Nat} {sp : Nat → Bool} {held : Bool} {fuel : Nat} {t e : TypeId} {n : Nat} {cs : List Value} {zs : List (List UInt8)} {p : List MemPlace}
    (ht : P.underlying t = some (.array n e)) (he : P.underlying e = some .string) (hce : P.cellsOf e = 1) (hct : P.cellsOf t = n)
    (h : DataW.trod enc P w base sp held fuel t cs = some (.agg (zs.map fun z => .lit (.string z)), p)) : cs = zs.map fun z => Value.string ⟨z.toArray⟩ := by
  cases fuel with
  | zero => simp [DataW.trod] at h
  | succ fuel =>
    simp only [DataW.trod, ht, hce, hct, Nat.mul_one] at h
    split at h
    · rename_i hl
      obtain ⟨xs, hm, hx⟩ := Option.map_eq_some_iff.1 h
      have hxs : xs.map (·.1) = zs.map fun z => (DataW.lit (.string z) : DataW H) := by
        have := congrArg Prod.fst hx
        simpa using this
      have hxl : xs.length = n := by simpa using Lib.mapM_length hm
      have hzl : zs.length = n := by
        have := congrArg List.length hxs
        simp at this
        omega
      apply List.ext_getElem?
      intro i
      by_cases hi : i < n
      · obtain ⟨b, hb, hf⟩ := Lib.mapM_at hm i i (by simp [hi])
        obtain ⟨s, hc, rfl, _⟩ := DataW.trod_string he hf
        have h1 : cs[i]? = some (.string s) := by
          have := congrArg (·[0]?) hc
          simpa [List.getElem?_take, List.getElem?_drop] using this
        have h2 : (xs.map (·.1))[i]? = some (DataW.lit (.string s.data.toList) : DataW H) := by simp [hb]
        rw [hxs] at h2
        simp only [List.getElem?_map, Option.map_eq_some_iff, DataW.lit.injEq, Lit.string.injEq] at h2
        obtain ⟨z', hz', rfl⟩ := h2
        simp [h1, hz']
      · rw [List.getElem?_eq_none (by omega), List.getElem?_eq_none (by simp; omega)]
    · cases h
theorem tab_ofD {W : World} (h : laidMetH Tryz.prog [("loop.example/g00524/impl.funcWords", Rows.laid_loop_example_g00524_impl_funcWords)] W) : TabW W ∧ 0 < W.heap.size := by
  rw [MakeChecks.laidMetH_plain _ _ _ (by kernel_rfl)] at h
  obtain ⟨ps, ⟨g, t, cs, f, p, q, hg, ht, hv, hd, _⟩, _⟩ := h
  obtain rfl := Option.some.inj (gW.symm.trans hg)
  obtain rfl := Option.some.inj (gWType.symm.trans ht)
  have hc := cells_of_texts (zs := wordsW) Tryz.underlying165 Tryz.underlying9 cells9 cellsG hd
  have hcell : ∀ k : Nat, W.cell? ⟨0, k, none⟩ = cs[k]? := fun k => World.var?_cell hg hv k
  have hT : TabW W := by
    intro k hk
    rw [hcell k, ← Array.getElem?_toList, hc, List.getElem?_map]
    have hl : k < wordsW.length := hk
    rw [List.getD_eq_getElem?_getD, List.getElem?_eq_getElem hl]; rfl
  exact ⟨hT, World.block_lt_of_cell? _ _ (hT 0 (by decide))⟩
theorem door_met (os : Os) (args : Array Value) : laidMetH Tryz.prog [("loop.example/g00524/impl.funcWords", Rows.laid_loop_example_g00524_impl_funcWords)] ((World.doorLaid Tryz.prog 400 os).forCall (fun _ _ => 0) ⟨#[], args, []⟩).memory :=
  laidMetH_of_parts3 (fuel := 8) (laidMet_of_run' 8 (by kernel_rfl) (by kernel_rfl)) (by kernel_rfl) (by kernel_rfl)
set_option maxRecDepth 100000 in
theorem liftedFnExactSelectIds (os : Os) (started : os.Started) (H : Type) (enc : TypeId × Value → H) :
    ReturnsInHanded {} Tryz.checked os 5 .any (fun w args => (Rows.fnExactSelectIdsSpec.pre enc Tryz.prog Tryz.f5 [] false w args ∧ laidMetH Tryz.prog Rows.fnExactSelectIdsRow.laid w) ∧ sizedMet enc Tryz.prog Tryz.f5 (OpenSpec.ofChange Rows.fnExactSelectIdsSpec) false w args)
      (Rows.fnExactSelectIdsSpec.post enc Tryz.prog Tryz.f5 false true false false) := by
  refine returnsInHanded_of_change_and (C := Tryz.checked) (X := fun w _ => laidMetH Tryz.prog Rows.fnExactSelectIdsRow.laid w) (fun _ _ _ hh h => h.of_heap hh) own started (by kernel_rfl) Tryz.func5
    (ChangeSpec.witness_shaped (enc := enc) (C := Tryz.checked) (os := os) (X := fun w _ => laidMetH Tryz.prog Rows.fnExactSelectIdsRow.laid w) false (World.doorLaid Tryz.prog 400 os) #[.agg #[.slice none 0 0], .agg #[.slice none 0 0, .int .i64 0], .int .i64 0, .slice none 0 0] 8 rfl (World.shaped_of_RefB (by kernel_rfl) (by kernel_rfl)) (by kernel_rfl) (by kernel_rfl) (by kernel_rfl) (door_met os _)) ?_
  intro W base args ds gs before hval0 hW _ _ hL _
  have hval : ∀ (j : Nat) t v, Tryz.f5.params[j]? = some t → args[j]? = some v → Value.okWide Tryz.prog W .any base t v := hval0
  have hW' := hW
  obtain ⟨p, q, hA0, hV0, rfl, hfz, hnd⟩ := hW
  have hV : DataW.TrodVars enc Tryz.prog W (fun _ => true) ["loop.example/g00524/impl.funcWords"] gs q := hV0
  have hA : DataW.TrodAll enc Tryz.prog W 0 (fun _ => true) true Tryz.f5.params.toList args.toList ds p := hA0
  rw [Tryz.params5] at hA hval
  obtain ⟨v0, vs0, d0, ds0, p0, q0, hargs, rfl, rfl, h0, r0⟩ := trodAll_cons hA
  obtain ⟨v1, vs1, d1, ds1, p1, q1, rfl, rfl, rfl, h1, r1⟩ := trodAll_cons r0
  obtain ⟨v2, vs2, d2, ds2, p2, q2, rfl, rfl, rfl, h2, r2⟩ := trodAll_cons r1
  obtain ⟨v3, vs3, d3, ds3, p3, q3, rfl, rfl, rfl, h3, r3⟩ := trodAll_cons r2
  obtain ⟨rfl, rfl, rfl⟩ := trodAll_nil r3
  obtain rfl : args = #[v0, v1, v2, v3] := by cases args; simp_all
  obtain ⟨g, t, cs, fuel, d, p', rfl, hg, ht, hvar, hd, rfl⟩ := trodVars_one hV
  obtain rfl := Option.some.inj (gW.symm.trans hg)
  obtain rfl := Option.some.inj (gWType.symm.trans ht)
  obtain ⟨hT, hlt⟩ := tab_ofD hL
  have hltv : ∀ x ∈ p', x.block < W.heap.size := fun x hx => hW'.lt x (List.mem_append_right _ (List.mem_append_right _ hx))
  have k0 := h0
  have lt0 : ∀ x ∈ p0, x.block < W.heap.size := by obtain ⟨m, hm⟩ := k0; exact DataW.trod_lt m _ _ _ hm
  obtain ⟨cs0, rfl, -⟩ := okWide_struct Tryz.underlying62 (hval 0 62 v0 rfl rfl)
  obtain ⟨x0, hlen0, hx0⟩ : ∃ y : ScV, RdTh W 1 (dSchema y) cs0.toList := by
    obtain ⟨fuel, hf⟩ := h0
    exact rdSchema fuel _ _ (by simpa [Value.cells] using hf)
  obtain ⟨u0_0, eu0_0, ru0_0, lu0_0⟩ := hx0 0 (by omega)
  replace ru0_0 : Rd W (· < W.heap.size) (dTableS x0.tables) u0_0 := ru0_0
  obtain ⟨a0_0, c0_0, rfl⟩ := ru0_0.lsSlice
  obtain rfl : cs0 = #[.slice a0_0 x0.tables.length c0_0] := by
    apply Array.ext'
    apply List.ext_getElem?
    intro j
    by_cases hj : j < 1
    · obtain rfl : j = 0 := by omega
      simpa using eu0_0
    · rw [List.getElem?_eq_none (by omega), List.getElem?_eq_none (by simp; omega)]
  have k1 := h1
  have lt1 : ∀ x ∈ p1, x.block < W.heap.size := by obtain ⟨m, hm⟩ := k1; exact DataW.trod_lt m _ _ _ hm
  obtain ⟨cs1, rfl, -⟩ := okWide_struct Tryz.underlying65 (hval 1 65 v1 rfl rfl)
  obtain ⟨x1, hlen1, hx1⟩ : ∃ y : StV, RdTh W 2 (dStore y) cs1.toList := by
    obtain ⟨fuel, hf⟩ := h1
    exact rdStore fuel _ _ (by simpa [Value.cells] using hf)
  obtain ⟨u1_0, eu1_0, ru1_0, lu1_0⟩ := hx1 0 (by omega)
  replace ru1_0 : Rd W (· < W.heap.size) (dRowSS x1.tables) u1_0 := ru1_0
  obtain ⟨a1_0, c1_0, rfl⟩ := ru1_0.lsSlice
  obtain ⟨u1_1, eu1_1, ru1_1, lu1_1⟩ := hx1 1 (by omega)
  obtain rfl : u1_1 = .int .i64 x1.next := ru1_1
  obtain rfl : cs1 = #[.slice a1_0 x1.tables.length c1_0, .int .i64 x1.next] := by
    apply Array.ext'
    apply List.ext_getElem?
    intro j
    by_cases hj : j < 2
    · rcases (by omega : j = 0 ∨ j = 1) with rfl | rfl
      · simpa using eu1_0
      · simpa using eu1_1
    · rw [List.getElem?_eq_none (by omega), List.getElem?_eq_none (by simp; omega)]
  have k2 := h2
  have lt2 : ∀ x ∈ p2, x.block < W.heap.size := by obtain ⟨m, hm⟩ := k2; exact DataW.trod_lt m _ _ _ hm
  obtain ⟨x2, rfl⟩ := okWide_int Tryz.underlying3 (hval 2 3 v2 rfl rfl)
  have hx2 : iOK x2 := by
    obtain ⟨fuel, hf⟩ := h2
    obtain ⟨n, e, -, hw⟩ := DataW.trod_int Tryz.underlying3 hf
    obtain rfl : x2 = n := by simpa [Value.cells] using e
    exact hw
  have k3 := h3
  have lt3 : ∀ x ∈ p3, x.block < W.heap.size := by obtain ⟨m, hm⟩ := k3; exact DataW.trod_lt m _ _ _ hm
  obtain ⟨pa3, la3, ca3, rfl⟩ := okWide_slice Tryz.underlying53 (hval 3 53 v3 rfl rfl)
  obtain ⟨x3, ex3, lx3, rx3⟩ : ∃ l : List CondV, la3 = l.length ∧ (dCondS l).le maxLen ∧ Rd W (· < W.heap.size) (dCondS l) (.slice pa3 l.length ca3) := by
    obtain ⟨fuel, hf⟩ := h3
    obtain ⟨l, a', c', e, h1, h2⟩ := rdCondS (cs := [.slice pa3 la3 ca3]) (by simpa [Value.cells] using hf)
    simp only [List.cons.injEq, and_true, Value.slice.injEq] at e
    obtain ⟨rfl, rfl, rfl⟩ := e
    exact ⟨l, rfl, h1, h2⟩
  subst ex3
  clear hA0 hV0 hval0
  refine (lawSelectIds x0 x1 x2 x3 a0_0 c0_0 a1_0 c1_0 pa3 ca3 W lu0_0 lu1_0 lx3 lu1_1 hx2 ru0_0 ru1_0 rx3 hT hlt).mono fun e W' ⟨he, bel⟩ => ?_
  subst he
  obtain ⟨fuel', hd'⟩ := Below.trod laidOut (by kernel_rfl) (of_decide_eq_true (by kernel_rfl)) (v := .agg cs) (⟨fuel, by simpa [Value.cells] using hd⟩ : DataW.Trod enc Tryz.prog W 0 (fun _ => true) true 165 (.agg cs) d p') bel hltv
  have hv' := trodVars_mk1 (enc := enc) (spare := fun b => decide (b < W.heap.size)) hg ht (var?_below bel hg hlt hvar) (by simpa [Value.cells] using hd')
  exact ⟨_, rfl, _, _, _, [], _, (MemPlace.row ⟨0, 0, none⟩ cs.size ++ p'), hW', trodAll_mk1 (shut_bool Tryz.underlying4 _), (trodAll_cons_mk (Below.trod laidOut (by kernel_rfl) (of_decide_eq_true (by kernel_rfl)) k0 bel lt0) (trodAll_cons_mk (Below.trod laidOut (by kernel_rfl) (of_decide_eq_true (by kernel_rfl)) k1 bel lt1) (trodAll_cons_mk (Below.trod laidOut (by kernel_rfl) (of_decide_eq_true (by kernel_rfl)) k2 bel lt2) (trodAll_cons_mk (Below.trod laidOut (by kernel_rfl) (of_decide_eq_true (by kernel_rfl)) k3 bel lt3) trodAll_mk0)))), hv', bel.frame _, fun h => by cases h⟩
theorem saidFnExactSelectIds : Rows.FnExactSelectIdsSaid :=
  OpenClaim.holds_of_wide 5 Tryz.f5 rfl rfl rfl rfl rfl rfl rfl ⟨rfl, rfl, rfl, rfl, rfl⟩ rfl rfl rfl rfl rfl (by kernel_rfl) Tryz.func5 (by kernel_rfl)
    (of_decide_eq_true (by kernel_rfl)) (by unfold Func.isWrapper; first | (rw [if_pos (by decide +kernel)]; kernel_rfl) | (rw [if_neg (by decide +kernel)]; exact ⟨rfl, rfl⟩))
    (fun os started H enc _ => liftedFnExactSelectIds os started H enc)
theorem plainFnExactSelectIds (f : FuncId) (fn : Func) (hf : Tryz.pinned.checked.prog.funcNamed "loop.example/g00524/laws.FnExactSelectIds" = some f) (hfn : Tryz.pinned.checked.prog.funcs[f]? = some fn) :
    false = Tryz.pinned.checked.prog.looks [] ∧ ∀ (j : Nat) t, fn.params[j]? = some t → Tryz.pinned.checked.prog.wantsStandIn t = false := by
  obtain rfl : f = 5 := Option.some.inj ((show Tryz.prog.funcNamed "loop.example/g00524/laws.FnExactSelectIds" = some 5 by kernel_rfl).symm.trans hf) |>.symm
  obtain rfl : fn = Tryz.f5 := (Option.some.inj (Tryz.func5.symm.trans hfn)).symm
  refine ⟨by kernel_rfl, fun j t ht => ?_⟩
  rw [Tryz.params5] at ht
  rcases (show t = 62 ∨ t = 65 ∨ t = 3 ∨ t = 53 by simpa using Array.mem_of_getElem? ht) with rfl | rfl | rfl | rfl
  · exact (show Tryz.prog.wantsStandIn 62 = false by kernel_rfl)
  · exact (show Tryz.prog.wantsStandIn 65 = false by kernel_rfl)
  · exact (show Tryz.prog.wantsStandIn 3 = false by kernel_rfl)
  · exact (show Tryz.prog.wantsStandIn 53 = false by kernel_rfl)
theorem fnExactSelectIds_card : Rows.FnExactSelectIdsCardSaid :=
  Claim7.holds_tied_plain_at .later [] _ _ _ _ saidFnExactSelectIds (fun _ h => by cases h) (by kernel_rfl) (fun _ h => by cases h) fnExactSelectIds_row_tie rfl ⟨rfl, rfl⟩ (by kernel_rfl) rfl plainFnExactSelectIds (by kernel_rfl)
#print axioms fnExactSelectIds_card
end Go.Proofs.YtpjjpdbmooiplaaGreatDoor
