/- impl.Snapshot answers of every schema, store and monitor what the specification answers, rows and code, in memory of its own, and writes into nothing that came in (the table of words as the program text lays it: the card ties it). No condition besides: at every argument, in every world that the row's reading allows. -/
import Derived.Test.YtlddhbamcndggaaGreatDoorCards
import Derived.Test.YtlddhbamcndggaaGreatDoorTie
import Derived.Test.YtlddhbamcndggaaGreatDoorZbw
import Derived.Test.YtlddhbamcndggaaGreatDoorZbx
import Derived.WalkKit
import Derived.ProofKit
import Derived.OpenShut
import Derived.ChangeOld
import Derived.Below
import Derived.ShutString
import Derived.WalkSmall
import Derived.LaidMore
import Derived.Lib.LaidTab
namespace Go.Proofs.YtlddhbamcndggaaGreatDoor
open Go.ChangeShapes Go.WideShapes Go.ChangeAt Go.RowKit
theorem own : ownKnob Tryz.prog.godebug = none := by kernel_rfl
theorem laidOut : laidOutB Tryz.prog = true := by kernel_rfl
theorem gW : Tryz.prog.globalNamed "loop.example/g00524/impl.funcWords" = some 0 := by kernel_rfl
theorem gWType : (Tryz.prog.globals[0]?).map (·.type) = some 194 := by kernel_rfl
theorem cellsG : Tryz.prog.cellsOf 194 = 9 := by kernel_rfl
theorem cells9 : Tryz.prog.cellsOf 9 = 1 := by kernel_rfl
theorem cells_of_texts {H : Type} {enc : TypeId × Value → H} {P : Program} {w : World} {base : Nat} {sp : Nat → Bool} {held : Bool} {fuel : Nat} {t e : TypeId} {n : Nat} {cs : List Value} {zs : List (List UInt8)} {p : List MemPlace}
    (ht : P.underlying t = some (.array n e)) (he : P.underlying e = some .string) (hce : P.cellsOf e = 1) (hct : P.cellsOf t = n)
    (h : DataW.trod enc P w base sp held fuel t cs = some (.agg (zs.map fun z => .lit (.string z)), p)) : cs = zs.map fun z => Value.string ⟨z.toArray⟩ := by
  cases fuel with
  | zero => simp [DataW.trod] at h
  | succ fuel =>
    simp only [DataW.trod, ht, hce, hct, Nat.mul_one] at h
    split at h
    · rename_i hl
      obtain ⟨xs, hm, hx⟩ := Option.map_eq_some_iff.1 h
      have hxs : xs.map (·.1) = zs.map fun z => (DataW.lit (.string z) : DataW H) := by
        have := congrArg Prod.fst hx
        simpa using this
      have hxl : xs.length = n := by simpa using Lib.mapM_length hm
      have hzl : zs.length = n := by
        have := congrArg List.length hxs
        simp at this
        omega
      apply List.ext_getElem?
      intro i
      by_cases hi : i < n
      · obtain ⟨b, hb, hf⟩ := Lib.mapM_at hm i i (by simp [hi])
        obtain ⟨s, hc, rfl, _⟩ := DataW.trod_string he hf
        have h1 : cs[i]? = some (.string s) := by
          have := congrArg (·[0]?) hc
          simpa [List.getElem?_take, List.getElem?_drop] using this
        have h2 : (xs.map (·.1))[i]? = some (DataW.lit (.string s.data.toList) : DataW H) := by simp [hb]
        rw [hxs] at h2
        simp only [List.getElem?_map, Option.map_eq_some_iff, DataW.lit.injEq, Lit.string.injEq] at h2
        obtain ⟨z', hz', rfl⟩ := h2
        simp [h1, hz']
      · rw [List.getElem?_eq_none (by omega), List.getElem?_eq_none (by simp; omega)]
    · cases h
theorem tab_ofD {W : World} (h : laidMetH Tryz.prog [("loop.example/g00524/impl.funcWords", Rows.laid_loop_example_g00524_impl_funcWords)] W) : TabW W ∧ 0 < W.heap.size := by
  rw [MakeChecks.laidMetH_plain _ _ _ (by kernel_rfl)] at h
  obtain ⟨ps, ⟨g, t, cs, f, p, q, hg, ht, hv, hd, _⟩, _⟩ := h
  obtain rfl := Option.some.inj (gW.symm.trans hg)
  obtain rfl := Option.some.inj (gWType.symm.trans ht)
  have hc := cells_of_texts (zs := wordsW) Tryz.underlying194 Tryz.underlying9 cells9 cellsG hd
  have hcell : ∀ k : Nat, W.cell? ⟨0, k, none⟩ = cs[k]? := fun k => World.var?_cell hg hv k
  have hT : TabW W := by
    intro k hk
    rw [hcell k, ← Array.getElem?_toList, hc, List.getElem?_map]
    have hl : k < wordsW.length := hk
    rw [List.getD_eq_getElem?_getD, List.getElem?_eq_getElem hl]; rfl
  exact ⟨hT, World.block_lt_of_cell? _ _ (hT 0 (by decide))⟩
theorem door_met (os : Os) (args : Array Value) : laidMetH Tryz.prog [("loop.example/g00524/impl.funcWords", Rows.laid_loop_example_g00524_impl_funcWords)] ((World.doorLaid Tryz.prog 400 os).forCall (fun _ _ => 0) ⟨#[], args, []⟩).memory :=
  laidMetH_of_parts3 (fuel := 8) (laidMet_of_run' 8 (by kernel_rfl) (by kernel_rfl)) (by kernel_rfl) (by kernel_rfl)
set_option maxRecDepth 100000 in
theorem liftedFnExactSnapshot (os : Os) (started : os.Started) (H : Type) (enc : TypeId × Value → H) :
    ReturnsInHanded {} Tryz.checked os 3 .any (fun w args => (Rows.fnExactSnapshotSpec.pre enc Tryz.prog Tryz.f3 [] false w args ∧ laidMetH Tryz.prog Rows.fnExactSnapshotRow.laid w) ∧ sizedMet enc Tryz.prog Tryz.f3 (OpenSpec.ofChange Rows.fnExactSnapshotSpec) false w args)
      (Rows.fnExactSnapshotSpec.post enc Tryz.prog Tryz.f3 false true false false) := by
  refine returnsInHanded_of_change_and (C := Tryz.checked) (X := fun w _ => laidMetH Tryz.prog Rows.fnExactSnapshotRow.laid w) (fun _ _ _ hh h => h.of_heap hh) own started (by kernel_rfl) Tryz.func3
    (ChangeSpec.witness_shaped (enc := enc) (C := Tryz.checked) (os := os) (X := fun w _ => laidMetH Tryz.prog Rows.fnExactSnapshotRow.laid w) false (World.doorLaid Tryz.prog 400 os) #[.agg #[.slice none 0 0], .agg #[.slice none 0 0, .int .i64 0], .agg #[.string ByteArray.empty, .string ByteArray.empty, .slice none 0 0, .bool false, .bool false, .bool false, .bool false, .slice none 0 0]] 8 rfl (World.shaped_of_RefB (by kernel_rfl) (by kernel_rfl)) (by kernel_rfl) (by kernel_rfl) (by kernel_rfl) (door_met os _)) ?_
  intro W base args ds gs before hval0 hW _ _ hL _
  have hval : ∀ (j : Nat) t v, Tryz.f3.params[j]? = some t → args[j]? = some v → Value.okWide Tryz.prog W .any base t v := hval0
  have hW' := hW
  obtain ⟨p, q, hA0, hV0, rfl, hfz, hnd⟩ := hW
  have hV : DataW.TrodVars enc Tryz.prog W (fun _ => true) ["loop.example/g00524/impl.funcWords"] gs q := hV0
  have hA : DataW.TrodAll enc Tryz.prog W 0 (fun _ => true) true Tryz.f3.params.toList args.toList ds p := hA0
  rw [Tryz.params3] at hA hval
  obtain ⟨v0, vs0, d0, ds0, p0, q0, hargs, rfl, rfl, h0, r0⟩ := trodAll_cons hA
  obtain ⟨v1, vs1, d1, ds1, p1, q1, rfl, rfl, rfl, h1, r1⟩ := trodAll_cons r0
  obtain ⟨v2, vs2, d2, ds2, p2, q2, rfl, rfl, rfl, h2, r2⟩ := trodAll_cons r1
  obtain ⟨rfl, rfl, rfl⟩ := trodAll_nil r2
  obtain rfl : args = #[v0, v1, v2] := by cases args; simp_all
  obtain ⟨g, t, cs, fuel, d, p', rfl, hg, ht, hvar, hd, rfl⟩ := trodVars_one hV
  obtain rfl := Option.some.inj (gW.symm.trans hg)
  obtain rfl := Option.some.inj (gWType.symm.trans ht)
  obtain ⟨hT, hlt⟩ := tab_ofD hL
  have hltv : ∀ x ∈ p', x.block < W.heap.size := fun x hx => hW'.lt x (List.mem_append_right _ (List.mem_append_right _ hx))
  have k0 := h0
  have lt0 : ∀ x ∈ p0, x.block < W.heap.size := by obtain ⟨m, hm⟩ := k0; exact DataW.trod_lt m _ _ _ hm
  obtain ⟨cs0, rfl, -⟩ := okWide_struct Tryz.underlying24 (hval 0 24 v0 rfl rfl)
  obtain ⟨x0, hlen0, hx0⟩ : ∃ y : ScV, RdTh W 1 (dSchema y) cs0.toList := by
    obtain ⟨fuel, hf⟩ := h0
    exact rdSchema fuel _ _ (by simpa [Value.cells] using hf)
  obtain ⟨u0_0, eu0_0, ru0_0, lu0_0⟩ := hx0 0 (by omega)
  replace ru0_0 : Rd W (· < W.heap.size) (dTableS x0.tables) u0_0 := ru0_0
  obtain ⟨a0_0, c0_0, rfl⟩ := ru0_0.lsSlice
  obtain rfl : cs0 = #[.slice a0_0 x0.tables.length c0_0] := by
    apply Array.ext'
    apply List.ext_getElem?
    intro j
    by_cases hj : j < 1
    · obtain rfl : j = 0 := by omega
      simpa using eu0_0
    · rw [List.getElem?_eq_none (by omega), List.getElem?_eq_none (by simp; omega)]
  have k1 := h1
  have lt1 : ∀ x ∈ p1, x.block < W.heap.size := by obtain ⟨m, hm⟩ := k1; exact DataW.trod_lt m _ _ _ hm
  obtain ⟨cs1, rfl, -⟩ := okWide_struct Tryz.underlying27 (hval 1 27 v1 rfl rfl)
  obtain ⟨x1, hlen1, hx1⟩ : ∃ y : StV, RdTh W 2 (dStore y) cs1.toList := by
    obtain ⟨fuel, hf⟩ := h1
    exact rdStore fuel _ _ (by simpa [Value.cells] using hf)
  obtain ⟨u1_0, eu1_0, ru1_0, lu1_0⟩ := hx1 0 (by omega)
  replace ru1_0 : Rd W (· < W.heap.size) (dRowSS x1.tables) u1_0 := ru1_0
  obtain ⟨a1_0, c1_0, rfl⟩ := ru1_0.lsSlice
  obtain ⟨u1_1, eu1_1, ru1_1, lu1_1⟩ := hx1 1 (by omega)
  obtain rfl : u1_1 = .int .i64 x1.next := ru1_1
  obtain rfl : cs1 = #[.slice a1_0 x1.tables.length c1_0, .int .i64 x1.next] := by
    apply Array.ext'
    apply List.ext_getElem?
    intro j
    by_cases hj : j < 2
    · rcases (by omega : j = 0 ∨ j = 1) with rfl | rfl
      · simpa using eu1_0
      · simpa using eu1_1
    · rw [List.getElem?_eq_none (by omega), List.getElem?_eq_none (by simp; omega)]
  have k2 := h2
  have lt2 : ∀ x ∈ p2, x.block < W.heap.size := by obtain ⟨m, hm⟩ := k2; exact DataW.trod_lt m _ _ _ hm
  obtain ⟨cs2, rfl, -⟩ := okWide_struct Tryz.underlying31 (hval 2 31 v2 rfl rfl)
  obtain ⟨x2, hlen2, hx2⟩ : ∃ y : MoV, RdTh W 8 (dMonitor y) cs2.toList := by
    obtain ⟨fuel, hf⟩ := h2
    exact rdMonitor fuel _ _ (by simpa [Value.cells] using hf)
  obtain ⟨u2_0, eu2_0, ru2_0, lu2_0⟩ := hx2 0 (by omega)
  obtain rfl : u2_0 = .string ⟨x2.nm.toArray⟩ := ru2_0
  obtain ⟨u2_1, eu2_1, ru2_1, lu2_1⟩ := hx2 1 (by omega)
  obtain rfl : u2_1 = .string ⟨x2.tb.toArray⟩ := ru2_1
  obtain ⟨u2_2, eu2_2, ru2_2, lu2_2⟩ := hx2 2 (by omega)
  replace ru2_2 : Rd W (· < W.heap.size) (dStringS x2.cs) u2_2 := ru2_2
  obtain ⟨a2_2, c2_2, rfl⟩ := ru2_2.lsSlice
  obtain ⟨u2_3, eu2_3, ru2_3, lu2_3⟩ := hx2 3 (by omega)
  obtain rfl : u2_3 = .bool x2.ini := ru2_3
  obtain ⟨u2_4, eu2_4, ru2_4, lu2_4⟩ := hx2 4 (by omega)
  obtain rfl : u2_4 = .bool x2.ins := ru2_4
  obtain ⟨u2_5, eu2_5, ru2_5, lu2_5⟩ := hx2 5 (by omega)
  obtain rfl : u2_5 = .bool x2.del := ru2_5
  obtain ⟨u2_6, eu2_6, ru2_6, lu2_6⟩ := hx2 6 (by omega)
  obtain rfl : u2_6 = .bool x2.mod := ru2_6
  obtain ⟨u2_7, eu2_7, ru2_7, lu2_7⟩ := hx2 7 (by omega)
  replace ru2_7 : Rd W (· < W.heap.size) (dCondS x2.wh) u2_7 := ru2_7
  obtain ⟨a2_7, c2_7, rfl⟩ := ru2_7.lsSlice
  obtain rfl : cs2 = #[.string ⟨x2.nm.toArray⟩, .string ⟨x2.tb.toArray⟩, .slice a2_2 x2.cs.length c2_2, .bool x2.ini, .bool x2.ins, .bool x2.del, .bool x2.mod, .slice a2_7 x2.wh.length c2_7] := by
    apply Array.ext'
    apply List.ext_getElem?
    intro j
    by_cases hj : j < 8
    · rcases (by omega : j = 0 ∨ j = 1 ∨ j = 2 ∨ j = 3 ∨ j = 4 ∨ j = 5 ∨ j = 6 ∨ j = 7) with rfl | rfl | rfl | rfl | rfl | rfl | rfl | rfl
      · simpa using eu2_0
      · simpa using eu2_1
      · simpa using eu2_2
      · simpa using eu2_3
      · simpa using eu2_4
      · simpa using eu2_5
      · simpa using eu2_6
      · simpa using eu2_7
    · rw [List.getElem?_eq_none (by omega), List.getElem?_eq_none (by simp; omega)]
  clear hA0 hV0 hval0
  refine (lawSnapshot x0 x1 x2 a0_0 c0_0 a1_0 c1_0 a2_2 c2_2 a2_7 c2_7 W lu0_0 lu1_0 lu2_2 lu2_7 lu1_1 lu2_0 lu2_1 ru0_0 ru1_0 ru2_2 ru2_7 hT hlt).mono fun e W' ⟨he, bel⟩ => ?_
  subst he
  obtain ⟨fuel', hd'⟩ := Below.trod laidOut (by kernel_rfl) (of_decide_eq_true (by kernel_rfl)) (v := .agg cs) (⟨fuel, by simpa [Value.cells] using hd⟩ : DataW.Trod enc Tryz.prog W 0 (fun _ => true) true 194 (.agg cs) d p') bel hltv
  have hv' := trodVars_mk1 (enc := enc) (spare := fun b => decide (b < W.heap.size)) hg ht (var?_below bel hg hlt hvar) (by simpa [Value.cells] using hd')
  exact ⟨_, rfl, _, _, _, [], _, (MemPlace.row ⟨0, 0, none⟩ cs.size ++ p'), hW', trodAll_mk1 (shut_bool Tryz.underlying4 _), (trodAll_cons_mk (Below.trod laidOut (by kernel_rfl) (of_decide_eq_true (by kernel_rfl)) k0 bel lt0) (trodAll_cons_mk (Below.trod laidOut (by kernel_rfl) (of_decide_eq_true (by kernel_rfl)) k1 bel lt1) (trodAll_cons_mk (Below.trod laidOut (by kernel_rfl) (of_decide_eq_true (by kernel_rfl)) k2 bel lt2) trodAll_mk0))), hv', bel.frame _, fun h => by cases h⟩
theorem saidFnExactSnapshot : Rows.FnExactSnapshotSaid :=
  OpenClaim.holds_of_wide 3 Tryz.f3 rfl rfl rfl rfl rfl rfl rfl ⟨rfl, rfl, rfl, rfl, rfl⟩ rfl rfl rfl rfl rfl (by kernel_rfl) Tryz.func3 (by kernel_rfl)
    (of_decide_eq_true (by kernel_rfl)) (by unfold Func.isWrapper; first | (rw [if_pos (by decide +kernel)]; kernel_rfl) | (rw [if_neg (by decide +kernel)]; exact ⟨rfl, rfl⟩))
    (fun os started H enc _ => liftedFnExactSnapshot os started H enc)
theorem plainFnExactSnapshot (f : FuncId) (fn : Func) (hf : Tryz.pinned.checked.prog.funcNamed "loop.example/g00524/laws.FnExactSnapshot" = some f) (hfn : Tryz.pinned.checked.prog.funcs[f]? = some fn) :
    false = Tryz.pinned.checked.prog.looks [] ∧ ∀ (j : Nat) t, fn.params[j]? = some t → Tryz.pinned.checked.prog.wantsStandIn t = false := by
  obtain rfl : f = 3 := Option.some.inj ((show Tryz.prog.funcNamed "loop.example/g00524/laws.FnExactSnapshot" = some 3 by kernel_rfl).symm.trans hf) |>.symm
  obtain rfl : fn = Tryz.f3 := (Option.some.inj (Tryz.func3.symm.trans hfn)).symm
  refine ⟨by kernel_rfl, fun j t ht => ?_⟩
  rw [Tryz.params3] at ht
  rcases (show t = 24 ∨ t = 27 ∨ t = 31 by simpa using Array.mem_of_getElem? ht) with rfl | rfl | rfl
  · exact (show Tryz.prog.wantsStandIn 24 = false by kernel_rfl)
  · exact (show Tryz.prog.wantsStandIn 27 = false by kernel_rfl)
  · exact (show Tryz.prog.wantsStandIn 31 = false by kernel_rfl)
theorem fnExactSnapshot_card : Rows.FnExactSnapshotCardSaid :=
  Claim7.holds_tied_plain_at .later [] _ _ _ _ saidFnExactSnapshot (fun _ h => by cases h) (by kernel_rfl) (fun _ h => by cases h) fnExactSnapshot_row_tie rfl ⟨rfl, rfl⟩ (by kernel_rfl) rfl plainFnExactSnapshot (by kernel_rfl)
#print axioms fnExactSnapshot_card
end Go.Proofs.YtlddhbamcndggaaGreatDoor
