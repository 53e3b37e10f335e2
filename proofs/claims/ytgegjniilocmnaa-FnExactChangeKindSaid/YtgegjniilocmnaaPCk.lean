/- impl.ChangeKind answers of every change what the specification answers, kind and code, and writes into nothing that came in. No condition besides: at every argument, in every world that the row's reading allows. -/
import Derived.Test.YtgegjniilocmnaaRows
import Derived.Test.YtgegjniilocmnaaLCk
import Derived.Test.YtgegjniilocmnaaDChR
import Derived.WalkKit
import Derived.ProofKit
import Derived.OpenShut
import Derived.ChangeOld
import Derived.Below
namespace Go.Proofs.Ytgegjniilocmnaa
open Go.ChangeShapes Go.WideShapes Go.ChangeAt Go.RowKit
theorem own : ownKnob Try.prog.godebug = none := by kernel_rfl
theorem laidOut : laidOutB Try.prog = true := by kernel_rfl
set_option maxRecDepth 100000 in
theorem liftedFnExactChangeKind (os : Os) (started : os.Started) (H : Type) (enc : TypeId × Value → H) :
    ReturnsInHanded {} Try.checked os 3 .any (Rows.fnExactChangeKindSpec.pre6 enc Try.prog Try.f3 Rows.fnExactChangeKindRow.domain false) (Rows.fnExactChangeKindSpec.post enc Try.prog Try.f3 false true false false) := by
  refine returnsInHanded_of_change (C := Try.checked) own started (by kernel_rfl) Try.func3
    (ChangeSpec.witness6 (enc := enc) (C := Try.checked) false ⟨#[], #[.agg #[.int .i64 0, .int .i64 0, .int .i64 0, .slice none 0 0, .int .i64 0, .slice none 0 0]], []⟩ 8 (by kernel_rfl) (by kernel_rfl) (by kernel_rfl) (by kernel_rfl)) ?_
  intro W base args ds gs before hval0 hW hcnd _
  have hval : ∀ (j : Nat) t v, Try.f3.params[j]? = some t → args[j]? = some v → Value.okWide Try.prog W .any base t v := hval0
  have hW' := hW
  obtain ⟨p, q, hA0, hV, rfl, hfz, hnd⟩ := hW
  have hA : DataW.TrodAll enc Try.prog W 0 (fun _ => true) true Try.f3.params.toList args.toList ds p := hA0
  rw [Try.params3] at hA hval
  obtain ⟨v0, vs0, d0, ds0, p0, q0, hargs, rfl, rfl, h0, r0⟩ := trodAll_cons hA
  obtain ⟨rfl, rfl, rfl⟩ := trodAll_nil r0
  obtain rfl : args = #[v0] := by cases args; simp_all
  obtain ⟨rfl, rfl⟩ := trodVars_none hV
  have k0 := h0
  have lt0 : ∀ x ∈ p0, x.block < W.heap.size := by obtain ⟨m, hm⟩ := k0; exact DataW.trod_lt m _ _ _ hm
  obtain ⟨cs0, rfl, -⟩ := okWide_struct Try.underlying26 (hval 0 26 v0 rfl rfl)
  obtain ⟨x0, hlen0, hx0⟩ : ∃ y : ChV, RdTh W 6 (dChange y) cs0.toList := by
    obtain ⟨fuel, hf⟩ := h0
    exact rdChange fuel _ _ (by simpa [Value.cells] using hf)
  obtain ⟨u0_0, eu0_0, ru0_0, lu0_0⟩ := hx0 0 (by omega)
  obtain rfl : u0_0 = .int .i64 x0.tab := ru0_0
  obtain ⟨u0_1, eu0_1, ru0_1, lu0_1⟩ := hx0 1 (by omega)
  obtain rfl : u0_1 = .int .i64 x0.cid := ru0_1
  obtain ⟨u0_2, eu0_2, ru0_2, lu0_2⟩ := hx0 2 (by omega)
  obtain rfl : u0_2 = .int .i64 x0.oid := ru0_2
  obtain ⟨u0_3, eu0_3, ru0_3, lu0_3⟩ := hx0 3 (by omega)
  replace ru0_3 : Rd W (· < W.heap.size) (dAtomSS x0.ocs) u0_3 := ru0_3
  obtain ⟨a0_3, c0_3, rfl⟩ := ru0_3.lsSlice
  obtain ⟨u0_4, eu0_4, ru0_4, lu0_4⟩ := hx0 4 (by omega)
  obtain rfl : u0_4 = .int .i64 x0.nid := ru0_4
  obtain ⟨u0_5, eu0_5, ru0_5, lu0_5⟩ := hx0 5 (by omega)
  replace ru0_5 : Rd W (· < W.heap.size) (dAtomSS x0.ncs) u0_5 := ru0_5
  obtain ⟨a0_5, c0_5, rfl⟩ := ru0_5.lsSlice
  obtain rfl : cs0 = #[.int .i64 x0.tab, .int .i64 x0.cid, .int .i64 x0.oid, .slice a0_3 x0.ocs.length c0_3, .int .i64 x0.nid, .slice a0_5 x0.ncs.length c0_5] := by
    apply Array.ext'
    apply List.ext_getElem?
    intro j
    by_cases hj : j < 6
    · rcases (by omega : j = 0 ∨ j = 1 ∨ j = 2 ∨ j = 3 ∨ j = 4 ∨ j = 5) with rfl | rfl | rfl | rfl | rfl | rfl
      · simpa using eu0_0
      · simpa using eu0_1
      · simpa using eu0_2
      · simpa using eu0_3
      · simpa using eu0_4
      · simpa using eu0_5
    · rw [List.getElem?_eq_none (by omega), List.getElem?_eq_none (by simp; omega)]
  clear hA0 hval0
  refine (lawChangeKind x0 a0_3 c0_3 a0_5 c0_5 W lu0_3 lu0_5 lu0_0 lu0_1 lu0_2 lu0_4 ru0_3 ru0_5).mono fun e W' ⟨he, bel⟩ => ?_
  subst he
  exact ⟨_, rfl, _, _, _, [], _, [], hW', trodAll_mk1 (shut_bool Try.underlying4 _), (trodAll_cons_mk (Below.trod laidOut (by kernel_rfl) (of_decide_eq_true (by kernel_rfl)) k0 bel lt0) trodAll_mk0), rfl, bel.frame _, fun h => by cases h⟩
theorem fnExactChangeKind_proved : Rows.FnExactChangeKindSaid :=
  OpenClaim.holds_of_wide 3 Try.f3 rfl rfl rfl rfl rfl rfl rfl ⟨rfl, rfl, rfl, rfl, rfl⟩ rfl rfl rfl rfl rfl (by kernel_rfl) Try.func3 (by kernel_rfl)
    (of_decide_eq_true (by kernel_rfl)) (by unfold Func.isWrapper; first | (rw [if_pos (by decide +kernel)]; kernel_rfl) | (rw [if_neg (by decide +kernel)]; exact ⟨rfl, rfl⟩))
    (fun os started H enc _ => liftedFnExactChangeKind os started H enc)
#print axioms fnExactChangeKind_proved
end Go.Proofs.Ytgegjniilocmnaa
