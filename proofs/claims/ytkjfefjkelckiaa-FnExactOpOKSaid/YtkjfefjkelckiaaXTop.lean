/- impl.OpOK answers of every operation what the specification answers, and writes into nothing that came in. No condition besides: at every argument, in every world that the row's reading allows. -/
import Derived.Test.YtkjfefjkelckiaaRows
import Derived.Test.YtkjfefjkelckiaaXbv
import Derived.Test.YtkjfefjkelckiaaXca
import Derived.WalkKit
import Derived.ProofKit
import Derived.OpenShut
import Derived.ChangeOld
import Derived.Below
namespace Go.Proofs.Ytkjfefjkelckiaa
open Go.ChangeShapes Go.WideShapes Go.ChangeAt Go.RowKit
theorem own : ownKnob Try.prog.godebug = none := by kernel_rfl
theorem laidOut : laidOutB Try.prog = true := by kernel_rfl
set_option maxRecDepth 100000 in
theorem liftedFnExactOpOK (os : Os) (started : os.Started) (H : Type) (enc : TypeId × Value → H) :
    ReturnsInHanded {} Try.checked os 3 .any (Rows.fnExactOpOKSpec.pre6 enc Try.prog Try.f3 Rows.fnExactOpOKRow.domain false) (Rows.fnExactOpOKSpec.post enc Try.prog Try.f3 false true false false) := by
  refine returnsInHanded_of_change (C := Try.checked) own started (by kernel_rfl) Try.func3
    (ChangeSpec.witness6 (enc := enc) (C := Try.checked) false ⟨#[], #[.agg #[.int .i64 0, .string ByteArray.empty, .string ByteArray.empty, .slice none 0 0, .slice none 0 0, .slice none 0 0, .slice none 0 0, .bool false]], []⟩ 8 (by kernel_rfl) (by kernel_rfl) (by kernel_rfl) (by kernel_rfl)) ?_
  intro W base args ds gs before hval0 hW hcnd _
  have hval : ∀ (j : Nat) t v, Try.f3.params[j]? = some t → args[j]? = some v → Value.okWide Try.prog W .any base t v := hval0
  have hW' := hW
  obtain ⟨p, q, hA0, hV, rfl, hfz, hnd⟩ := hW
  have hA : DataW.TrodAll enc Try.prog W 0 (fun _ => true) true Try.f3.params.toList args.toList ds p := hA0
  rw [Try.params3] at hA hval
  obtain ⟨v0, vs0, d0, ds0, p0, q0, hargs, rfl, rfl, h0, r0⟩ := trodAll_cons hA
  obtain ⟨rfl, rfl, rfl⟩ := trodAll_nil r0
  obtain rfl : args = #[v0] := by cases args; simp_all
  obtain ⟨rfl, rfl⟩ := trodVars_none hV
  have k0 := h0
  have lt0 : ∀ x ∈ p0, x.block < W.heap.size := by obtain ⟨m, hm⟩ := k0; exact DataW.trod_lt m _ _ _ hm
  obtain ⟨cs0, rfl, -⟩ := okWide_struct Try.underlying27 (hval 0 27 v0 rfl rfl)
  obtain ⟨x0, hlen0, hx0⟩ : ∃ y : OpV, RdTh W 8 (dOp y) cs0.toList := by
    obtain ⟨fuel, hf⟩ := h0
    exact rdOp fuel _ _ (by simpa [Value.cells] using hf)
  obtain ⟨u0_0, eu0_0, ru0_0, lu0_0⟩ := hx0 0 (by omega)
  obtain rfl : u0_0 = .int .i64 x0.kd := ru0_0
  obtain ⟨u0_1, eu0_1, ru0_1, lu0_1⟩ := hx0 1 (by omega)
  obtain rfl : u0_1 = .string ⟨x0.tb.toArray⟩ := ru0_1
  obtain ⟨u0_2, eu0_2, ru0_2, lu0_2⟩ := hx0 2 (by omega)
  obtain rfl : u0_2 = .string ⟨x0.nm.toArray⟩ := ru0_2
  obtain ⟨u0_3, eu0_3, ru0_3, lu0_3⟩ := hx0 3 (by omega)
  replace ru0_3 : Rd W (· < W.heap.size) (dCondS x0.wh) u0_3 := ru0_3
  obtain ⟨a0_3, c0_3, rfl⟩ := ru0_3.lsSlice
  obtain ⟨u0_4, eu0_4, ru0_4, lu0_4⟩ := hx0 4 (by omega)
  replace ru0_4 : Rd W (· < W.heap.size) (dSetS x0.row) u0_4 := ru0_4
  obtain ⟨a0_4, c0_4, rfl⟩ := ru0_4.lsSlice
  obtain ⟨u0_5, eu0_5, ru0_5, lu0_5⟩ := hx0 5 (by omega)
  replace ru0_5 : Rd W (· < W.heap.size) (dMutS x0.mu) u0_5 := ru0_5
  obtain ⟨a0_5, c0_5, rfl⟩ := ru0_5.lsSlice
  obtain ⟨u0_6, eu0_6, ru0_6, lu0_6⟩ := hx0 6 (by omega)
  replace ru0_6 : Rd W (· < W.heap.size) (dStringS x0.cs) u0_6 := ru0_6
  obtain ⟨a0_6, c0_6, rfl⟩ := ru0_6.lsSlice
  obtain ⟨u0_7, eu0_7, ru0_7, lu0_7⟩ := hx0 7 (by omega)
  obtain rfl : u0_7 = .bool x0.un := ru0_7
  obtain rfl : cs0 = #[.int .i64 x0.kd, .string ⟨x0.tb.toArray⟩, .string ⟨x0.nm.toArray⟩, .slice a0_3 x0.wh.length c0_3, .slice a0_4 x0.row.length c0_4, .slice a0_5 x0.mu.length c0_5, .slice a0_6 x0.cs.length c0_6, .bool x0.un] := by
    apply Array.ext'
    apply List.ext_getElem?
    intro j
    by_cases hj : j < 8
    · rcases (by omega : j = 0 ∨ j = 1 ∨ j = 2 ∨ j = 3 ∨ j = 4 ∨ j = 5 ∨ j = 6 ∨ j = 7) with rfl | rfl | rfl | rfl | rfl | rfl | rfl | rfl
      · simpa using eu0_0
      · simpa using eu0_1
      · simpa using eu0_2
      · simpa using eu0_3
      · simpa using eu0_4
      · simpa using eu0_5
      · simpa using eu0_6
      · simpa using eu0_7
    · rw [List.getElem?_eq_none (by omega), List.getElem?_eq_none (by simp; omega)]
  clear hA0 hval0
  refine (lawOpOK x0 a0_3 c0_3 a0_4 c0_4 a0_5 c0_5 a0_6 c0_6 W lu0_3 lu0_4 lu0_5 lu0_6 lu0_0 lu0_1 lu0_2 ru0_3 ru0_4 ru0_5 ru0_6).mono fun e W' ⟨he, bel⟩ => ?_
  subst he
  exact ⟨_, rfl, _, _, _, [], _, [], hW', trodAll_mk1 (shut_bool Try.underlying4 _), (trodAll_cons_mk (Below.trod laidOut (by kernel_rfl) (of_decide_eq_true (by kernel_rfl)) k0 bel lt0) trodAll_mk0), rfl, bel.frame _, fun h => by cases h⟩
theorem fnExactOpOK_proved : Rows.FnExactOpOKSaid :=
  OpenClaim.holds_of_wide 3 Try.f3 rfl rfl rfl rfl rfl rfl rfl ⟨rfl, rfl, rfl, rfl, rfl⟩ rfl rfl rfl rfl rfl (by kernel_rfl) Try.func3 (by kernel_rfl)
    (of_decide_eq_true (by kernel_rfl)) (by unfold Func.isWrapper; first | (rw [if_pos (by decide +kernel)]; kernel_rfl) | (rw [if_neg (by decide +kernel)]; exact ⟨rfl, rfl⟩))
    (fun os started H enc _ => liftedFnExactOpOK os started H enc)
#print axioms fnExactOpOK_proved
end Go.Proofs.Ytkjfefjkelckiaa
