/- impl.MutCode answers of every table and mutation what the specification answers, and writes into nothing that came in. No condition besides: at every argument, in every world that the row's reading allows. -/
import Derived.Test.YtponpcbedcihaaaRows
import Derived.Test.YtponpcbedcihaaaLMuC
import Derived.Test.YtponpcbedcihaaaDMuR
import Derived.Test.YtponpcbedcihaaaDTbR
import Derived.WalkKit
import Derived.ProofKit
import Derived.OpenShut
import Derived.ChangeOld
import Derived.Below
namespace Go.Proofs.Ytponpcbedcihaaa
open Go.ChangeShapes Go.WideShapes Go.ChangeAt Go.RowKit
theorem own : ownKnob Try.prog.godebug = none := by kernel_rfl
theorem laidOut : laidOutB Try.prog = true := by kernel_rfl
set_option maxRecDepth 100000 in
theorem liftedFnExactMutCode (os : Os) (started : os.Started) (H : Type) (enc : TypeId × Value → H) :
    ReturnsInHanded {} Try.checked os 3 .any (Rows.fnExactMutCodeSpec.pre6 enc Try.prog Try.f3 Rows.fnExactMutCodeRow.domain false) (Rows.fnExactMutCodeSpec.post enc Try.prog Try.f3 false true false false) := by
  refine returnsInHanded_of_change (C := Try.checked) own started (by kernel_rfl) Try.func3
    (ChangeSpec.witness6 (enc := enc) (C := Try.checked) false ⟨#[], #[.agg #[.string ByteArray.empty, .slice none 0 0, .slice none 0 0, .bool false], .agg #[.string ByteArray.empty, .int .i64 0, .slice none 0 0]], []⟩ 8 (by kernel_rfl) (by kernel_rfl) (by kernel_rfl) (by kernel_rfl)) ?_
  intro W base args ds gs before hval0 hW hcnd _
  have hval : ∀ (j : Nat) t v, Try.f3.params[j]? = some t → args[j]? = some v → Value.okWide Try.prog W .any base t v := hval0
  have hW' := hW
  obtain ⟨p, q, hA0, hV, rfl, hfz, hnd⟩ := hW
  have hA : DataW.TrodAll enc Try.prog W 0 (fun _ => true) true Try.f3.params.toList args.toList ds p := hA0
  rw [Try.params3] at hA hval
  obtain ⟨v0, vs0, d0, ds0, p0, q0, hargs, rfl, rfl, h0, r0⟩ := trodAll_cons hA
  obtain ⟨v1, vs1, d1, ds1, p1, q1, rfl, rfl, rfl, h1, r1⟩ := trodAll_cons r0
  obtain ⟨rfl, rfl, rfl⟩ := trodAll_nil r1
  obtain rfl : args = #[v0, v1] := by cases args; simp_all
  obtain ⟨rfl, rfl⟩ := trodVars_none hV
  have k0 := h0
  have lt0 : ∀ x ∈ p0, x.block < W.heap.size := by obtain ⟨m, hm⟩ := k0; exact DataW.trod_lt m _ _ _ hm
  obtain ⟨cs0, rfl, -⟩ := okWide_struct Try.underlying25 (hval 0 25 v0 rfl rfl)
  obtain ⟨x0, hlen0, hx0⟩ : ∃ y : Tb, RdTh W 4 (dTable y) cs0.toList := by
    obtain ⟨fuel, hf⟩ := h0
    exact rdTable fuel _ _ (by simpa [Value.cells] using hf)
  obtain ⟨u0_0, eu0_0, ru0_0, lu0_0⟩ := hx0 0 (by omega)
  obtain rfl : u0_0 = .string ⟨x0.nm.toArray⟩ := ru0_0
  obtain ⟨u0_1, eu0_1, ru0_1, lu0_1⟩ := hx0 1 (by omega)
  replace ru0_1 : Rd W (· < W.heap.size) (dColumnS x0.cols) u0_1 := ru0_1
  obtain ⟨a0_1, c0_1, rfl⟩ := ru0_1.lsSlice
  obtain ⟨u0_2, eu0_2, ru0_2, lu0_2⟩ := hx0 2 (by omega)
  replace ru0_2 : Rd W (· < W.heap.size) (dIntS x0.uq) u0_2 := ru0_2
  obtain ⟨a0_2, c0_2, rfl⟩ := ru0_2.lsSlice
  obtain ⟨u0_3, eu0_3, ru0_3, lu0_3⟩ := hx0 3 (by omega)
  obtain rfl : u0_3 = .bool x0.rt := ru0_3
  obtain rfl : cs0 = #[.string ⟨x0.nm.toArray⟩, .slice a0_1 x0.cols.length c0_1, .slice a0_2 x0.uq.length c0_2, .bool x0.rt] := by
    apply Array.ext'
    apply List.ext_getElem?
    intro j
    by_cases hj : j < 4
    · rcases (by omega : j = 0 ∨ j = 1 ∨ j = 2 ∨ j = 3) with rfl | rfl | rfl | rfl
      · simpa using eu0_0
      · simpa using eu0_1
      · simpa using eu0_2
      · simpa using eu0_3
    · rw [List.getElem?_eq_none (by omega), List.getElem?_eq_none (by simp; omega)]
  have k1 := h1
  have lt1 : ∀ x ∈ p1, x.block < W.heap.size := by obtain ⟨m, hm⟩ := k1; exact DataW.trod_lt m _ _ _ hm
  obtain ⟨cs1, rfl, -⟩ := okWide_struct Try.underlying28 (hval 1 28 v1 rfl rfl)
  obtain ⟨x1, hlen1, hx1⟩ : ∃ y : MutV, RdTh W 3 (dMut y) cs1.toList := by
    obtain ⟨fuel, hf⟩ := h1
    exact rdMut fuel _ _ (by simpa [Value.cells] using hf)
  obtain ⟨u1_0, eu1_0, ru1_0, lu1_0⟩ := hx1 0 (by omega)
  obtain rfl : u1_0 = .string ⟨x1.col.toArray⟩ := ru1_0
  obtain ⟨u1_1, eu1_1, ru1_1, lu1_1⟩ := hx1 1 (by omega)
  obtain rfl : u1_1 = .int .i64 x1.fn := ru1_1
  obtain ⟨u1_2, eu1_2, ru1_2, lu1_2⟩ := hx1 2 (by omega)
  replace ru1_2 : Rd W (· < W.heap.size) (dAtomS x1.val) u1_2 := ru1_2
  obtain ⟨a1_2, c1_2, rfl⟩ := ru1_2.lsSlice
  obtain rfl : cs1 = #[.string ⟨x1.col.toArray⟩, .int .i64 x1.fn, .slice a1_2 x1.val.length c1_2] := by
    apply Array.ext'
    apply List.ext_getElem?
    intro j
    by_cases hj : j < 3
    · rcases (by omega : j = 0 ∨ j = 1 ∨ j = 2) with rfl | rfl | rfl
      · simpa using eu1_0
      · simpa using eu1_1
      · simpa using eu1_2
    · rw [List.getElem?_eq_none (by omega), List.getElem?_eq_none (by simp; omega)]
  clear hA0 hval0
  refine (lawMutCode x0 x1 a0_1 c0_1 a0_2 c0_2 a1_2 c1_2 W lu0_1 lu0_2 lu1_2 lu0_0 lu1_0 lu1_1 ru0_1 ru0_2 ru1_2).mono fun e W' ⟨he, bel⟩ => ?_
  subst he
  exact ⟨_, rfl, _, _, _, [], _, [], hW', trodAll_mk1 (shut_bool Try.underlying4 _), (trodAll_cons_mk (Below.trod laidOut (by kernel_rfl) (of_decide_eq_true (by kernel_rfl)) k0 bel lt0) (trodAll_cons_mk (Below.trod laidOut (by kernel_rfl) (of_decide_eq_true (by kernel_rfl)) k1 bel lt1) trodAll_mk0)), rfl, bel.frame _, fun h => by cases h⟩
theorem fnExactMutCode_proved : Rows.FnExactMutCodeSaid :=
  OpenClaim.holds_of_wide 3 Try.f3 rfl rfl rfl rfl rfl rfl rfl ⟨rfl, rfl, rfl, rfl, rfl⟩ rfl rfl rfl rfl rfl (by kernel_rfl) Try.func3 (by kernel_rfl)
    (of_decide_eq_true (by kernel_rfl)) (by unfold Func.isWrapper; first | (rw [if_pos (by decide +kernel)]; kernel_rfl) | (rw [if_neg (by decide +kernel)]; exact ⟨rfl, rfl⟩))
    (fun os started H enc _ => liftedFnExactMutCode os started H enc)
#print axioms fnExactMutCode_proved
end Go.Proofs.Ytponpcbedcihaaa
