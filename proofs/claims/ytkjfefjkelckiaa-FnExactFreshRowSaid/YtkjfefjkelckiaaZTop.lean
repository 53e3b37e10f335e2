/- impl.FreshRow answers of every table and number what the specification answers, row and code, in memory of its own, and writes into nothing that came in. No condition besides: at every argument, in every world that the row's reading allows. -/
import Derived.Test.YtkjfefjkelckiaaRows
import Derived.Test.YtkjfefjkelckiaaZbq
import Derived.Test.YtkjfefjkelckiaaZbs
import Derived.Test.YtkjfefjkelckiaaZbt
import Derived.WalkKit
import Derived.ProofKit
import Derived.OpenShut
import Derived.ChangeOld
import Derived.Below
namespace Go.Proofs.Ytkjfefjkelckiaa
open Go.ChangeShapes Go.WideShapes Go.ChangeAt Go.RowKit
theorem own : ownKnob Try.prog.godebug = none := by kernel_rfl
theorem laidOut : laidOutB Try.prog = true := by kernel_rfl
set_option maxRecDepth 100000 in
theorem liftedFnExactFreshRow (os : Os) (started : os.Started) (H : Type) (enc : TypeId × Value → H) :
    ReturnsInHanded {} Try.checked os 5 .any (Rows.fnExactFreshRowSpec.pre6 enc Try.prog Try.f5 Rows.fnExactFreshRowRow.domain false) (Rows.fnExactFreshRowSpec.post enc Try.prog Try.f5 false true false false) := by
  refine returnsInHanded_of_change (C := Try.checked) own started (by kernel_rfl) Try.func5
    (ChangeSpec.witness6 (enc := enc) (C := Try.checked) false ⟨#[], #[.agg #[.string ByteArray.empty, .slice none 0 0, .slice none 0 0, .bool false], .int .i64 0], []⟩ 8 (by kernel_rfl) (by kernel_rfl) (by kernel_rfl) (by kernel_rfl)) ?_
  intro W base args ds gs before hval0 hW hcnd _
  have hval : ∀ (j : Nat) t v, Try.f5.params[j]? = some t → args[j]? = some v → Value.okWide Try.prog W .any base t v := hval0
  have hW' := hW
  obtain ⟨p, q, hA0, hV, rfl, hfz, hnd⟩ := hW
  have hA : DataW.TrodAll enc Try.prog W 0 (fun _ => true) true Try.f5.params.toList args.toList ds p := hA0
  rw [Try.params5] at hA hval
  obtain ⟨v0, vs0, d0, ds0, p0, q0, hargs, rfl, rfl, h0, r0⟩ := trodAll_cons hA
  obtain ⟨v1, vs1, d1, ds1, p1, q1, rfl, rfl, rfl, h1, r1⟩ := trodAll_cons r0
  obtain ⟨rfl, rfl, rfl⟩ := trodAll_nil r1
  obtain rfl : args = #[v0, v1] := by cases args; simp_all
  obtain ⟨rfl, rfl⟩ := trodVars_none hV
  have k0 := h0
  have lt0 : ∀ x ∈ p0, x.block < W.heap.size := by obtain ⟨m, hm⟩ := k0; exact DataW.trod_lt m _ _ _ hm
  obtain ⟨cs0, rfl, -⟩ := okWide_struct Try.underlying41 (hval 0 41 v0 rfl rfl)
  obtain ⟨x0, hlen0, hx0⟩ : ∃ y : Tb, RdTh W 4 (dTable y) cs0.toList := by
    obtain ⟨fuel, hf⟩ := h0
    exact rdTable fuel _ _ (by simpa [Value.cells] using hf)
  obtain ⟨u0_0, eu0_0, ru0_0, lu0_0⟩ := hx0 0 (by omega)
  obtain rfl : u0_0 = .string ⟨x0.nm.toArray⟩ := ru0_0
  obtain ⟨u0_1, eu0_1, ru0_1, lu0_1⟩ := hx0 1 (by omega)
  replace ru0_1 : Rd W (· < W.heap.size) (dColumnS x0.cols) u0_1 := ru0_1
  obtain ⟨a0_1, c0_1, rfl⟩ := ru0_1.lsSlice
  obtain ⟨u0_2, eu0_2, ru0_2, lu0_2⟩ := hx0 2 (by omega)
  replace ru0_2 : Rd W (· < W.heap.size) (dIntS x0.uq) u0_2 := ru0_2
  obtain ⟨a0_2, c0_2, rfl⟩ := ru0_2.lsSlice
  obtain ⟨u0_3, eu0_3, ru0_3, lu0_3⟩ := hx0 3 (by omega)
  obtain rfl : u0_3 = .bool x0.rt := ru0_3
  obtain rfl : cs0 = #[.string ⟨x0.nm.toArray⟩, .slice a0_1 x0.cols.length c0_1, .slice a0_2 x0.uq.length c0_2, .bool x0.rt] := by
    apply Array.ext'
    apply List.ext_getElem?
    intro j
    by_cases hj : j < 4
    · rcases (by omega : j = 0 ∨ j = 1 ∨ j = 2 ∨ j = 3) with rfl | rfl | rfl | rfl
      · simpa using eu0_0
      · simpa using eu0_1
      · simpa using eu0_2
      · simpa using eu0_3
    · rw [List.getElem?_eq_none (by omega), List.getElem?_eq_none (by simp; omega)]
  have k1 := h1
  have lt1 : ∀ x ∈ p1, x.block < W.heap.size := by obtain ⟨m, hm⟩ := k1; exact DataW.trod_lt m _ _ _ hm
  obtain ⟨x1, rfl⟩ := okWide_int Try.underlying3 (hval 1 3 v1 rfl rfl)
  have hx1 : iOK x1 := by
    obtain ⟨fuel, hf⟩ := h1
    obtain ⟨n, e, -, hw⟩ := DataW.trod_int Try.underlying3 hf
    obtain rfl : x1 = n := by simpa [Value.cells] using e
    exact hw
  clear hA0 hval0
  refine (lawFreshRow x0 x1 a0_1 c0_1 a0_2 c0_2 W lu0_1 lu0_2 lu0_0 hx1 ru0_1 ru0_2).mono fun e W' ⟨he, bel⟩ => ?_
  subst he
  exact ⟨_, rfl, _, _, _, [], _, [], hW', trodAll_mk1 (shut_bool Try.underlying4 _), (trodAll_cons_mk (Below.trod laidOut (by kernel_rfl) (of_decide_eq_true (by kernel_rfl)) k0 bel lt0) (trodAll_cons_mk (Below.trod laidOut (by kernel_rfl) (of_decide_eq_true (by kernel_rfl)) k1 bel lt1) trodAll_mk0)), rfl, bel.frame _, fun h => by cases h⟩
theorem fnExactFreshRow_proved : Rows.FnExactFreshRowSaid :=
  OpenClaim.holds_of_wide 5 Try.f5 rfl rfl rfl rfl rfl rfl rfl ⟨rfl, rfl, rfl, rfl, rfl⟩ rfl rfl rfl rfl rfl (by kernel_rfl) Try.func5 (by kernel_rfl)
    (of_decide_eq_true (by kernel_rfl)) (by unfold Func.isWrapper; first | (rw [if_pos (by decide +kernel)]; kernel_rfl) | (rw [if_neg (by decide +kernel)]; exact ⟨rfl, rfl⟩))
    (fun os started H enc _ => liftedFnExactFreshRow os started H enc)
#print axioms fnExactFreshRow_proved
end Go.Proofs.Ytkjfefjkelckiaa
