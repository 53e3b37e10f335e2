/- impl.UndoChanges answers of every store and list of changes what the specification answers, store and code, in memory of its own, and writes into nothing that came in. No condition besides: at every argument, in every world that the row's reading allows. -/
import Derived.Test.YtdhlndpobpdfmaaRows
import Derived.Test.YtdhlndpobpdfmaaYbx
import Derived.Test.YtdhlndpobpdfmaaYbz
import Derived.Test.YtdhlndpobpdfmaaYca
import Derived.WalkKit
import Derived.ProofKit
import Derived.OpenShut
import Derived.ChangeOld
import Derived.Below
namespace Go.Proofs.Ytdhlndpobpdfmaa
open Go.ChangeShapes Go.WideShapes Go.ChangeAt Go.RowKit
theorem own : ownKnob Try.prog.godebug = none := by kernel_rfl
theorem laidOut : laidOutB Try.prog = true := by kernel_rfl
set_option maxRecDepth 100000 in
theorem liftedFnExactUndoChanges (os : Os) (started : os.Started) (H : Type) (enc : TypeId × Value → H) :
    ReturnsInHanded {} Try.checked os 4 .any (Rows.fnExactUndoChangesSpec.pre6 enc Try.prog Try.f4 Rows.fnExactUndoChangesRow.domain false) (Rows.fnExactUndoChangesSpec.post enc Try.prog Try.f4 false true false false) := by
  refine returnsInHanded_of_change (C := Try.checked) own started (by kernel_rfl) Try.func4
    (ChangeSpec.witness6 (enc := enc) (C := Try.checked) false ⟨#[], #[.agg #[.slice none 0 0, .int .i64 0], .slice none 0 0], []⟩ 8 (by kernel_rfl) (by kernel_rfl) (by kernel_rfl) (by kernel_rfl)) ?_
  intro W base args ds gs before hval0 hW hcnd _
  have hval : ∀ (j : Nat) t v, Try.f4.params[j]? = some t → args[j]? = some v → Value.okWide Try.prog W .any base t v := hval0
  have hW' := hW
  obtain ⟨p, q, hA0, hV, rfl, hfz, hnd⟩ := hW
  have hA : DataW.TrodAll enc Try.prog W 0 (fun _ => true) true Try.f4.params.toList args.toList ds p := hA0
  rw [Try.params4] at hA hval
  obtain ⟨v0, vs0, d0, ds0, p0, q0, hargs, rfl, rfl, h0, r0⟩ := trodAll_cons hA
  obtain ⟨v1, vs1, d1, ds1, p1, q1, rfl, rfl, rfl, h1, r1⟩ := trodAll_cons r0
  obtain ⟨rfl, rfl, rfl⟩ := trodAll_nil r1
  obtain rfl : args = #[v0, v1] := by cases args; simp_all
  obtain ⟨rfl, rfl⟩ := trodVars_none hV
  have k0 := h0
  have lt0 : ∀ x ∈ p0, x.block < W.heap.size := by obtain ⟨m, hm⟩ := k0; exact DataW.trod_lt m _ _ _ hm
  obtain ⟨cs0, rfl, -⟩ := okWide_struct Try.underlying24 (hval 0 24 v0 rfl rfl)
  obtain ⟨x0, hlen0, hx0⟩ : ∃ y : StV, RdTh W 2 (dStore y) cs0.toList := by
    obtain ⟨fuel, hf⟩ := h0
    exact rdStore fuel _ _ (by simpa [Value.cells] using hf)
  obtain ⟨u0_0, eu0_0, ru0_0, lu0_0⟩ := hx0 0 (by omega)
  replace ru0_0 : Rd W (· < W.heap.size) (dRowSS x0.tables) u0_0 := ru0_0
  obtain ⟨a0_0, c0_0, rfl⟩ := ru0_0.lsSlice
  obtain ⟨u0_1, eu0_1, ru0_1, lu0_1⟩ := hx0 1 (by omega)
  obtain rfl : u0_1 = .int .i64 x0.next := ru0_1
  obtain rfl : cs0 = #[.slice a0_0 x0.tables.length c0_0, .int .i64 x0.next] := by
    apply Array.ext'
    apply List.ext_getElem?
    intro j
    by_cases hj : j < 2
    · rcases (by omega : j = 0 ∨ j = 1) with rfl | rfl
      · simpa using eu0_0
      · simpa using eu0_1
    · rw [List.getElem?_eq_none (by omega), List.getElem?_eq_none (by simp; omega)]
  have k1 := h1
  have lt1 : ∀ x ∈ p1, x.block < W.heap.size := by obtain ⟨m, hm⟩ := k1; exact DataW.trod_lt m _ _ _ hm
  obtain ⟨pa1, la1, ca1, rfl⟩ := okWide_slice Try.underlying25 (hval 1 25 v1 rfl rfl)
  obtain ⟨x1, ex1, lx1, rx1⟩ : ∃ l : List ChV, la1 = l.length ∧ (dChangeS l).le maxLen ∧ Rd W (· < W.heap.size) (dChangeS l) (.slice pa1 l.length ca1) := by
    obtain ⟨fuel, hf⟩ := h1
    obtain ⟨l, a', c', e, h1, h2⟩ := rdChangeS (cs := [.slice pa1 la1 ca1]) (by simpa [Value.cells] using hf)
    simp only [List.cons.injEq, and_true, Value.slice.injEq] at e
    obtain ⟨rfl, rfl, rfl⟩ := e
    exact ⟨l, rfl, h1, h2⟩
  subst ex1
  clear hA0 hval0
  refine (lawUndoChanges x0 x1 a0_0 c0_0 pa1 ca1 W lu0_0 lx1 lu0_1 ru0_0 rx1).mono fun e W' ⟨he, bel⟩ => ?_
  subst he
  exact ⟨_, rfl, _, _, _, [], _, [], hW', trodAll_mk1 (shut_bool Try.underlying4 _), (trodAll_cons_mk (Below.trod laidOut (by kernel_rfl) (of_decide_eq_true (by kernel_rfl)) k0 bel lt0) (trodAll_cons_mk (Below.trod laidOut (by kernel_rfl) (of_decide_eq_true (by kernel_rfl)) k1 bel lt1) trodAll_mk0)), rfl, bel.frame _, fun h => by cases h⟩
theorem fnExactUndoChanges_proved : Rows.FnExactUndoChangesSaid :=
  OpenClaim.holds_of_wide 4 Try.f4 rfl rfl rfl rfl rfl rfl rfl ⟨rfl, rfl, rfl, rfl, rfl⟩ rfl rfl rfl rfl rfl (by kernel_rfl) Try.func4 (by kernel_rfl)
    (of_decide_eq_true (by kernel_rfl)) (by unfold Func.isWrapper; first | (rw [if_pos (by decide +kernel)]; kernel_rfl) | (rw [if_neg (by decide +kernel)]; exact ⟨rfl, rfl⟩))
    (fun os started H enc _ => liftedFnExactUndoChanges os started H enc)
#print axioms fnExactUndoChanges_proved
end Go.Proofs.Ytdhlndpobpdfmaa
