/- impl.Mutate answers of every column, set and mutation what the specification answers, set and code, in memory of its own, and writes into nothing that came in. No condition besides: at every argument, in every world that the row's reading allows. -/
import Derived.Test.YtpigpidfpafcgaaRows
import Derived.Test.YtpigpidfpafcgaaZbz
import Derived.Test.YtpigpidfpafcgaaZca
import Derived.WalkKit
import Derived.ProofKit
import Derived.OpenShut
import Derived.ChangeOld
import Derived.Below
namespace Go.Proofs.Ytpigpidfpafcgaa
open Go.ChangeShapes Go.WideShapes Go.ChangeAt Go.RowKit
theorem own : ownKnob Try.prog.godebug = none := by kernel_rfl
theorem laidOut : laidOutB Try.prog = true := by kernel_rfl
set_option maxRecDepth 100000 in
theorem liftedFnExactMutate (os : Os) (started : os.Started) (H : Type) (enc : TypeId × Value → H) :
    ReturnsInHanded {} Try.checked os 3 .any (Rows.fnExactMutateSpec.pre6 enc Try.prog Try.f3 Rows.fnExactMutateRow.domain false) (Rows.fnExactMutateSpec.post enc Try.prog Try.f3 false true false false) := by
  refine returnsInHanded_of_change (C := Try.checked) own started (by kernel_rfl) Try.func3
    (ChangeSpec.witness6 (enc := enc) (C := Try.checked) false ⟨#[], #[.agg #[.string ByteArray.empty, .int .i64 0, .int .i64 0, .int .i64 0, .int .i64 0, .int .i64 0, .string ByteArray.empty, .bool false], .slice none 0 0, .agg #[.string ByteArray.empty, .int .i64 0, .slice none 0 0]], []⟩ 8 (by kernel_rfl) (by kernel_rfl) (by kernel_rfl) (by kernel_rfl)) ?_
  intro W base args ds gs before hval0 hW hcnd _
  have hval : ∀ (j : Nat) t v, Try.f3.params[j]? = some t → args[j]? = some v → Value.okWide Try.prog W .any base t v := hval0
  have hW' := hW
  obtain ⟨p, q, hA0, hV, rfl, hfz, hnd⟩ := hW
  have hA : DataW.TrodAll enc Try.prog W 0 (fun _ => true) true Try.f3.params.toList args.toList ds p := hA0
  rw [Try.params3] at hA hval
  obtain ⟨v0, vs0, d0, ds0, p0, q0, hargs, rfl, rfl, h0, r0⟩ := trodAll_cons hA
  obtain ⟨v1, vs1, d1, ds1, p1, q1, rfl, rfl, rfl, h1, r1⟩ := trodAll_cons r0
  obtain ⟨v2, vs2, d2, ds2, p2, q2, rfl, rfl, rfl, h2, r2⟩ := trodAll_cons r1
  obtain ⟨rfl, rfl, rfl⟩ := trodAll_nil r2
  obtain rfl : args = #[v0, v1, v2] := by cases args; simp_all
  obtain ⟨rfl, rfl⟩ := trodVars_none hV
  have k0 := h0
  have lt0 : ∀ x ∈ p0, x.block < W.heap.size := by obtain ⟨m, hm⟩ := k0; exact DataW.trod_lt m _ _ _ hm
  obtain ⟨cs0, rfl, -⟩ := okWide_struct Try.underlying23 (hval 0 23 v0 rfl rfl)
  obtain ⟨x0, hlen0, hx0⟩ : ∃ y : Cl, RdTh W 8 (dColumn y) cs0.toList := by
    obtain ⟨fuel, hf⟩ := h0
    exact rdColumn fuel _ _ (by simpa [Value.cells] using hf)
  obtain ⟨u0_0, eu0_0, ru0_0, lu0_0⟩ := hx0 0 (by omega)
  obtain rfl : u0_0 = .string ⟨x0.nm.toArray⟩ := ru0_0
  obtain ⟨u0_1, eu0_1, ru0_1, lu0_1⟩ := hx0 1 (by omega)
  obtain rfl : u0_1 = .int .i64 x0.k := ru0_1
  obtain ⟨u0_2, eu0_2, ru0_2, lu0_2⟩ := hx0 2 (by omega)
  obtain rfl : u0_2 = .int .i64 x0.mn := ru0_2
  obtain ⟨u0_3, eu0_3, ru0_3, lu0_3⟩ := hx0 3 (by omega)
  obtain rfl : u0_3 = .int .i64 x0.mx := ru0_3
  obtain ⟨u0_4, eu0_4, ru0_4, lu0_4⟩ := hx0 4 (by omega)
  obtain rfl : u0_4 = .int .i64 x0.lo := ru0_4
  obtain ⟨u0_5, eu0_5, ru0_5, lu0_5⟩ := hx0 5 (by omega)
  obtain rfl : u0_5 = .int .i64 x0.hi := ru0_5
  obtain ⟨u0_6, eu0_6, ru0_6, lu0_6⟩ := hx0 6 (by omega)
  obtain rfl : u0_6 = .string ⟨x0.rf.toArray⟩ := ru0_6
  obtain ⟨u0_7, eu0_7, ru0_7, lu0_7⟩ := hx0 7 (by omega)
  obtain rfl : u0_7 = .bool x0.st := ru0_7
  obtain rfl : cs0 = #[.string ⟨x0.nm.toArray⟩, .int .i64 x0.k, .int .i64 x0.mn, .int .i64 x0.mx, .int .i64 x0.lo, .int .i64 x0.hi, .string ⟨x0.rf.toArray⟩, .bool x0.st] := by
    apply Array.ext'
    apply List.ext_getElem?
    intro j
    by_cases hj : j < 8
    · rcases (by omega : j = 0 ∨ j = 1 ∨ j = 2 ∨ j = 3 ∨ j = 4 ∨ j = 5 ∨ j = 6 ∨ j = 7) with rfl | rfl | rfl | rfl | rfl | rfl | rfl | rfl
      · simpa using eu0_0
      · simpa using eu0_1
      · simpa using eu0_2
      · simpa using eu0_3
      · simpa using eu0_4
      · simpa using eu0_5
      · simpa using eu0_6
      · simpa using eu0_7
    · rw [List.getElem?_eq_none (by omega), List.getElem?_eq_none (by simp; omega)]
  have k1 := h1
  have lt1 : ∀ x ∈ p1, x.block < W.heap.size := by obtain ⟨m, hm⟩ := k1; exact DataW.trod_lt m _ _ _ hm
  obtain ⟨pa1, la1, ca1, rfl⟩ := okWide_slice Try.underlying24 (hval 1 24 v1 rfl rfl)
  obtain ⟨x1, ex1, lx1, rx1⟩ : ∃ l : List At, la1 = l.length ∧ (dAtomS l).le maxLen ∧ Rd W (· < W.heap.size) (dAtomS l) (.slice pa1 l.length ca1) := by
    obtain ⟨fuel, hf⟩ := h1
    obtain ⟨l, a', c', e, h1, h2⟩ := rdAtomS (cs := [.slice pa1 la1 ca1]) (by simpa [Value.cells] using hf)
    simp only [List.cons.injEq, and_true, Value.slice.injEq] at e
    obtain ⟨rfl, rfl, rfl⟩ := e
    exact ⟨l, rfl, h1, h2⟩
  subst ex1
  have k2 := h2
  have lt2 : ∀ x ∈ p2, x.block < W.heap.size := by obtain ⟨m, hm⟩ := k2; exact DataW.trod_lt m _ _ _ hm
  obtain ⟨cs2, rfl, -⟩ := okWide_struct Try.underlying26 (hval 2 26 v2 rfl rfl)
  obtain ⟨x2, hlen2, hx2⟩ : ∃ y : MutV, RdTh W 3 (dMut y) cs2.toList := by
    obtain ⟨fuel, hf⟩ := h2
    exact rdMut fuel _ _ (by simpa [Value.cells] using hf)
  obtain ⟨u2_0, eu2_0, ru2_0, lu2_0⟩ := hx2 0 (by omega)
  obtain rfl : u2_0 = .string ⟨x2.col.toArray⟩ := ru2_0
  obtain ⟨u2_1, eu2_1, ru2_1, lu2_1⟩ := hx2 1 (by omega)
  obtain rfl : u2_1 = .int .i64 x2.fn := ru2_1
  obtain ⟨u2_2, eu2_2, ru2_2, lu2_2⟩ := hx2 2 (by omega)
  replace ru2_2 : Rd W (· < W.heap.size) (dAtomS x2.val) u2_2 := ru2_2
  obtain ⟨a2_2, c2_2, rfl⟩ := ru2_2.lsSlice
  obtain rfl : cs2 = #[.string ⟨x2.col.toArray⟩, .int .i64 x2.fn, .slice a2_2 x2.val.length c2_2] := by
    apply Array.ext'
    apply List.ext_getElem?
    intro j
    by_cases hj : j < 3
    · rcases (by omega : j = 0 ∨ j = 1 ∨ j = 2) with rfl | rfl | rfl
      · simpa using eu2_0
      · simpa using eu2_1
      · simpa using eu2_2
    · rw [List.getElem?_eq_none (by omega), List.getElem?_eq_none (by simp; omega)]
  clear hA0 hval0
  refine (lawMutate x0 x1 x2 pa1 ca1 a2_2 c2_2 W lx1 lu2_2 lu0_0 lu0_1 lu0_2 lu0_3 lu0_4 lu0_5 lu0_6 lu2_0 lu2_1 rx1 ru2_2).mono fun e W' ⟨he, bel⟩ => ?_
  subst he
  exact ⟨_, rfl, _, _, _, [], _, [], hW', trodAll_mk1 (shut_bool Try.underlying4 _), (trodAll_cons_mk (Below.trod laidOut (by kernel_rfl) (of_decide_eq_true (by kernel_rfl)) k0 bel lt0) (trodAll_cons_mk (Below.trod laidOut (by kernel_rfl) (of_decide_eq_true (by kernel_rfl)) k1 bel lt1) (trodAll_cons_mk (Below.trod laidOut (by kernel_rfl) (of_decide_eq_true (by kernel_rfl)) k2 bel lt2) trodAll_mk0))), rfl, bel.frame _, fun h => by cases h⟩
theorem fnExactMutate_proved : Rows.FnExactMutateSaid :=
  OpenClaim.holds_of_wide 3 Try.f3 rfl rfl rfl rfl rfl rfl rfl ⟨rfl, rfl, rfl, rfl, rfl⟩ rfl rfl rfl rfl rfl (by kernel_rfl) Try.func3 (by kernel_rfl)
    (of_decide_eq_true (by kernel_rfl)) (by unfold Func.isWrapper; first | (rw [if_pos (by decide +kernel)]; kernel_rfl) | (rw [if_neg (by decide +kernel)]; exact ⟨rfl, rfl⟩))
    (fun os started H enc _ => liftedFnExactMutate os started H enc)
#print axioms fnExactMutate_proved
end Go.Proofs.Ytpigpidfpafcgaa
