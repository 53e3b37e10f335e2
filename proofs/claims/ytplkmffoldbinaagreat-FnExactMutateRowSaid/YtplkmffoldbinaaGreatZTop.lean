/- impl.MutateRow answers of every table, row and list of mutations what the specification answers, row and code, in memory of its own, and writes into nothing that came in. No condition besides: at every argument, in every world that the row's reading allows. -/
import Derived.Test.YtplkmffoldbinaaGreatRows
import Derived.Test.YtplkmffoldbinaaGreatZbz
import Derived.Test.YtplkmffoldbinaaGreatZca
import Derived.WalkKit
import Derived.ProofKit
import Derived.OpenShut
import Derived.ChangeOld
import Derived.Below
namespace Go.Proofs.YtplkmffoldbinaaGreat
open Go.ChangeShapes Go.WideShapes Go.ChangeAt Go.RowKit
theorem own : ownKnob Tryz.prog.godebug = none := by kernel_rfl
theorem laidOut : laidOutB Tryz.prog = true := by kernel_rfl
set_option maxRecDepth 100000 in
theorem liftedFnExactMutateRow (os : Os) (started : os.Started) (H : Type) (enc : TypeId × Value → H) :
    ReturnsInHanded {} Tryz.checked os 3 .any (Rows.fnExactMutateRowSpec.pre6 enc Tryz.prog Tryz.f3 Rows.fnExactMutateRowRow.domain false) (Rows.fnExactMutateRowSpec.post enc Tryz.prog Tryz.f3 false true false false) := by
  refine returnsInHanded_of_change (C := Tryz.checked) own started (by kernel_rfl) Tryz.func3
    (ChangeSpec.witness6 (enc := enc) (C := Tryz.checked) false ⟨#[], #[.agg #[.string ByteArray.empty, .slice none 0 0, .slice none 0 0, .bool false], .agg #[.int .i64 0, .slice none 0 0], .slice none 0 0], []⟩ 8 (by kernel_rfl) (by kernel_rfl) (by kernel_rfl) (by kernel_rfl)) ?_
  intro W base args ds gs before hval0 hW hcnd _
  have hval : ∀ (j : Nat) t v, Tryz.f3.params[j]? = some t → args[j]? = some v → Value.okWide Tryz.prog W .any base t v := hval0
  have hW' := hW
  obtain ⟨p, q, hA0, hV, rfl, hfz, hnd⟩ := hW
  have hA : DataW.TrodAll enc Tryz.prog W 0 (fun _ => true) true Tryz.f3.params.toList args.toList ds p := hA0
  rw [Tryz.params3] at hA hval
  obtain ⟨v0, vs0, d0, ds0, p0, q0, hargs, rfl, rfl, h0, r0⟩ := trodAll_cons hA
  obtain ⟨v1, vs1, d1, ds1, p1, q1, rfl, rfl, rfl, h1, r1⟩ := trodAll_cons r0
  obtain ⟨v2, vs2, d2, ds2, p2, q2, rfl, rfl, rfl, h2, r2⟩ := trodAll_cons r1
  obtain ⟨rfl, rfl, rfl⟩ := trodAll_nil r2
  obtain rfl : args = #[v0, v1, v2] := by cases args; simp_all
  obtain ⟨rfl, rfl⟩ := trodVars_none hV
  have k0 := h0
  have lt0 : ∀ x ∈ p0, x.block < W.heap.size := by obtain ⟨m, hm⟩ := k0; exact DataW.trod_lt m _ _ _ hm
  obtain ⟨cs0, rfl, -⟩ := okWide_struct Tryz.underlying25 (hval 0 25 v0 rfl rfl)
  obtain ⟨x0, hlen0, hx0⟩ : ∃ y : Tb, RdTh W 4 (dTable y) cs0.toList := by
    obtain ⟨fuel, hf⟩ := h0
    exact rdTable fuel _ _ (by simpa [Value.cells] using hf)
  obtain ⟨u0_0, eu0_0, ru0_0, lu0_0⟩ := hx0 0 (by omega)
  obtain rfl : u0_0 = .string ⟨x0.nm.toArray⟩ := ru0_0
  obtain ⟨u0_1, eu0_1, ru0_1, lu0_1⟩ := hx0 1 (by omega)
  replace ru0_1 : Rd W (· < W.heap.size) (dColumnS x0.cols) u0_1 := ru0_1
  obtain ⟨a0_1, c0_1, rfl⟩ := ru0_1.lsSlice
  obtain ⟨u0_2, eu0_2, ru0_2, lu0_2⟩ := hx0 2 (by omega)
  replace ru0_2 : Rd W (· < W.heap.size) (dIntS x0.uq) u0_2 := ru0_2
  obtain ⟨a0_2, c0_2, rfl⟩ := ru0_2.lsSlice
  obtain ⟨u0_3, eu0_3, ru0_3, lu0_3⟩ := hx0 3 (by omega)
  obtain rfl : u0_3 = .bool x0.rt := ru0_3
  obtain rfl : cs0 = #[.string ⟨x0.nm.toArray⟩, .slice a0_1 x0.cols.length c0_1, .slice a0_2 x0.uq.length c0_2, .bool x0.rt] := by
    apply Array.ext'
    apply List.ext_getElem?
    intro j
    by_cases hj : j < 4
    · rcases (by omega : j = 0 ∨ j = 1 ∨ j = 2 ∨ j = 3) with rfl | rfl | rfl | rfl
      · simpa using eu0_0
      · simpa using eu0_1
      · simpa using eu0_2
      · simpa using eu0_3
    · rw [List.getElem?_eq_none (by omega), List.getElem?_eq_none (by simp; omega)]
  have k1 := h1
  have lt1 : ∀ x ∈ p1, x.block < W.heap.size := by obtain ⟨m, hm⟩ := k1; exact DataW.trod_lt m _ _ _ hm
  obtain ⟨cs1, rfl, -⟩ := okWide_struct Tryz.underlying28 (hval 1 28 v1 rfl rfl)
  obtain ⟨x1, hlen1, hx1⟩ : ∃ y : RowV, RdTh W 2 (dRow y) cs1.toList := by
    obtain ⟨fuel, hf⟩ := h1
    exact rdRow fuel _ _ (by simpa [Value.cells] using hf)
  obtain ⟨u1_0, eu1_0, ru1_0, lu1_0⟩ := hx1 0 (by omega)
  obtain rfl : u1_0 = .int .i64 x1.id := ru1_0
  obtain ⟨u1_1, eu1_1, ru1_1, lu1_1⟩ := hx1 1 (by omega)
  replace ru1_1 : Rd W (· < W.heap.size) (dAtomSS x1.cells) u1_1 := ru1_1
  obtain ⟨a1_1, c1_1, rfl⟩ := ru1_1.lsSlice
  obtain rfl : cs1 = #[.int .i64 x1.id, .slice a1_1 x1.cells.length c1_1] := by
    apply Array.ext'
    apply List.ext_getElem?
    intro j
    by_cases hj : j < 2
    · rcases (by omega : j = 0 ∨ j = 1) with rfl | rfl
      · simpa using eu1_0
      · simpa using eu1_1
    · rw [List.getElem?_eq_none (by omega), List.getElem?_eq_none (by simp; omega)]
  have k2 := h2
  have lt2 : ∀ x ∈ p2, x.block < W.heap.size := by obtain ⟨m, hm⟩ := k2; exact DataW.trod_lt m _ _ _ hm
  obtain ⟨pa2, la2, ca2, rfl⟩ := okWide_slice Tryz.underlying29 (hval 2 29 v2 rfl rfl)
  obtain ⟨x2, ex2, lx2, rx2⟩ : ∃ l : List MutV, la2 = l.length ∧ (dMutS l).le maxLen ∧ Rd W (· < W.heap.size) (dMutS l) (.slice pa2 l.length ca2) := by
    obtain ⟨fuel, hf⟩ := h2
    obtain ⟨l, a', c', e, h1, h2⟩ := rdMutS (cs := [.slice pa2 la2 ca2]) (by simpa [Value.cells] using hf)
    simp only [List.cons.injEq, and_true, Value.slice.injEq] at e
    obtain ⟨rfl, rfl, rfl⟩ := e
    exact ⟨l, rfl, h1, h2⟩
  subst ex2
  clear hA0 hval0
  refine (lawMutateRow x0 x1 x2 a0_1 c0_1 a0_2 c0_2 a1_1 c1_1 pa2 ca2 W lu0_1 lu0_2 lu1_1 lx2 lu0_0 lu1_0 ru0_1 ru0_2 ru1_1 rx2).mono fun e W' ⟨he, bel⟩ => ?_
  subst he
  exact ⟨_, rfl, _, _, _, [], _, [], hW', trodAll_mk1 (shut_bool Tryz.underlying4 _), (trodAll_cons_mk (Below.trod laidOut (by kernel_rfl) (of_decide_eq_true (by kernel_rfl)) k0 bel lt0) (trodAll_cons_mk (Below.trod laidOut (by kernel_rfl) (of_decide_eq_true (by kernel_rfl)) k1 bel lt1) (trodAll_cons_mk (Below.trod laidOut (by kernel_rfl) (of_decide_eq_true (by kernel_rfl)) k2 bel lt2) trodAll_mk0))), rfl, bel.frame _, fun h => by cases h⟩
theorem fnExactMutateRow_proved : Rows.FnExactMutateRowSaid :=
  OpenClaim.holds_of_wide 3 Tryz.f3 rfl rfl rfl rfl rfl rfl rfl ⟨rfl, rfl, rfl, rfl, rfl⟩ rfl rfl rfl rfl rfl (by kernel_rfl) Tryz.func3 (by kernel_rfl)
    (of_decide_eq_true (by kernel_rfl)) (by unfold Func.isWrapper; first | (rw [if_pos (by decide +kernel)]; kernel_rfl) | (rw [if_neg (by decide +kernel)]; exact ⟨rfl, rfl⟩))
    (fun os started H enc _ => liftedFnExactMutateRow os started H enc)
#print axioms fnExactMutateRow_proved
end Go.Proofs.YtplkmffoldbinaaGreat
