/- impl.OpCode answers of every schema and operation what the specification answers, both codes, and writes into nothing that came in. No condition besides: at every argument, in every world that the row's reading allows. -/
import Derived.Test.YtaepgahejelkaaaGreatRows
import Derived.Test.YtaepgahejelkaaaGreatZbz
import Derived.Test.YtaepgahejelkaaaGreatZca
import Derived.WalkKit
import Derived.ProofKit
import Derived.OpenShut
import Derived.ChangeOld
import Derived.Below
namespace Go.Proofs.YtaepgahejelkaaaGreat
open Go.ChangeShapes Go.WideShapes Go.ChangeAt Go.RowKit
theorem own : ownKnob Tryz.prog.godebug = none := by kernel_rfl
theorem laidOut : laidOutB Tryz.prog = true := by kernel_rfl
set_option maxRecDepth 100000 in
theorem liftedFnExactOpCode (os : Os) (started : os.Started) (H : Type) (enc : TypeId × Value → H) :
    ReturnsInHanded {} Tryz.checked os 3 .any (Rows.fnExactOpCodeSpec.pre6 enc Tryz.prog Tryz.f3 Rows.fnExactOpCodeRow.domain false) (Rows.fnExactOpCodeSpec.post enc Tryz.prog Tryz.f3 false true false false) := by
  refine returnsInHanded_of_change (C := Tryz.checked) own started (by kernel_rfl) Tryz.func3
    (ChangeSpec.witness6 (enc := enc) (C := Tryz.checked) false ⟨#[], #[.agg #[.slice none 0 0], .agg #[.int .i64 0, .string ByteArray.empty, .string ByteArray.empty, .slice none 0 0, .slice none 0 0, .slice none 0 0, .slice none 0 0, .bool false]], []⟩ 8 (by kernel_rfl) (by kernel_rfl) (by kernel_rfl) (by kernel_rfl)) ?_
  intro W base args ds gs before hval0 hW hcnd _
  have hval : ∀ (j : Nat) t v, Tryz.f3.params[j]? = some t → args[j]? = some v → Value.okWide Tryz.prog W .any base t v := hval0
  have hW' := hW
  obtain ⟨p, q, hA0, hV, rfl, hfz, hnd⟩ := hW
  have hA : DataW.TrodAll enc Tryz.prog W 0 (fun _ => true) true Tryz.f3.params.toList args.toList ds p := hA0
  rw [Tryz.params3] at hA hval
  obtain ⟨v0, vs0, d0, ds0, p0, q0, hargs, rfl, rfl, h0, r0⟩ := trodAll_cons hA
  obtain ⟨v1, vs1, d1, ds1, p1, q1, rfl, rfl, rfl, h1, r1⟩ := trodAll_cons r0
  obtain ⟨rfl, rfl, rfl⟩ := trodAll_nil r1
  obtain rfl : args = #[v0, v1] := by cases args; simp_all
  obtain ⟨rfl, rfl⟩ := trodVars_none hV
  have k0 := h0
  have lt0 : ∀ x ∈ p0, x.block < W.heap.size := by obtain ⟨m, hm⟩ := k0; exact DataW.trod_lt m _ _ _ hm
  obtain ⟨cs0, rfl, -⟩ := okWide_struct Tryz.underlying24 (hval 0 24 v0 rfl rfl)
  obtain ⟨x0, hlen0, hx0⟩ : ∃ y : ScV, RdTh W 1 (dSchema y) cs0.toList := by
    obtain ⟨fuel, hf⟩ := h0
    exact rdSchema fuel _ _ (by simpa [Value.cells] using hf)
  obtain ⟨u0_0, eu0_0, ru0_0, lu0_0⟩ := hx0 0 (by omega)
  replace ru0_0 : Rd W (· < W.heap.size) (dTableS x0.tables) u0_0 := ru0_0
  obtain ⟨a0_0, c0_0, rfl⟩ := ru0_0.lsSlice
  obtain rfl : cs0 = #[.slice a0_0 x0.tables.length c0_0] := by
    apply Array.ext'
    apply List.ext_getElem?
    intro j
    by_cases hj : j < 1
    · obtain rfl : j = 0 := by omega
      simpa using eu0_0
    · rw [List.getElem?_eq_none (by omega), List.getElem?_eq_none (by simp; omega)]
  have k1 := h1
  have lt1 : ∀ x ∈ p1, x.block < W.heap.size := by obtain ⟨m, hm⟩ := k1; exact DataW.trod_lt m _ _ _ hm
  obtain ⟨cs1, rfl, -⟩ := okWide_struct Tryz.underlying30 (hval 1 30 v1 rfl rfl)
  obtain ⟨x1, hlen1, hx1⟩ : ∃ y : OpV, RdTh W 8 (dOp y) cs1.toList := by
    obtain ⟨fuel, hf⟩ := h1
    exact rdOp fuel _ _ (by simpa [Value.cells] using hf)
  obtain ⟨u1_0, eu1_0, ru1_0, lu1_0⟩ := hx1 0 (by omega)
  obtain rfl : u1_0 = .int .i64 x1.kd := ru1_0
  obtain ⟨u1_1, eu1_1, ru1_1, lu1_1⟩ := hx1 1 (by omega)
  obtain rfl : u1_1 = .string ⟨x1.tb.toArray⟩ := ru1_1
  obtain ⟨u1_2, eu1_2, ru1_2, lu1_2⟩ := hx1 2 (by omega)
  obtain rfl : u1_2 = .string ⟨x1.nm.toArray⟩ := ru1_2
  obtain ⟨u1_3, eu1_3, ru1_3, lu1_3⟩ := hx1 3 (by omega)
  replace ru1_3 : Rd W (· < W.heap.size) (dCondS x1.wh) u1_3 := ru1_3
  obtain ⟨a1_3, c1_3, rfl⟩ := ru1_3.lsSlice
  obtain ⟨u1_4, eu1_4, ru1_4, lu1_4⟩ := hx1 4 (by omega)
  replace ru1_4 : Rd W (· < W.heap.size) (dSetS x1.row) u1_4 := ru1_4
  obtain ⟨a1_4, c1_4, rfl⟩ := ru1_4.lsSlice
  obtain ⟨u1_5, eu1_5, ru1_5, lu1_5⟩ := hx1 5 (by omega)
  replace ru1_5 : Rd W (· < W.heap.size) (dMutS x1.mu) u1_5 := ru1_5
  obtain ⟨a1_5, c1_5, rfl⟩ := ru1_5.lsSlice
  obtain ⟨u1_6, eu1_6, ru1_6, lu1_6⟩ := hx1 6 (by omega)
  replace ru1_6 : Rd W (· < W.heap.size) (dStringS x1.cs) u1_6 := ru1_6
  obtain ⟨a1_6, c1_6, rfl⟩ := ru1_6.lsSlice
  obtain ⟨u1_7, eu1_7, ru1_7, lu1_7⟩ := hx1 7 (by omega)
  obtain rfl : u1_7 = .bool x1.un := ru1_7
  obtain rfl : cs1 = #[.int .i64 x1.kd, .string ⟨x1.tb.toArray⟩, .string ⟨x1.nm.toArray⟩, .slice a1_3 x1.wh.length c1_3, .slice a1_4 x1.row.length c1_4, .slice a1_5 x1.mu.length c1_5, .slice a1_6 x1.cs.length c1_6, .bool x1.un] := by
    apply Array.ext'
    apply List.ext_getElem?
    intro j
    by_cases hj : j < 8
    · rcases (by omega : j = 0 ∨ j = 1 ∨ j = 2 ∨ j = 3 ∨ j = 4 ∨ j = 5 ∨ j = 6 ∨ j = 7) with rfl | rfl | rfl | rfl | rfl | rfl | rfl | rfl
      · simpa using eu1_0
      · simpa using eu1_1
      · simpa using eu1_2
      · simpa using eu1_3
      · simpa using eu1_4
      · simpa using eu1_5
      · simpa using eu1_6
      · simpa using eu1_7
    · rw [List.getElem?_eq_none (by omega), List.getElem?_eq_none (by simp; omega)]
  clear hA0 hval0
  refine (lawOpCode x0 x1 a0_0 c0_0 a1_3 c1_3 a1_4 c1_4 a1_5 c1_5 a1_6 c1_6 W lu0_0 lu1_3 lu1_4 lu1_5 lu1_6 lu1_0 lu1_1 lu1_2 ru0_0 ru1_3 ru1_4 ru1_5 ru1_6).mono fun e W' ⟨he, bel⟩ => ?_
  subst he
  exact ⟨_, rfl, _, _, _, [], _, [], hW', trodAll_mk1 (shut_bool Tryz.underlying4 _), (trodAll_cons_mk (Below.trod laidOut (by kernel_rfl) (of_decide_eq_true (by kernel_rfl)) k0 bel lt0) (trodAll_cons_mk (Below.trod laidOut (by kernel_rfl) (of_decide_eq_true (by kernel_rfl)) k1 bel lt1) trodAll_mk0)), rfl, bel.frame _, fun h => by cases h⟩
theorem fnExactOpCode_proved : Rows.FnExactOpCodeSaid :=
  OpenClaim.holds_of_wide 3 Tryz.f3 rfl rfl rfl rfl rfl rfl rfl ⟨rfl, rfl, rfl, rfl, rfl⟩ rfl rfl rfl rfl rfl (by kernel_rfl) Tryz.func3 (by kernel_rfl)
    (of_decide_eq_true (by kernel_rfl)) (by unfold Func.isWrapper; first | (rw [if_pos (by decide +kernel)]; kernel_rfl) | (rw [if_neg (by decide +kernel)]; exact ⟨rfl, rfl⟩))
    (fun os started H enc _ => liftedFnExactOpCode os started H enc)
#print axioms fnExactOpCode_proved
end Go.Proofs.YtaepgahejelkaaaGreat
