/- impl.MonitorCode answers of every schema and monitor what the specification answers, both codes, and writes into nothing that came in. No condition besides: at every argument, in every world that the row's reading allows. -/
import Derived.Test.YtenioffildinbaaRows
import Derived.Test.YtenioffildinbaaZbv
import Derived.Test.YtenioffildinbaaZbz
import Derived.Test.YtenioffildinbaaZca
import Derived.WalkKit
import Derived.ProofKit
import Derived.OpenShut
import Derived.ChangeOld
import Derived.Below
namespace Go.Proofs.Ytenioffildinbaa
open Go.ChangeShapes Go.WideShapes Go.ChangeAt Go.RowKit
theorem own : ownKnob Try.prog.godebug = none := by kernel_rfl
theorem laidOut : laidOutB Try.prog = true := by kernel_rfl
set_option maxRecDepth 100000 in
theorem liftedFnExactMonitorCode (os : Os) (started : os.Started) (H : Type) (enc : TypeId × Value → H) :
    ReturnsInHanded {} Try.checked os 3 .any (Rows.fnExactMonitorCodeSpec.pre6 enc Try.prog Try.f3 Rows.fnExactMonitorCodeRow.domain false) (Rows.fnExactMonitorCodeSpec.post enc Try.prog Try.f3 false true false false) := by
  refine returnsInHanded_of_change (C := Try.checked) own started (by kernel_rfl) Try.func3
    (ChangeSpec.witness6 (enc := enc) (C := Try.checked) false ⟨#[], #[.agg #[.slice none 0 0], .agg #[.string ByteArray.empty, .string ByteArray.empty, .slice none 0 0, .bool false, .bool false, .bool false, .bool false, .slice none 0 0]], []⟩ 8 (by kernel_rfl) (by kernel_rfl) (by kernel_rfl) (by kernel_rfl)) ?_
  intro W base args ds gs before hval0 hW hcnd _
  have hval : ∀ (j : Nat) t v, Try.f3.params[j]? = some t → args[j]? = some v → Value.okWide Try.prog W .any base t v := hval0
  have hW' := hW
  obtain ⟨p, q, hA0, hV, rfl, hfz, hnd⟩ := hW
  have hA : DataW.TrodAll enc Try.prog W 0 (fun _ => true) true Try.f3.params.toList args.toList ds p := hA0
  rw [Try.params3] at hA hval
  obtain ⟨v0, vs0, d0, ds0, p0, q0, hargs, rfl, rfl, h0, r0⟩ := trodAll_cons hA
  obtain ⟨v1, vs1, d1, ds1, p1, q1, rfl, rfl, rfl, h1, r1⟩ := trodAll_cons r0
  obtain ⟨rfl, rfl, rfl⟩ := trodAll_nil r1
  obtain rfl : args = #[v0, v1] := by cases args; simp_all
  obtain ⟨rfl, rfl⟩ := trodVars_none hV
  have k0 := h0
  have lt0 : ∀ x ∈ p0, x.block < W.heap.size := by obtain ⟨m, hm⟩ := k0; exact DataW.trod_lt m _ _ _ hm
  obtain ⟨cs0, rfl, -⟩ := okWide_struct Try.underlying24 (hval 0 24 v0 rfl rfl)
  obtain ⟨x0, hlen0, hx0⟩ : ∃ y : ScV, RdTh W 1 (dSchema y) cs0.toList := by
    obtain ⟨fuel, hf⟩ := h0
    exact rdSchema fuel _ _ (by simpa [Value.cells] using hf)
  obtain ⟨u0_0, eu0_0, ru0_0, lu0_0⟩ := hx0 0 (by omega)
  replace ru0_0 : Rd W (· < W.heap.size) (dTableS x0.tables) u0_0 := ru0_0
  obtain ⟨a0_0, c0_0, rfl⟩ := ru0_0.lsSlice
  obtain rfl : cs0 = #[.slice a0_0 x0.tables.length c0_0] := by
    apply Array.ext'
    apply List.ext_getElem?
    intro j
    by_cases hj : j < 1
    · obtain rfl : j = 0 := by omega
      simpa using eu0_0
    · rw [List.getElem?_eq_none (by omega), List.getElem?_eq_none (by simp; omega)]
  have k1 := h1
  have lt1 : ∀ x ∈ p1, x.block < W.heap.size := by obtain ⟨m, hm⟩ := k1; exact DataW.trod_lt m _ _ _ hm
  obtain ⟨cs1, rfl, -⟩ := okWide_struct Try.underlying28 (hval 1 28 v1 rfl rfl)
  obtain ⟨x1, hlen1, hx1⟩ : ∃ y : MoV, RdTh W 8 (dMonitor y) cs1.toList := by
    obtain ⟨fuel, hf⟩ := h1
    exact rdMonitor fuel _ _ (by simpa [Value.cells] using hf)
  obtain ⟨u1_0, eu1_0, ru1_0, lu1_0⟩ := hx1 0 (by omega)
  obtain rfl : u1_0 = .string ⟨x1.nm.toArray⟩ := ru1_0
  obtain ⟨u1_1, eu1_1, ru1_1, lu1_1⟩ := hx1 1 (by omega)
  obtain rfl : u1_1 = .string ⟨x1.tb.toArray⟩ := ru1_1
  obtain ⟨u1_2, eu1_2, ru1_2, lu1_2⟩ := hx1 2 (by omega)
  replace ru1_2 : Rd W (· < W.heap.size) (dStringS x1.cs) u1_2 := ru1_2
  obtain ⟨a1_2, c1_2, rfl⟩ := ru1_2.lsSlice
  obtain ⟨u1_3, eu1_3, ru1_3, lu1_3⟩ := hx1 3 (by omega)
  obtain rfl : u1_3 = .bool x1.ini := ru1_3
  obtain ⟨u1_4, eu1_4, ru1_4, lu1_4⟩ := hx1 4 (by omega)
  obtain rfl : u1_4 = .bool x1.ins := ru1_4
  obtain ⟨u1_5, eu1_5, ru1_5, lu1_5⟩ := hx1 5 (by omega)
  obtain rfl : u1_5 = .bool x1.del := ru1_5
  obtain ⟨u1_6, eu1_6, ru1_6, lu1_6⟩ := hx1 6 (by omega)
  obtain rfl : u1_6 = .bool x1.mod := ru1_6
  obtain ⟨u1_7, eu1_7, ru1_7, lu1_7⟩ := hx1 7 (by omega)
  replace ru1_7 : Rd W (· < W.heap.size) (dCondS x1.wh) u1_7 := ru1_7
  obtain ⟨a1_7, c1_7, rfl⟩ := ru1_7.lsSlice
  obtain rfl : cs1 = #[.string ⟨x1.nm.toArray⟩, .string ⟨x1.tb.toArray⟩, .slice a1_2 x1.cs.length c1_2, .bool x1.ini, .bool x1.ins, .bool x1.del, .bool x1.mod, .slice a1_7 x1.wh.length c1_7] := by
    apply Array.ext'
    apply List.ext_getElem?
    intro j
    by_cases hj : j < 8
    · rcases (by omega : j = 0 ∨ j = 1 ∨ j = 2 ∨ j = 3 ∨ j = 4 ∨ j = 5 ∨ j = 6 ∨ j = 7) with rfl | rfl | rfl | rfl | rfl | rfl | rfl | rfl
      · simpa using eu1_0
      · simpa using eu1_1
      · simpa using eu1_2
      · simpa using eu1_3
      · simpa using eu1_4
      · simpa using eu1_5
      · simpa using eu1_6
      · simpa using eu1_7
    · rw [List.getElem?_eq_none (by omega), List.getElem?_eq_none (by simp; omega)]
  clear hA0 hval0
  refine (lawMonitorCode x0 x1 a0_0 c0_0 a1_2 c1_2 a1_7 c1_7 W lu0_0 lu1_2 lu1_7 lu1_0 lu1_1 ru0_0 ru1_2 ru1_7).mono fun e W' ⟨he, bel⟩ => ?_
  subst he
  exact ⟨_, rfl, _, _, _, [], _, [], hW', trodAll_mk1 (shut_bool Try.underlying4 _), (trodAll_cons_mk (Below.trod laidOut (by kernel_rfl) (of_decide_eq_true (by kernel_rfl)) k0 bel lt0) (trodAll_cons_mk (Below.trod laidOut (by kernel_rfl) (of_decide_eq_true (by kernel_rfl)) k1 bel lt1) trodAll_mk0)), rfl, bel.frame _, fun h => by cases h⟩
theorem fnExactMonitorCode_proved : Rows.FnExactMonitorCodeSaid :=
  OpenClaim.holds_of_wide 3 Try.f3 rfl rfl rfl rfl rfl rfl rfl ⟨rfl, rfl, rfl, rfl, rfl⟩ rfl rfl rfl rfl rfl (by kernel_rfl) Try.func3 (by kernel_rfl)
    (of_decide_eq_true (by kernel_rfl)) (by unfold Func.isWrapper; first | (rw [if_pos (by decide +kernel)]; kernel_rfl) | (rw [if_neg (by decide +kernel)]; exact ⟨rfl, rfl⟩))
    (fun os started H enc _ => liftedFnExactMonitorCode os started H enc)
#print axioms fnExactMonitorCode_proved
end Go.Proofs.Ytenioffildinbaa
