/- impl.ColumnOf answers of every table and every text what the specification answers, writes into nothing that came in. No condition besides: at every argument, in every world that the row's reading allows. -/
import Derived.Test.YthakmdkaciopnaaRows
import Derived.Test.YthakmdkaciopnaaTCo
import Derived.Test.YthakmdkaciopnaaTRead
import Derived.WalkKit
import Derived.ProofKit
import Derived.OpenShut
import Derived.ChangeOld
import Derived.Below
namespace Go.Proofs.Ythakmdkaciopnaa
open Go.ChangeShapes Go.WideShapes Go.ChangeAt Go.RowKit
theorem own : ownKnob Try.prog.godebug = none := by kernel_rfl
theorem laidOut : laidOutB Try.prog = true := by kernel_rfl
set_option maxRecDepth 100000 in
theorem liftedFnExactColumnOf (os : Os) (started : os.Started) (H : Type) (enc : TypeId × Value → H) :
    ReturnsInHanded {} Try.checked os 4 .any (Rows.fnExactColumnOfSpec.pre6 enc Try.prog Try.f4 Rows.fnExactColumnOfRow.domain false) (Rows.fnExactColumnOfSpec.post enc Try.prog Try.f4 false true false false) := by
  refine returnsInHanded_of_change (C := Try.checked) own started (by kernel_rfl) Try.func4
    (ChangeSpec.witness6 (enc := enc) (C := Try.checked) false ⟨#[], #[.agg #[.string ByteArray.empty, .slice none 0 0, .slice none 0 0, .bool false], .string ByteArray.empty], []⟩ 8 (by kernel_rfl) (by kernel_rfl) (by kernel_rfl) (by kernel_rfl)) ?_
  intro W base args ds gs before hval0 hW hcnd _
  have hval : ∀ (j : Nat) t v, Try.f4.params[j]? = some t → args[j]? = some v → Value.okWide Try.prog W .any base t v := hval0
  have hW' := hW
  obtain ⟨p, q, hA0, hV, rfl, hfz, hnd⟩ := hW
  have hA : DataW.TrodAll enc Try.prog W 0 (fun _ => true) true Try.f4.params.toList args.toList ds p := hA0
  rw [Try.params4] at hA hval
  obtain ⟨v0, vs0, d0, ds0, p0, q0, hargs, rfl, rfl, h0, r0⟩ := trodAll_cons hA
  obtain ⟨v1, vs1, d1, ds1, p1, q1, rfl, rfl, rfl, h1, r1⟩ := trodAll_cons r0
  obtain ⟨rfl, rfl, rfl⟩ := trodAll_nil r1
  obtain rfl : args = #[v0, v1] := by cases args; simp_all
  obtain ⟨rfl, rfl⟩ := trodVars_none hV
  obtain ⟨cs0, rfl, -⟩ := okWide_struct Try.underlying36 (hval 0 36 v0 rfl rfl)
  have k0 := h0
  have lt0 : ∀ x ∈ p0, x.block < W.heap.size := by obtain ⟨m, hm⟩ := k0; exact DataW.trod_lt m _ _ _ hm
  have k1 := h1
  have lt1 : ∀ x ∈ p1, x.block < W.heap.size := by obtain ⟨m, hm⟩ := k1; exact DataW.trod_lt m _ _ _ hm
  obtain ⟨t0, ca0, cc0, ua0, uc0, ex0, ho0, hh0⟩ : ∃ (t : Tb) (ca : Option Addr) (cc : Nat) (ua : Option Addr) (uc : Nat), cs0.toList = [.string ⟨t.nm.toArray⟩, .slice ca t.cols.length cc, .slice ua t.uq.length uc, .bool t.rt] ∧ t.ok ∧ t.Has W (· < W.heap.size) ca ua := by
    obtain ⟨fuel, hf⟩ := h0
    exact readTable (by simpa [Value.cells] using hf)
  obtain rfl : cs0 = #[.string ⟨t0.nm.toArray⟩, .slice ca0 t0.cols.length cc0, .slice ua0 t0.uq.length uc0, .bool t0.rt] := by cases cs0; simp_all
  obtain ⟨s1, es1⟩ := okWide_string Try.underlying9 (hval 1 9 v1 rfl rfl)
  subst es1
  have hs1 : s1.size ≤ maxLen := by
    obtain ⟨fuel, hf⟩ := h1
    obtain ⟨s, e, -, hs⟩ := DataW.trod_string Try.underlying9 hf
    obtain rfl : s1 = s := by simpa [Value.cells] using e
    exact hs
  obtain ⟨sl1, rfl⟩ : ∃ sl : List UInt8, s1 = ⟨sl.toArray⟩ := ⟨s1.data.toList, by simp⟩
  have hsl1 : sl1.length ≤ maxLen := by simpa [ByteArray.size] using hs1
  clear hA0 hval0
  refine (lawColumnOf t0 sl1 ca0 cc0 ua0 uc0 W ho0 hsl1 hh0).mono fun e W' ⟨he, bel⟩ => ?_
  subst he
  exact ⟨_, rfl, _, _, _, [], _, [], hW', trodAll_mk1 (shut_bool Try.underlying4 _), (trodAll_cons_mk (Below.trod laidOut (by kernel_rfl) (of_decide_eq_true (by kernel_rfl)) k0 bel lt0) (trodAll_cons_mk (Below.trod laidOut (by kernel_rfl) (of_decide_eq_true (by kernel_rfl)) k1 bel lt1) trodAll_mk0)), rfl, bel.frame _, fun h => by cases h⟩
theorem fnExactColumnOf_proved : Rows.FnExactColumnOfSaid :=
  OpenClaim.holds_of_wide 4 Try.f4 rfl rfl rfl rfl rfl rfl rfl ⟨rfl, rfl, rfl, rfl, rfl⟩ rfl rfl rfl rfl rfl (by kernel_rfl) Try.func4 (by kernel_rfl)
    (of_decide_eq_true (by kernel_rfl)) (by unfold Func.isWrapper; first | (rw [if_pos (by decide +kernel)]; kernel_rfl) | (rw [if_neg (by decide +kernel)]; exact ⟨rfl, rfl⟩))
    (fun os started H enc _ => liftedFnExactColumnOf os started H enc)
#print axioms fnExactColumnOf_proved
end Go.Proofs.Ythakmdkaciopnaa
