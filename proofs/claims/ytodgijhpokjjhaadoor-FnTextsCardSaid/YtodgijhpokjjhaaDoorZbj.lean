import Derived.Test.YtodgijhpokjjhaaDoorZbi
import Derived.Test.YtodgijhpokjjhaaDoorZan
namespace Go.Proofs.YtodgijhpokjjhaaDoor
open Go.RowKit
set_option linter.unusedSimpArgs false
theorem good_of {j : J} (h : okB j = true) : Good j := by
  unfold okB at h
  have := of_decide_eq_true h
  cases e : cnt 12 j with
  | none => rw [e] at this; simp [left] at this
  | some n => exact ⟨12, n, e⟩
noncomputable def prA (j : J) : List UInt8 := if okB j then pr j else []
noncomputable def prC (j : J) : Int := if okB j then 0 else 1
theorem Tab.here {w W : World} (h : Tab w w.heap.size) (hb : Below w.heap.size w W) : Tab W W.heap.size := Lib.tabBelow_of_tabIs (h W hb)
theorem ret_sc {a b : List UInt8} {c d : Int} (h : a = b) (h' : c = d) : Ending.returned (.tuple #[.string ⟨a.toArray⟩, .int .i64 c]) = .returned (.tuple #[.string ⟨b.toArray⟩, .int .i64 d]) := by rw [h, h']
def PrintSaid (f : Nat) (j : J) : Prop := ∀ (cs : List Value) (A : Nat → Prop) (w : World), RJ w A j cs → j.sz ≤ 1048576 → Tab w w.heap.size →
    Calls Tryd.prog f #[.agg cs.toArray] w fun e w' => e = .returned (.tuple #[.string ⟨(prA j).toArray⟩, .int .i64 (prC j)]) ∧ Below w.heap.size w w'
set_option maxRecDepth 100000 in
set_option maxHeartbeats 3200000 in
theorem printI (j : J) : PrintSaid 4 j := by
  intro cs A w hr hz hT
  have HR : Hid (RJ w A j cs) := hr
  rw [RJ_eq] at hr
  obtain ⟨ka, kc, ia, ic, rfl, -⟩ := hr
  have hB0 : Below w.heap.size w (w.alloc (.cells #[.int .i64 j.k, .int .i64 j.n, .string ⟨j.t.toArray⟩, .slice ka j.keys.length kc, .slice ia j.items.length ic] 28)) := (Below.refl _ _).alloc (Nat.le_refl _) _
  have HB0 : Hid (Below w.heap.size w _) := hB0
  have G0 : Hid ((w.alloc (.cells #[.int .i64 j.k, .int .i64 j.n, .string ⟨j.t.toArray⟩, .slice ka j.keys.length kc, .slice ia j.items.length ic] 28)).heap[w.heap.size]? = some (.cells #[.int .i64 j.k, .int .i64 j.n, .string ⟨j.t.toArray⟩, .slice ka j.keys.length kc, .slice ia j.items.length ic] 28)) := heap_new0 _ _
  clear hB0
  cases ok : okB j
  · have HA : Hid (([] : List UInt8) = prA j ∧ (1 : Int) = prC j) := by constructor <;> simp [prA, prC, ok]
    have HO : Hid (okB j = false) := ok
    clear ok
    go_enter Tryd.func4, Tryd.ntmps4
    go_wp2_with (go_at_call 8; refine (jsonOK j _ _ _ (HR.out.later HB0.out)).mono ?_; rintro e w1 ⟨rfl, hB1⟩; rw [HO.out])
    go_ret2
    exact ⟨ret_sc HA.out.1 HA.out.2, HB0.out.trans (hB1.mono (by simp))⟩
  · have HA : Hid (pr j = prA j ∧ (0 : Int) = prC j) := by constructor <;> simp [prA, prC, ok]
    have hg := good_of ok
    have HO : Hid (okB j = true) := ok
    have hpl := pr_len j hg
    obtain ⟨c, l, hcl, -⟩ := pr_head hg
    have HP : Hid (0 < (pr j).length ∧ (pr j).length ≤ 800000000) := ⟨by rw [hcl]; simp, by omega⟩
    have HAJ : Hid (∀ W, Below w.heap.size w W → Calls Tryd.prog 9 #[.slice none 0 0, .agg #[.int .i64 j.k, .int .i64 j.n, .string ⟨j.t.toArray⟩, .slice ka j.keys.length kc, .slice ia j.items.length ic]] W fun e w' => ∃ v', e = .returned v' ∧ (convert 22 9 v').run Tryd.prog w' = .ok (.string ⟨(pr j).toArray⟩) w' ∧ Below w.heap.size w w') := fun W hb => by
      have h1 : RJ W (· < W.heap.size) j _ := RJ.same (fun _ _ => rfl) (fun _ h => h.2) _ _ (RJ.inside _ _ (HR.out.later hb))
      have h0 : Buf W W.heap.size (.slice none 0 0) [] := ⟨rfl, .inl ⟨rfl, rfl⟩⟩
      refine (appJson j _ W.heap.size (.slice none 0 0) [] W hg hz h1 h0 (Nat.le_refl _) (by have := HP.out.2; simp; omega) (hT.here hb)).mono ?_
      rintro e w' ⟨v', rfl, hb', ha'⟩
      rw [List.nil_append] at hb'
      exact ⟨v', rfl, own_conv (l := pr j) hb' HP.out.1, hb.trans ((ha'.below h0 (Nat.le_refl _)).mono hb.size)⟩
    clear ok hg hpl hcl hT hz
    generalize pr j = P at *
    go_enter Tryd.func4, Tryd.ntmps4
    go_wp2_with (first
      | (go_at_call 8; refine (jsonOK j _ _ _ (HR.out.later HB0.out)).mono ?_; rintro e w1 ⟨rfl, hB1⟩; rw [HO.out]; have g1 := heap_kept0 G0.out hB1; have x0 := cell_at (o := 0) g1 rfl; have x1 := cell_at (o := 1) g1 rfl; have x2 := cell_at (o := 2) g1 rfl; have x3 := cell_at (o := 3) g1 rfl; have x4 := cell_at (o := 4) g1 rfl; have HB1 : Hid (Below w.heap.size w w1) := HB0.out.trans (hB1.mono HB0.out.size); clear hB1 g1)
      | (go_at_call 9; refine (HAJ.out _ HB1.out).mono ?_; rintro e w2 ⟨v2, rfl, hcv, hB2⟩))
    go_ret2
    exact ⟨ret_sc HA.out.1 HA.out.2, hB2⟩
end Go.Proofs.YtodgijhpokjjhaaDoor
