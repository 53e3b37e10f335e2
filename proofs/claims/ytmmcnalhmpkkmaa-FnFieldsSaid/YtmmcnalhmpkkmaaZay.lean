import Derived.Test.YtmmcnalhmpkkmaaZax
namespace Go.Proofs.Ytmmcnalhmpkkmaa
open Go.RowKit
set_option linter.unusedSimpArgs false
def Box2 (w W : World) (oa ob : Obj) : Prop := W.heap[w.heap.size]? = some oa ∧ W.heap[w.heap.size + 1]? = some ob ∧ Below w.heap.size w W
theorem Box2.later {w W W' : World} {oa ob : Obj} (h : Box2 w W oa ob) (hB : Below W.heap.size W W') : Box2 w W' oa ob := ⟨heap_kept0 h.1 hB, heap_kept0 h.2.1 hB, h.2.2.trans (hB.mono h.2.2.size)⟩
theorem Box2.drew {w W : World} {oa ob : Obj} (h : Box2 w W oa ob) : Box2 w W.drew oa ob := h.later (Below.refl _ _).drew
theorem box2 (w : World) (oa ob : Obj) : Box2 w ((w.alloc oa).alloc ob) oa ob := two0 (Below.refl _ _)
noncomputable def sameA (a b : J) : Bool := okB a && (okB b && sameB a b)
def SameSaid (f : Nat) (a b : J) : Prop := ∀ (cs cs' : List Value) (A B : Nat → Prop) (w : World), RJ w A a cs → RJ w B b cs' → a.sz ≤ 1048576 → b.sz ≤ 1048576 →
    Calls Try.prog f #[.agg cs.toArray, .agg cs'.toArray] w fun e w' => e = .returned (.bool (sameA a b)) ∧ Below w.heap.size w w'
set_option maxRecDepth 100000 in
set_option maxHeartbeats 6400000 in
theorem sameI (a b : J) : SameSaid 7 a b := by
  intro cs cs' A B w hr hr' hza hzb
  have HA : Hid (RJ w A a cs) := hr
  have HB : Hid (RJ w B b cs') := hr'
  rw [RJ_eq] at hr hr'
  obtain ⟨ka, kca, ia, ica, rfl, -⟩ := hr
  obtain ⟨kb, kcb, ib, icb, rfl, -⟩ := hr'
  have hx : Box2 w ((w.alloc (.cells #[.int .i64 a.k, .int .i64 a.n, .string ⟨a.t.toArray⟩, .slice ka a.keys.length kca, .slice ia a.items.length ica] 26)).alloc (.cells #[.int .i64 b.k, .int .i64 b.n, .string ⟨b.t.toArray⟩, .slice kb b.keys.length kcb, .slice ib b.items.length icb] 26)) (.cells #[.int .i64 a.k, .int .i64 a.n, .string ⟨a.t.toArray⟩, .slice ka a.keys.length kca, .slice ia a.items.length ica] 26) (.cells #[.int .i64 b.k, .int .i64 b.n, .string ⟨b.t.toArray⟩, .slice kb b.keys.length kcb, .slice ib b.items.length icb] 26) := box2 _ _ _
  cases ea : okB a
  case false =>
    have HS : Hid (sameA a b = false) := by show sameA a b = _; unfold sameA; rw [ea]; rfl
    have OKa : Hid (∀ W, Box2 w W (.cells #[.int .i64 a.k, .int .i64 a.n, .string ⟨a.t.toArray⟩, .slice ka a.keys.length kca, .slice ia a.items.length ica] 26) (.cells #[.int .i64 b.k, .int .i64 b.n, .string ⟨b.t.toArray⟩, .slice kb b.keys.length kcb, .slice ib b.items.length icb] 26) → Calls Try.prog 10 #[.agg #[.int .i64 a.k, .int .i64 a.n, .string ⟨a.t.toArray⟩, .slice ka a.keys.length kca, .slice ia a.items.length ica]] W fun e w' => e = .returned (.bool false) ∧ Box2 w w' (.cells #[.int .i64 a.k, .int .i64 a.n, .string ⟨a.t.toArray⟩, .slice ka a.keys.length kca, .slice ia a.items.length ica] 26) (.cells #[.int .i64 b.k, .int .i64 b.n, .string ⟨b.t.toArray⟩, .slice kb b.keys.length kcb, .slice ib b.items.length icb] 26)) := fun W h => by
      have h1 := jsonOK a _ _ W (HA.out.later h.2.2)
      rw [ea] at h1
      exact h1.mono (fun e w' ⟨he, hB⟩ => ⟨he, h.later hB⟩)
    clear ea
    have x0 := cell_at (o := 0) hx.1 rfl
    have y0 := cell_at (o := 0) hx.2.1 rfl
    have x1 := cell_at (o := 1) hx.1 rfl
    have y1 := cell_at (o := 1) hx.2.1 rfl
    have x2 := cell_at (o := 2) hx.1 rfl
    have y2 := cell_at (o := 2) hx.2.1 rfl
    have x3 := cell_at (o := 3) hx.1 rfl
    have y3 := cell_at (o := 3) hx.2.1 rfl
    have x4 := cell_at (o := 4) hx.1 rfl
    have y4 := cell_at (o := 4) hx.2.1 rfl
    go_enter Try.func7, Try.ntmps7
    go_wp2_with (go_at_call 10; refine (OKa.out _ ?_).mono ?_; (first | assumption | exact hx.drew); rintro e w1 ⟨rfl, hx⟩; have x0 := cell_at (o := 0) hx.1 rfl; have y0 := cell_at (o := 0) hx.2.1 rfl; have x1 := cell_at (o := 1) hx.1 rfl; have y1 := cell_at (o := 1) hx.2.1 rfl; have x2 := cell_at (o := 2) hx.1 rfl; have y2 := cell_at (o := 2) hx.2.1 rfl; have x3 := cell_at (o := 3) hx.1 rfl; have y3 := cell_at (o := 3) hx.2.1 rfl; have x4 := cell_at (o := 4) hx.1 rfl; have y4 := cell_at (o := 4) hx.2.1 rfl)
    go_ret
    exact ⟨ret_b HS.out.symm, hx.2.2⟩
  cases eb : okB b
  case true.false =>
    have HS : Hid (sameA a b = false) := by show sameA a b = _; unfold sameA; rw [ea, eb]; rfl
    have OKa : Hid (∀ W, Box2 w W (.cells #[.int .i64 a.k, .int .i64 a.n, .string ⟨a.t.toArray⟩, .slice ka a.keys.length kca, .slice ia a.items.length ica] 26) (.cells #[.int .i64 b.k, .int .i64 b.n, .string ⟨b.t.toArray⟩, .slice kb b.keys.length kcb, .slice ib b.items.length icb] 26) → Calls Try.prog 10 #[.agg #[.int .i64 a.k, .int .i64 a.n, .string ⟨a.t.toArray⟩, .slice ka a.keys.length kca, .slice ia a.items.length ica]] W fun e w' => e = .returned (.bool true) ∧ Box2 w w' (.cells #[.int .i64 a.k, .int .i64 a.n, .string ⟨a.t.toArray⟩, .slice ka a.keys.length kca, .slice ia a.items.length ica] 26) (.cells #[.int .i64 b.k, .int .i64 b.n, .string ⟨b.t.toArray⟩, .slice kb b.keys.length kcb, .slice ib b.items.length icb] 26)) := fun W h => by
      have h1 := jsonOK a _ _ W (HA.out.later h.2.2)
      rw [ea] at h1
      exact h1.mono (fun e w' ⟨he, hB⟩ => ⟨he, h.later hB⟩)
    have OKb : Hid (∀ W, Box2 w W (.cells #[.int .i64 a.k, .int .i64 a.n, .string ⟨a.t.toArray⟩, .slice ka a.keys.length kca, .slice ia a.items.length ica] 26) (.cells #[.int .i64 b.k, .int .i64 b.n, .string ⟨b.t.toArray⟩, .slice kb b.keys.length kcb, .slice ib b.items.length icb] 26) → Calls Try.prog 10 #[.agg #[.int .i64 b.k, .int .i64 b.n, .string ⟨b.t.toArray⟩, .slice kb b.keys.length kcb, .slice ib b.items.length icb]] W fun e w' => e = .returned (.bool false) ∧ Box2 w w' (.cells #[.int .i64 a.k, .int .i64 a.n, .string ⟨a.t.toArray⟩, .slice ka a.keys.length kca, .slice ia a.items.length ica] 26) (.cells #[.int .i64 b.k, .int .i64 b.n, .string ⟨b.t.toArray⟩, .slice kb b.keys.length kcb, .slice ib b.items.length icb] 26)) := fun W h => by
      have h1 := jsonOK b _ _ W (HB.out.later h.2.2)
      rw [eb] at h1
      exact h1.mono (fun e w' ⟨he, hB⟩ => ⟨he, h.later hB⟩)
    clear ea eb
    have x0 := cell_at (o := 0) hx.1 rfl
    have y0 := cell_at (o := 0) hx.2.1 rfl
    have x1 := cell_at (o := 1) hx.1 rfl
    have y1 := cell_at (o := 1) hx.2.1 rfl
    have x2 := cell_at (o := 2) hx.1 rfl
    have y2 := cell_at (o := 2) hx.2.1 rfl
    have x3 := cell_at (o := 3) hx.1 rfl
    have y3 := cell_at (o := 3) hx.2.1 rfl
    have x4 := cell_at (o := 4) hx.1 rfl
    have y4 := cell_at (o := 4) hx.2.1 rfl
    go_enter Try.func7, Try.ntmps7
    go_wp2_with (first | (go_at_call 10; refine (OKa.out _ ?_).mono ?_; (first | assumption | exact hx.drew); rintro e w1 ⟨rfl, hx⟩; have x0 := cell_at (o := 0) hx.1 rfl; have y0 := cell_at (o := 0) hx.2.1 rfl; have x1 := cell_at (o := 1) hx.1 rfl; have y1 := cell_at (o := 1) hx.2.1 rfl; have x2 := cell_at (o := 2) hx.1 rfl; have y2 := cell_at (o := 2) hx.2.1 rfl; have x3 := cell_at (o := 3) hx.1 rfl; have y3 := cell_at (o := 3) hx.2.1 rfl; have x4 := cell_at (o := 4) hx.1 rfl; have y4 := cell_at (o := 4) hx.2.1 rfl) | (go_at_call 10; refine (OKb.out _ ?_).mono ?_; (first | assumption | exact hx.drew); rintro e w1 ⟨rfl, hx⟩; have x0 := cell_at (o := 0) hx.1 rfl; have y0 := cell_at (o := 0) hx.2.1 rfl; have x1 := cell_at (o := 1) hx.1 rfl; have y1 := cell_at (o := 1) hx.2.1 rfl; have x2 := cell_at (o := 2) hx.1 rfl; have y2 := cell_at (o := 2) hx.2.1 rfl; have x3 := cell_at (o := 3) hx.1 rfl; have y3 := cell_at (o := 3) hx.2.1 rfl; have x4 := cell_at (o := 4) hx.1 rfl; have y4 := cell_at (o := 4) hx.2.1 rfl))
    go_ret
    exact ⟨ret_b HS.out.symm, hx.2.2⟩
  case true.true =>
    have HS : Hid (sameA a b = sameB a b) := by show sameA a b = _; unfold sameA; rw [ea, eb]; simp
    have OKa : Hid (∀ W, Box2 w W (.cells #[.int .i64 a.k, .int .i64 a.n, .string ⟨a.t.toArray⟩, .slice ka a.keys.length kca, .slice ia a.items.length ica] 26) (.cells #[.int .i64 b.k, .int .i64 b.n, .string ⟨b.t.toArray⟩, .slice kb b.keys.length kcb, .slice ib b.items.length icb] 26) → Calls Try.prog 10 #[.agg #[.int .i64 a.k, .int .i64 a.n, .string ⟨a.t.toArray⟩, .slice ka a.keys.length kca, .slice ia a.items.length ica]] W fun e w' => e = .returned (.bool true) ∧ Box2 w w' (.cells #[.int .i64 a.k, .int .i64 a.n, .string ⟨a.t.toArray⟩, .slice ka a.keys.length kca, .slice ia a.items.length ica] 26) (.cells #[.int .i64 b.k, .int .i64 b.n, .string ⟨b.t.toArray⟩, .slice kb b.keys.length kcb, .slice ib b.items.length icb] 26)) := fun W h => by
      have h1 := jsonOK a _ _ W (HA.out.later h.2.2)
      rw [ea] at h1
      exact h1.mono (fun e w' ⟨he, hB⟩ => ⟨he, h.later hB⟩)
    have OKb : Hid (∀ W, Box2 w W (.cells #[.int .i64 a.k, .int .i64 a.n, .string ⟨a.t.toArray⟩, .slice ka a.keys.length kca, .slice ia a.items.length ica] 26) (.cells #[.int .i64 b.k, .int .i64 b.n, .string ⟨b.t.toArray⟩, .slice kb b.keys.length kcb, .slice ib b.items.length icb] 26) → Calls Try.prog 10 #[.agg #[.int .i64 b.k, .int .i64 b.n, .string ⟨b.t.toArray⟩, .slice kb b.keys.length kcb, .slice ib b.items.length icb]] W fun e w' => e = .returned (.bool true) ∧ Box2 w w' (.cells #[.int .i64 a.k, .int .i64 a.n, .string ⟨a.t.toArray⟩, .slice ka a.keys.length kca, .slice ia a.items.length ica] 26) (.cells #[.int .i64 b.k, .int .i64 b.n, .string ⟨b.t.toArray⟩, .slice kb b.keys.length kcb, .slice ib b.items.length icb] 26)) := fun W h => by
      have h1 := jsonOK b _ _ W (HB.out.later h.2.2)
      rw [eb] at h1
      exact h1.mono (fun e w' ⟨he, hB⟩ => ⟨he, h.later hB⟩)
    obtain ⟨sb, hsb⟩ : ∃ sb, sb = sameB a b := ⟨_, rfl⟩
    have AL : Hid (∀ W, Box2 w W (.cells #[.int .i64 a.k, .int .i64 a.n, .string ⟨a.t.toArray⟩, .slice ka a.keys.length kca, .slice ia a.items.length ica] 26) (.cells #[.int .i64 b.k, .int .i64 b.n, .string ⟨b.t.toArray⟩, .slice kb b.keys.length kcb, .slice ib b.items.length icb] 26) → Calls Try.prog 14 #[.agg #[.int .i64 a.k, .int .i64 a.n, .string ⟨a.t.toArray⟩, .slice ka a.keys.length kca, .slice ia a.items.length ica], .agg #[.int .i64 b.k, .int .i64 b.n, .string ⟨b.t.toArray⟩, .slice kb b.keys.length kcb, .slice ib b.items.length icb]] W fun e w' => e = .returned (.bool sb) ∧ Box2 w w' (.cells #[.int .i64 a.k, .int .i64 a.n, .string ⟨a.t.toArray⟩, .slice ka a.keys.length kca, .slice ia a.items.length ica] 26) (.cells #[.int .i64 b.k, .int .i64 b.n, .string ⟨b.t.toArray⟩, .slice kb b.keys.length kcb, .slice ib b.items.length icb] 26)) := fun W h => by
      have h1 := alike a b _ _ _ _ W (HA.out.later h.2.2) (HB.out.later h.2.2)
      rw [← hsb] at h1
      exact h1.mono (fun e w' ⟨he, hB⟩ => ⟨he, h.later hB⟩)
    have HSB : Hid (sb = sameB a b) := hsb
    clear ea eb hsb
    have x0 := cell_at (o := 0) hx.1 rfl
    have y0 := cell_at (o := 0) hx.2.1 rfl
    have x1 := cell_at (o := 1) hx.1 rfl
    have y1 := cell_at (o := 1) hx.2.1 rfl
    have x2 := cell_at (o := 2) hx.1 rfl
    have y2 := cell_at (o := 2) hx.2.1 rfl
    have x3 := cell_at (o := 3) hx.1 rfl
    have y3 := cell_at (o := 3) hx.2.1 rfl
    have x4 := cell_at (o := 4) hx.1 rfl
    have y4 := cell_at (o := 4) hx.2.1 rfl
    go_enter Try.func7, Try.ntmps7
    go_wp2_with (first | (go_at_call 10; refine (OKa.out _ ?_).mono ?_; (first | assumption | exact hx.drew); rintro e w1 ⟨rfl, hx⟩; have x0 := cell_at (o := 0) hx.1 rfl; have y0 := cell_at (o := 0) hx.2.1 rfl; have x1 := cell_at (o := 1) hx.1 rfl; have y1 := cell_at (o := 1) hx.2.1 rfl; have x2 := cell_at (o := 2) hx.1 rfl; have y2 := cell_at (o := 2) hx.2.1 rfl; have x3 := cell_at (o := 3) hx.1 rfl; have y3 := cell_at (o := 3) hx.2.1 rfl; have x4 := cell_at (o := 4) hx.1 rfl; have y4 := cell_at (o := 4) hx.2.1 rfl) | (go_at_call 10; refine (OKb.out _ ?_).mono ?_; (first | assumption | exact hx.drew); rintro e w1 ⟨rfl, hx⟩; have x0 := cell_at (o := 0) hx.1 rfl; have y0 := cell_at (o := 0) hx.2.1 rfl; have x1 := cell_at (o := 1) hx.1 rfl; have y1 := cell_at (o := 1) hx.2.1 rfl; have x2 := cell_at (o := 2) hx.1 rfl; have y2 := cell_at (o := 2) hx.2.1 rfl; have x3 := cell_at (o := 3) hx.1 rfl; have y3 := cell_at (o := 3) hx.2.1 rfl; have x4 := cell_at (o := 4) hx.1 rfl; have y4 := cell_at (o := 4) hx.2.1 rfl) | (go_at_call 14; refine (AL.out _ ?_).mono ?_; (first | assumption | exact hx.drew); rintro e w1 ⟨rfl, hx⟩; have x0 := cell_at (o := 0) hx.1 rfl; have y0 := cell_at (o := 0) hx.2.1 rfl; have x1 := cell_at (o := 1) hx.1 rfl; have y1 := cell_at (o := 1) hx.2.1 rfl; have x2 := cell_at (o := 2) hx.1 rfl; have y2 := cell_at (o := 2) hx.2.1 rfl; have x3 := cell_at (o := 3) hx.1 rfl; have y3 := cell_at (o := 3) hx.2.1 rfl; have x4 := cell_at (o := 4) hx.1 rfl; have y4 := cell_at (o := 4) hx.2.1 rfl))
    go_ret
    exact ⟨ret_b (HSB.out.trans HS.out.symm), hx.2.2⟩
end Go.Proofs.Ytmmcnalhmpkkmaa
