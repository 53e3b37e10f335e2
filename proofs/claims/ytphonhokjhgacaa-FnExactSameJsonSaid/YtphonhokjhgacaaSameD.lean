import Derived.Test.YtphonhokjhgacaaSameB
namespace Go.Proofs.Ytphonhokjhgacaa
open Go.RowKit
set_option linter.unusedSimpArgs false
set_option maxRecDepth 100000 in
set_option maxHeartbeats 800000 in
theorem sameS2 (a b : J) (ea : okB a = true) (eb : okB b = false) : SameSaid 5 a b := by
  intro cs cs' A B w hr hr' hza hzb
  have HA : Hid (RJ w A a cs) := hr
  have HB : Hid (RJ w B b cs') := hr'
  rw [RJ_eq] at hr hr'
  obtain ⟨ka, kca, ia, ica, rfl, -⟩ := hr
  obtain ⟨kb, kcb, ib, icb, rfl, -⟩ := hr'
  have hx : Box2 w ((w.alloc (.cells #[.int .i64 a.k, .int .i64 a.n, .string ⟨a.t.toArray⟩, .slice ka a.keys.length kca, .slice ia a.items.length ica] 30)).alloc (.cells #[.int .i64 b.k, .int .i64 b.n, .string ⟨b.t.toArray⟩, .slice kb b.keys.length kcb, .slice ib b.items.length icb] 30)) (.cells #[.int .i64 a.k, .int .i64 a.n, .string ⟨a.t.toArray⟩, .slice ka a.keys.length kca, .slice ia a.items.length ica] 30) (.cells #[.int .i64 b.k, .int .i64 b.n, .string ⟨b.t.toArray⟩, .slice kb b.keys.length kcb, .slice ib b.items.length icb] 30) := box2 _ _ _
  have HS : Hid (sameA a b = false) := by show sameA a b = _; unfold sameA; rw [ea, eb]; rfl
  have OKa : Hid (∀ W, Box2 w W (.cells #[.int .i64 a.k, .int .i64 a.n, .string ⟨a.t.toArray⟩, .slice ka a.keys.length kca, .slice ia a.items.length ica] 30) (.cells #[.int .i64 b.k, .int .i64 b.n, .string ⟨b.t.toArray⟩, .slice kb b.keys.length kcb, .slice ib b.items.length icb] 30) → Calls Try.prog 11 #[.agg #[.int .i64 a.k, .int .i64 a.n, .string ⟨a.t.toArray⟩, .slice ka a.keys.length kca, .slice ia a.items.length ica]] W fun e w' => e = .returned (.bool true) ∧ Box2 w w' (.cells #[.int .i64 a.k, .int .i64 a.n, .string ⟨a.t.toArray⟩, .slice ka a.keys.length kca, .slice ia a.items.length ica] 30) (.cells #[.int .i64 b.k, .int .i64 b.n, .string ⟨b.t.toArray⟩, .slice kb b.keys.length kcb, .slice ib b.items.length icb] 30)) := fun W h => by
    have h1 := jsonOKs a _ _ W (HA.out.later h.2.2)
    rw [ea] at h1
    exact h1.mono (fun e w' ⟨he, hB⟩ => ⟨he, h.later hB⟩)
  have OKb : Hid (∀ W, Box2 w W (.cells #[.int .i64 a.k, .int .i64 a.n, .string ⟨a.t.toArray⟩, .slice ka a.keys.length kca, .slice ia a.items.length ica] 30) (.cells #[.int .i64 b.k, .int .i64 b.n, .string ⟨b.t.toArray⟩, .slice kb b.keys.length kcb, .slice ib b.items.length icb] 30) → Calls Try.prog 11 #[.agg #[.int .i64 b.k, .int .i64 b.n, .string ⟨b.t.toArray⟩, .slice kb b.keys.length kcb, .slice ib b.items.length icb]] W fun e w' => e = .returned (.bool false) ∧ Box2 w w' (.cells #[.int .i64 a.k, .int .i64 a.n, .string ⟨a.t.toArray⟩, .slice ka a.keys.length kca, .slice ia a.items.length ica] 30) (.cells #[.int .i64 b.k, .int .i64 b.n, .string ⟨b.t.toArray⟩, .slice kb b.keys.length kcb, .slice ib b.items.length icb] 30)) := fun W h => by
    have h1 := jsonOKs b _ _ W (HB.out.later h.2.2)
    rw [eb] at h1
    exact h1.mono (fun e w' ⟨he, hB⟩ => ⟨he, h.later hB⟩)
  clear ea eb
  have x0 := cell_at (o := 0) hx.1 rfl
  have y0 := cell_at (o := 0) hx.2.1 rfl
  have x1 := cell_at (o := 1) hx.1 rfl
  have y1 := cell_at (o := 1) hx.2.1 rfl
  have x2 := cell_at (o := 2) hx.1 rfl
  have y2 := cell_at (o := 2) hx.2.1 rfl
  have x3 := cell_at (o := 3) hx.1 rfl
  have y3 := cell_at (o := 3) hx.2.1 rfl
  have x4 := cell_at (o := 4) hx.1 rfl
  have y4 := cell_at (o := 4) hx.2.1 rfl
  go_enter Try.func5, Try.ntmps5
  go_wp2_with fail
  go_region_with (first | (go_at_call 11; (with_reducible refine (OKa.out _ ?_).mono ?_); (first | exact hx | exact hx.drew); rintro e w1 ⟨rfl, hx⟩; have x0 := cell_at (o := 0) hx.1 rfl; have y0 := cell_at (o := 0) hx.2.1 rfl; have x1 := cell_at (o := 1) hx.1 rfl; have y1 := cell_at (o := 1) hx.2.1 rfl; have x2 := cell_at (o := 2) hx.1 rfl; have y2 := cell_at (o := 2) hx.2.1 rfl; have x3 := cell_at (o := 3) hx.1 rfl; have y3 := cell_at (o := 3) hx.2.1 rfl; have x4 := cell_at (o := 4) hx.1 rfl; have y4 := cell_at (o := 4) hx.2.1 rfl) | (go_at_call 11; (with_reducible refine (OKb.out _ ?_).mono ?_); (first | exact hx | exact hx.drew); rintro e w1 ⟨rfl, hx⟩; have x0 := cell_at (o := 0) hx.1 rfl; have y0 := cell_at (o := 0) hx.2.1 rfl; have x1 := cell_at (o := 1) hx.1 rfl; have y1 := cell_at (o := 1) hx.2.1 rfl; have x2 := cell_at (o := 2) hx.1 rfl; have y2 := cell_at (o := 2) hx.2.1 rfl; have x3 := cell_at (o := 3) hx.1 rfl; have y3 := cell_at (o := 3) hx.2.1 rfl; have x4 := cell_at (o := 4) hx.1 rfl; have y4 := cell_at (o := 4) hx.2.1 rfl))
  all_goals
    go_wp2_with fail
    go_ret
    exact ⟨ret_b HS.out.symm, hx.2.2⟩
end Go.Proofs.Ytphonhokjhgacaa
