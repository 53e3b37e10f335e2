import Derived.Test.YtphonhokjhgacaaSameA
import Derived.Deep.RegionHeld3
namespace Go.Proofs.Ytphonhokjhgacaa
open Go.RowKit
set_option linter.unusedSimpArgs false
theorem Box2.cells {w W : World} {a0 a1 a2 a3 a4 b0 b1 b2 b3 b4 : Value} {t t' : TypeId} (h : Box2 w W (.cells #[a0, a1, a2, a3, a4] t) (.cells #[b0, b1, b2, b3, b4] t')) :
    W.cell? ⟨w.heap.size, 0, none⟩ = some a0 ∧ W.cell? ⟨w.heap.size, 1, none⟩ = some a1 ∧ W.cell? ⟨w.heap.size, 2, none⟩ = some a2 ∧ W.cell? ⟨w.heap.size, 3, none⟩ = some a3 ∧ W.cell? ⟨w.heap.size, 4, none⟩ = some a4 ∧
    W.cell? ⟨w.heap.size + 1, 0, none⟩ = some b0 ∧ W.cell? ⟨w.heap.size + 1, 1, none⟩ = some b1 ∧ W.cell? ⟨w.heap.size + 1, 2, none⟩ = some b2 ∧ W.cell? ⟨w.heap.size + 1, 3, none⟩ = some b3 ∧ W.cell? ⟨w.heap.size + 1, 4, none⟩ = some b4 :=
  ⟨cell_at (o := 0) h.1 rfl, cell_at (o := 1) h.1 rfl, cell_at (o := 2) h.1 rfl, cell_at (o := 3) h.1 rfl, cell_at (o := 4) h.1 rfl, cell_at (o := 0) h.2.1 rfl, cell_at (o := 1) h.2.1 rfl, cell_at (o := 2) h.2.1 rfl, cell_at (o := 3) h.2.1 rfl, cell_at (o := 4) h.2.1 rfl⟩
set_option maxRecDepth 100000 in
set_option maxHeartbeats 6400000 in
theorem sameS3 (a b : J) (ea : okB a = true) (eb : okB b = true) : SameSaid 5 a b := by
  intro cs cs' A B w hr hr' hza hzb
  have HA : Hid (RJ w A a cs) := hr
  have HB : Hid (RJ w B b cs') := hr'
  rw [RJ_eq] at hr hr'
  obtain ⟨ka, kca, ia, ica, rfl, -⟩ := hr
  obtain ⟨kb, kcb, ib, icb, rfl, -⟩ := hr'
  have hx : Box2 w ((w.alloc (.cells #[.int .i64 a.k, .int .i64 a.n, .string ⟨a.t.toArray⟩, .slice ka a.keys.length kca, .slice ia a.items.length ica] 30)).alloc (.cells #[.int .i64 b.k, .int .i64 b.n, .string ⟨b.t.toArray⟩, .slice kb b.keys.length kcb, .slice ib b.items.length icb] 30)) (.cells #[.int .i64 a.k, .int .i64 a.n, .string ⟨a.t.toArray⟩, .slice ka a.keys.length kca, .slice ia a.items.length ica] 30) (.cells #[.int .i64 b.k, .int .i64 b.n, .string ⟨b.t.toArray⟩, .slice kb b.keys.length kcb, .slice ib b.items.length icb] 30) := box2 _ _ _
  have HS : Hid (sameA a b = sameB a b) := by show sameA a b = _; unfold sameA; rw [ea, eb]; simp
  have OKa : Hid (∀ W, Box2 w W (.cells #[.int .i64 a.k, .int .i64 a.n, .string ⟨a.t.toArray⟩, .slice ka a.keys.length kca, .slice ia a.items.length ica] 30) (.cells #[.int .i64 b.k, .int .i64 b.n, .string ⟨b.t.toArray⟩, .slice kb b.keys.length kcb, .slice ib b.items.length icb] 30) → Calls Try.prog 11 #[.agg #[.int .i64 a.k, .int .i64 a.n, .string ⟨a.t.toArray⟩, .slice ka a.keys.length kca, .slice ia a.items.length ica]] W fun e w' => e = .returned (.bool true) ∧ Box2 w w' (.cells #[.int .i64 a.k, .int .i64 a.n, .string ⟨a.t.toArray⟩, .slice ka a.keys.length kca, .slice ia a.items.length ica] 30) (.cells #[.int .i64 b.k, .int .i64 b.n, .string ⟨b.t.toArray⟩, .slice kb b.keys.length kcb, .slice ib b.items.length icb] 30)) := fun W h => by
    have h1 := jsonOKs a _ _ W (HA.out.later h.2.2)
    rw [ea] at h1
    exact h1.mono (fun e w' ⟨he, hB⟩ => ⟨he, h.later hB⟩)
  have OKb : Hid (∀ W, Box2 w W (.cells #[.int .i64 a.k, .int .i64 a.n, .string ⟨a.t.toArray⟩, .slice ka a.keys.length kca, .slice ia a.items.length ica] 30) (.cells #[.int .i64 b.k, .int .i64 b.n, .string ⟨b.t.toArray⟩, .slice kb b.keys.length kcb, .slice ib b.items.length icb] 30) → Calls Try.prog 11 #[.agg #[.int .i64 b.k, .int .i64 b.n, .string ⟨b.t.toArray⟩, .slice kb b.keys.length kcb, .slice ib b.items.length icb]] W fun e w' => e = .returned (.bool true) ∧ Box2 w w' (.cells #[.int .i64 a.k, .int .i64 a.n, .string ⟨a.t.toArray⟩, .slice ka a.keys.length kca, .slice ia a.items.length ica] 30) (.cells #[.int .i64 b.k, .int .i64 b.n, .string ⟨b.t.toArray⟩, .slice kb b.keys.length kcb, .slice ib b.items.length icb] 30)) := fun W h => by
    have h1 := jsonOKs b _ _ W (HB.out.later h.2.2)
    rw [eb] at h1
    exact h1.mono (fun e w' ⟨he, hB⟩ => ⟨he, h.later hB⟩)
  have PRa : Hid (∀ W, Box2 w W (.cells #[.int .i64 a.k, .int .i64 a.n, .string ⟨a.t.toArray⟩, .slice ka a.keys.length kca, .slice ia a.items.length ica] 30) (.cells #[.int .i64 b.k, .int .i64 b.n, .string ⟨b.t.toArray⟩, .slice kb b.keys.length kcb, .slice ib b.items.length icb] 30) → Calls Try.prog 12 #[.agg #[.int .i64 a.k, .int .i64 a.n, .string ⟨a.t.toArray⟩, .slice ka a.keys.length kca, .slice ia a.items.length ica]] W fun e w' => e = .returned (.string ⟨(pr a).toArray⟩) ∧ Box2 w w' (.cells #[.int .i64 a.k, .int .i64 a.n, .string ⟨a.t.toArray⟩, .slice ka a.keys.length kca, .slice ia a.items.length ica] 30) (.cells #[.int .i64 b.k, .int .i64 b.n, .string ⟨b.t.toArray⟩, .slice kb b.keys.length kcb, .slice ib b.items.length icb] 30)) := fun W h => (printS a _ _ W (good_of ea) hza (HA.out.later h.2.2)).mono (fun e w' ⟨he, hB⟩ => ⟨he, h.later hB⟩)
  have PRb : Hid (∀ W, Box2 w W (.cells #[.int .i64 a.k, .int .i64 a.n, .string ⟨a.t.toArray⟩, .slice ka a.keys.length kca, .slice ia a.items.length ica] 30) (.cells #[.int .i64 b.k, .int .i64 b.n, .string ⟨b.t.toArray⟩, .slice kb b.keys.length kcb, .slice ib b.items.length icb] 30) → Calls Try.prog 12 #[.agg #[.int .i64 b.k, .int .i64 b.n, .string ⟨b.t.toArray⟩, .slice kb b.keys.length kcb, .slice ib b.items.length icb]] W fun e w' => e = .returned (.string ⟨(pr b).toArray⟩) ∧ Box2 w w' (.cells #[.int .i64 a.k, .int .i64 a.n, .string ⟨a.t.toArray⟩, .slice ka a.keys.length kca, .slice ia a.items.length ica] 30) (.cells #[.int .i64 b.k, .int .i64 b.n, .string ⟨b.t.toArray⟩, .slice kb b.keys.length kcb, .slice ib b.items.length icb] 30)) := fun W h => (printS b _ _ W (good_of eb) hzb (HB.out.later h.2.2)).mono (fun e w' ⟨he, hB⟩ => ⟨he, h.later hB⟩)
  obtain ⟨sb, hsb⟩ : ∃ sb, sb = sameB a b := ⟨_, rfl⟩
  have heq : (pr a == pr b) = sb := by rw [hsb]; exact eq_same (good_of ea) (good_of eb)
  have HSB : Hid (sb = sameB a b) := hsb
  clear ea eb hsb
  generalize pr a = pa at *
  generalize pr b = pb at *
  have x0 := cell_at (o := 0) hx.1 rfl
  have y0 := cell_at (o := 0) hx.2.1 rfl
  have x1 := cell_at (o := 1) hx.1 rfl
  have y1 := cell_at (o := 1) hx.2.1 rfl
  have x2 := cell_at (o := 2) hx.1 rfl
  have y2 := cell_at (o := 2) hx.2.1 rfl
  have x3 := cell_at (o := 3) hx.1 rfl
  have y3 := cell_at (o := 3) hx.2.1 rfl
  have x4 := cell_at (o := 4) hx.1 rfl
  have y4 := cell_at (o := 4) hx.2.1 rfl
  go_enter Try.func5, Try.ntmps5
  go_wp2_with fail
  go_region_held3 (fun W => W.cell? ⟨w.heap.size, 0, none⟩ = some (.int .i64 a.k) ∧ W.cell? ⟨w.heap.size, 1, none⟩ = some (.int .i64 a.n) ∧ W.cell? ⟨w.heap.size, 2, none⟩ = some (.string ⟨a.t.toArray⟩) ∧ W.cell? ⟨w.heap.size, 3, none⟩ = some (.slice ka a.keys.length kca) ∧ W.cell? ⟨w.heap.size, 4, none⟩ = some (.slice ia a.items.length ica) ∧ W.cell? ⟨w.heap.size + 1, 0, none⟩ = some (.int .i64 b.k) ∧ W.cell? ⟨w.heap.size + 1, 1, none⟩ = some (.int .i64 b.n) ∧ W.cell? ⟨w.heap.size + 1, 2, none⟩ = some (.string ⟨b.t.toArray⟩) ∧ W.cell? ⟨w.heap.size + 1, 3, none⟩ = some (.slice kb b.keys.length kcb) ∧ W.cell? ⟨w.heap.size + 1, 4, none⟩ = some (.slice ib b.items.length icb)) (first | exact hx.cells | exact hx.drew.cells) (first | (go_at_call 11; with_reducible refine (OKa.out _ ?_).mono ?_; (first | assumption | exact hx.drew); rintro e w1 ⟨rfl, hx⟩) | (go_at_call 11; with_reducible refine (OKb.out _ ?_).mono ?_; (first | assumption | exact hx.drew); rintro e w1 ⟨rfl, hx⟩) | (go_at_call 12; with_reducible refine (PRa.out _ ?_).mono ?_; (first | assumption | exact hx.drew); rintro e w1 ⟨rfl, hx⟩) | (go_at_call 12; with_reducible refine (PRb.out _ ?_).mono ?_; (first | assumption | exact hx.drew); rintro e w1 ⟨rfl, hx⟩))
  all_goals
    go_wp2_with fail
    go_ret
    exact ⟨ret_b (HSB.out.trans HS.out.symm), hx.2.2⟩
end Go.Proofs.Ytphonhokjhgacaa
