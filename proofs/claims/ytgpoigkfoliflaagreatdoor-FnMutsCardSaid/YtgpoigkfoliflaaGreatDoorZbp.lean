import Derived.Test.YtgpoigkfoliflaaGreatDoorZaj
import Derived.Test.YtgpoigkfoliflaaGreatDoorZav
import Derived.Great.BuildSlice
import Derived.Test.YtgpoigkfoliflaaGreatDoorZbo
import Derived.Test.YtgpoigkfoliflaaGreatDoorZap
namespace Go.Proofs.YtgpoigkfoliflaaGreatDoor
open Go.RowKit
set_option linter.unusedSimpArgs false
def DAns2 (w : World) (l : List At) (c : Int) (e : Ending) (w' : World) : Prop := ∃ a cp, e = .returned (.tuple #[.slice a l.length cp, .int .i64 c]) ∧ OwnAts w' (fun b => w.heap.size ≤ b ∧ b < w'.heap.size) a l ∧ Below w.heap.size w w'
def dfN (c : Cl) : Int := if c.k = 1 then max c.lo (min c.hi 0) else 0
def dfL (c : Cl) : List At := if c.mn = 0 then [] else [⟨c.k, dfN c, []⟩]
def dfR (c : Cl) : List At := if colB c = true then dfL c else []
def dfC (c : Cl) : Int := if colB c = true then 0 else 1
theorem ownNew {w W : World} {x : At} {q : Nat} {ty : TypeId} (hq : q = W.heap.size) (hs : w.heap.size ≤ W.heap.size) : OwnAts (W.alloc (.cells #[.int .i64 x.k, .int .i64 x.n, .string ⟨x.t.toArray⟩] ty)) (fun b => w.heap.size ≤ b ∧ b < (W.alloc (.cells #[.int .i64 x.k, .int .i64 x.n, .string ⟨x.t.toArray⟩] ty)).heap.size) (some ⟨q, 0, none⟩) [x] := by
  subst hq
  have hr := World.rowIs_alloc W #[.int .i64 x.k, .int .i64 x.n, .string ⟨x.t.toArray⟩] ty (fun i => (#[.int .i64 x.k, .int .i64 x.n, .string ⟨x.t.toArray⟩] : Array Value).getD i default) (fun i h => by match i, h with | 0, _ => rfl | 1, _ => rfl | 2, _ => rfl)
  refine .inr ⟨_, 0, rfl, ⟨hs, hr.lt⟩, fun m hm => ⟨?_, by rw [Nat.zero_add]; exact hr.frozen m⟩⟩
  have hm' : m < 3 := by simpa using hm
  rw [Nat.zero_add, hr.cell (by simpa using hm')]
  rcases (by omega : m = 0 ∨ m = 1 ∨ m = 2) with rfl | rfl | rfl <;> rfl
theorem ansNew2 {w W : World} {x : At} {l : List At} {q : Nat} {c c' : Int} {ty : TypeId} (HD : Hid (l = [x])) (hc : c = c') (hq : q = W.heap.size) (hB : Below w.heap.size w W) : DAns2 w l c' (.returned (.tuple #[.slice (some ⟨q, 0, none⟩) 1 1, .int .i64 c])) (W.alloc (.cells #[.int .i64 x.k, .int .i64 x.n, .string ⟨x.t.toArray⟩] ty)) := by
  have h := HD.out
  subst h
  subst hc
  exact ⟨_, _, rfl, ownNew hq hB.size, hB.alloc hB.size _⟩
theorem ansNil2 {w W : World} {l : List At} {a : Option Addr} {cp : Nat} {c c' : Int} (HD : Hid (l = [])) (hc : c = c') (hB : Below w.heap.size w W) : DAns2 w l c' (.returned (.tuple #[.slice a 0 cp, .int .i64 c])) W := by
  have h := HD.out
  subst h
  subst hc
  exact ⟨_, _, rfl, .inl rfl, hB⟩
theorem two_new {w W : World} (o : Obj) (h : Below w.heap.size w W) : Below w.heap.size w (W.alloc o) := h.alloc h.size _
theorem df_impl {c : Cl} (h : colB c = true) (hk : c.k = 1) : c.lo ≤ c.hi := by
  unfold colB at h
  rw [kind1 hk] at h
  simp at h
  omega
set_option maxRecDepth 100000 in
set_option maxHeartbeats 1600000 in
theorem defaultOfI (c : Cl) (w : World) (ht : c.nm.length ≤ maxLen) (hr : c.rf.length ≤ maxLen) : Calls Tryz.prog 6 #[.agg #[.string ⟨c.nm.toArray⟩, .int .i64 c.k, .int .i64 c.mn, .int .i64 c.mx, .int .i64 c.lo, .int .i64 c.hi, .string ⟨c.rf.toArray⟩, .bool c.st]] w (DAns2 w (dfR c) (dfC c)) := by
  have hx := boxC 39 w c
  have CO : Hid (∀ W, BoxC 39 w W c → Calls Tryz.prog 16 #[.agg #[.string ⟨c.nm.toArray⟩, .int .i64 c.k, .int .i64 c.mn, .int .i64 c.mx, .int .i64 c.lo, .int .i64 c.hi, .string ⟨c.rf.toArray⟩, .bool c.st]] W fun e w' => e = .returned (.bool (colB c)) ∧ BoxC 39 w w' c) := fun W h => (columnOKi c W ht hr).mono (fun e w' ⟨he, hB⟩ => ⟨he, h.later hB⟩)
  have x0 := cell_at (o := 0) hx.1 rfl
  have x1 := cell_at (o := 1) hx.1 rfl
  have x2 := cell_at (o := 2) hx.1 rfl
  have x3 := cell_at (o := 3) hx.1 rfl
  have x4 := cell_at (o := 4) hx.1 rfl
  have x5 := cell_at (o := 5) hx.1 rfl
  have x6 := cell_at (o := 6) hx.1 rfl
  have x7 := cell_at (o := 7) hx.1 rfl
  clear ht hr
  cases hc : colB c
  case false =>
    have HD : Hid (dfR c = []) := by show dfR c = []; unfold dfR; simp [hc]
    have HC : Hid ((1 : Int) = dfC c) := by show 1 = dfC c; unfold dfC; simp [hc]
    rw [hc] at CO
    clear hc
    go_enter Tryz.func6, Tryz.ntmps6
    go_wp2_with (go_at_call 16; refine (CO.out _ hx).mono ?_; rintro e w1 ⟨rfl, hx⟩; have x0 := cell_at (o := 0) hx.1 rfl; have x1 := cell_at (o := 1) hx.1 rfl; have x2 := cell_at (o := 2) hx.1 rfl; have x3 := cell_at (o := 3) hx.1 rfl; have x4 := cell_at (o := 4) hx.1 rfl; have x5 := cell_at (o := 5) hx.1 rfl; have x6 := cell_at (o := 6) hx.1 rfl; have x7 := cell_at (o := 7) hx.1 rfl)
    go_ret2
    exact ansNil2 HD HC.out (by first | exact hx.2 | exact two_new _ hx.2)
  have HL := df_impl hc
  have HD : Hid (dfR c = dfL c) := by show dfR c = _; unfold dfR; simp [hc]
  have HC : Hid ((0 : Int) = dfC c) := by show 0 = dfC c; unfold dfC; simp [hc]
  rw [hc] at CO
  clear hc
  by_cases hm : c.mn = 0
  case pos =>
    have HD : Hid (dfR c = []) := by show dfR c = []; rw [HD.out]; unfold dfL; rw [if_pos hm]
    have hm' : (c.mn == 0) = true := by simpa using hm
    clear hm HL
    go_enter Tryz.func6, Tryz.ntmps6
    go_wp2_with (go_at_call 16; refine (CO.out _ hx).mono ?_; rintro e w1 ⟨rfl, hx⟩; have x0 := cell_at (o := 0) hx.1 rfl; have x1 := cell_at (o := 1) hx.1 rfl; have x2 := cell_at (o := 2) hx.1 rfl; have x3 := cell_at (o := 3) hx.1 rfl; have x4 := cell_at (o := 4) hx.1 rfl; have x5 := cell_at (o := 5) hx.1 rfl; have x6 := cell_at (o := 6) hx.1 rfl; have x7 := cell_at (o := 7) hx.1 rfl)
    go_ret2
    exact ansNil2 HD HC.out (by first | exact hx.2 | exact two_new _ hx.2)
  have hm' : (c.mn == 0) = false := by simpa using hm
  by_cases hk : c.k = 1
  case neg =>
    have HD : Hid (dfR c = [⟨c.k, 0, []⟩]) := by show dfR c = _; rw [HD.out]; unfold dfL dfN; rw [if_neg hm, if_neg hk]
    have hk' : (c.k == 1) = false := by simpa using hk
    clear hm hk HL
    go_enter Tryz.func6, Tryz.ntmps6
    go_wp2_with (go_at_call 16; refine (CO.out _ hx).mono ?_; rintro e w1 ⟨rfl, hx⟩; have x0 := cell_at (o := 0) hx.1 rfl; have x1 := cell_at (o := 1) hx.1 rfl; have x2 := cell_at (o := 2) hx.1 rfl; have x3 := cell_at (o := 3) hx.1 rfl; have x4 := cell_at (o := 4) hx.1 rfl; have x5 := cell_at (o := 5) hx.1 rfl; have x6 := cell_at (o := 6) hx.1 rfl; have x7 := cell_at (o := 7) hx.1 rfl; have hb1 : w.heap.size < w1.heap.size := (Array.getElem?_eq_some_iff.1 hx.1).1; have hnb : (w.heap.size = w1.heap.size) = False := (by simp; omega))
    go_ret2
    exact ansNew2 (x := ⟨c.k, 0, []⟩) HD HC.out (by simp) (two_new _ hx.2)
  have HD : Hid (dfR c = [⟨c.k, max c.lo (min c.hi 0), []⟩]) := by show dfR c = _; rw [HD.out]; unfold dfL dfN; rw [if_neg hm, if_pos hk]
  have hk' : (c.k == 1) = true := by simpa using hk
  have hlh := HL hk
  clear hm hk HL
  go_enter Tryz.func6, Tryz.ntmps6
  go_wp2_with (go_at_call 16; refine (CO.out _ hx).mono ?_; rintro e w1 ⟨rfl, hx⟩; have x0 := cell_at (o := 0) hx.1 rfl; have x1 := cell_at (o := 1) hx.1 rfl; have x2 := cell_at (o := 2) hx.1 rfl; have x3 := cell_at (o := 3) hx.1 rfl; have x4 := cell_at (o := 4) hx.1 rfl; have x5 := cell_at (o := 5) hx.1 rfl; have x6 := cell_at (o := 6) hx.1 rfl; have x7 := cell_at (o := 7) hx.1 rfl; have hb1 : w.heap.size < w1.heap.size := (Array.getElem?_eq_some_iff.1 hx.1).1; have hnb : (w.heap.size = w1.heap.size) = False := (by simp; omega))
  all_goals
    go_ret2
    first | (have e : max c.lo (min c.hi 0) = c.lo := (by omega); rw [e] at HD; exact ansNew2 (x := ⟨c.k, c.lo, []⟩) HD HC.out (by simp) (two_new _ hx.2)) | (have e : max c.lo (min c.hi 0) = c.hi := (by omega); rw [e] at HD; exact ansNew2 (x := ⟨c.k, c.hi, []⟩) HD HC.out (by simp) (two_new _ hx.2)) | (have e : max c.lo (min c.hi 0) = 0 := (by omega); rw [e] at HD; exact ansNew2 (x := ⟨c.k, 0, []⟩) HD HC.out (by simp) (two_new _ hx.2))
end Go.Proofs.YtgpoigkfoliflaaGreatDoor
namespace Go.Proofs.YtgpoigkfoliflaaGreatDoor
open Go.RowKit
set_option linter.unusedSimpArgs false
theorem plT_tab : ∀ t, t < 3 → TabP (plT t) ∧ (plT t).ok := by
  intro t ht
  rcases (by omega : t = 0 ∨ t = 1 ∨ t = 2) with rfl | rfl | rfl
  · refine ⟨⟨by decide, by decide, fun i h => ?_, fun i h => absurd h (by simp [plT])⟩, by simp [plT, Tb.ok, maxLen], by simp [plT, maxLen], ?_, by simp [plT]⟩
    · rcases (by simp [plT] at h; omega : i = 0 ∨ i = 1) with rfl | rfl
      · exact ⟨rfl, fun k hk => absurd hk (by omega)⟩
      · refine ⟨rfl, fun k hk => ?_⟩
        obtain rfl : k = 0 := by omega
        simp [plT]
    · intro x hx
      simp only [plT, List.mem_cons, List.not_mem_nil, or_false] at hx
      rcases hx with rfl | rfl <;> simp [Cl.ok, maxLen]
  · refine ⟨⟨by decide, by decide, fun i h => ?_, fun i h => ?_⟩, by simp [plT, Tb.ok, maxLen], by simp [plT, maxLen], ?_, by simp [plT, maxLen]⟩
    · rcases (by simp [plT] at h; omega : i = 0 ∨ i = 1 ∨ i = 2) with rfl | rfl | rfl
      · exact ⟨rfl, fun k hk => absurd hk (by omega)⟩
      · refine ⟨rfl, fun k hk => ?_⟩
        obtain rfl : k = 0 := by omega
        simp [plT]
      · refine ⟨rfl, fun k hk => ?_⟩
        rcases (by omega : k = 0 ∨ k = 1) with rfl | rfl <;> simp [plT]
    · obtain rfl : i = 0 := by simp [plT] at h; omega
      exact ⟨by simp [plT], fun j hj => by omega⟩
    · intro x hx
      simp only [plT, List.mem_cons, List.not_mem_nil, or_false] at hx
      rcases hx with rfl | rfl | rfl <;> simp [Cl.ok, maxLen]
  · refine ⟨⟨by decide, by decide, fun i h => ?_, fun i h => ?_⟩, by simp [plT, Tb.ok, maxLen], by simp [plT, maxLen], ?_, by simp [plT, maxLen]⟩
    · rcases (by simp [plT] at h; omega : i = 0 ∨ i = 1 ∨ i = 2) with rfl | rfl | rfl
      · exact ⟨rfl, fun k hk => absurd hk (by omega)⟩
      · refine ⟨rfl, fun k hk => ?_⟩
        obtain rfl : k = 0 := by omega
        simp [plT]
      · refine ⟨rfl, fun k hk => ?_⟩
        rcases (by omega : k = 0 ∨ k = 1) with rfl | rfl <;> simp [plT]
    · obtain rfl : i = 0 := by simp [plT] at h; omega
      exact ⟨by simp [plT], fun j hj => by omega⟩
    · intro x hx
      simp only [plT, List.mem_cons, List.not_mem_nil, or_false] at hx
      rcases hx with rfl | rfl | rfl <;> simp [Cl.ok, maxLen]
theorem plT_def : ∀ t, t < 3 → ∀ cl ∈ (plT t).cols, datumB (dfL cl) = true ∧ fitC cl (dfL cl) = 0 := by
  intro t ht cl h
  rcases (by omega : t = 0 ∨ t = 1 ∨ t = 2) with rfl | rfl | rfl
  · simp only [plT, List.mem_cons, List.not_mem_nil, or_false] at h
    rcases h with rfl | rfl <;> exact ⟨by decide, by decide⟩
  · simp only [plT, List.mem_cons, List.not_mem_nil, or_false] at h
    rcases h with rfl | rfl | rfl <;> exact ⟨by decide, by decide⟩
  · simp only [plT, List.mem_cons, List.not_mem_nil, or_false] at h
    rcases h with rfl | rfl | rfl <;> exact ⟨by decide, by decide⟩
end Go.Proofs.YtgpoigkfoliflaaGreatDoor
