import Derived.Test.YtooiejlbnddfmaaFSp
namespace Go.Proofs.Ytooiejlbnddfmaa
open Go.RowKit
set_option linter.unusedSimpArgs false
set_option maxHeartbeats 800000 in
theorem szFr (f : Fr) (L : Int) (w : World) (h0 : 0 ≤ L) (h1 : L ≤ 1048576) (ht : f.buf.length ≤ maxLen) :
    Calls Try.prog 6 #[.agg #[.string ⟨f.buf.toArray⟩, .int .i64 f.d, .bool f.q, .bool f.s, .bool f.c], .int .i64 L] w fun e w' => e = .returned (.int .i64 (lessI L f.buf.length)) ∧ Below w.heap.size w w' := by
  unfold maxLen at ht
  by_cases hn : L - (f.buf.length : Int) < 0
  · have HR : Hid (lessI L f.buf.length = -1) := less_no hn
    go_enter Try.func6, Try.ntmps6
    go_wp2_with fail
    go_ret
    exact ⟨ret_i HR.out.symm, (Below.refl _ _).alloc (Nat.le_refl _) _⟩
  · have HR : Hid (lessI L f.buf.length = L - f.buf.length) := less_yes (by omega)
    go_enter Try.func6, Try.ntmps6
    go_wp2_with fail
    go_ret
    exact ⟨ret_i HR.out.symm, (Below.refl _ _).alloc (Nat.le_refl _) _⟩
set_option maxHeartbeats 1600000 in
theorem toFr (f : Fr) (w : World) :
    Calls Try.prog 8 #[.agg #[.string ⟨f.buf.toArray⟩, .int .i64 f.d, .bool f.q, .bool f.s, .bool f.c]] w fun e w' => e = .returned (.agg #[.string ⟨f.buf.toArray⟩, .int .i64 f.d, .bool f.q, .bool f.s, .bool f.c]) ∧ Below w.heap.size w w' := by
  go_enter Try.func8, Try.ntmps8
  go_wp2_with fail
  exact bodyPost_ret (v := .agg #[.string ⟨f.buf.toArray⟩, .int .i64 f.d, .bool f.q, .bool f.s, .bool f.c]) (by simp [results, Try.results8, go_sem]) rfl ⟨rfl, (((Below.refl _ _).alloc (Nat.le_refl _) _).alloc (by simp) _).alloc (by simp; omega) _⟩
theorem ok_same {f : Fr} (hc : f.c = false) : okF f = sameF f (feedL fr0 f.buf).1 := by
  unfold okF
  rw [if_neg (by simp [hc])]
  by_cases h3 : 3000 < f.buf.length
  · rw [if_pos h3]
    cases e : sameF f (feedL fr0 f.buf).1
    · rfl
    · have := sameF_iff.1 e
      have h4 := (inv_feed inv0 f.buf).len
      rw [← this] at h4
      omega
  · rw [if_neg h3]
theorem ok_some {f : Fr} (hc : f.c = false) (hn : (feedL fr0 f.buf).2 ≠ []) : okF f = false := by
  unfold okF
  rw [if_neg (by simp [hc])]
  split
  · rfl
  · cases e : sameF f (feedL fr0 f.buf).1
    · rfl
    · exfalso
      have h := sameF_iff.1 e
      exact hn (feed_none (by rw [← h]; simp [fr0]))
theorem sameF_comm (f g : Fr) : sameF f g = sameF g f := by
  rw [Bool.eq_iff_iff, sameF_iff, sameF_iff]
  exact ⟨Eq.symm, Eq.symm⟩
set_option maxRecDepth 100000 in
set_option maxHeartbeats 6400000 in
theorem okS (f : Fr) (w : World) (hl : f.buf.length ≤ 10000000) :
    Calls Try.prog 7 #[.agg #[.string ⟨f.buf.toArray⟩, .int .i64 f.d, .bool f.q, .bool f.s, .bool f.c]] w fun e w' => e = .returned (.bool (okF f)) ∧ Below w.heap.size w w' := by
  cases hc : f.c
  case true =>
    have HR : Hid (okF f = sameF f frC) := by show okF f = _; unfold okF; rw [if_pos hc]
    go_enter Try.func7, Try.ntmps7
    go_wp2_with fail
    all_goals
      go_ret
      refine ⟨ret_b ?_, (Below.refl _ _).alloc (Nat.le_refl _) _⟩
      rw [HR.out]
      simp [sameF, frC, *]
  by_cases hb : f.buf = []
  · have HR : Hid (okF f = sameF f fr0) := by show okF f = _; unfold okF; rw [if_neg (by simp [hc]), if_neg (by rw [hb]; simp), hb]; rfl
    rw [hb]
    go_enter Try.func7, Try.ntmps7
    go_wp2_with fail
    all_goals
      go_ret
      refine ⟨ret_b ?_, (Below.refl _ _).alloc (Nat.le_refl _) _⟩
      rw [HR.out]
      simp [sameF, fr0, *]
  obtain ⟨g, hg⟩ : ∃ g, g = (feedL fr0 f.buf).1 := ⟨_, rfl⟩
  obtain ⟨o, ho⟩ : ∃ o, o = (feedL fr0 f.buf).2 := ⟨_, rfl⟩
  have hbe : (f.buf == []) = false := by simpa using hb
  have HB1 : Hid (Below w.heap.size w (w.alloc (frB f))) := (Below.refl _ _).alloc (Nat.le_refl _) _
  have FE : Hid (∀ W, Calls Try.prog 20 #[.agg #[.string ⟨#[]⟩, .int .i64 0, .bool false, .bool false, .bool false], .string ⟨f.buf.toArray⟩] W (fun e W' => ∃ a c, e = .returned (.tuple #[.agg #[.string ⟨g.buf.toArray⟩, .int .i64 g.d, .bool g.q, .bool g.s, .bool g.c], .slice a o.length c]) ∧ Below W.heap.size W W')) := fun W => by
    have := feedS ⟨f.buf.toArray⟩ fr0 W inv0 (by show f.buf.toArray.size ≤ _; simpa using hl)
    refine this.mono (fun e W' ⟨a, c, he, hB, _⟩ => ?_)
    have e2 : (⟨f.buf.toArray⟩ : ByteArray).data.toList = f.buf := rfl
    rw [e2] at he
    exact ⟨a, c, by rw [hg, ho]; exact he, hB⟩
  have HXB : Hid (∀ W : World, Below (w.alloc (frB f)).heap.size (w.alloc (frB f)) W → W.heap[w.heap.size]? = some (frB f) ∧ Below w.heap.size w W) := fun W h => ⟨kept (heap_new' w (frB f)) h, HB1.out.trans (h.mono (by simp))⟩
  have HXA : Hid (∀ (W : World) (x : Fr), W.heap[w.heap.size]? = some (frB f) → (W.alloc (frB x)).heap[w.heap.size]? = some (frB f)) := fun W x h => kept h ((Below.refl _ _).alloc (Nat.le_refl _) _)
  by_cases hon : o = []
  case neg =>
    have HR : Hid (okF f = false) := ok_some hc (by rw [← ho]; exact hon)
    have hol : ((o.length : Int) == 0) = false := by
      have : 0 < o.length := List.length_pos_iff.2 hon
      simp; omega
    clear hg ho hon hb
    obtain ⟨fb, fd, fq, fs, fc⟩ := f
    dsimp only at *
    subst hc
    generalize o.length = n at *
    go_enter Try.func7, Try.ntmps7
    go_wp2_with (go_at_call 20; refine (FE.out _).mono ?_; rintro e w3 ⟨a3, c3, rfl, hB3⟩; have HB3 := Lib.hid (HXB.out _ hB3); clear hB3)
    go_ret
    exact ⟨ret_b HR.out.symm, HB3.out.2.alloc HB3.out.2.size _⟩
  have HR : Hid (okF f = sameF f g) := by show _ = _; rw [hg]; exact ok_same hc
  subst hon
  clear hg ho hb
  obtain ⟨fb, fd, fq, fs, fc⟩ := f
  obtain ⟨gb, gd, gq, gs, gc⟩ := g
  dsimp only at *
  subst hc
  by_cases e1 : fb = gb
  case neg =>
    have HR : Hid (okF ⟨fb, fd, fq, fs, false⟩ = false) := by show _ = _; rw [HR.out]; simp [sameF, e1]
    have e1' : ¬ gb = fb := fun h => e1 h.symm
    go_enter Try.func7, Try.ntmps7
    go_wp2_with (go_at_call 20; refine (FE.out _).mono ?_; rintro e w3 ⟨a3, c3, rfl, hB3⟩; have HB3 := Lib.hid (HXB.out _ hB3); have x := frB_cell (show (w3.alloc (.cells #[.string ⟨gb.toArray⟩, .int .i64 gd, .bool gq, .bool gs, .bool gc] 26)).heap[w.heap.size]? = _ from HXA.out _ ⟨gb, gd, gq, gs, gc⟩ HB3.out.1); have y := frB_cell HB3.out.1; dsimp only at x y; obtain ⟨x0, x1, x2, x3, x4⟩ := x; obtain ⟨y0, y1, y2, y3, y4⟩ := y; clear hB3)
    go_ret
    exact ⟨ret_b HR.out.symm, HB3.out.2.alloc HB3.out.2.size _⟩
  subst e1
  by_cases e2 : fd = gd
  case neg =>
    have HR : Hid (okF ⟨fb, fd, fq, fs, false⟩ = false) := by show _ = _; rw [HR.out]; simp [sameF, e2]
    have e2' : ¬ gd = fd := fun h => e2 h.symm
    go_enter Try.func7, Try.ntmps7
    go_wp2_with (go_at_call 20; refine (FE.out _).mono ?_; rintro e w3 ⟨a3, c3, rfl, hB3⟩; have HB3 := Lib.hid (HXB.out _ hB3); have x := frB_cell (show (w3.alloc (.cells #[.string ⟨fb.toArray⟩, .int .i64 gd, .bool gq, .bool gs, .bool gc] 26)).heap[w.heap.size]? = _ from HXA.out _ ⟨fb, gd, gq, gs, gc⟩ HB3.out.1); have y := frB_cell HB3.out.1; dsimp only at x y; obtain ⟨x0, x1, x2, x3, x4⟩ := x; obtain ⟨y0, y1, y2, y3, y4⟩ := y; clear hB3)
    go_ret
    exact ⟨ret_b HR.out.symm, HB3.out.2.alloc HB3.out.2.size _⟩
  subst e2
  by_cases e3 : fq = gq
  case neg =>
    have HR : Hid (okF ⟨fb, fd, fq, fs, false⟩ = false) := by show _ = _; rw [HR.out]; simp [sameF, e3]
    have e3' : ¬ gq = fq := fun h => e3 h.symm
    have n1 : (gq == fq) = false := by simpa using e3'
    have n2 : (gq != fq) = true := by simpa using e3'
    go_enter Try.func7, Try.ntmps7
    go_wp2_with (go_at_call 20; refine (FE.out _).mono ?_; rintro e w3 ⟨a3, c3, rfl, hB3⟩; have HB3 := Lib.hid (HXB.out _ hB3); have x := frB_cell (show (w3.alloc (.cells #[.string ⟨fb.toArray⟩, .int .i64 fd, .bool gq, .bool gs, .bool gc] 26)).heap[w.heap.size]? = _ from HXA.out _ ⟨fb, fd, gq, gs, gc⟩ HB3.out.1); have y := frB_cell HB3.out.1; dsimp only at x y; obtain ⟨x0, x1, x2, x3, x4⟩ := x; obtain ⟨y0, y1, y2, y3, y4⟩ := y; clear hB3)
    go_ret
    exact ⟨ret_b HR.out.symm, HB3.out.2.alloc HB3.out.2.size _⟩
  subst e3
  by_cases e4 : fs = gs
  case neg =>
    have HR : Hid (okF ⟨fb, fd, fq, fs, false⟩ = false) := by show _ = _; rw [HR.out]; simp [sameF, e4]
    have e4' : ¬ gs = fs := fun h => e4 h.symm
    have n1 : (gs == fs) = false := by simpa using e4'
    have n2 : (gs != fs) = true := by simpa using e4'
    go_enter Try.func7, Try.ntmps7
    go_wp2_with (go_at_call 20; refine (FE.out _).mono ?_; rintro e w3 ⟨a3, c3, rfl, hB3⟩; have HB3 := Lib.hid (HXB.out _ hB3); have x := frB_cell (show (w3.alloc (.cells #[.string ⟨fb.toArray⟩, .int .i64 fd, .bool fq, .bool gs, .bool gc] 26)).heap[w.heap.size]? = _ from HXA.out _ ⟨fb, fd, fq, gs, gc⟩ HB3.out.1); have y := frB_cell HB3.out.1; dsimp only at x y; obtain ⟨x0, x1, x2, x3, x4⟩ := x; obtain ⟨y0, y1, y2, y3, y4⟩ := y; clear hB3)
    go_ret
    exact ⟨ret_b HR.out.symm, HB3.out.2.alloc HB3.out.2.size _⟩
  subst e4
  cases gc
  case true =>
    have HR : Hid (okF ⟨fb, fd, fq, fs, false⟩ = false) := by show _ = _; rw [HR.out]; simp [sameF]
    go_enter Try.func7, Try.ntmps7
    go_wp2_with (go_at_call 20; refine (FE.out _).mono ?_; rintro e w3 ⟨a3, c3, rfl, hB3⟩; have HB3 := Lib.hid (HXB.out _ hB3); have x := frB_cell (show (w3.alloc (.cells #[.string ⟨fb.toArray⟩, .int .i64 fd, .bool fq, .bool fs, .bool true] 26)).heap[w.heap.size]? = _ from HXA.out _ ⟨fb, fd, fq, fs, true⟩ HB3.out.1); have y := frB_cell HB3.out.1; dsimp only at x y; obtain ⟨x0, x1, x2, x3, x4⟩ := x; obtain ⟨y0, y1, y2, y3, y4⟩ := y; clear hB3)
    go_ret
    exact ⟨ret_b HR.out.symm, HB3.out.2.alloc HB3.out.2.size _⟩
  have HR : Hid (okF ⟨fb, fd, fq, fs, false⟩ = true) := by show _ = _; rw [HR.out]; simp [sameF]
  go_enter Try.func7, Try.ntmps7
  go_wp2_with (go_at_call 20; refine (FE.out _).mono ?_; rintro e w3 ⟨a3, c3, rfl, hB3⟩; have HB3 := Lib.hid (HXB.out _ hB3); have x := frB_cell (show (w3.alloc (.cells #[.string ⟨fb.toArray⟩, .int .i64 fd, .bool fq, .bool fs, .bool false] 26)).heap[w.heap.size]? = _ from HXA.out _ ⟨fb, fd, fq, fs, false⟩ HB3.out.1); have y := frB_cell HB3.out.1; dsimp only at x y; obtain ⟨x0, x1, x2, x3, x4⟩ := x; obtain ⟨y0, y1, y2, y3, y4⟩ := y; clear hB3)
  go_ret
  exact ⟨ret_b HR.out.symm, HB3.out.2.alloc HB3.out.2.size _⟩
end Go.Proofs.Ytooiejlbnddfmaa
