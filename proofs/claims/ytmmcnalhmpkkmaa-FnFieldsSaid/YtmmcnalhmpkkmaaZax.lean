import Derived.Test.YtmmcnalhmpkkmaaZaw
import Derived.Test.YtmmcnalhmpkkmaaZap
namespace Go.Proofs.Ytmmcnalhmpkkmaa
open Go.RowKit
set_option linter.unusedSimpArgs false
theorem two0 {w w4 : World} {o0 o1 : Obj} (hb : Below ((w.alloc o0).alloc o1).heap.size ((w.alloc o0).alloc o1) w4) :
    w4.heap[w.heap.size]? = some o0 ∧ w4.heap[w.heap.size + 1]? = some o1 ∧ Below w.heap.size w w4 := by
  have hs : ((w.alloc o0).alloc o1).heap.size = w.heap.size + 1 + 1 := by simp
  have h0 : ((w.alloc o0).alloc o1).heap = (w.heap.push o0).push o1 := rfl
  refine ⟨?_, ?_, ?_⟩
  · rw [hb.block _ (by omega), h0, Array.getElem?_push, if_neg (by simp), Array.getElem?_push, if_pos rfl]
  · rw [hb.block _ (by omega), h0, Array.getElem?_push, if_pos (by simp)]
  · exact (((Below.refl _ _).alloc (Nat.le_refl _) _).alloc (by simp) _).trans (hb.mono (by omega))
set_option maxRecDepth 100000 in
set_option maxHeartbeats 6400000 in
theorem alike (x : J) : AlSaid x := by
  induction x using J.induct with
  | h x ih =>
    intro y cs cs' A B w hr hr'
    rw [RJ_eq] at hr hr'
    obtain ⟨kx, kcx, ix, icx, rfl, -, hkl, hil, -, hks, hjs⟩ := hr
    obtain ⟨ky, kcy, iy, icy, rfl, -, -, -, -, hks', hjs'⟩ := hr'
    have HKL : Hid (x.keys.length ≤ maxLen ∧ x.items.length ≤ maxLen) := ⟨hkl, hil⟩
    have HX : Hid (Strs w A kx x.keys ∧ Jsons w A ix x.items) := ⟨hks, hjs⟩
    have HY : Hid (Strs w B ky y.keys ∧ Jsons w B iy y.items) := ⟨hks', hjs'⟩
    have IH : Hid (∀ z ∈ x.items, AlSaid z) := ih
    have HB0 : Hid (Below w.heap.size w ((w.alloc (.cells #[.int .i64 x.k, .int .i64 x.n, .string ⟨x.t.toArray⟩, .slice kx x.keys.length kcx, .slice ix x.items.length icx] 26)).alloc (.cells #[.int .i64 y.k, .int .i64 y.n, .string ⟨y.t.toArray⟩, .slice ky y.keys.length kcy, .slice iy y.items.length icy] 26))) := ((Below.refl _ _).alloc (Nat.le_refl _) _).alloc (by simp) _
    clear hkl hil hks hjs hks' hjs' ih
    by_cases h1 : x.k = y.k
    case neg =>
      have HS : Hid (sameB x y = false) := sameB_no (fun e => h1 (by rw [e]))
      have b1 : (x.k == y.k) = false := by simpa using h1
      clear h1
      go_enter Try.func14, Try.ntmps14
      go_wp2_with fail
      go_ret
      exact ⟨ret_b HS.out.symm, HB0.out⟩
    have b1 : (x.k == y.k) = true := by simpa using h1
    have H1 : Hid (x.k = y.k) := h1
    clear h1
    by_cases h2 : x.n = y.n
    case neg =>
      have HS : Hid (sameB x y = false) := sameB_no (fun e => h2 (by rw [e]))
      have b2 : (x.n == y.n) = false := by simpa using h2
      clear h2
      go_enter Try.func14, Try.ntmps14
      go_wp2_with fail
      go_ret
      exact ⟨ret_b HS.out.symm, HB0.out⟩
    have b2 : (x.n == y.n) = true := by simpa using h2
    have H2 : Hid (x.n = y.n) := h2
    clear h2
    by_cases h3 : x.t = y.t
    case neg =>
      have HS : Hid (sameB x y = false) := sameB_no (fun e => h3 (by rw [e]))
      have b3 : (x.t == y.t) = false := by simpa using h3
      clear h3
      go_enter Try.func14, Try.ntmps14
      go_wp2_with fail
      go_ret
      exact ⟨ret_b HS.out.symm, HB0.out⟩
    have b3 : (x.t == y.t) = true := by simpa using h3
    have H3 : Hid (x.t = y.t) := h3
    clear h3
    have HKEY : Hid (∀ W, Below w.heap.size w W → Calls Try.prog 22 #[.slice kx x.keys.length kcx, .slice ky y.keys.length kcy] W fun e w' => e = .returned (.bool (decide (x.keys = y.keys))) ∧ Below W.heap.size W w') := fun W hW => eqKeys x.keys y.keys kx ky kcx kcy A B W HKL.out.1 (HX.out.1.later hW) (HY.out.1.later hW)
    by_cases h4 : x.keys = y.keys
    case neg =>
      have HS : Hid (sameB x y = false) := sameB_no (fun e => h4 (by rw [e]))
      have H4 : Hid (decide (x.keys = y.keys) = false) := decide_eq_false h4
      clear h4
      go_enter Try.func14, Try.ntmps14
      go_wp2_with (go_at_call 22; refine (HKEY.out _ HB0.out).mono ?_; rintro e w1 ⟨rfl, hB1⟩; rw [H4.out])
      go_ret
      exact ⟨ret_b HS.out.symm, HB0.out.trans (hB1.mono (by simp; omega))⟩
    have H4 : Hid (decide (x.keys = y.keys) = true) := decide_eq_true h4
    have H4' : Hid (x.keys = y.keys) := h4
    have HS : Hid (sameL x.items y.items = sameB x y) := by
      show sameL x.items y.items = sameB x y
      by_cases h5 : x.items = y.items
      · rw [sameL_iff.2 h5, sameB_iff.2 (ext5 H1.out H2.out H3.out H4'.out h5)]
      · rw [sameL_no h5, sameB_no (fun e => h5 (by rw [e]))]
    clear h4
    generalize hsb : sameB x y = sb at *
    have HSL : Hid (sameL x.items y.items = sb) := HS.out
    clear hsb HS
    go_enter Try.func14, Try.ntmps14
    go_wp2_with (first
      | (go_at_call 22; refine (HKEY.out _ HB0.out).mono ?_; rintro e w1 ⟨rfl, hB1⟩; rw [H4.out]; have g := two0 hB1; have x4 := cell_at (o := 4) g.1 rfl; have y4 := cell_at (o := 4) g.2.1 rfl; have HB1 : Hid (Below w.heap.size w w1) := g.2.2; clear hB1 g)
      | (go_at_call 23; refine (eqItems x.items y.items IH.out ix iy icx icy A B _ HKL.out.2 (HX.out.2.later HB1.out) (HY.out.2.later HB1.out)).mono ?_; rintro e w2 ⟨rfl, hB2⟩; rw [HSL.out]; have HB2 : Hid (Below w.heap.size w w2) := HB1.out.trans (hB2.mono HB1.out.size); clear hB2))
    go_ret
    exact ⟨rfl, HB2.out⟩
end Go.Proofs.Ytmmcnalhmpkkmaa
