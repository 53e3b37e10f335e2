import Derived.Test.YtkncpfhblciplaaWbt
namespace Go.Proofs.Ytkncpfhblciplaa
open Go.RowKit
set_option linter.unusedSimpArgs false
def djR (d : List At) : J × Int := if 4096 < d.length then (dflt, 2) else if datumB d = true then (djJ d, 0) else (dflt, 1)
theorem djR_long {d : List At} (h : 4096 < d.length) : djR d = (dflt, 2) := by unfold djR; rw [if_pos h]
theorem djR_bad {d : List At} (h : ¬ 4096 < d.length) (hb : datumB d = false) : djR d = (dflt, 1) := by unfold djR; rw [if_neg h, if_neg (by rw [hb]; simp)]
theorem djR_ok {d : List At} (h : ¬ 4096 < d.length) (hb : datumB d = true) : djR d = (djJ d, 0) := by unfold djR; rw [if_neg h, if_pos hb]
theorem datumB_len {d : List At} (h : datumB d = true) : d.length ≤ 8 := by
  unfold datumB at h
  rw [Bool.and_eq_true] at h
  exact of_decide_eq_true h.1
theorem datumB_at {d : List At} (h : datumB d = true) (x : At) (hx : x ∈ d) : atOK x = true := by
  unfold datumB at h
  rw [Bool.and_eq_true, List.all_eq_true] at h
  obtain ⟨i, hi, rfl⟩ := List.mem_iff_getElem.1 hx
  have h2 := h.2 i (List.mem_range.2 hi)
  unfold stepB at h2
  rw [Bool.and_eq_true, at_getD hi] at h2
  exact h2.1
theorem sum_le_all {α : Type} (f : α → Nat) (k : Nat) : ∀ (l : List α), (∀ x ∈ l, f x ≤ k) → (l.map f).sum ≤ k * l.length
  | [], _ => by simp
  | y :: l, h => by
    have h1 := h y (by simp)
    have h2 := sum_le_all f k l (fun x hx => h x (by simp [hx]))
    simp only [List.map_cons, List.sum_cons, List.length_cons]
    rw [Nat.mul_succ]
    omega
theorem djJ_sz {d : List At} (h : datumB d = true) : (djJ d).sz ≤ 1048576 := by
  have hl := datumB_len h
  have ha : ∀ x ∈ d, (ajJ x).sz ≤ 1000 := fun x hx => ajJ_sz (atOK_text (datumB_at h x hx))
  by_cases h1 : d.length = 1
  · rw [djJ1 h1]
    have := ha _ (List.getElem_mem (show 0 < d.length by omega))
    omega
  · rw [djJn h1]
    have hs : ((d.map ajJ).map J.sz).sum ≤ 1000 * d.length := by
      rw [List.map_map]
      exact sum_le_all (J.sz ∘ ajJ) 1000 d (fun x hx => ha x hx)
    rw [J.sz_eq]
    simp only [List.map_cons, List.map_nil, List.sum_cons, List.sum_nil, List.length_cons, List.length_nil, szK]
    rw [J.sz_eq (flJ 3 0 setW), J.sz_eq ⟨4, 0, [], [], d.map ajJ⟩]
    simp only [flJ, setW, szK, List.map_nil, List.sum_nil, List.length_nil, List.length_cons, List.length_map]
    omega
theorem djR_sz (d : List At) : (djR d).1.sz ≤ 1048576 := by
  unfold djR
  split
  · simp [dflt, J.sz_eq, szK]
  split
  · next h => exact djJ_sz h
  · simp [dflt, J.sz_eq, szK]
def DjAns (d : List At) (w : World) (e : Ending) (w' : World) : Prop := ∃ cs, e = .returned (.tuple #[.agg cs.toArray, .int .i64 (djR d).2]) ∧ RJ w' (fun b => w.heap.size ≤ b ∧ b < w'.heap.size) (djR d).1 cs ∧ Below w.heap.size w w'
theorem DjAns.of {d : List At} {j : J} {k : Int} {w w' : World} {r : Nat} {u0 u1 u2 u3 u4 : Value} (hr : w.heap.size = r) (hR : djR d = (j, k)) (hB : Below w.heap.size w w') (hj : RJ w' (fun b => r < b) j [u0, u1, u2, u3, u4]) : DjAns d w (.returned (.tuple #[.agg #[u0, u1, u2, u3, u4], .int .i64 k])) (fiveAt w' r u0 u1 u2 u3 u4) :=
  ⟨[u0, u1, u2, u3, u4], by rw [hR], by rw [hR]; exact RJ.same (fun b hb => fiveAt_heap _ _ _ _ _ _ _ _ (by have := hb.1; omega)) (fun b hb => ⟨by have := hb.1; omega, by rw [fiveAt_size]; exact hb.2⟩) _ _ (RJ.inside _ _ hj), fiveAt_below hB (by omega) _ _ _ _ _⟩
set_option maxRecDepth 100000 in
set_option maxHeartbeats 12800000 in
theorem datumJsonS (d : List At) (a : Option Addr) (c S : Nat) (w : World) (hl : d.length ≤ maxLen) (hx : ∀ x ∈ d, x.t.length ≤ maxLen) (hw : S ≤ w.heap.size) (hA : Ats w (· < S) a d) :
    Calls Try.prog 21 #[.slice a d.length c] w (DjAns d w) := by
  have hb := Lib.hid (one_box w #[.int .i64 0, .int .i64 0, .string ⟨#[]⟩, .slice none 0 0, .slice none 0 0] 28)
  have DO : Hid (∀ W, Below w.heap.size w W → Calls Try.prog 54 #[.slice a d.length c] W fun e w' => e = .returned (.bool (datumB d)) ∧ Below W.heap.size W w') := fun W h => datumOKs d a c S W hl hx (Nat.le_trans hw h.size) (hA.below (h.mono hw))
  have DJ : Hid (∀ W, d.length ≤ 100000 → Below w.heap.size w W → Calls Try.prog 55 #[.slice a d.length c] W (RdE (djJ d) W)) := fun W hl h => datumJS d a c S W hl hx (Nat.le_trans hw h.size) (hA.below (h.mono hw))
  clear hl hx hw hA
  go_enter Try.func21, Try.ntmps21
  go_upto_region 1 with fail
  obtain ⟨W0, hW0⟩ : ∃ W, W = w.alloc (.cells #[.int .i64 0, .int .i64 0, .string ⟨#[]⟩, .slice none 0 0, .slice none 0 0] 28) := ⟨_, rfl⟩
  rw [← hW0] at hb ⊢
  clear hW0
  have g0 := cell_at (o := 0) hb.out.1 rfl
  have y0 := frozen_at 0 hb.out.1
  have g1 := cell_at (o := 1) hb.out.1 rfl
  have y1 := frozen_at 1 hb.out.1
  have g2 := cell_at (o := 2) hb.out.1 rfl
  have y2 := frozen_at 2 hb.out.1
  have g3 := cell_at (o := 3) hb.out.1 rfl
  have y3 := frozen_at 3 hb.out.1
  have g4 := cell_at (o := 4) hb.out.1 rfl
  have y4 := frozen_at 4 hb.out.1
  by_cases hlong : 4096 < d.length
  case pos =>
    have HR := Lib.hid (djR_long hlong)
    have hd : (4096 : Int) < (d.length : Int) := by omega
    clear hlong
    go_wp2_with fail
    exact bodyPost_ret (v := .tuple #[.agg #[.int .i64 0, .int .i64 0, .string ⟨#[]⟩, .slice none 0 0, .slice none 0 0], .int .i64 2]) (by simp [results, Try.results21, go_sem, g0, g1, g2, g3, g4]) rfl (DjAns.of rfl HR.out hb.out.2 (rj_zero _ _))
  have hd : decide ((4096 : Int) < (d.length : Int)) = false := by simp; omega
  have HL : Hid (d.length ≤ 100000) := by show _ ≤ _; omega
  have HNL := Lib.hid hlong
  clear hlong
  go_wp2_with fail
  refine (DO.out _ hb.out.2).mono ?_
  rintro e w1 ⟨rfl, hB⟩
  have H1 : Hid (Below w.heap.size w w1 ∧ w1.heap[w.heap.size]? = some (.cells #[.int .i64 0, .int .i64 0, .string ⟨#[]⟩, .slice none 0 0, .slice none 0 0] 28)) := ⟨hb.out.2.trans (hB.mono hb.out.2.size), heap_kept2 hb.out.1 hB⟩
  clear hB hb g0 y0 g1 y1 g2 y2 g3 y3 g4 y4
  have g0 := cell_at (o := 0) H1.out.2 rfl
  have y0 := frozen_at 0 H1.out.2
  have g1 := cell_at (o := 1) H1.out.2 rfl
  have y1 := frozen_at 1 H1.out.2
  have g2 := cell_at (o := 2) H1.out.2 rfl
  have y2 := frozen_at 2 H1.out.2
  have g3 := cell_at (o := 3) H1.out.2 rfl
  have y3 := frozen_at 3 H1.out.2
  have g4 := cell_at (o := 4) H1.out.2 rfl
  have y4 := frozen_at 4 H1.out.2
  cases hok : datumB d
  case false =>
    have HR := Lib.hid (djR_bad HNL.out hok)
    clear hok
    go_wp2_with fail
    exact bodyPost_ret (v := .tuple #[.agg #[.int .i64 0, .int .i64 0, .string ⟨#[]⟩, .slice none 0 0, .slice none 0 0], .int .i64 1]) (by simp [results, Try.results21, go_sem, g0, g1, g2, g3, g4]) rfl (DjAns.of rfl HR.out H1.out.1 (rj_zero _ _))
  have HR := Lib.hid (djR_ok HNL.out hok)
  have HSZ := Lib.hid (djJ_sz hok)
  clear hok
  go_wp2_with fail
  refine (DJ.out _ HL.out H1.out.1).mono ?_
  rintro e w2 ⟨cs2, rfl, hr2, hB⟩
  have H2 : Hid (Below w.heap.size w w2 ∧ w2.heap[w.heap.size]? = some (.cells #[.int .i64 0, .int .i64 0, .string ⟨#[]⟩, .slice none 0 0, .slice none 0 0] 28)) := ⟨H1.out.1.trans (hB.mono H1.out.1.size), heap_kept2 H1.out.2 hB⟩
  have HR2 := Lib.hid hr2
  clear hB hr2
  go_wp2_with fail
  refine (ownS (djJ d) cs2 _ _ HSZ.out HR2.out).mono ?_
  rintro e w3 ⟨cs3, rfl, hr3, hB⟩
  have H3 : Hid (Below w.heap.size w w3 ∧ w3.heap[w.heap.size]? = some (.cells #[.int .i64 0, .int .i64 0, .string ⟨#[]⟩, .slice none 0 0, .slice none 0 0] 28)) := ⟨H2.out.1.trans (hB.mono H2.out.1.size), heap_kept2 H2.out.2 hB⟩
  have HR3 : Hid (RJ w3 (fun b => w.heap.size < b) (djJ d) cs3) := RJ.same (fun _ _ => rfl) (fun b hb => by have h1 := (Array.getElem?_eq_some_iff.1 H2.out.2).1; have := hb.1; omega) _ _ hr3
  clear hB hr3 H2 HR2 H1 g0 y0 g1 y1 g2 y2 g3 y3 g4 y4
  have hr4 := HR3.out
  rw [RJ_eq] at hr4
  obtain ⟨k9, kc9, i9, ic9, rfl, -⟩ := hr4
  have g0 := cell_at (o := 0) H3.out.2 rfl
  have y0 := frozen_at 0 H3.out.2
  have g1 := cell_at (o := 1) H3.out.2 rfl
  have y1 := frozen_at 1 H3.out.2
  have g2 := cell_at (o := 2) H3.out.2 rfl
  have y2 := frozen_at 2 H3.out.2
  have g3 := cell_at (o := 3) H3.out.2 rfl
  have y3 := frozen_at 3 H3.out.2
  have g4 := cell_at (o := 4) H3.out.2 rfl
  have y4 := frozen_at 4 H3.out.2
  generalize djJ d = j at *
  go_wp2_with fail
  exact bodyPost_ret (v := .tuple #[.agg #[.int .i64 j.k, .int .i64 j.n, .string ⟨j.t.toArray⟩, .slice k9 j.keys.length kc9, .slice i9 j.items.length ic9], .int .i64 0]) (by simp [results, Try.results21, go_sem, g0, g1, g2, g3, g4]) rfl (DjAns.of rfl HR.out H3.out.1 HR3.out)
end Go.Proofs.Ytkncpfhblciplaa
