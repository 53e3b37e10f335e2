import Derived.Test.YtkncpfhblciplaaXbf
import Derived.Test.YtkncpfhblciplaaXbh
namespace Go.Proofs.Ytkncpfhblciplaa
open Go.RowKit
set_option linter.unusedSimpArgs false
def flJ (k n : Int) (t : List UInt8) : J := ⟨k, n, t, [], []⟩
def ajJ (x : At) : J := if x.k = 1 then flJ 2 x.n [] else if x.k = 2 then flJ 3 0 x.t else if x.k = 3 then flJ 1 (if x.n = 1 then 1 else 0) [] else ⟨4, 0, [], [], [flJ 3 0 uuidW, flJ 2 x.n []]⟩
theorem ajJ1 {x : At} (h : x.k = 1) : ajJ x = flJ 2 x.n [] := by unfold ajJ; rw [if_pos h]
theorem ajJ2 {x : At} (h : x.k = 2) : ajJ x = flJ 3 0 x.t := by unfold ajJ; rw [if_neg (by omega), if_pos h]
theorem ajJ3 {x : At} (h : x.k = 3) : ajJ x = flJ 1 (if x.n = 1 then 1 else 0) [] := by unfold ajJ; rw [if_neg (by omega), if_neg (by omega), if_pos h]
theorem ajJ4 {x : At} (h1 : x.k ≠ 1) (h2 : x.k ≠ 2) (h3 : x.k ≠ 3) : ajJ x = ⟨4, 0, [], [], [flJ 3 0 uuidW, flJ 2 x.n []]⟩ := by unfold ajJ; rw [if_neg h1, if_neg h2, if_neg h3]
def ajR (x : At) : J × Int := if atOK x = true then (ajJ x, 0) else (dflt, 1)
theorem ajR_bad {x : At} (h : atOK x = false) : ajR x = (dflt, 1) := by unfold ajR; rw [h]; rfl
theorem ajR_ok {x : At} (h : atOK x = true) : ajR x = (ajJ x, 0) := by unfold ajR; rw [h]; rfl
theorem ajJ_sz {x : At} (h : x.t.length ≤ 200) : (ajJ x).sz ≤ 1000 := by
  unfold ajJ
  split
  · simp [flJ, J.sz_eq, szK]
  split
  · simp [flJ, J.sz_eq, szK]; omega
  split
  · simp [flJ, J.sz_eq, szK]
  · simp [flJ, J.sz_eq, szK, uuidW]
theorem rj_flat (w : World) (B : Nat → Prop) (k n : Int) (t : List UInt8) (ht : t.length ≤ maxLen) : RJ w B (flJ k n t) [.int .i64 k, .int .i64 n, .string ⟨t.toArray⟩, .slice none 0 0, .slice none 0 0] := by
  rw [RJ_eq]
  exact ⟨none, 0, none, 0, rfl, ht, by simp [flJ], by simp [flJ], by simp [flJ], .inl rfl, .inl rfl⟩
theorem own_flat (w : World) (B : Nat → Prop) (k n : Int) (t : List UInt8) (ht : t.length ≤ maxLen) : OwnJ w (flJ k n t) B [.int .i64 k, .int .i64 n, .string ⟨t.toArray⟩, .slice none 0 0, .slice none 0 0] := by
  rw [OwnJ_eq]
  exact ⟨none, 0, none, 0, fun _ => False, fun _ => False, rfl, ht, by simp [flJ], by simp [flJ], by simp [flJ], .inl rfl, fun _ h => h.elim, fun _ h => h.elim, .inl rfl⟩
def MjAns (j : J) (w : World) (e : Ending) (w' : World) : Prop := ∃ cs, e = .returned (.agg cs.toArray) ∧ RJ w' (fun b => w.heap.size ≤ b ∧ b < w'.heap.size) j cs ∧ Below w.heap.size w w'
def fiveAt (w : World) (b : Nat) (u0 u1 u2 u3 u4 : Value) : World := ((((w.setCell ⟨b, 0, none⟩ u0).setCell ⟨b, 1, none⟩ u1).setCell ⟨b, 2, none⟩ u2).setCell ⟨b, 3, none⟩ u3).setCell ⟨b, 4, none⟩ u4
theorem fiveAt_heap (w : World) (b : Nat) (u0 u1 u2 u3 u4 : Value) (c : Nat) (hc : c ≠ b) : (fiveAt w b u0 u1 u2 u3 u4).heap[c]? = w.heap[c]? := by
  unfold fiveAt
  rw [Below.heap_setCell _ _ _ _ hc, Below.heap_setCell _ _ _ _ hc, Below.heap_setCell _ _ _ _ hc, Below.heap_setCell _ _ _ _ hc, Below.heap_setCell _ _ _ _ hc]
theorem fiveAt_size (w : World) (b : Nat) (u0 u1 u2 u3 u4 : Value) : (fiveAt w b u0 u1 u2 u3 u4).heap.size = w.heap.size := by simp [fiveAt, World.setCell]
theorem fiveAt_below {w w6 : World} {n b : Nat} (h : Below n w w6) (hb : n ≤ b) (u0 u1 u2 u3 u4 : Value) : Below n w (fiveAt w6 b u0 u1 u2 u3 u4) := by
  unfold fiveAt
  exact ((((h.setCell (by exact hb) _).setCell (by exact hb) _).setCell (by exact hb) _).setCell (by exact hb) _).setCell (by exact hb) _
theorem one_box (w : World) (cs : Array Value) (T : TypeId) : (w.alloc (.cells cs T)).heap[w.heap.size]? = some (.cells cs T) ∧ Below w.heap.size w (w.alloc (.cells cs T)) := ⟨heap_new' _ _ rfl, (Below.refl _ _).alloc (Nat.le_refl _) _⟩
theorem bitS' (b : Bool) (w : World) : Calls Try.prog 100 #[.bool b] w fun e w' => e = .returned (.int .i64 (if b then 1 else 0)) ∧ w' = w := by
  cases b
  all_goals
    go_enter Try.func100, Try.ntmps100
    go_wp2_with fail
    go_ret
    exact ⟨rfl, rfl⟩
set_option maxRecDepth 100000 in
set_option maxHeartbeats 3200000 in
theorem tS (t : List UInt8) (w : World) : Calls Try.prog 74 #[.string ⟨t.toArray⟩] w fun e w' => e = .returned (.agg #[.int .i64 3, .int .i64 0, .string ⟨t.toArray⟩, .slice none 0 0, .slice none 0 0]) ∧ Below w.heap.size w w' := by
  have hb := Lib.hid (one_box w #[.int .i64 0, .int .i64 0, .string ⟨#[]⟩, .slice none 0 0, .slice none 0 0] 28)
  go_enter Try.func74, Try.ntmps74
  go_upto_region 1 with fail
  obtain ⟨W0, hW0⟩ : ∃ W, W = w.alloc (.cells #[.int .i64 0, .int .i64 0, .string ⟨#[]⟩, .slice none 0 0, .slice none 0 0] 28) := ⟨_, rfl⟩
  rw [← hW0] at hb ⊢
  clear hW0
  have g0 := cell_at (o := 0) hb.out.1 rfl
  have y0 := frozen_at 0 hb.out.1
  have g1 := cell_at (o := 1) hb.out.1 rfl
  have y1 := frozen_at 1 hb.out.1
  have g2 := cell_at (o := 2) hb.out.1 rfl
  have y2 := frozen_at 2 hb.out.1
  have g3 := cell_at (o := 3) hb.out.1 rfl
  have y3 := frozen_at 3 hb.out.1
  have g4 := cell_at (o := 4) hb.out.1 rfl
  have y4 := frozen_at 4 hb.out.1
  go_wp2_with fail
  exact bodyPost_ret (v := .agg #[.int .i64 3, .int .i64 0, .string ⟨t.toArray⟩, .slice none 0 0, .slice none 0 0]) (by simp [results, Try.results74, go_sem, g0, g1, g2, g3, g4]) rfl ⟨rfl, fiveAt_below hb.out.2 (Nat.le_refl _) _ _ _ _ _⟩
set_option maxRecDepth 100000 in
set_option maxHeartbeats 3200000 in
theorem nS (n : Int) (w : World) : Calls Try.prog 73 #[.int .i64 n] w fun e w' => e = .returned (.agg #[.int .i64 2, .int .i64 n, .string ⟨#[]⟩, .slice none 0 0, .slice none 0 0]) ∧ Below w.heap.size w w' := by
  have hb := Lib.hid (one_box w #[.int .i64 0, .int .i64 0, .string ⟨#[]⟩, .slice none 0 0, .slice none 0 0] 28)
  go_enter Try.func73, Try.ntmps73
  go_upto_region 1 with fail
  obtain ⟨W0, hW0⟩ : ∃ W, W = w.alloc (.cells #[.int .i64 0, .int .i64 0, .string ⟨#[]⟩, .slice none 0 0, .slice none 0 0] 28) := ⟨_, rfl⟩
  rw [← hW0] at hb ⊢
  clear hW0
  have g0 := cell_at (o := 0) hb.out.1 rfl
  have y0 := frozen_at 0 hb.out.1
  have g1 := cell_at (o := 1) hb.out.1 rfl
  have y1 := frozen_at 1 hb.out.1
  have g2 := cell_at (o := 2) hb.out.1 rfl
  have y2 := frozen_at 2 hb.out.1
  have g3 := cell_at (o := 3) hb.out.1 rfl
  have y3 := frozen_at 3 hb.out.1
  have g4 := cell_at (o := 4) hb.out.1 rfl
  have y4 := frozen_at 4 hb.out.1
  go_wp2_with fail
  exact bodyPost_ret (v := .agg #[.int .i64 2, .int .i64 n, .string ⟨#[]⟩, .slice none 0 0, .slice none 0 0]) (by simp [results, Try.results73, go_sem, g0, g1, g2, g3, g4]) rfl ⟨rfl, fiveAt_below hb.out.2 (Nat.le_refl _) _ _ _ _ _⟩
set_option maxRecDepth 100000 in
set_option maxHeartbeats 3200000 in
theorem bS0 (b : Bool) (nn : Int) (hnn : nn = if b then 1 else 0) (w : World) : Calls Try.prog 75 #[.bool b] w fun e w' => e = .returned (.agg #[.int .i64 1, .int .i64 nn, .string ⟨#[]⟩, .slice none 0 0, .slice none 0 0]) ∧ Below w.heap.size w w' := by
  have BT : Hid (∀ W, Calls Try.prog 100 #[.bool b] W fun e w' => e = .returned (.int .i64 nn) ∧ w' = W) := fun W => by rw [hnn]; exact bitS' b W
  clear hnn
  have hb := Lib.hid (one_box w #[.int .i64 0, .int .i64 0, .string ⟨#[]⟩, .slice none 0 0, .slice none 0 0] 28)
  go_enter Try.func75, Try.ntmps75
  go_upto_region 1 with fail
  obtain ⟨W0, hW0⟩ : ∃ W, W = w.alloc (.cells #[.int .i64 0, .int .i64 0, .string ⟨#[]⟩, .slice none 0 0, .slice none 0 0] 28) := ⟨_, rfl⟩
  rw [← hW0] at hb ⊢
  clear hW0
  have g0 := cell_at (o := 0) hb.out.1 rfl
  have y0 := frozen_at 0 hb.out.1
  have g1 := cell_at (o := 1) hb.out.1 rfl
  have y1 := frozen_at 1 hb.out.1
  have g2 := cell_at (o := 2) hb.out.1 rfl
  have y2 := frozen_at 2 hb.out.1
  have g3 := cell_at (o := 3) hb.out.1 rfl
  have y3 := frozen_at 3 hb.out.1
  have g4 := cell_at (o := 4) hb.out.1 rfl
  have y4 := frozen_at 4 hb.out.1
  go_wp2_with fail
  refine (BT.out _).mono ?_
  rintro e w1 ⟨rfl, rfl⟩
  go_wp2_with fail
  exact bodyPost_ret (v := .agg #[.int .i64 1, .int .i64 nn, .string ⟨#[]⟩, .slice none 0 0, .slice none 0 0]) (by simp [results, Try.results75, go_sem, g0, g1, g2, g3, g4]) rfl ⟨rfl, fiveAt_below hb.out.2 (Nat.le_refl _) _ _ _ _ _⟩
set_option maxRecDepth 100000 in
set_option maxHeartbeats 6400000 in
theorem pairLS (n : Int) (g : Nat) (w : World) (hg : w.heap[g]? = some (.cells #[.int .i64 3, .int .i64 0, .string ⟨#[117, 117, 105, 100]⟩, .slice none 0 0, .slice none 0 0, .int .i64 2, .int .i64 n, .string ⟨#[]⟩, .slice none 0 0, .slice none 0 0] 28)) :
    Calls Try.prog 76 #[.slice (some ⟨g, 0, none⟩) 2 2] w (MjAns ⟨4, 0, [], [], [flJ 3 0 uuidW, flJ 2 n []]⟩ w) := by
  obtain ⟨iJ, hiJ, hzJ, hsJ, hbJ⟩ := infoJ
  have hb := Lib.hid (one_box w #[.int .i64 0, .int .i64 0, .string ⟨#[]⟩, .slice none 0 0, .slice none 0 0] 28)
  go_enter Try.func76, Try.ntmps76
  go_upto_region 1 with fail
  obtain ⟨W0, hW0⟩ : ∃ W, W = w.alloc (.cells #[.int .i64 0, .int .i64 0, .string ⟨#[]⟩, .slice none 0 0, .slice none 0 0] 28) := ⟨_, rfl⟩
  rw [← hW0] at hb ⊢
  clear hW0
  have hlt : g < w.heap.size := (Array.getElem?_eq_some_iff.1 hg).1
  have hB1 : Below W0.heap.size W0 (W0.alloc (.cells #[] 28)) := (Below.refl _ _).alloc (Nat.le_refl _) _
  have hg2 : (W0.alloc (.cells #[] 28)).heap[g]? = some (.cells #[.int .i64 3, .int .i64 0, .string ⟨#[117, 117, 105, 100]⟩, .slice none 0 0, .slice none 0 0, .int .i64 2, .int .i64 n, .string ⟨#[]⟩, .slice none 0 0, .slice none 0 0] 28) := heap_kept2 (heap_kept2 hg hb.out.2) hB1
  obtain ⟨v2, w2, hrun, hown, hgr, g2, hv2, hg2b⟩ := run_append_own2 (P := Try.prog) (W0.alloc (.cells #[] 28)) W0.heap.size 26 26 28 iJ (.agg zero5) 5 80 Try.underlying26 hiJ hzJ hsJ hbJ rfl (by omega) (.slice (some ⟨W0.heap.size, 0, none⟩) 0 0) 0 [] ⟨rfl, .inr ⟨W0.heap.size, 0, #[], rfl, Nat.le_refl _, heap_new' _ _ rfl, Nat.le_refl _, by unfold maxLen; omega, by simp, by simp⟩⟩ ⟨g, 0, none⟩ 2 2 (#[.int .i64 3, .int .i64 0, .string ⟨#[117, 117, 105, 100]⟩, .slice none 0 0, .slice none 0 0, .int .i64 2, .int .i64 n, .string ⟨#[]⟩, .slice none 0 0, .slice none 0 0]).toList rfl
    (fun o u hu => by rw [Addr.add_mid, Nat.zero_add]; exact cell_at hg2 (by rw [← Array.getElem?_toList]; exact hu))
    (fun u hu => by
      simp only [List.mem_cons, List.not_mem_nil, or_false] at hu
      rcases hu with rfl | rfl | rfl | rfl | rfl | rfl | rfl | rfl | rfl | rfl <;> rfl) (by unfold maxLen; omega) (by omega) (by simp) (by omega)
  have HR : Hid (∃ (q c : Nat), v2 = .slice (some ⟨q, 0, none⟩) 2 c ∧ W0.heap.size ≤ q ∧ q < w2.heap.size ∧ (∀ o u, (#[.int .i64 3, .int .i64 0, .string ⟨#[117, 117, 105, 100]⟩, .slice none 0 0, .slice none 0 0, .int .i64 2, .int .i64 n, .string ⟨#[]⟩, .slice none 0 0, .slice none 0 0]).toList[o]? = some u → w2.cell? ⟨q, o, none⟩ = some u)) := by
    rcases hown.2 with ⟨rfl, h0⟩ | ⟨q, cap, cur, rfl, hq, hbq, -, -, -, hx⟩
    · cases hv2
    · refine ⟨q, cap, rfl, hq, (Array.getElem?_eq_some_iff.1 hbq).1, fun o u hu => ?_⟩
      have ho := (List.getElem?_eq_some_iff.1 hu).1
      have h1 : (cur.toList.take ((0 + 2) * 5))[o]? = some u := by rw [hx]; exact hu
      rw [List.getElem?_take_of_lt (by simpa using ho), Array.getElem?_toList] at h1
      simp [World.cell?, hbq, h1]
  have HB : Hid (Below w.heap.size w w2 ∧ w2.heap[w.heap.size]? = some (.cells #[.int .i64 0, .int .i64 0, .string ⟨#[]⟩, .slice none 0 0, .slice none 0 0] 28)) := by
    have h1 := hb.out.2
    have hsz : w.heap.size < W0.heap.size := (Array.getElem?_eq_some_iff.1 hb.out.1).1
    refine ⟨?_, ?_⟩
    · have h2 := h1.trans (hB1.mono h1.size)
      exact ⟨hgr.os.trans h2.os, hgr.tape.trans h2.tape, hgr.output.trans h2.output, Nat.le_trans h2.size hgr.size, fun b hlt => (hgr.block b (Nat.lt_of_lt_of_le hlt h2.size) (fun e => by simp [Value.ownBlock] at e; omega)).trans (h2.block b hlt)⟩
    · rw [hgr.block _ (by simp; omega) (fun e => by simp [Value.ownBlock] at e; omega), hB1.block _ hsz]; exact hb.out.1
  have HRUN := Lib.hid hrun
  obtain ⟨q, c, rfl, hrest⟩ := HR.out
  have HQ := Lib.hid hrest
  clear hrun hown hgr hv2 hg2b hg2 hB1 hg hlt HR hrest

  have g0 := cell_at (o := 0) HB.out.2 rfl
  have y0 := frozen_at 0 HB.out.2
  have g1 := cell_at (o := 1) HB.out.2 rfl
  have y1 := frozen_at 1 HB.out.2
  have g2 := cell_at (o := 2) HB.out.2 rfl
  have y2 := frozen_at 2 HB.out.2
  have g3 := cell_at (o := 3) HB.out.2 rfl
  have y3 := frozen_at 3 HB.out.2
  have g4 := cell_at (o := 4) HB.out.2 rfl
  have y4 := frozen_at 4 HB.out.2
  go_wp2_with (at_builtin; go_must (refine wpList_append_isW rfl (.tmp 3) (.tmp 4) 26 rfl _ _ rfl rfl _ _ HRUN.out ?_))
  refine bodyPost_ret (v := .agg #[.int .i64 4, .int .i64 0, .string ⟨#[]⟩, .slice none 0 0, .slice (some ⟨q, 0, none⟩) 2 c]) (by simp [results, Try.results76, go_sem, g0, g1, g2, g3, g4]) rfl ⟨[.int .i64 4, .int .i64 0, .string ⟨#[]⟩, .slice none 0 0, .slice (some ⟨q, 0, none⟩) 2 c], rfl, ?_, fiveAt_below HB.out.1 (Nat.le_refl _) _ _ _ _ _⟩
  have hs0 := (Array.getElem?_eq_some_iff.1 hb.out.1).1
  rw [RJ_eq]
  refine ⟨none, 0, some ⟨q, 0, none⟩, c, rfl, by simp, by simp, by simp [maxLen], by simp, .inl rfl, .inr ⟨q, 0, rfl, ⟨by have := HQ.out.1; have := hb.out.2.size; omega, ?_⟩, fun i hi => ?_⟩⟩
  · exact Nat.lt_of_lt_of_eq HQ.out.2.1 (fiveAt_size _ _ _ _ _ _ _).symm
  · have hc : ∀ o u, (#[.int .i64 3, .int .i64 0, .string ⟨#[117, 117, 105, 100]⟩, .slice none 0 0, .slice none 0 0, .int .i64 2, .int .i64 n, .string ⟨#[]⟩, .slice none 0 0, .slice none 0 0]).toList[o]? = some u → (fiveAt w2 w.heap.size (.int .i64 4) (.int .i64 0) (.string ⟨#[]⟩) (.slice none 0 0) (.slice (some ⟨q, 0, none⟩) 2 c)).cell? ⟨q, o, none⟩ = some u := fun o u hu => by
      rw [World.cell?_of_block (w := w2) (a := ⟨q, o, none⟩) (fiveAt_heap _ _ _ _ _ _ _ _ (by have := HQ.out.1; show q ≠ _; omega))]; exact HQ.out.2.2 o u hu
    match i, hi with
    | 0, _ => exact ⟨[.int .i64 3, .int .i64 0, .string ⟨uuidW.toArray⟩, .slice none 0 0, .slice none 0 0], fun o v hv => by
      have h9 := hc (0 * 5 + o) v (by have ho := (List.getElem?_eq_some_iff.1 hv).1; simp at ho; rcases (by omega : o = 0 ∨ o = 1 ∨ o = 2 ∨ o = 3 ∨ o = 4) with rfl | rfl | rfl | rfl | rfl <;> exact hv)
      unfold fiveAt at h9; simpa using h9, rj_flat _ _ _ _ _ (by simp [uuidW, maxLen])⟩
    | 1, _ => exact ⟨[.int .i64 2, .int .i64 n, .string ⟨#[]⟩, .slice none 0 0, .slice none 0 0], fun o v hv => by
      rw [Nat.zero_add]; exact hc (1 * 5 + o) v (by have ho := (List.getElem?_eq_some_iff.1 hv).1; simp at ho; rcases (by omega : o = 0 ∨ o = 1 ∨ o = 2 ∨ o = 3 ∨ o = 4) with rfl | rfl | rfl | rfl | rfl <;> exact hv), rj_flat _ _ _ _ _ (by simp [maxLen])⟩
end Go.Proofs.Ytkncpfhblciplaa
