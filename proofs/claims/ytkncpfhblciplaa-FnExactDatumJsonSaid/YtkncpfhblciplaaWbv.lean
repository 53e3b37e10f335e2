import Derived.Test.YtkncpfhblciplaaWbu
namespace Go.Proofs.Ytkncpfhblciplaa
open Go.RowKit
set_option linter.unusedSimpArgs false
theorem jaSB (v : Value) (w : World) : (Instr.typeAssert (.iface 48 v) 20 4 true).run Try.prog w = .ok (.tuple #[.bool false, .bool false]) w := by kernel_rfl
theorem jaSI (v : Value) (w : World) : (Instr.typeAssert (.iface 48 v) 20 3 true).run Try.prog w = .ok (.tuple #[.int .i64 0, .bool false]) w := by kernel_rfl
theorem jaST (v : Value) (w : World) : (Instr.typeAssert (.iface 48 v) 20 9 true).run Try.prog w = .ok (.tuple #[.string ⟨#[]⟩, .bool false]) w := by kernel_rfl
theorem jaSA (v : Value) (w : World) : (Instr.typeAssert (.iface 48 v) 20 31 true).run Try.prog w = .ok (.tuple #[.agg #[.int .i64 0, .int .i64 0, .string ⟨#[]⟩], .bool false]) w := by kernel_rfl
theorem jaSS (v : Value) (w : World) : (Instr.typeAssert (.iface 48 v) 20 48 true).run Try.prog w = .ok (.tuple #[v, .bool true]) w := by kernel_rfl
theorem jaJB (v : Value) (w : World) : (Instr.typeAssert (.iface 28 v) 20 4 true).run Try.prog w = .ok (.tuple #[.bool false, .bool false]) w := by kernel_rfl
theorem jaJI (v : Value) (w : World) : (Instr.typeAssert (.iface 28 v) 20 3 true).run Try.prog w = .ok (.tuple #[.int .i64 0, .bool false]) w := by kernel_rfl
theorem jaJT (v : Value) (w : World) : (Instr.typeAssert (.iface 28 v) 20 9 true).run Try.prog w = .ok (.tuple #[.string ⟨#[]⟩, .bool false]) w := by kernel_rfl
theorem jaJA (v : Value) (w : World) : (Instr.typeAssert (.iface 28 v) 20 31 true).run Try.prog w = .ok (.tuple #[.agg #[.int .i64 0, .int .i64 0, .string ⟨#[]⟩], .bool false]) w := by kernel_rfl
theorem jaJS (v : Value) (w : World) : (Instr.typeAssert (.iface 28 v) 20 48 true).run Try.prog w = .ok (.tuple #[.slice none 0 0, .bool false]) w := by kernel_rfl
theorem jaJJ (v : Value) (w : World) : (Instr.typeAssert (.iface 28 v) 20 28 true).run Try.prog w = .ok (.tuple #[v, .bool true]) w := by kernel_rfl
def CellAns (r0 r1 r2 r3 r4 : Value) (w : World) (e : Ending) (w' : World) : Prop := e = .returned (.agg #[r0, r1, r2, r3, r4]) ∧ Below w.heap.size w w'
set_option maxRecDepth 100000 in
set_option maxHeartbeats 12800000 in
theorem jsonOfTX (t : List UInt8) (w : World) : Calls Try.prog 43 #[.iface 9 (.string ⟨t.toArray⟩)] w (CellAns (.int .i64 3) (.int .i64 0) (.string ⟨t.toArray⟩) (.slice none 0 0) (.slice none 0 0) w) := by
  have hb := Lib.hid (one_box w #[.int .i64 0, .int .i64 0, .string ⟨#[]⟩, .slice none 0 0, .slice none 0 0] 28)
  go_enter Try.func43, Try.ntmps43
  go_upto_region 1 with fail
  obtain ⟨W0, hW0⟩ : ∃ W, W = w.alloc (.cells #[.int .i64 0, .int .i64 0, .string ⟨#[]⟩, .slice none 0 0, .slice none 0 0] 28) := ⟨_, rfl⟩
  have HS0 : Hid (W0.heap.size = w.heap.size + 1) := by rw [hW0]; show _ = _; simp
  rw [← hW0] at hb ⊢
  clear hW0
  have g0 := cell_at (o := 0) hb.out.1 rfl
  have y0 := frozen_at 0 hb.out.1
  have g1 := cell_at (o := 1) hb.out.1 rfl
  have y1 := frozen_at 1 hb.out.1
  have g2 := cell_at (o := 2) hb.out.1 rfl
  have y2 := frozen_at 2 hb.out.1
  have g3 := cell_at (o := 3) hb.out.1 rfl
  have y3 := frozen_at 3 hb.out.1
  have g4 := cell_at (o := 4) hb.out.1 rfl
  have y4 := frozen_at 4 hb.out.1
  have ta0 := jaTB (.string ⟨t.toArray⟩) W0
  have ta1 := jaTI (.string ⟨t.toArray⟩) W0
  have ta2 := jaTT (.string ⟨t.toArray⟩) W0
  go_wp2_with fail
  exact bodyPost_ret (v := .agg #[.int .i64 3, .int .i64 0, .string ⟨t.toArray⟩, .slice none 0 0, .slice none 0 0]) (by simp [results, Try.results43, go_sem, g0, g1, g2, g3, g4]) rfl ⟨rfl, fiveAt_below hb.out.2 (Nat.le_refl _) _ _ _ _ _⟩
set_option maxRecDepth 100000 in
set_option maxHeartbeats 12800000 in
theorem jsonOfJ (k n : Int) (t : ByteArray) (ka ia : Option Addr) (kl kc il ic : Nat) (w : World) : Calls Try.prog 43 #[.iface 28 (.agg #[.int .i64 k, .int .i64 n, .string t, .slice ka kl kc, .slice ia il ic])] w (CellAns (.int .i64 k) (.int .i64 n) (.string t) (.slice ka kl kc) (.slice ia il ic) w) := by
  have hb := Lib.hid (one_box w #[.int .i64 0, .int .i64 0, .string ⟨#[]⟩, .slice none 0 0, .slice none 0 0] 28)
  go_enter Try.func43, Try.ntmps43
  go_upto_region 1 with fail
  obtain ⟨W0, hW0⟩ : ∃ W, W = w.alloc (.cells #[.int .i64 0, .int .i64 0, .string ⟨#[]⟩, .slice none 0 0, .slice none 0 0] 28) := ⟨_, rfl⟩
  have HS0 : Hid (W0.heap.size = w.heap.size + 1) := by rw [hW0]; show _ = _; simp
  rw [← hW0] at hb ⊢
  clear hW0
  have g0 := cell_at (o := 0) hb.out.1 rfl
  have y0 := frozen_at 0 hb.out.1
  have g1 := cell_at (o := 1) hb.out.1 rfl
  have y1 := frozen_at 1 hb.out.1
  have g2 := cell_at (o := 2) hb.out.1 rfl
  have y2 := frozen_at 2 hb.out.1
  have g3 := cell_at (o := 3) hb.out.1 rfl
  have y3 := frozen_at 3 hb.out.1
  have g4 := cell_at (o := 4) hb.out.1 rfl
  have y4 := frozen_at 4 hb.out.1
  have ta0 := jaJB (.agg #[.int .i64 k, .int .i64 n, .string t, .slice ka kl kc, .slice ia il ic]) W0
  have ta1 := jaJI (.agg #[.int .i64 k, .int .i64 n, .string t, .slice ka kl kc, .slice ia il ic]) W0
  have ta2 := jaJT (.agg #[.int .i64 k, .int .i64 n, .string t, .slice ka kl kc, .slice ia il ic]) W0
  have ta3 := jaJA (.agg #[.int .i64 k, .int .i64 n, .string t, .slice ka kl kc, .slice ia il ic]) W0
  have ta4 := jaJS (.agg #[.int .i64 k, .int .i64 n, .string t, .slice ka kl kc, .slice ia il ic]) W0
  have ta5 := jaJJ (.agg #[.int .i64 k, .int .i64 n, .string t, .slice ka kl kc, .slice ia il ic]) W0
  have hb2 : Hid (Below w.heap.size w (W0.alloc (.cells #[.int .i64 k, .int .i64 n, .string t, .slice ka kl kc, .slice ia il ic] 28)) ∧ (W0.alloc (.cells #[.int .i64 k, .int .i64 n, .string t, .slice ka kl kc, .slice ia il ic] 28)).heap[w.heap.size]? = some (.cells #[.int .i64 0, .int .i64 0, .string ⟨#[]⟩, .slice none 0 0, .slice none 0 0] 28) ∧ (W0.alloc (.cells #[.int .i64 k, .int .i64 n, .string t, .slice ka kl kc, .slice ia il ic] 28)).heap[W0.heap.size]? = some (.cells #[.int .i64 k, .int .i64 n, .string t, .slice ka kl kc, .slice ia il ic] 28)) := ⟨hb.out.2.trans ((one_box W0 _ _).2.mono hb.out.2.size), heap_kept2 hb.out.1 (one_box W0 _ _).2, (one_box W0 _ _).1⟩
  clear g0 y0 g1 y1 g2 y2 g3 y3 g4 y4
  go_upto_region 19 with fail
  obtain ⟨W1, hW1⟩ : ∃ W, W = W0.alloc (.cells #[.int .i64 k, .int .i64 n, .string t, .slice ka kl kc, .slice ia il ic] 28) := ⟨_, rfl⟩
  rw [← hW1] at hb2 ⊢
  clear hW1
  have g0 := cell_at (o := 0) hb2.out.2.1 rfl
  have y0 := frozen_at 0 hb2.out.2.1
  have g1 := cell_at (o := 1) hb2.out.2.1 rfl
  have y1 := frozen_at 1 hb2.out.2.1
  have g2 := cell_at (o := 2) hb2.out.2.1 rfl
  have y2 := frozen_at 2 hb2.out.2.1
  have g3 := cell_at (o := 3) hb2.out.2.1 rfl
  have y3 := frozen_at 3 hb2.out.2.1
  have g4 := cell_at (o := 4) hb2.out.2.1 rfl
  have y4 := frozen_at 4 hb2.out.2.1
  have z0 := cell_at (o := 0) hb2.out.2.2 rfl
  have z1 := cell_at (o := 1) hb2.out.2.2 rfl
  have z2 := cell_at (o := 2) hb2.out.2.2 rfl
  have z3 := cell_at (o := 3) hb2.out.2.2 rfl
  have z4 := cell_at (o := 4) hb2.out.2.2 rfl
  go_wp2_with fail
  exact bodyPost_ret (v := .agg #[.int .i64 k, .int .i64 n, .string t, .slice ka kl kc, .slice ia il ic]) (by simp [results, Try.results43, go_sem, g0, g1, g2, g3, g4]) rfl ⟨rfl, fiveAt_below hb2.out.1 (Nat.le_refl _) _ _ _ _ _⟩
def LxAns (n : Nat) (P : List Value) (w : World) (e : Ending) (w' : World) : Prop := ∃ q c, e = .returned (.agg #[.int .i64 4, .int .i64 0, .string ⟨#[]⟩, .slice none 0 0, .slice (some ⟨q, 0, none⟩) n c]) ∧ w.heap.size < q ∧ q < w'.heap.size ∧ (∀ o u, P[o]? = some u → w'.cell? ⟨q, o, none⟩ = some u ∧ w'.frozen? ⟨q, o, none⟩ = false) ∧ Below w.heap.size w w'
variable {w wr w1 w2 W : World} {T L m : Nat} {v v' : Value} {xs news : List Value}
theorem LInvG.stepX (h : LInvG w wr ⟨4, 0, [], [], []⟩ T L m v xs (fun _ _ => False))
    (hB1 : Below wr.heap.size wr w1) {o : Obj} (hgr : (w1.alloc o).grownBy w2 v.ownBlock) (hrow : w2.ownsRow T 28 5 v' (m + 1) (xs ++ news)) (hg : ∃ g, v'.ownBlock = some g ∧ (v.ownBlock = some g ∨ (w1.alloc o).heap.size ≤ g)) :
    LInvG w (w2.setCell ⟨L, 4, none⟩ v') ⟨4, 0, [], [], []⟩ T L (m + 1) v' (xs ++ news) (fun _ _ => False) := by
  have hv := h.vlt
  have hs1 := hB1.size
  have hsz : (w1.alloc o).heap.size = w1.heap.size + 1 := by simp
  have hs2 : w1.heap.size + 1 ≤ w2.heap.size := by have := hgr.size; omega
  have lt2 : L < wr.heap.size := (Array.getElem?_eq_some_iff.1 h.b2).1
  have hlo := h.lo
  have nv : ∀ c, c < T → some c ≠ v.ownBlock := fun c hc e => by have := (hv c e.symm).2; omega
  have hgL : ∀ g, v'.ownBlock = some g → g ≠ L := by
    intro g hg'
    obtain ⟨g2, e2, h2⟩ := hg
    rw [e2] at hg'
    injection hg' with e3
    subst e3
    rcases h2 with h2 | h2
    · exact (h.far _ h2).2
    · omega
  refine ⟨heap_set 4 v' (h.t2 hB1 hgr), ⟨hrow.1, ?_⟩, fun g hg' => ⟨fun _ h => h, hgL g hg'⟩, fun _ _ h => h.elim, fun _ _ _ h => h.elim, fun i hi => absurd hi (by simp), hlo, ?_⟩
  · rcases hrow.2 with h0 | ⟨g, cap, cur, e, hg1, hb, rest⟩
    · exact .inl h0
    · exact .inr ⟨g, cap, cur, e, hg1, by rw [Below.heap_setCell _ _ _ _ (hgL g (by rw [e]; rfl))]; exact hb, rest⟩
  · refine (h.bel.trans (hB1.mono (by omega))).trans ?_
    refine ⟨hgr.os, hgr.tape, hgr.output, by simp [World.setCell]; omega, fun c hc => ?_⟩
    rw [Below.heap_setCell _ _ _ _ (by show c ≠ L; omega), hgr.block c (by omega) (nv c (by omega)), Below.heap_alloc _ _ _ (by omega)]
theorem row_cells {w : World} {B : Nat} {v : Value} {n : Nat} {xs : List Value} (h : w.ownsRow B 28 5 v n xs) (hn : 0 < n) : ∃ q c, v = .slice (some ⟨q, 0, none⟩) n c ∧ B ≤ q ∧ q < w.heap.size ∧ ∀ o u, xs[o]? = some u → w.cell? ⟨q, o, none⟩ = some u ∧ w.frozen? ⟨q, o, none⟩ = false := by
  rcases h.2 with ⟨-, h0⟩ | ⟨q, cap, cur, rfl, hq, hb, -, -, -, hx⟩
  · omega
  · refine ⟨q, cap, rfl, hq, (Array.getElem?_eq_some_iff.1 hb).1, fun o u hu => ?_⟩
    have h1 : (cur.toList.take (n * 5))[o]? = some u := by rw [hx]; exact hu
    have ho : o < n * 5 := by have := (List.getElem?_eq_some_iff.1 h1).1; rw [List.length_take] at this; omega
    rw [List.getElem?_take_of_lt ho, Array.getElem?_toList] at h1
    simp [World.cell?, World.frozen?, hb, h1]
theorem flat_take (R : List (List Value)) (m : Nat) (h : m < R.length) : (R.take (m + 1)).flatten = (R.take m).flatten ++ R[m] := by
  rw [List.take_add_one, List.getElem?_eq_getElem h, List.flatten_append]
  simp
set_option maxRecDepth 100000 in
set_option maxHeartbeats 12800000 in
theorem listOfX (R : List (List Value)) (g c : Nat) (w : World) (h0 : 0 < R.length) (hl : R.length ≤ 100000) (hp : ∀ i (h : i < R.length), ∃ u r0 r1 r2 r3 r4, w.cell? ⟨g, i, none⟩ = some u ∧ R[i] = [r0, r1, r2, r3, r4] ∧ (∀ x ∈ [r0, r1, r2, r3, r4], x.oneCell' = true) ∧ ∀ W, Below w.heap.size w W → Calls Try.prog 43 #[u] W (CellAns r0 r1 r2 r3 r4 W)) :
    Calls Try.prog 101 #[.slice (some ⟨g, 0, none⟩) R.length c] w (LxAns R.length R.flatten w) := by
  have HPP := Lib.hid hp
  have HL := Lib.hid hl
  have H00 := Lib.hid h0
  clear hp hl h0
  obtain ⟨iJ, hiJ⟩ := infoJ
  have HIJ := Lib.hid hiJ
  clear hiJ
  have hb := Lib.hid (one_box w #[.int .i64 0, .int .i64 0, .string ⟨#[]⟩, .slice none 0 0, .slice none 0 0] 28)
  go_enter Try.func101, Try.ntmps101
  go_upto_region 1 with fail
  obtain ⟨W0, hW0⟩ : ∃ W, W = w.alloc (.cells #[.int .i64 0, .int .i64 0, .string ⟨#[]⟩, .slice none 0 0, .slice none 0 0] 28) := ⟨_, rfl⟩
  have HS0 : Hid (W0.heap.size = w.heap.size + 1) := by rw [hW0]; show _ = _; simp
  rw [← hW0] at hb ⊢
  clear hW0
  go_upto_region 2 with fail
  have HI0 : Hid (LInvG W0 (W0.alloc (.cells #[.int .i64 4, .int .i64 0, .string ⟨#[]⟩, .slice none 0 0, .slice none 0 0] 28)) (⟨4, 0, [], [], []⟩ : J) W0.heap.size W0.heap.size 0 (.slice none 0 0) [] (fun _ _ => False)) :=
    linvg_start (one_box W0 _ _).1 ⟨rfl, .inl ⟨rfl, rfl⟩⟩ (fun g h => by simp [Value.ownBlock] at h) (Nat.le_refl _) (one_box W0 _ _).2
  obtain ⟨B, hBB⟩ : ∃ n, n = W0.heap.size := ⟨_, rfl⟩
  obtain ⟨W1, hW1⟩ : ∃ W, W = W0.alloc (.cells #[.int .i64 4, .int .i64 0, .string ⟨#[]⟩, .slice none 0 0, .slice none 0 0] 28) := ⟨_, rfl⟩
  rw [← hW1] at HI0 ⊢
  rw [← hBB] at HI0 HS0 ⊢
  clear hW1
  have HBB := Lib.hid hBB
  clear hBB
  go_wp2_with fail
  go_loopw [9] (fun iv wr => ∃ m : Nat, m ≤ R.length ∧ iv = .int .i64 (m : Int) ∧ Hid (∃ v, LInvG W0 wr (⟨4, 0, [], [], []⟩ : J) B B m v (R.take m).flatten (fun _ _ => False))) (fun iv _ => R.length - (intOf iv).toNat)
  case atStart => exact ⟨0, Nat.zero_le _, rfl, _, HI0.out⟩
  case round =>
    obtain ⟨m, hm, rfl, HX⟩ := hrel
    obtain ⟨v, hv⟩ := HX.out
    obtain ⟨va, vc, rfl⟩ := own_shape hv.row
    have HV := Lib.hid hv
    clear HX hv
    have HBW : Hid (Below w.heap.size w wr) := hb.out.2.trans (HV.out.bel.mono (by have := HS0.out; omega))
    by_cases hlt : m < R.length
    case pos =>
      have hki : (m : Int) < (R.length : Int) := by omega
      have f1 : IntKind.i64.wrap ((m : Int) + 1) = ((m + 1 : Nat) : Int) := by have := HL.out; rw [IntKind.wrap_i64]; omega
      obtain ⟨u, r0, r1, r2, r3, r4, hu, hR, h1, hcall⟩ := HPP.out m hlt
      have c0 := cell_later HBW.out hu
      have HC := Lib.hid hcall
      have HRE : Hid ((R.take (m + 1)).flatten = (R.take m).flatten ++ [r0, r1, r2, r3, r4]) := (flat_take R m hlt).trans (by rw [hR])
      have ONE := Lib.hid h1
      clear hu hcall hR h1
      have t4 := cell_at (o := 4) HV.out.b2 rfl
      have z4 := frozen_at 4 HV.out.b2
      have H63 : Hid (m + 1 ≤ maxLen) := by have := HL.out; show m + 1 ≤ maxLen; unfold maxLen; omega
      have HBY : Hid ((m + 1) * 80 ≤ 140737488355328) := by have := HL.out; show (m + 1) * 80 ≤ 140737488355328; omega
      have HLT : Hid (m < R.length) := hlt
      go_wp2_with fail
      go_region_law (first
        | (refine step_append_own2 rfl (.tmp 14) (.tmp 17) 26 rfl B 28 iJ (.agg zero5) 5 80 Try.underlying26 HIJ.out.1 HIJ.out.2.1 HIJ.out.2.2.1 HIJ.out.2.2.2 rfl (Nat.lt_of_sub_eq_succ rfl) (.slice va m vc) m (R.take m).flatten rfl ?_ ⟨w1.heap.size, 0, none⟩ 1 1 [r0, r1, r2, r3, r4] rfl rfl ?_ ?_ ?_ ?_ ?_ Nat.one_pos ?_
           exact HV.out.row1 HB1.out _
           exact news5 _ _ _ _ _ _ _
           exact ONE.out
           exact H63.out
           exact HBY.out
           exact HBA.out
           intro v' w2 hrow2 hgr2 hg2
           obtain ⟨va2, vc2, rfl⟩ := own_shape hrow2
           have t5 := cell_at (o := 4) (HV.out.t2 HB1.out hgr2) rfl
           have z5 := frozen_at 4 (HV.out.t2 HB1.out hgr2))
        | (go_simp; go_at_call 43; refine (HC.out _ (by first | exact HBW.out | exact HBW.out.drew)).mono ?_; rintro e w1 ⟨rfl, hBx⟩
           have HB1 : Hid (Below wr.heap.size wr w1) := by first | exact (Below.refl _ _).drew.trans hBx | exact hBx
           have t4' := cell_at (o := 4) (HV.out.t1 HB1.out) rfl
           have z4' := frozen_at 4 (HV.out.t1 HB1.out)
           have hlt1 : B < w1.heap.size := (Array.getElem?_eq_some_iff.1 (HV.out.t1 HB1.out)).1
           have HBA : Hid (B ≤ (w1.alloc (.cells #[r0, r1, r2, r3, r4] 28)).heap.size) := by
             show _ ≤ _
             simp; omega
           have t4a : (w1.alloc (.cells #[r0, r1, r2, r3, r4] 28)).cell? ⟨B, 4, none⟩ = some (.slice va m vc) := cell_at (o := 4) (by rw [Below.heap_alloc _ _ _ hlt1]; exact HV.out.t1 HB1.out) rfl
           clear hBx))
      all_goals
        have HNX : Hid (∃ v, LInvG W0 (w2.setCell ⟨B, 4, none⟩ (.slice va2 (m + 1) vc2)) (⟨4, 0, [], [], []⟩ : J) B B (m + 1) v (R.take (m + 1)).flatten (fun _ _ => False)) := by
          rw [HRE.out]
          exact ⟨_, HV.out.stepX HB1.out hgr2 hrow2 hg2⟩
        clear t4 z4 c0 t4' z4' t4a t5 z5 hrow2 hgr2 hg2 hlt1
        go_wp2_with fail
        go_roundw
        case rel => exact ⟨m + 1, by omega, by go_num, HNX.out⟩
        case measure => simp [intOf]; omega
    have hkd : decide ((m : Int) < (R.length : Int)) = false := by simp; omega
    obtain rfl : m = R.length := by omega
    obtain ⟨q, cq, hq, hqB, hql, hqc⟩ := row_cells HV.out.row H00.out
    injection hq with hq1 hq2 hq3
    subst hq1 hq3
    rw [List.take_length] at hqc
    have HQ : Hid (w.heap.size < q ∧ q < wr.heap.size ∧ ∀ o u, R.flatten[o]? = some u → wr.cell? ⟨q, o, none⟩ = some u ∧ wr.frozen? ⟨q, o, none⟩ = false) := ⟨by have := HS0.out; omega, hql, hqc⟩
    clear hqB hql hqc
    have t0 := cell_at (o := 0) HV.out.b2 rfl
    have t1 := cell_at (o := 1) HV.out.b2 rfl
    have t2 := cell_at (o := 2) HV.out.b2 rfl
    have t3 := cell_at (o := 3) HV.out.b2 rfl
    have t4 := cell_at (o := 4) HV.out.b2 rfl
    have HZ : Hid (wr.heap[w.heap.size]? = some (.cells #[.int .i64 0, .int .i64 0, .string ⟨#[]⟩, .slice none 0 0, .slice none 0 0] 28)) := heap_kept2 hb.out.1 (by rw [← HBB.out]; exact HV.out.bel)
    have g0 := cell_at (o := 0) HZ.out rfl
    have y0 := frozen_at 0 HZ.out
    have g1 := cell_at (o := 1) HZ.out rfl
    have y1 := frozen_at 1 HZ.out
    have g2 := cell_at (o := 2) HZ.out rfl
    have y2 := frozen_at 2 HZ.out
    have g3 := cell_at (o := 3) HZ.out rfl
    have y3 := frozen_at 3 HZ.out
    have g4 := cell_at (o := 4) HZ.out rfl
    have y4 := frozen_at 4 HZ.out
    go_wp2_with fail
    refine bodyPost_ret (v := .agg #[.int .i64 4, .int .i64 0, .string ⟨#[]⟩, .slice none 0 0, .slice (some ⟨q, 0, none⟩) R.length vc]) (by simp [results, Try.results101, go_sem, g0, g1, g2, g3, g4]) rfl ⟨q, vc, rfl, HQ.out.1, Nat.lt_of_lt_of_eq HQ.out.2.1 (fiveAt_size _ _ _ _ _ _ _).symm, fun o u hu => ?_, fiveAt_below HBW.out (Nat.le_refl _) _ _ _ _ _⟩
    have hh := fiveAt_heap wr w.heap.size (.int .i64 4) (.int .i64 0) (.string ⟨#[]⟩) (.slice none 0 0) (.slice (some ⟨q, 0, none⟩) R.length vc) q (by have := HQ.out.1; omega)
    obtain ⟨h1, h2⟩ := HQ.out.2.2 o u hu
    exact ⟨(World.cell?_of_block (w := wr) (a := ⟨q, o, none⟩) hh).trans h1, (World.frozen?_of_block (w := wr) (a := ⟨q, o, none⟩) hh).trans h2⟩
end Go.Proofs.Ytkncpfhblciplaa
