import Derived.Test.YtooiejlbnddfmaaFAns
namespace Go.Proofs.Ytooiejlbnddfmaa
open Go.RowKit
set_option linter.unusedSimpArgs false
/-- what Feed answers -/
def fdF (f : Fr) (s : ByteArray) : Fr := if 65536 < s.size then fr0 else if okF f = false then fr0 else if f.c = true then f else (feedL f s.data.toList).1
def fdO (f : Fr) (s : ByteArray) : List (List UInt8) := if 65536 < s.size then [] else if okF f = false then [] else if f.c = true then [] else (feedL f s.data.toList).2
def fdC (f : Fr) (s : ByteArray) : Int := if 65536 < s.size then 2 else if okF f = false then 1 else if f.c = true then 17 else 0
theorem ok_inv {f : Fr} (h : okF f = true) (hc : f.c = false) : Inv f := by
  unfold okF at h
  rw [if_neg (by simp [hc])] at h
  split at h
  · cases h
  · rw [sameF_iff.1 h]
    exact inv_feed inv0 _
/-- a framing that goes on -/
theorem St.conv (w : World) (f : Fr) (cap : Nat) (hn : f.buf.length ≤ cap) (hcap : cap ≤ maxLen) :
    St w (w.heap.size + 1) ((w.drew.alloc (.cells (bytesRow ⟨f.buf.toArray⟩ cap) 5 ((bytesRow ⟨f.buf.toArray⟩ cap).size, (bytesRow ⟨f.buf.toArray⟩ cap).size + 1))).alloc (.cells (fcs f (.slice (some ⟨w.heap.size, 0, none⟩) f.buf.length cap) (.slice none 0 0)) 43)) f [] := by
  have hB1 : Below w.heap.size w (w.drew.alloc (.cells (bytesRow ⟨f.buf.toArray⟩ cap) 5 ((bytesRow ⟨f.buf.toArray⟩ cap).size, (bytesRow ⟨f.buf.toArray⟩ cap).size + 1))) := (Below.refl _ _).drew.alloc (Nat.le_refl _) _
  have hN : (w.drew.alloc (.cells (bytesRow ⟨f.buf.toArray⟩ cap) 5 ((bytesRow ⟨f.buf.toArray⟩ cap).size, (bytesRow ⟨f.buf.toArray⟩ cap).size + 1))).heap[w.heap.size]? = some (.cells (bytesRow ⟨f.buf.toArray⟩ cap) 5 ((bytesRow ⟨f.buf.toArray⟩ cap).size, (bytesRow ⟨f.buf.toArray⟩ cap).size + 1)) := heap_new' w.drew _
  have hS : (w.drew.alloc (.cells (bytesRow ⟨f.buf.toArray⟩ cap) 5 ((bytesRow ⟨f.buf.toArray⟩ cap).size, (bytesRow ⟨f.buf.toArray⟩ cap).size + 1))).heap.size = w.heap.size + 1 := by simp
  obtain ⟨W1, hW1⟩ : ∃ W1, W1 = w.drew.alloc (.cells (bytesRow ⟨f.buf.toArray⟩ cap) 5 ((bytesRow ⟨f.buf.toArray⟩ cap).size, (bytesRow ⟨f.buf.toArray⟩ cap).size + 1)) := ⟨_, rfl⟩
  rw [← hW1] at hB1 hN hS ⊢
  have hB2 : Below W1.heap.size W1 (W1.alloc (.cells (fcs f (.slice (some ⟨w.heap.size, 0, none⟩) f.buf.length cap) (.slice none 0 0)) 43)) := (Below.refl _ _).alloc (Nat.le_refl _) _
  have hb : OB W1 w.heap.size 5 (.slice (some ⟨w.heap.size, 0, none⟩) f.buf.length cap) (bc f.buf) := by
    refine ⟨by omega, .inr ⟨w.heap.size, cap, bytesRow ⟨f.buf.toArray⟩ cap, by rw [bc_len], Nat.le_refl _, ⟨_, hN, .inr rfl⟩, by rw [bc_len]; exact hn, hcap, ?_, ?_⟩⟩
    · have hsz : (⟨f.buf.toArray⟩ : ByteArray).size = f.buf.length := by show f.buf.toArray.size = _; simp
      simp [bytesRow]; omega
    · rw [bc_len, Nat.mul_one]
      simp [bytesRow, bc]
  refine ⟨.slice (some ⟨w.heap.size, 0, none⟩) f.buf.length cap, .slice none 0 0, hB1.trans (hB2.mono (by omega)), Nat.le_succ _, ?_, hb.same (fun g hg => hB2.block g (hb.lt hg).2), OB.nil _ _ _, ?_, by simp [Value.ownBlock], fun g _ => by simp [Value.ownBlock]⟩
  · rw [← hS]; exact heap_new' _ _
  · simp [Value.ownBlock]
theorem conv_new3 (f : Fr) (hl : f.buf.length ≤ 10000000) (w : World) : ∃ G W4, (convert 9 41 (.string ⟨f.buf.toArray⟩)).run Try.prog w = .ok (.slice (some ⟨w.heap.size, 0, none⟩) f.buf.length G) W4 ∧ Below w.heap.size w W4 ∧ W4.heap.size = w.heap.size + 1 ∧ St w (w.heap.size + 1) (W4.alloc (.cells #[.slice (some ⟨w.heap.size, 0, none⟩) f.buf.length G, .int .i64 f.d, .bool f.q, .bool f.s, .bool f.c, .slice none 0 0] 43)) f [] := by
  have hsz : (⟨f.buf.toArray⟩ : ByteArray).size = f.buf.length := by show f.buf.toArray.size = _; simp
  have hr := run_bytes_of_string (P := Try.prog) w 9 41 5 ⟨f.buf.toArray⟩ Try.underlying9 Try.underlying41 Try.underlying5
  rw [hsz] at hr
  exact ⟨_, _, hr, (Below.refl _ _).drew.alloc (Nat.le_refl _) _, by simp, St.conv w f _ (grownCap_ge w _ _ _) (grownCap_le_maxLen w _ _ _ (by unfold maxLen; omega))⟩
set_option maxRecDepth 100000 in
set_option maxHeartbeats 6400000 in
theorem fdI (f : Fr) (s : ByteArray) (w : World) (hl : f.buf.length ≤ 10000000) (hs : s.size ≤ 10000000) :
    Calls Try.prog 11 #[.agg #[.string ⟨f.buf.toArray⟩, .int .i64 f.d, .bool f.q, .bool f.s, .bool f.c], .string s] w (FdAns3 w (fdF f s) (fdO f s) (fdC f s)) := by
  have HB0 : Hid (Below w.heap.size w ((w.alloc (frB f)).alloc (frB fr0))) := ((Below.refl _ _).alloc (Nat.le_refl _) _).alloc (by simp) _
  by_cases h1 : 65536 < s.size
  · have HR : Hid (fdF f s = fr0 ∧ fdO f s = [] ∧ fdC f s = 2) := ⟨by unfold fdF; rw [if_pos h1], by unfold fdO; rw [if_pos h1], by unfold fdC; rw [if_pos h1]⟩
    have d1 : decide (65536 < (s.size : Int)) = true := decide_eq_true (by omega)
    go_enter Try.func11, Try.ntmps11
    go_wp2_with fail
    refine bodyPost_ret (v := .tuple #[.agg #[.string ⟨#[]⟩, .int .i64 0, .bool false, .bool false, .bool false], .slice none 0 0, .int .i64 2]) (by simp [results, Try.results11, go_sem]) rfl ?_
    rw [HR.out.1, HR.out.2.1, HR.out.2.2]
    exact ⟨none, 0, rfl, HB0.out, OB.nil _ _ _⟩
  have d1 : decide (65536 < (s.size : Int)) = false := decide_eq_false (by omega)
  have OK : Hid (∀ W, Calls Try.prog 9 #[.agg #[.string ⟨f.buf.toArray⟩, .int .i64 f.d, .bool f.q, .bool f.s, .bool f.c]] W fun e w' => e = .returned (.bool (okF f)) ∧ Below W.heap.size W w') := fun W => okI f W hl
  have HX : Hid (∀ W : World, Below ((w.alloc (frB f)).alloc (frB fr0)).heap.size ((w.alloc (frB f)).alloc (frB fr0)) W → W.heap[w.heap.size]? = some (frB f) ∧ W.heap[w.heap.size + 1]? = some (frB fr0) ∧ Below w.heap.size w W ∧ w.heap.size + 2 ≤ W.heap.size) := fun W h => by
    have e1 : (w.alloc (frB f)).heap.size = w.heap.size + 1 := by simp
    have e2 : ((w.alloc (frB f)).alloc (frB fr0)).heap.size = w.heap.size + 2 := by simp
    refine ⟨kept (kept (heap_new' w (frB f)) ((Below.refl _ _).alloc (Nat.le_refl _) _)) h, kept (by rw [← e1]; exact heap_new' _ _) h, HB0.out.trans (h.mono (by omega)), by have := h.size; omega⟩
  cases hk : okF f
  · have HR : Hid (fdF f s = fr0 ∧ fdO f s = [] ∧ fdC f s = 1) := ⟨by unfold fdF; rw [if_neg h1, if_pos hk], by unfold fdO; rw [if_neg h1, if_pos hk], by unfold fdC; rw [if_neg h1, if_pos hk]⟩
    rw [hk] at OK
    clear h1 hk
    go_enter Try.func11, Try.ntmps11
    go_wp2_with (go_at_call 9; refine (OK.out _).mono ?_; rintro e w3 ⟨rfl, hB3⟩; have H3 := Lib.hid (HX.out _ hB3); obtain ⟨r0, r1, r2, r3, r4⟩ := frB_cell H3.out.2.1; have z0 := frozen_at 0 H3.out.2.1; have z1 := frozen_at 1 H3.out.2.1; have z2 := frozen_at 2 H3.out.2.1; have z3 := frozen_at 3 H3.out.2.1; have z4 := frozen_at 4 H3.out.2.1; clear hB3)
    refine bodyPost_ret (v := .tuple #[.agg #[.string ⟨#[]⟩, .int .i64 0, .bool false, .bool false, .bool false], .slice none 0 0, .int .i64 1]) (by simp [results, Try.results11, go_sem, r0, r1, r2, r3, r4]) rfl ?_
    rw [HR.out.1, HR.out.2.1, HR.out.2.2]
    have hn : w.heap.size ≤ w.heap.size + 1 := Nat.le_succ _
    exact ⟨none, 0, rfl, ((((H3.out.2.2.1.setCell hn _).setCell hn _).setCell hn _).setCell hn _).setCell hn _, OB.nil _ _ _⟩
  rw [hk] at OK
  cases hc : f.c
  case true =>
    have HR : Hid (fdF f s = f ∧ fdO f s = [] ∧ fdC f s = 17) := ⟨by unfold fdF; rw [if_neg h1, if_neg (by simp [hk]), if_pos hc], by unfold fdO; rw [if_neg h1, if_neg (by simp [hk]), if_pos hc], by unfold fdC; rw [if_neg h1, if_neg (by simp [hk]), if_pos hc]⟩
    clear h1 hk
    have HC : Hid (f.c = true) := hc
    rw [hc] at OK
    clear hc
    go_enter Try.func11, Try.ntmps11
    go_wp2_with (go_at_call 9; refine (OK.out _).mono ?_; rintro e w3 ⟨rfl, hB3⟩; have H3 := Lib.hid (HX.out _ (by rw [frB, HC.out]; exact hB3)); obtain ⟨r0, r1, r2, r3, r4⟩ := frB_cell H3.out.2.1; obtain ⟨x0, x1, x2, x3, x4⟩ := frB_cell H3.out.1; rw [HC.out] at x4; have z0 := frozen_at 0 H3.out.2.1; have z1 := frozen_at 1 H3.out.2.1; have z2 := frozen_at 2 H3.out.2.1; have z3 := frozen_at 3 H3.out.2.1; have z4 := frozen_at 4 H3.out.2.1; clear hB3)
    refine bodyPost_ret (v := .tuple #[.agg #[.string ⟨f.buf.toArray⟩, .int .i64 f.d, .bool f.q, .bool f.s, .bool true], .slice none 0 0, .int .i64 17]) (by simp [results, Try.results11, go_sem, r0, r1, r2, r3, r4]) rfl ?_
    rw [HR.out.1, HR.out.2.1, HR.out.2.2]
    have hn : w.heap.size ≤ w.heap.size + 1 := Nat.le_succ _
    exact ⟨none, 0, by rw [HC.out]; rfl, ((((H3.out.2.2.1.setCell hn _).setCell hn _).setCell hn _).setCell hn _).setCell hn _, OB.nil _ _ _⟩
  have HR : Hid (fdF f s = (feedL f s.data.toList).1 ∧ fdO f s = (feedL f s.data.toList).2 ∧ fdC f s = 0) := ⟨by unfold fdF; rw [if_neg h1, if_neg (by simp [hk]), if_neg (by simp [hc])], by unfold fdO; rw [if_neg h1, if_neg (by simp [hk]), if_neg (by simp [hc])], by unfold fdC; rw [if_neg h1, if_neg (by simp [hk]), if_neg (by simp [hc])]⟩
  have HI := Lib.hid (ok_inv hk hc)
  obtain ⟨g, hg⟩ : ∃ g, g = (feedL f s.data.toList).1 := ⟨_, rfl⟩
  obtain ⟨o, ho⟩ : ∃ o, o = (feedL f s.data.toList).2 := ⟨_, rfl⟩
  rw [← hg, ← ho] at HR
  have FE : Hid (∀ (w3 : World) W, St w3 (w3.heap.size + 1) W f [] → Calls Try.prog 21 #[.pointer (some ⟨w3.heap.size + 1, 0, none⟩), .string s] W (fun e W' => e = .returned (.tuple #[]) ∧ St w3 (w3.heap.size + 1) W' g o)) := fun w3 W h => by
    have := feedI s h HI.out (by have := HI.out.len; simp; omega)
    rw [← hg, ← ho, List.nil_append] at this
    exact this
  clear hg ho h1 hk
  have HC : Hid (f.c = false) := hc
  rw [hc] at OK
  clear hc
  have CV := Lib.hid (conv_new3 f hl)
  rw [HC.out] at CV
  go_enter Try.func11, Try.ntmps11
  go_wp2_with (first
    | (go_at_call 9; refine (OK.out _).mono ?_; rintro e w3 ⟨rfl, hB3⟩; have H3 := Lib.hid (HX.out _ (by rw [frB, HC.out]; exact hB3)); obtain ⟨x0, x1, x2, x3, x4⟩ := frB_cell H3.out.1; rw [HC.out] at x4; obtain ⟨G, W4, hcv, hB4, hsz4, hS4⟩ := CV.out w3; obtain ⟨y0, y1, y2, y3, y4⟩ := frB_cell (kept H3.out.1 hB4); rw [HC.out] at y4; have HS4 := Lib.hid hS4; have HB4 := Lib.hid hB4; clear hB3 hS4 hB4)
    | (go_at_call 21; refine (FE.out w3 _ HS4.out).mono ?_; rintro e w5 ⟨rfl, hs5⟩; have HS5 := Lib.hid hs5; clear hs5))
  clear x0 x1 x2 x3 x4 y0 y1 y2 y3 y4 hcv HB4 HS4
  obtain ⟨ba, bp, ea, ep, hso⟩ := HS5.out.open
  have HSD : Hid (St w3 (w3.heap.size + 1) w5.drew g o) := ⟨_, _, hso.drew⟩
  have HSO := Lib.hid hso.drew
  have c5 := hso.cell.2.2.2.2.2
  have HR0 : Hid (w5.drew.heap[w.heap.size + 1]? = some (frB fr0) ∧ Below w.heap.size w w5.drew) := ⟨kept H3.out.2.1 hso.drew.bel, H3.out.2.2.1.trans (hso.drew.bel.mono (by have := H3.out.2.2.2; omega))⟩
  have H3Z : Hid (w.heap.size + 2 ≤ w3.heap.size) := H3.out.2.2.2
  clear hso HS5 H3
  have FIN : Hid (∀ w6, Below w5.drew.heap.size w5.drew w6 → ∀ y0 y1 y2 y3 y4, Below w.heap.size w (((((w6.setCell ⟨w.heap.size + 1, 0, none⟩ y0).setCell ⟨w.heap.size + 1, 1, none⟩ y1).setCell ⟨w.heap.size + 1, 2, none⟩ y2).setCell ⟨w.heap.size + 1, 3, none⟩ y3).setCell ⟨w.heap.size + 1, 4, none⟩ y4) ∧ OB (((((w6.setCell ⟨w.heap.size + 1, 0, none⟩ y0).setCell ⟨w.heap.size + 1, 1, none⟩ y1).setCell ⟨w.heap.size + 1, 2, none⟩ y2).setCell ⟨w.heap.size + 1, 3, none⟩ y3).setCell ⟨w.heap.size + 1, 4, none⟩ y4) w.heap.size 9 (.slice ea o.length ep) (sc o)) := fun w6 hB y0 y1 y2 y3 y4 => by
    have hb := HR0.out.2.trans (hB.mono HR0.out.2.size)
    have hoe := (HSO.out.on hB).oe
    have h3 := H3Z.out
    have hn : w.heap.size ≤ w.heap.size + 1 := Nat.le_succ _
    refine ⟨((((hb.setCell hn y0).setCell hn y1).setCell hn y2).setCell hn y3).setCell hn y4, (hoe.mono (by omega)).same (fun q hq => ?_)⟩
    have hk : q ≠ w.heap.size + 1 := by have := (hoe.lt hq).1; omega
    rw [heap_setO _ _ _ _ _ hk, heap_setO _ _ _ _ _ hk, heap_setO _ _ _ _ _ hk, heap_setO _ _ _ _ _ hk, heap_setO _ _ _ _ _ hk]
  go_region_with (go_at_call 22; refine (framerI HSD.out).mono ?_; rintro e w6 ⟨rfl, hB6⟩; obtain ⟨r0, r1, r2, r3, r4⟩ := frB_cell (kept HR0.out.1 hB6); have z0 := frozen_at 0 (kept HR0.out.1 hB6); have z1 := frozen_at 1 (kept HR0.out.1 hB6); have z2 := frozen_at 2 (kept HR0.out.1 hB6); have z3 := frozen_at 3 (kept HR0.out.1 hB6); have z4 := frozen_at 4 (kept HR0.out.1 hB6); have c5' := (HSO.out.on hB6).cell.2.2.2.2.2; have HB6 := Lib.hid hB6; clear hB6)
  all_goals
    go_wp2_with fail
    refine bodyPost_ret (v := .tuple #[.agg #[.string ⟨g.buf.toArray⟩, .int .i64 g.d, .bool g.q, .bool g.s, .bool g.c], .slice ea o.length ep, .int .i64 0]) (by simp [results, Try.results11, go_sem, r0, r1, r2, r3, r4]) rfl ?_
    rw [HR.out.1, HR.out.2.1, HR.out.2.2]
    exact ⟨ea, ep, rfl, (FIN.out _ HB6.out _ _ _ _ _).1, (FIN.out _ HB6.out _ _ _ _ _).2⟩
end Go.Proofs.Ytooiejlbnddfmaa
