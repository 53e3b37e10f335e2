import Derived.Test.YtooiejlbnddfmaaFAllP
namespace Go.Proofs.Ytooiejlbnddfmaa
open Go.RowKit
set_option linter.unusedSimpArgs false
set_option maxRecDepth 100000 in
set_option maxHeartbeats 6400000 in
theorem allS (l : List (List UInt8)) (pa : Option Addr) (ca : Nat) (S : Nat) (w : World) (hl : l.length ≤ 1048576) (hf : l.flatten.length ≤ 1048576) (hw : S ≤ w.heap.size) (hS : Strs w (· < S) pa l) :
    Calls Try.prog 17 #[.slice pa l.length ca] w (FdAns3 w (faF l) (faO l) (faC l)) := by
  have HS0 : Hid (Strs w (· < S) pa l) := hS
  clear hS
  by_cases h1 : 4096 < l.length
  · have HR : Hid (faF l = fr0 ∧ faO l = [] ∧ faC l = 2) := ⟨by unfold faF; rw [if_pos h1], by unfold faO; rw [if_pos h1], by unfold faC; rw [if_pos h1]⟩
    have d1 : decide (4096 < (l.length : Int)) = true := decide_eq_true (by omega)
    have HE : Hid (OB ((w.alloc (frB fr0)).alloc (.cells #[] 9)) w.heap.size 9 (.slice (some ⟨w.heap.size + 1, 0, none⟩) 0 0) (sc [])) := by
      have := OB.empty (w.alloc (frB fr0)) 9 w.heap.size (by simp)
      rw [show (w.alloc (frB fr0)).heap.size = w.heap.size + 1 by simp] at this
      exact this
    go_enter Try.func17, Try.ntmps17
    go_wp2_with fail
    refine bodyPost_ret (v := .tuple #[.agg #[.string ⟨#[]⟩, .int .i64 0, .bool false, .bool false, .bool false], .slice (some ⟨w.heap.size + 1, 0, none⟩) 0 0, .int .i64 2]) (by simp [results, Try.results17, go_sem]) rfl ?_
    rw [HR.out.1, HR.out.2.1, HR.out.2.2]
    exact ⟨_, 0, rfl, ((Below.refl _ _).alloc (Nat.le_refl _) _).alloc (by simp) _, HE.out⟩
  have d1 : decide (4096 < (l.length : Int)) = false := decide_eq_false (by omega)
  have HR : Hid (faF l = (feedL fr0 l.flatten).1 ∧ faO l = (feedL fr0 l.flatten).2 ∧ faC l = 0) := ⟨by unfold faF; rw [if_neg h1], by unfold faO; rw [if_neg h1], by unfold faC; rw [if_neg h1]⟩
  have HF : Hid (∀ k, (l.take k).flatten.length ≤ 1048576) := fun k => Nat.le_trans (flat_le l k) hf
  have HI : Hid (∀ k (h : k < l.length), l[k].length ≤ 1048576) := fun k h => Nat.le_trans (item_le l k h) hf
  have H0 := Lib.hid (SA.first w)
  clear h1
  go_enter Try.func17, Try.ntmps17
  go_wp2_with fail
  go_loopw [6, 7] (fun o i wr => ∃ k : Nat, ∃ a c n, k ≤ l.length ∧ i = .int .i64 k ∧ o = .slice a n c ∧ Hid (n = (feedL fr0 (l.take k).flatten).2.length ∧ SA w wr (feedL fr0 (l.take k).flatten).1 (feedL fr0 (l.take k).flatten).2 (.slice a n c))) (fun _ i _ => l.length - (intOf i).toNat)
  case atStart => exact ⟨0, _, _, _, Nat.zero_le _, rfl, rfl, rfl, H0.out⟩
  case round =>
    obtain ⟨k, a, c, n, hk, rfl, rfl, HS⟩ := hrel
    obtain ⟨g, hg⟩ : ∃ g, g = (feedL fr0 (l.take k).flatten).1 := ⟨_, rfl⟩
    obtain ⟨o, ho⟩ : ∃ o, o = (feedL fr0 (l.take k).flatten).2 := ⟨_, rfl⟩
    rw [← hg, ← ho] at HS
    obtain ⟨r0, r1, r2, r3, r4⟩ := frB_cell HS.out.2.res
    obtain ⟨x0, x1, x2, x3, x4⟩ := frB_cell HS.out.2.box
    have zr0 := HS.out.2.fzr 0; have zr1 := HS.out.2.fzr 1; have zr2 := HS.out.2.fzr 2; have zr3 := HS.out.2.fzr 3; have zr4 := HS.out.2.fzr 4
    by_cases hlt : k < l.length
    · have hki : (k : Int) < (l.length : Int) := by omega
      obtain ⟨b, off, rfl, hcl⟩ := strs_item (HS0.out.below (HS.out.2.bel.mono hw)) k hlt
      have hcz : (wr.alloc (.cells #[.string ⟨#[]⟩, .int .i64 0, .bool false, .bool false, .bool false] 26)).cell? ⟨b, off + k, none⟩ = some (.string ⟨l[k].toArray⟩) := by
        obtain ⟨b', off', e, h2⟩ := strs_item (HS0.out.below ((HS.out.2.on ((Below.refl _ _).alloc (Nat.le_refl _) (.cells #[.string ⟨#[]⟩, .int .i64 0, .bool false, .bool false, .bool false] 26))).bel.mono hw)) k hlt
        injection e with e
        injection e with e1 e2
        subst e1 e2
        exact h2
      obtain ⟨G, hG⟩ : ∃ G, G = feedL g l[k] := ⟨_, rfl⟩
      have HN : Hid (feedL fr0 (l.take (k + 1)).flatten = (G.1, o ++ G.2)) := by
        show _ = _
        rw [flat_take l k hlt, feed_app, hG, hg, ho]
      have BY : Hid (∀ W, Calls Try.prog 20 #[.agg #[.string ⟨g.buf.toArray⟩, .int .i64 g.d, .bool g.q, .bool g.s, .bool g.c], .string ⟨l[k].toArray⟩] W (FdAns W G)) := fun W => by
        have := feedS ⟨l[k].toArray⟩ g W (by rw [hg]; exact inv_feed inv0 _) (by have := HI.out k hlt; show l[k].toArray.size ≤ _; simp; omega)
        rw [show (⟨l[k].toArray⟩ : ByteArray).data.toList = l[k] from rfl, ← hG] at this
        exact this
      have HOL : Hid (o.length + G.2.length ≤ 1000000000) := by
        have h1 := out_len fr0 (l.take k).flatten
        have h2 := out_len g l[k]
        have h3 := HF.out k
        have h4 := HI.out k hlt
        have h5 := (inv_feed inv0 (l.take k).flatten).len
        rw [← ho] at h1
        rw [← hG] at h2
        rw [← hg] at h5
        rw [show fr0.buf.length = 0 from rfl, Nat.zero_add] at h1
        show _ ≤ _
        omega
      clear hG hg ho HF HI
      generalize l[k] = s at *
      obtain ⟨⟨gb, gd, gq, gs, gc⟩, L⟩ := G
      dsimp only at *
      have HN0 : Hid ((World.drew (wr.alloc (.cells #[.string ⟨#[]⟩, .int .i64 0, .bool false, .bool false, .bool false] 26))).heap[wr.heap.size]? = some (.cells #[.string ⟨#[]⟩, .int .i64 0, .bool false, .bool false, .bool false] 26)) := heap_new' wr _
      have HLE : Hid (wr.heap.size ≤ (World.drew (wr.alloc (.cells #[.string ⟨#[]⟩, .int .i64 0, .bool false, .bool false, .bool false] 26))).heap.size) := by show wr.heap.size ≤ (wr.alloc (.cells #[.string ⟨#[]⟩, .int .i64 0, .bool false, .bool false, .bool false] 26)).heap.size; simp
      have HL1 : Hid ((World.drew (wr.alloc (.cells #[.string ⟨#[]⟩, .int .i64 0, .bool false, .bool false, .bool false] 26))).heap.size = wr.heap.size + 1) := by show (wr.alloc (.cells #[.string ⟨#[]⟩, .int .i64 0, .bool false, .bool false, .bool false] 26)).heap.size = _; simp
      obtain ⟨xz0, xz1, xz2, xz3, xz4⟩ := frB_cell (show SA w (wr.alloc (.cells #[.string ⟨#[]⟩, .int .i64 0, .bool false, .bool false, .bool false] 26)) g o (.slice a n c) from HS.out.2.on ((Below.refl _ _).alloc (Nat.le_refl _) _)).box
      have hnew : ¬ wr.heap.size = w.heap.size + 1 := by have := HS.out.2.sz; omega
      have hnew' : ¬ w.heap.size + 1 = wr.heap.size := by have := HS.out.2.sz; omega
      have HOL' := Lib.hid HOL.out
      clear HOL
      go_wp2_with fail
      go_region_with (go_at_call 20; refine (BY.out _).mono ?_; rintro e w4 ⟨a4, c4, rfl, hB4, hob4⟩; have HB4 := Lib.hid hB4; have HOB4 := Lib.hid hob4; clear hob4; (first | ((with_reducible have hb4 := kept HN0.out hB4); obtain ⟨p0, p1, p2, p3, p4, q0, q1, q2, q3, q4⟩ := zf_cell hb4; clear hB4) | clear hB4))
      all_goals first
        | (have H4 : SA w w4 g o (.slice a n c) := HS.out.2.on ((Below.refl wr.heap.size wr).drew.trans (show Below wr.heap.size (World.drew wr) w4 from HB4.out))
           have H5 : SA w (w4.alloc (.cells #[.string ⟨gb.toArray⟩, .int .i64 gd, .bool gq, .bool gs, .bool gc] 26)) g o (.slice a n c) := HS.out.2.on (((Below.refl wr.heap.size wr).drew.trans (show Below wr.heap.size (World.drew wr) w4 from HB4.out)).alloc (Nat.le_trans (Nat.le_refl _) HB4.out.size) _)
           obtain ⟨t0, t1, t2, t3, t4⟩ := frB_cell H4.box
           have u0 := H4.fz 0; have u1 := H4.fz 1; have u2 := H4.fz 2; have u3 := H4.fz 3; have u4 := H4.fz 4
           obtain ⟨y0, y1, y2, y3, y4⟩ := frB_cell H5.box
           have z0 := H5.fz 0; have z1 := H5.fz 1; have z2 := H5.fz 2; have z3 := H5.fz 3; have z4 := H5.fz 4
           have H6 : Hid (SA w ((((((w4.alloc (.cells #[.string ⟨gb.toArray⟩, .int .i64 gd, .bool gq, .bool gs, .bool gc] 26)).setCell ⟨w.heap.size + 1, 0, none⟩ (.string ⟨gb.toArray⟩)).setCell ⟨w.heap.size + 1, 1, none⟩ (.int .i64 gd)).setCell ⟨w.heap.size + 1, 2, none⟩ (.bool gq)).setCell ⟨w.heap.size + 1, 3, none⟩ (.bool gs)).setCell ⟨w.heap.size + 1, 4, none⟩ (.bool gc)) ⟨gb, gd, gq, gs, gc⟩ o (.slice a n c)) := H5.put ⟨gb, gd, gq, gs, gc⟩
           have HMO : Hid (OB ((((((w4.alloc (.cells #[.string ⟨gb.toArray⟩, .int .i64 gd, .bool gq, .bool gs, .bool gc] 26)).setCell ⟨w.heap.size + 1, 0, none⟩ (.string ⟨gb.toArray⟩)).setCell ⟨w.heap.size + 1, 1, none⟩ (.int .i64 gd)).setCell ⟨w.heap.size + 1, 2, none⟩ (.bool gq)).setCell ⟨w.heap.size + 1, 3, none⟩ (.bool gs)).setCell ⟨w.heap.size + 1, 4, none⟩ (.bool gc)) wr.heap.size 9 (.slice a4 L.length c4) (sc L)) := (show OB w4 wr.heap.size 9 (.slice a4 L.length c4) (sc L) from HOB4.out).same (fun q hq => by
               have h9 := (HOB4.out.lt hq)
               have h8 := HS.out.2.sz
               have h7 : wr.heap.size ≤ q := h9.1
               rw [put5_other _ _ _ _ _ _ _ _ (by omega)]
               exact ((Below.refl w4.heap.size w4).alloc (Nat.le_refl _) _).block q h9.2)
           clear H5 H4 HB4 HOB4
           go_wp2_with (at_builtin; go_must (refine wpList_pushA rfl (.tmp 33) (.tmp 34) rfl (w.heap.size + 2) wr.heap.size a a4 n c L.length c4 o L rfl rfl H6.out.ob H6.out.sz HMO.out HOL'.out ?_; intro a2 c2 n2 w7 hn7 hb7 hg7; have HN7 := Lib.hid hn7; have H8 := Lib.hid (H6.out.push hb7 hg7); clear hn7 hb7 hg7))
           go_roundw
           case rel => exact ⟨k + 1, a2, c2, n2, by omega, by go_num, rfl, by rw [HN.out]; exact HN7.out, by rw [HN.out]; exact H8.out⟩
           case measure => simp [intOf]; omega)
        | (have H4 : SA w w4 g o (.slice a n c) := HS.out.2.on (((Below.refl wr.heap.size wr).alloc (Nat.le_refl _) (.cells #[.string ⟨#[]⟩, .int .i64 0, .bool false, .bool false, .bool false] 26)).drew.trans ((show Below (World.drew (wr.alloc (.cells #[.string ⟨#[]⟩, .int .i64 0, .bool false, .bool false, .bool false] 26))).heap.size (World.drew (wr.alloc (.cells #[.string ⟨#[]⟩, .int .i64 0, .bool false, .bool false, .bool false] 26))) w4 from HB4.out).mono HLE.out))
           have H5 : SA w (((((w4.setCell ⟨wr.heap.size, 0, none⟩ (.string ⟨gb.toArray⟩)).setCell ⟨wr.heap.size, 1, none⟩ (.int .i64 gd)).setCell ⟨wr.heap.size, 2, none⟩ (.bool gq)).setCell ⟨wr.heap.size, 3, none⟩ (.bool gs)).setCell ⟨wr.heap.size, 4, none⟩ (.bool gc)) g o (.slice a n c) := HS.out.2.on ((((((((Below.refl wr.heap.size wr).alloc (Nat.le_refl _) (.cells #[.string ⟨#[]⟩, .int .i64 0, .bool false, .bool false, .bool false] 26)).drew.trans ((show Below (World.drew (wr.alloc (.cells #[.string ⟨#[]⟩, .int .i64 0, .bool false, .bool false, .bool false] 26))).heap.size (World.drew (wr.alloc (.cells #[.string ⟨#[]⟩, .int .i64 0, .bool false, .bool false, .bool false] 26))) w4 from HB4.out).mono HLE.out)).setCell (Nat.le_refl _) _).setCell (Nat.le_refl _) _).setCell (Nat.le_refl _) _).setCell (Nat.le_refl _) _).setCell (Nat.le_refl _) _)
           obtain ⟨t0, t1, t2, t3, t4⟩ := frB_cell H4.box
           have u0 := H4.fz 0; have u1 := H4.fz 1; have u2 := H4.fz 2; have u3 := H4.fz 3; have u4 := H4.fz 4
           obtain ⟨y0, y1, y2, y3, y4⟩ := frB_cell H5.box
           have z0 := H5.fz 0; have z1 := H5.fz 1; have z2 := H5.fz 2; have z3 := H5.fz 3; have z4 := H5.fz 4
           have H6 : Hid (SA w ((((((((((w4.setCell ⟨wr.heap.size, 0, none⟩ (.string ⟨gb.toArray⟩)).setCell ⟨wr.heap.size, 1, none⟩ (.int .i64 gd)).setCell ⟨wr.heap.size, 2, none⟩ (.bool gq)).setCell ⟨wr.heap.size, 3, none⟩ (.bool gs)).setCell ⟨wr.heap.size, 4, none⟩ (.bool gc)).setCell ⟨w.heap.size + 1, 0, none⟩ (.string ⟨gb.toArray⟩)).setCell ⟨w.heap.size + 1, 1, none⟩ (.int .i64 gd)).setCell ⟨w.heap.size + 1, 2, none⟩ (.bool gq)).setCell ⟨w.heap.size + 1, 3, none⟩ (.bool gs)).setCell ⟨w.heap.size + 1, 4, none⟩ (.bool gc)) ⟨gb, gd, gq, gs, gc⟩ o (.slice a n c)) := H5.put ⟨gb, gd, gq, gs, gc⟩
           have HMO : Hid (OB ((((((((((w4.setCell ⟨wr.heap.size, 0, none⟩ (.string ⟨gb.toArray⟩)).setCell ⟨wr.heap.size, 1, none⟩ (.int .i64 gd)).setCell ⟨wr.heap.size, 2, none⟩ (.bool gq)).setCell ⟨wr.heap.size, 3, none⟩ (.bool gs)).setCell ⟨wr.heap.size, 4, none⟩ (.bool gc)).setCell ⟨w.heap.size + 1, 0, none⟩ (.string ⟨gb.toArray⟩)).setCell ⟨w.heap.size + 1, 1, none⟩ (.int .i64 gd)).setCell ⟨w.heap.size + 1, 2, none⟩ (.bool gq)).setCell ⟨w.heap.size + 1, 3, none⟩ (.bool gs)).setCell ⟨w.heap.size + 1, 4, none⟩ (.bool gc)) wr.heap.size 9 (.slice a4 L.length c4) (sc L)) := (((show OB w4 (World.drew (wr.alloc (.cells #[.string ⟨#[]⟩, .int .i64 0, .bool false, .bool false, .bool false] 26))).heap.size 9 (.slice a4 L.length c4) (sc L) from HOB4.out).mono (by rw [HL1.out]; exact Nat.le_refl _) : OB w4 (wr.heap.size + 1) 9 (.slice a4 L.length c4) (sc L)).mono (Nat.le_succ _)).same (fun q hq => by
               have h9 := ((show OB w4 (World.drew (wr.alloc (.cells #[.string ⟨#[]⟩, .int .i64 0, .bool false, .bool false, .bool false] 26))).heap.size 9 (.slice a4 L.length c4) (sc L) from HOB4.out).mono (by rw [HL1.out]; exact Nat.le_refl _) : OB w4 (wr.heap.size + 1) 9 (.slice a4 L.length c4) (sc L)).lt hq
               have h8 := HS.out.2.sz
               rw [put5_other _ _ _ _ _ _ _ _ (by omega), put5_other _ _ _ _ _ _ _ _ (by omega)])
           clear H5 H4 HB4 HOB4
           go_wp2_with (at_builtin; go_must (refine wpList_pushA rfl (.tmp 33) (.tmp 34) rfl (w.heap.size + 2) wr.heap.size a a4 n c L.length c4 o L rfl rfl H6.out.ob H6.out.sz HMO.out HOL'.out ?_; intro a2 c2 n2 w7 hn7 hb7 hg7; have HN7 := Lib.hid hn7; have H8 := Lib.hid (H6.out.push hb7 hg7); clear hn7 hb7 hg7))
           go_roundw
           case rel => exact ⟨k + 1, a2, c2, n2, by omega, by go_num, rfl, by rw [HN.out]; exact HN7.out, by rw [HN.out]; exact H8.out⟩
           case measure => simp [intOf]; omega)
    · have hmi : decide ((k : Int) < (l.length : Int)) = false := by simp; omega
      rw [List.take_of_length_le (by omega)] at hg ho
      rw [← hg, ← ho] at HR
      have HNN := Lib.hid HS.out.1
      clear hg ho HF HI
      go_wp2_with fail
      refine bodyPost_ret (v := .tuple #[.agg #[.string ⟨g.buf.toArray⟩, .int .i64 g.d, .bool g.q, .bool g.s, .bool g.c], .slice a n c, .int .i64 0]) (by simp [results, Try.results17, go_sem, r0, r1, r2, r3, r4]) rfl ?_
      rw [HR.out.1, HR.out.2.1, HR.out.2.2]
      have hfin := HS.out.2.fin (.string ⟨g.buf.toArray⟩) (.int .i64 g.d) (.bool g.q) (.bool g.s) (.bool g.c)
      rw [HNN.out] at hfin ⊢
      exact ⟨a, c, rfl, hfin.1, hfin.2⟩
end Go.Proofs.Ytooiejlbnddfmaa
