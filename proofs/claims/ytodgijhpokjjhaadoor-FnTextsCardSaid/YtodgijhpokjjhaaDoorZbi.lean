import Derived.Test.YtodgijhpokjjhaaDoorZbh
import Derived.Deep.RegionLaw
import Derived.Deep.CutRange
namespace Go.Proofs.YtodgijhpokjjhaaDoor
open Go.RowKit
set_option linter.unusedSimpArgs false
theorem St.al {w W : World} {v0 v : Value} {B S : Nat} {box : Obj} {bs : List UInt8} (h : St w v0 B S box W v bs) (o : Obj) : St w v0 B S box (W.alloc o) v bs := h.on ((Below.refl _ _).alloc (Nat.le_refl _) _)
theorem One.al {W : World} {v : Value} {g : Nat} {x : Int} (h : One W v g x) (o : Obj) : One (W.alloc o) v g x := h.on ((Below.refl _ _).alloc (Nat.le_refl _) _)
theorem St.oneAl {w W : World} {v0 v : Value} {B S : Nat} {box : Obj} {bs : List UInt8} (h : St w v0 B S box W v bs) (x : Int) : One (W.alloc (.cells #[.int .u8 x] 5)) v W.heap.size x := h.one rfl (heap_new0 _ _)
theorem St.oneAl2 {w W : World} {v0 v : Value} {B S : Nat} {box o : Obj} {bs : List UInt8} (h : St w v0 B S box W v bs) (x : Int) : One ((W.alloc o).alloc (.cells #[.int .u8 x] 5)) v (W.heap.size + 1) x := by
  have := (h.al o).oneAl x
  simpa using this
theorem One.drew {W : World} {v : Value} {g : Nat} {x : Int} (h : One W v g x) : One W.drew v g x := h.on (Below.refl _ _).drew
set_option maxRecDepth 100000 in
set_option maxHeartbeats 6400000 in
theorem appJson (j : J) : PISaid j := by
  induction j using J.induct with
  | h j ih =>
    intro cs B v bs w hg hz hr hb hB hl hT
    have hk := hg.kind
    have hp := hg.part
    have hr0 := hr
    rw [RJ_eq] at hr
    obtain ⟨ka, kc, ia, ic, rfl, -⟩ := hr
    have hsz := J.sz_eq j
    have ht20 : j.t.length ≤ 1048576 := by omega
    have HB : Hid (Buf w B v bs ∧ B ≤ w.heap.size ∧ bs.length + (pr j).length ≤ 900000000000) := ⟨hb, hB, hl⟩
    have HT : Hid (Tab w B) := hT
    rcases (by omega : j.k = 0 ∨ j.k = 1 ∨ j.k = 2 ∨ j.k = 3 ∨ 4 ≤ j.k) with k | k | k | k | k
    · have HP : Hid (pr j = [110, 117, 108, 108]) := by show pr j = _; rw [pr_eq, if_pos k]
      clear hp hsz hz ih hr0 hb hl hT hg hk
      rw [k]
      go_enter Tryd.func9, Tryd.ntmps9
      go_wp2_with (at_builtin; go_must (refine wpList_puts rfl _ _ rfl B v bs ⟨#[110, 117, 108, 108]⟩ rfl rfl (HB.out.1.alloc _) (by simp; omega) (by have := HB.out.2.2; show bs.length + 4 ≤ _; omega) ?_; intro v1 w1 hb1 ha1))
      go_ret
      exact ⟨v1, rfl, by rw [HP.out]; exact hb1, ((App.refl _ _).alloc _).trans ha1⟩
    · rw [part1 k] at hp
      simp only [inB, Bool.and_eq_true, decide_eq_true_eq] at hp
      have h01 := hp.1
      clear hp hsz hz ih hr0 hb hl hT hg hk
      rcases (by omega : j.n = 0 ∨ j.n = 1) with n | n
      · have HP : Hid (pr j = boolT false) := by show pr j = _; rw [pr_eq, if_neg (by omega), if_pos k, if_pos n]; rfl
        rw [k, n]
        go_enter Tryd.func9, Tryd.ntmps9
        go_wp2_with (go_at_call 15; refine (appBool B false v bs _ (HB.out.1.alloc _) (by simp; omega) (by have := HB.out.2.2; omega)).mono ?_; rintro e w1 ⟨v1, rfl, hb1, ha1⟩)
        go_ret
        exact ⟨v1, rfl, by rw [HP.out]; exact hb1, ((App.refl _ _).alloc _).trans ha1⟩
      · have HP : Hid (pr j = boolT true) := by show pr j = _; rw [pr_eq, if_neg (by omega), if_pos k, if_neg (by omega)]; rfl
        rw [k, n]
        go_enter Tryd.func9, Tryd.ntmps9
        go_wp2_with (go_at_call 15; refine (appBool B true v bs _ (HB.out.1.alloc _) (by simp; omega) (by have := HB.out.2.2; omega)).mono ?_; rintro e w1 ⟨v1, rfl, hb1, ha1⟩)
        go_ret
        exact ⟨v1, rfl, by rw [HP.out]; exact hb1, ((App.refl _ _).alloc _).trans ha1⟩
    · rw [part2 k] at hp
      simp only [inB, Bool.and_eq_true, decide_eq_true_eq] at hp
      obtain ⟨h1, h2⟩ := hp.1
      have HP : Hid (pr j = num j.n) := by show pr j = _; rw [pr_eq, if_neg (by omega), if_neg (by omega), if_pos k]
      have HA : Hid (-9223372036854775808 ≤ j.n ∧ j.n ≤ 9223372036854775807) := ⟨by omega, by omega⟩
      clear hp hsz hz ih hr0 hb hl hT hg hk h1 h2
      rw [k]
      go_enter Tryd.func9, Tryd.ntmps9
      go_wp2_with (go_at_call 16; refine (appInt B j.n HA.out.1 HA.out.2 v bs _ (HB.out.1.alloc _) (by simp; omega) (by have := HB.out.2.2; omega) (HT.out.on ((Below.refl _ _).alloc HB.out.2.1 _))).mono ?_; rintro e w1 ⟨v1, rfl, hb1, ha1⟩)
      go_ret
      exact ⟨v1, rfl, by rw [HP.out]; exact hb1, ((App.refl _ _).alloc _).trans ha1⟩
    · have HP : Hid (pr j = quo j.t) := by show pr j = _; rw [pr_eq, if_neg (by omega), if_neg (by omega), if_neg (by omega), if_pos k]
      have HQ : Hid (∀ W, Buf W B v bs → B ≤ W.heap.size → Calls Tryd.prog 17 #[v, .string ⟨j.t.toArray⟩] W fun e w' => ∃ v', e = .returned v' ∧ Buf w' B v' (bs ++ quo j.t) ∧ App W v w' v') := fun W hb' hB' =>
        appQ ⟨j.t.toArray⟩ B v bs W (by show j.t.toArray.size ≤ _; simpa using ht20) hb' hB' (by have := HB.out.2.2; omega)
      clear hp hsz hz ih hr0 hb hl hT hg hk
      rw [k]
      go_enter Tryd.func9, Tryd.ntmps9
      go_wp2_with (go_at_call 17; refine (HQ.out _ (HB.out.1.alloc _) (by simp; omega)).mono ?_; rintro e w1 ⟨v1, rfl, hb1, ha1⟩)
      go_ret
      exact ⟨v1, rfl, by rw [HP.out]; exact hb1, ((App.refl _ _).alloc _).trans ha1⟩
    · by_cases k5 : j.k = 5
      · have HE : Hid (bs ++ outM j j.items.length ++ [125] = bs ++ pr j) := by
          show _ = _
          have := outM_end k
          rw [if_pos k5] at this
          rw [List.append_assoc, this]
        have HAI : Hid (∀ W vv, St w v B w.heap.size (.cells #[.int .i64 j.k, .int .i64 j.n, .string ⟨j.t.toArray⟩, .slice ka j.keys.length kc, .slice ia j.items.length ic] 28) W vv (bs ++ [123]) → Calls Tryd.prog 18 #[vv, .agg #[.int .i64 j.k, .int .i64 j.n, .string ⟨j.t.toArray⟩, .slice ka j.keys.length kc, .slice ia j.items.length ic]] W fun e w' => ∃ v', e = .returned v' ∧ App W vv w' v' ∧ St w v B w.heap.size (.cells #[.int .i64 j.k, .int .i64 j.n, .string ⟨j.t.toArray⟩, .slice ka j.keys.length kc, .slice ia j.items.length ic] 28) w' v' (bs ++ outM j j.items.length)) := fun W vv hst =>
          (appItems j ih _ B vv bs W hg k hz (hr0.below hst.bel) (by have h := hst.buf; rw [outM_zero, if_pos k5]; exact h) hst.le hl (hT.on hst.bel)).mono (fun e w' ⟨v', he, hb', ha'⟩ => ⟨v', he, ha', hst.push hb' ha'⟩)
        have hkK : j.k = 5 := by omega
        have HL1 : Hid (bs.length + 1 ≤ 70368744177664 ∧ (bs ++ outM j j.items.length).length + 1 ≤ 70368744177664) := by
          have h1 := outM_le k j.items.length
          refine ⟨by omega, ?_⟩
          rw [List.length_append]
          omega
        obtain ⟨w0, hw0⟩ : ∃ w0, w0 = w.alloc (.cells #[.int .i64 j.k, .int .i64 j.n, .string ⟨j.t.toArray⟩, .slice ka j.keys.length kc, .slice ia j.items.length ic] 28) := ⟨_, rfl⟩
        have hst : St w v B w.heap.size (.cells #[.int .i64 j.k, .int .i64 j.n, .string ⟨j.t.toArray⟩, .slice ka j.keys.length kc, .slice ia j.items.length ic] 28) w0 v bs := by rw [hw0]; exact St.first hb hB _
        rw [hkK] at hst HAI hw0 ⊢
        clear hp hsz hz ih hr0 hb hl hT hg hk k k5 hkK ht20
        generalize outM j j.items.length = om at *
        go_enter Tryd.func9, Tryd.ntmps9
        go_upto_region 12 with fail
        rw [← hw0]
        clear hw0
        generalize w.heap.size = S at *
        have x0 := cell_at (o := 0) hst.at_ rfl
        have y0 := fun o => cell_at (o := 0) (hst.al o).at_ rfl
        have z0 := fun o o' => cell_at (o := 0) ((hst.al o).al o').at_ rfl
        have x1 := cell_at (o := 1) hst.at_ rfl
        have y1 := fun o => cell_at (o := 1) (hst.al o).at_ rfl
        have z1 := fun o o' => cell_at (o := 1) ((hst.al o).al o').at_ rfl
        have x2 := cell_at (o := 2) hst.at_ rfl
        have y2 := fun o => cell_at (o := 2) (hst.al o).at_ rfl
        have z2 := fun o o' => cell_at (o := 2) ((hst.al o).al o').at_ rfl
        have x3 := cell_at (o := 3) hst.at_ rfl
        have y3 := fun o => cell_at (o := 3) (hst.al o).at_ rfl
        have z3 := fun o o' => cell_at (o := 3) ((hst.al o).al o').at_ rfl
        have x4 := cell_at (o := 4) hst.at_ rfl
        have y4 := fun o => cell_at (o := 4) (hst.al o).at_ rfl
        have z4 := fun o o' => cell_at (o := 4) ((hst.al o).al o').at_ rfl
        have K1 : Hid (St w v B S (.cells #[.int .i64 5, .int .i64 j.n, .string ⟨j.t.toArray⟩, .slice ka j.keys.length kc, .slice ia j.items.length ic] 28) (w0.alloc (.cells #[.int .u8 123] 5)).drew v bs ∧ One (w0.alloc (.cells #[.int .u8 123] 5)).drew v w0.heap.size 123) := ⟨(hst.al _).drew, (hst.oneAl _).drew⟩
        have K2 : Hid (St w v B S (.cells #[.int .i64 5, .int .i64 j.n, .string ⟨j.t.toArray⟩, .slice ka j.keys.length kc, .slice ia j.items.length ic] 28) ((w0.alloc (.cells #[.int .u8 123] 5)).alloc (.cells #[.int .u8 125] 5)).drew v bs ∧ One ((w0.alloc (.cells #[.int .u8 123] 5)).alloc (.cells #[.int .u8 125] 5)).drew v w0.heap.size 123 ∧ One ((w0.alloc (.cells #[.int .u8 123] 5)).alloc (.cells #[.int .u8 125] 5)).drew v (w0.heap.size + 1) 125) := ⟨((hst.al _).al _).drew, ((hst.oneAl _).al _).drew, (hst.oneAl2 _).drew⟩
        have K3 : Hid (St w v B S (.cells #[.int .i64 5, .int .i64 j.n, .string ⟨j.t.toArray⟩, .slice ka j.keys.length kc, .slice ia j.items.length ic] 28) ((w0.alloc (.cells #[.int .u8 125] 5)).alloc (.cells #[.int .u8 123] 5)).drew v bs ∧ One ((w0.alloc (.cells #[.int .u8 125] 5)).alloc (.cells #[.int .u8 123] 5)).drew v w0.heap.size 125 ∧ One ((w0.alloc (.cells #[.int .u8 125] 5)).alloc (.cells #[.int .u8 123] 5)).drew v (w0.heap.size + 1) 123) := ⟨((hst.al _).al _).drew, ((hst.oneAl _).al _).drew, (hst.oneAl2 _).drew⟩
        clear hst
        go_region_law (first
          | (refine step_push rfl (.tmp 39) (.tmp 40) rfl B v bs 123 w0.heap.size rfl rfl K1.out.1.buf K1.out.1.le HL1.out.1 K1.out.2.cell ?_; intro v1 w1 hbq haq; have hst := K1.out.1.push hbq haq; clear hbq haq; clear x0 x1 x2 x3 x4 y0 y1 y2 y3 y4 z0 z1 z2 z3 z4; have x0 := cell_at (o := 0) hst.at_ rfl; have y0 := fun o => cell_at (o := 0) (hst.al o).at_ rfl; have x1 := cell_at (o := 1) hst.at_ rfl; have y1 := fun o => cell_at (o := 1) (hst.al o).at_ rfl; have x2 := cell_at (o := 2) hst.at_ rfl; have y2 := fun o => cell_at (o := 2) (hst.al o).at_ rfl; have x3 := cell_at (o := 3) hst.at_ rfl; have y3 := fun o => cell_at (o := 3) (hst.al o).at_ rfl; have x4 := cell_at (o := 4) hst.at_ rfl; have y4 := fun o => cell_at (o := 4) (hst.al o).at_ rfl)
          | (refine step_push rfl (.tmp 39) (.tmp 40) rfl B v bs 123 w0.heap.size rfl rfl K2.out.1.buf K2.out.1.le HL1.out.1 K2.out.2.1.cell ?_; intro v1 w1 hbq haq; have hst := K2.out.1.push hbq haq; have hZ := K2.out.2.2.push haq; clear hbq haq; clear x0 x1 x2 x3 x4 y0 y1 y2 y3 y4 z0 z1 z2 z3 z4; have x0 := cell_at (o := 0) hst.at_ rfl; have y0 := fun o => cell_at (o := 0) (hst.al o).at_ rfl; have x1 := cell_at (o := 1) hst.at_ rfl; have y1 := fun o => cell_at (o := 1) (hst.al o).at_ rfl; have x2 := cell_at (o := 2) hst.at_ rfl; have y2 := fun o => cell_at (o := 2) (hst.al o).at_ rfl; have x3 := cell_at (o := 3) hst.at_ rfl; have y3 := fun o => cell_at (o := 3) (hst.al o).at_ rfl; have x4 := cell_at (o := 4) hst.at_ rfl; have y4 := fun o => cell_at (o := 4) (hst.al o).at_ rfl)
          | (refine step_push rfl (.tmp 39) (.tmp 40) rfl B v bs 123 (w0.heap.size + 1) rfl rfl K3.out.1.buf K3.out.1.le HL1.out.1 K3.out.2.2.cell ?_; intro v1 w1 hbq haq; have hst := K3.out.1.push hbq haq; have hZ := K3.out.2.1.push haq; clear hbq haq; clear x0 x1 x2 x3 x4 y0 y1 y2 y3 y4 z0 z1 z2 z3 z4; have x0 := cell_at (o := 0) hst.at_ rfl; have y0 := fun o => cell_at (o := 0) (hst.al o).at_ rfl; have x1 := cell_at (o := 1) hst.at_ rfl; have y1 := fun o => cell_at (o := 1) (hst.al o).at_ rfl; have x2 := cell_at (o := 2) hst.at_ rfl; have y2 := fun o => cell_at (o := 2) (hst.al o).at_ rfl; have x3 := cell_at (o := 3) hst.at_ rfl; have y3 := fun o => cell_at (o := 3) (hst.al o).at_ rfl; have x4 := cell_at (o := 4) hst.at_ rfl; have y4 := fun o => cell_at (o := 4) (hst.al o).at_ rfl)
          | (go_simp; go_at_call 18; refine (HAI.out _ v1 hst).mono ?_; rintro e w2 ⟨v2, rfl, haq, hstq⟩; (first | replace hZ := hZ.push haq | skip); replace hst := hstq; clear haq; clear x0 x1 x2 x3 x4 y0 y1 y2 y3 y4; skip)
          | (go_simp; go_at_call 18; refine (HAI.out _ v1 (hst.al _)).mono ?_; rintro e w2 ⟨v2, rfl, haq, hstq⟩; have hZ := (hst.oneAl 125).push haq; replace hst := hstq; clear haq; clear x0 x1 x2 x3 x4 y0 y1 y2 y3 y4; skip)
          | (refine step_push rfl (.tmp 43) (.tmp 44) rfl B v2 (bs ++ om) 125 _ rfl rfl hst.buf hst.le HL1.out.2 hZ.cell ?_; intro v3 w3 hbq haq; replace hst := hst.push hbq haq; clear hbq haq)
          | (refine step_push rfl (.tmp 43) (.tmp 44) rfl B v2 (bs ++ om) 125 _ rfl rfl (hst.al _).buf (hst.al _).le HL1.out.2 (hst.oneAl 125).cell ?_; intro v3 w3 hbq haq; replace hst := (hst.al _).push hbq haq; clear hbq haq))
        all_goals
          go_wp2_with fail
          go_ret
          exact ⟨v3, rfl, by have h := hst.buf; rw [HE.out] at h; exact h, hst.app⟩
      · have HE : Hid (bs ++ outM j j.items.length ++ [93] = bs ++ pr j) := by
          show _ = _
          have := outM_end k
          rw [if_neg k5] at this
          rw [List.append_assoc, this]
        have HAI : Hid (∀ W vv, St w v B w.heap.size (.cells #[.int .i64 j.k, .int .i64 j.n, .string ⟨j.t.toArray⟩, .slice ka j.keys.length kc, .slice ia j.items.length ic] 28) W vv (bs ++ [91]) → Calls Tryd.prog 18 #[vv, .agg #[.int .i64 j.k, .int .i64 j.n, .string ⟨j.t.toArray⟩, .slice ka j.keys.length kc, .slice ia j.items.length ic]] W fun e w' => ∃ v', e = .returned v' ∧ App W vv w' v' ∧ St w v B w.heap.size (.cells #[.int .i64 j.k, .int .i64 j.n, .string ⟨j.t.toArray⟩, .slice ka j.keys.length kc, .slice ia j.items.length ic] 28) w' v' (bs ++ outM j j.items.length)) := fun W vv hst =>
          (appItems j ih _ B vv bs W hg k hz (hr0.below hst.bel) (by have h := hst.buf; rw [outM_zero, if_neg k5]; exact h) hst.le hl (hT.on hst.bel)).mono (fun e w' ⟨v', he, hb', ha'⟩ => ⟨v', he, ha', hst.push hb' ha'⟩)
        have hkK : j.k = 4 := by omega
        have HL1 : Hid (bs.length + 1 ≤ 70368744177664 ∧ (bs ++ outM j j.items.length).length + 1 ≤ 70368744177664) := by
          have h1 := outM_le k j.items.length
          refine ⟨by omega, ?_⟩
          rw [List.length_append]
          omega
        obtain ⟨w0, hw0⟩ : ∃ w0, w0 = w.alloc (.cells #[.int .i64 j.k, .int .i64 j.n, .string ⟨j.t.toArray⟩, .slice ka j.keys.length kc, .slice ia j.items.length ic] 28) := ⟨_, rfl⟩
        have hst : St w v B w.heap.size (.cells #[.int .i64 j.k, .int .i64 j.n, .string ⟨j.t.toArray⟩, .slice ka j.keys.length kc, .slice ia j.items.length ic] 28) w0 v bs := by rw [hw0]; exact St.first hb hB _
        rw [hkK] at hst HAI hw0 ⊢
        clear hp hsz hz ih hr0 hb hl hT hg hk k k5 hkK ht20
        generalize outM j j.items.length = om at *
        go_enter Tryd.func9, Tryd.ntmps9
        go_upto_region 11 with fail
        rw [← hw0]
        clear hw0
        generalize w.heap.size = S at *
        have x0 := cell_at (o := 0) hst.at_ rfl
        have y0 := fun o => cell_at (o := 0) (hst.al o).at_ rfl
        have z0 := fun o o' => cell_at (o := 0) ((hst.al o).al o').at_ rfl
        have x1 := cell_at (o := 1) hst.at_ rfl
        have y1 := fun o => cell_at (o := 1) (hst.al o).at_ rfl
        have z1 := fun o o' => cell_at (o := 1) ((hst.al o).al o').at_ rfl
        have x2 := cell_at (o := 2) hst.at_ rfl
        have y2 := fun o => cell_at (o := 2) (hst.al o).at_ rfl
        have z2 := fun o o' => cell_at (o := 2) ((hst.al o).al o').at_ rfl
        have x3 := cell_at (o := 3) hst.at_ rfl
        have y3 := fun o => cell_at (o := 3) (hst.al o).at_ rfl
        have z3 := fun o o' => cell_at (o := 3) ((hst.al o).al o').at_ rfl
        have x4 := cell_at (o := 4) hst.at_ rfl
        have y4 := fun o => cell_at (o := 4) (hst.al o).at_ rfl
        have z4 := fun o o' => cell_at (o := 4) ((hst.al o).al o').at_ rfl
        have K1 : Hid (St w v B S (.cells #[.int .i64 4, .int .i64 j.n, .string ⟨j.t.toArray⟩, .slice ka j.keys.length kc, .slice ia j.items.length ic] 28) (w0.alloc (.cells #[.int .u8 91] 5)).drew v bs ∧ One (w0.alloc (.cells #[.int .u8 91] 5)).drew v w0.heap.size 91) := ⟨(hst.al _).drew, (hst.oneAl _).drew⟩
        have K2 : Hid (St w v B S (.cells #[.int .i64 4, .int .i64 j.n, .string ⟨j.t.toArray⟩, .slice ka j.keys.length kc, .slice ia j.items.length ic] 28) ((w0.alloc (.cells #[.int .u8 91] 5)).alloc (.cells #[.int .u8 93] 5)).drew v bs ∧ One ((w0.alloc (.cells #[.int .u8 91] 5)).alloc (.cells #[.int .u8 93] 5)).drew v w0.heap.size 91 ∧ One ((w0.alloc (.cells #[.int .u8 91] 5)).alloc (.cells #[.int .u8 93] 5)).drew v (w0.heap.size + 1) 93) := ⟨((hst.al _).al _).drew, ((hst.oneAl _).al _).drew, (hst.oneAl2 _).drew⟩
        have K3 : Hid (St w v B S (.cells #[.int .i64 4, .int .i64 j.n, .string ⟨j.t.toArray⟩, .slice ka j.keys.length kc, .slice ia j.items.length ic] 28) ((w0.alloc (.cells #[.int .u8 93] 5)).alloc (.cells #[.int .u8 91] 5)).drew v bs ∧ One ((w0.alloc (.cells #[.int .u8 93] 5)).alloc (.cells #[.int .u8 91] 5)).drew v w0.heap.size 93 ∧ One ((w0.alloc (.cells #[.int .u8 93] 5)).alloc (.cells #[.int .u8 91] 5)).drew v (w0.heap.size + 1) 91) := ⟨((hst.al _).al _).drew, ((hst.oneAl _).al _).drew, (hst.oneAl2 _).drew⟩
        clear hst
        go_region_law (first
          | (refine step_push rfl (.tmp 32) (.tmp 33) rfl B v bs 91 w0.heap.size rfl rfl K1.out.1.buf K1.out.1.le HL1.out.1 K1.out.2.cell ?_; intro v1 w1 hbq haq; have hst := K1.out.1.push hbq haq; clear hbq haq; clear x0 x1 x2 x3 x4 y0 y1 y2 y3 y4 z0 z1 z2 z3 z4; have x0 := cell_at (o := 0) hst.at_ rfl; have y0 := fun o => cell_at (o := 0) (hst.al o).at_ rfl; have x1 := cell_at (o := 1) hst.at_ rfl; have y1 := fun o => cell_at (o := 1) (hst.al o).at_ rfl; have x2 := cell_at (o := 2) hst.at_ rfl; have y2 := fun o => cell_at (o := 2) (hst.al o).at_ rfl; have x3 := cell_at (o := 3) hst.at_ rfl; have y3 := fun o => cell_at (o := 3) (hst.al o).at_ rfl; have x4 := cell_at (o := 4) hst.at_ rfl; have y4 := fun o => cell_at (o := 4) (hst.al o).at_ rfl)
          | (refine step_push rfl (.tmp 32) (.tmp 33) rfl B v bs 91 w0.heap.size rfl rfl K2.out.1.buf K2.out.1.le HL1.out.1 K2.out.2.1.cell ?_; intro v1 w1 hbq haq; have hst := K2.out.1.push hbq haq; have hZ := K2.out.2.2.push haq; clear hbq haq; clear x0 x1 x2 x3 x4 y0 y1 y2 y3 y4 z0 z1 z2 z3 z4; have x0 := cell_at (o := 0) hst.at_ rfl; have y0 := fun o => cell_at (o := 0) (hst.al o).at_ rfl; have x1 := cell_at (o := 1) hst.at_ rfl; have y1 := fun o => cell_at (o := 1) (hst.al o).at_ rfl; have x2 := cell_at (o := 2) hst.at_ rfl; have y2 := fun o => cell_at (o := 2) (hst.al o).at_ rfl; have x3 := cell_at (o := 3) hst.at_ rfl; have y3 := fun o => cell_at (o := 3) (hst.al o).at_ rfl; have x4 := cell_at (o := 4) hst.at_ rfl; have y4 := fun o => cell_at (o := 4) (hst.al o).at_ rfl)
          | (refine step_push rfl (.tmp 32) (.tmp 33) rfl B v bs 91 (w0.heap.size + 1) rfl rfl K3.out.1.buf K3.out.1.le HL1.out.1 K3.out.2.2.cell ?_; intro v1 w1 hbq haq; have hst := K3.out.1.push hbq haq; have hZ := K3.out.2.1.push haq; clear hbq haq; clear x0 x1 x2 x3 x4 y0 y1 y2 y3 y4 z0 z1 z2 z3 z4; have x0 := cell_at (o := 0) hst.at_ rfl; have y0 := fun o => cell_at (o := 0) (hst.al o).at_ rfl; have x1 := cell_at (o := 1) hst.at_ rfl; have y1 := fun o => cell_at (o := 1) (hst.al o).at_ rfl; have x2 := cell_at (o := 2) hst.at_ rfl; have y2 := fun o => cell_at (o := 2) (hst.al o).at_ rfl; have x3 := cell_at (o := 3) hst.at_ rfl; have y3 := fun o => cell_at (o := 3) (hst.al o).at_ rfl; have x4 := cell_at (o := 4) hst.at_ rfl; have y4 := fun o => cell_at (o := 4) (hst.al o).at_ rfl)
          | (go_simp; go_at_call 18; refine (HAI.out _ v1 hst).mono ?_; rintro e w2 ⟨v2, rfl, haq, hstq⟩; (first | replace hZ := hZ.push haq | skip); replace hst := hstq; clear haq; clear x0 x1 x2 x3 x4 y0 y1 y2 y3 y4; skip)
          | (go_simp; go_at_call 18; refine (HAI.out _ v1 (hst.al _)).mono ?_; rintro e w2 ⟨v2, rfl, haq, hstq⟩; have hZ := (hst.oneAl 93).push haq; replace hst := hstq; clear haq; clear x0 x1 x2 x3 x4 y0 y1 y2 y3 y4; skip)
          | (refine step_push rfl (.tmp 36) (.tmp 37) rfl B v2 (bs ++ om) 93 _ rfl rfl hst.buf hst.le HL1.out.2 hZ.cell ?_; intro v3 w3 hbq haq; replace hst := hst.push hbq haq; clear hbq haq)
          | (refine step_push rfl (.tmp 36) (.tmp 37) rfl B v2 (bs ++ om) 93 _ rfl rfl (hst.al _).buf (hst.al _).le HL1.out.2 (hst.oneAl 93).cell ?_; intro v3 w3 hbq haq; replace hst := (hst.al _).push hbq haq; clear hbq haq))
        all_goals
          go_wp2_with fail
          go_ret
          exact ⟨v3, rfl, by have h := hst.buf; rw [HE.out] at h; exact h, hst.app⟩
end Go.Proofs.YtodgijhpokjjhaaDoor
