import Derived.Test.YtkncpfhblciplaaYbu
namespace Go.Proofs.Ytkncpfhblciplaa
open Go.RowKit
set_option linter.unusedSimpArgs false
def TdAns (j : J) (w : World) (e : Ending) (w' : World) : Prop := ∃ (A : List At) (va : Option Addr) (vc : Nat) (b : Bool), e = .returned (.tuple #[.slice va A.length vc, .bool b]) ∧ OwnAts w' (fun c => w.heap.size ≤ c ∧ c < w'.heap.size) va A ∧ jdO j = (if b = true then some A else none) ∧ Below w.heap.size w w'
theorem TdAns.no {j : J} {w w' : World} (h : jdO j = none) (hB : Below w.heap.size w w') (va : Option Addr) (vc : Nat) : TdAns j w (.returned (.tuple #[.slice va 0 vc, .bool false])) w' := ⟨[], va, vc, false, rfl, .inl rfl, by rw [h]; rfl, hB⟩
theorem own_one (w : World) (x : At) (T : TypeId) (B : Nat → Prop) (hB : B w.heap.size) : OwnAts (w.alloc (.cells #[.int .i64 x.k, .int .i64 x.n, .string ⟨x.t.toArray⟩] T)) B (some ⟨w.heap.size, 0, none⟩) [x] :=
  .inr ⟨w.heap.size, 0, rfl, hB, fun m hm => by
    have hn := heap_newA w (.cells #[.int .i64 x.k, .int .i64 x.n, .string ⟨x.t.toArray⟩] T)
    have h3 : m < 3 := by simpa using hm
    rw [Nat.zero_add]
    refine ⟨?_, frozen_at m hn⟩
    match m, h3 with
    | 0, _ => exact cell_at hn rfl
    | 1, _ => exact cell_at hn rfl
    | 2, _ => exact cell_at hn rfl⟩
set_option maxRecDepth 100000 in
set_option maxHeartbeats 12800000 in
theorem toDatumS (j : J) (cs : List Value) (B : Nat → Prop) (w : World) (hj : Rt j) (hz : j.sz ≤ 1048576) (hr : RJ w B j cs) :
    Calls Try.prog 58 #[.agg cs.toArray] w (TdAns j w) := by
  have HJ : Hid (RJ w B j cs) := hr
  have HK := Lib.hid hj
  have HZ := Lib.hid hz
  rw [RJ_eq] at hr
  obtain ⟨ka, kc, ia, ic, rfl, -⟩ := hr
  clear hj hz
  go_enter Try.func58, Try.ntmps58
  go_upto_region 1 with fail
  have hb := heap_new' w (.cells #[.int .i64 j.k, .int .i64 j.n, .string ⟨j.t.toArray⟩, .slice ka j.keys.length kc, .slice ia j.items.length ic] 28) rfl
  have HB0 : Hid (Below w.heap.size w (w.alloc (.cells #[.int .i64 j.k, .int .i64 j.n, .string ⟨j.t.toArray⟩, .slice ka j.keys.length kc, .slice ia j.items.length ic] 28)) ∧ (w.alloc (.cells #[.int .i64 j.k, .int .i64 j.n, .string ⟨j.t.toArray⟩, .slice ka j.keys.length kc, .slice ia j.items.length ic] 28)).heap[w.heap.size]? = some (.cells #[.int .i64 j.k, .int .i64 j.n, .string ⟨j.t.toArray⟩, .slice ka j.keys.length kc, .slice ia j.items.length ic] 28)) := ⟨(Below.refl _ _).alloc (Nat.le_refl _) _, hb⟩
  obtain ⟨W0, hW0⟩ : ∃ W, W = (w.alloc (.cells #[.int .i64 j.k, .int .i64 j.n, .string ⟨j.t.toArray⟩, .slice ka j.keys.length kc, .slice ia j.items.length ic] 28)) := ⟨_, rfl⟩
  rw [← hW0] at HB0 ⊢
  clear hW0 hb
  have x0 := cell_at (o := 0) HB0.out.2 rfl
  have x1 := cell_at (o := 1) HB0.out.2 rfl
  have x2 := cell_at (o := 2) HB0.out.2 rfl
  have x3 := cell_at (o := 3) HB0.out.2 rfl
  have x4 := cell_at (o := 4) HB0.out.2 rfl
  go_wp2_with fail
  refine (pairS j _ setW B _ (HJ.out.later HB0.out.1)).mono ?_
  rintro e w1 ⟨cs1, rfl, hx, hB1⟩
  have HX := Lib.hid hx
  have hx2 := hx
  rw [RJ_eq] at hx2
  obtain ⟨kx, kcx, ix, icx, rfl, -⟩ := hx2
  have HQ : Hid (prJ j setW = ((prJ j setW).1, (prJ j setW).2)) := rfl
  generalize hq1 : (prJ j setW).1 = x at *
  generalize hq2 : (prJ j setW).2 = bb at *
  clear hq1 hq2 hx
  obtain ⟨q1, hq1⟩ : ∃ n, n = w1.heap.size := ⟨_, rfl⟩
  have hB2 : Below w1.heap.size w1 (w1.alloc (.cells #[.int .i64 x.k, .int .i64 x.n, .string ⟨x.t.toArray⟩, .slice kx x.keys.length kcx, .slice ix x.items.length icx] 28)) := (Below.refl _ _).alloc (Nat.le_refl _) _
  have HB1 : Hid (Below w.heap.size w (w1.alloc (.cells #[.int .i64 x.k, .int .i64 x.n, .string ⟨x.t.toArray⟩, .slice kx x.keys.length kcx, .slice ix x.items.length icx] 28)) ∧ (w1.alloc (.cells #[.int .i64 x.k, .int .i64 x.n, .string ⟨x.t.toArray⟩, .slice kx x.keys.length kcx, .slice ix x.items.length icx] 28)).heap[w.heap.size]? = some (.cells #[.int .i64 j.k, .int .i64 j.n, .string ⟨j.t.toArray⟩, .slice ka j.keys.length kc, .slice ia j.items.length ic] 28) ∧ (w1.alloc (.cells #[.int .i64 x.k, .int .i64 x.n, .string ⟨x.t.toArray⟩, .slice kx x.keys.length kcx, .slice ix x.items.length icx] 28)).heap[q1]? = some (.cells #[.int .i64 x.k, .int .i64 x.n, .string ⟨x.t.toArray⟩, .slice kx x.keys.length kcx, .slice ix x.items.length icx] 28) ∧ RJ (w1.alloc (.cells #[.int .i64 x.k, .int .i64 x.n, .string ⟨x.t.toArray⟩, .slice kx x.keys.length kcx, .slice ix x.items.length icx] 28)) B x (#[.int .i64 x.k, .int .i64 x.n, .string ⟨x.t.toArray⟩, .slice kx x.keys.length kcx, .slice ix x.items.length icx]).toList) := ⟨(HB0.out.1.trans (hB1.mono HB0.out.1.size)).trans (hB2.mono (HB0.out.1.trans (hB1.mono HB0.out.1.size)).size), heap_kept2 (heap_kept2 HB0.out.2 hB1) hB2, heap_new' _ _ hq1, HX.out.later hB2⟩
  clear hB1 hB2 HX HB0 x0 x1 x2 x3 x4
  go_upto_region 2 with fail
  rw [← hq1]
  obtain ⟨W1, hW1⟩ : ∃ W, W = (w1.alloc (.cells #[.int .i64 x.k, .int .i64 x.n, .string ⟨x.t.toArray⟩, .slice kx x.keys.length kcx, .slice ix x.items.length icx] 28)) := ⟨_, rfl⟩
  rw [← hW1] at HB1 ⊢
  clear hW1 hq1
  by_cases hs : isSet j
  case neg =>
    have h9 := HQ.out; rw [prJ_no hs] at h9; simp only [Prod.mk.injEq] at h9; obtain ⟨-, rfl⟩ := h9
    have HO := Lib.hid (jdO_one hs)
    clear hs HQ
    have x0 := cell_at (o := 0) HB1.out.2.1 rfl
    have x1 := cell_at (o := 1) HB1.out.2.1 rfl
    have x2 := cell_at (o := 2) HB1.out.2.1 rfl
    have x3 := cell_at (o := 3) HB1.out.2.1 rfl
    have x4 := cell_at (o := 4) HB1.out.2.1 rfl
    go_wp2_with fail
    refine (toAtomS j _ B _ HK.out (HJ.out.later HB1.out.1)).mono ?_
    rintro e w2 ⟨rfl, hB⟩
    have H2 : Hid (Below w.heap.size w w2) := HB1.out.1.trans (hB.mono HB1.out.1.size)
    clear hB HJ HK HZ HB1 x0 x1 x2 x3 x4
    obtain ⟨b, hb⟩ : ∃ b, b = (paA j).isSome := ⟨_, rfl⟩
    obtain ⟨a, ha⟩ : ∃ a, a = (paA j).getD atZ := ⟨_, rfl⟩
    rw [← hb, ← ha]
    have HAB : Hid (jdO j = if b = true then some [a] else none) := by show _ = _; rw [HO.out, hb, ha]; cases paA j <;> rfl
    clear hb ha HO
    go_upto_region 4 with fail
    obtain ⟨q2, hq2⟩ : ∃ n, n = w2.heap.size := ⟨_, rfl⟩
    have H3 : Hid (Below w.heap.size w (w2.alloc (.cells #[.int .i64 a.k, .int .i64 a.n, .string ⟨a.t.toArray⟩] 31)) ∧ (w2.alloc (.cells #[.int .i64 a.k, .int .i64 a.n, .string ⟨a.t.toArray⟩] 31)).heap[q2]? = some (.cells #[.int .i64 a.k, .int .i64 a.n, .string ⟨a.t.toArray⟩] 31)) := ⟨H2.out.alloc H2.out.size _, heap_new' _ _ hq2⟩
    rw [← hq2]
    obtain ⟨W3, hW3⟩ : ∃ W, W = (w2.alloc (.cells #[.int .i64 a.k, .int .i64 a.n, .string ⟨a.t.toArray⟩] 31)) := ⟨_, rfl⟩
    rw [← hW3] at H3 ⊢
    clear hW3 hq2 H2
    have g0 := cell_at (o := 0) H3.out.2 rfl
    have g1 := cell_at (o := 1) H3.out.2 rfl
    have g2 := cell_at (o := 2) H3.out.2 rfl
    go_wp2_with fail
    go_ret2
    exact ⟨[a], some ⟨W3.heap.size, 0, none⟩, 1, b, rfl, own_one W3 a _ _ ⟨H3.out.1.size, by simp⟩, HAB.out, H3.out.1.alloc H3.out.1.size _⟩
  have h9 := HQ.out; rw [prJ_yes hs.1 hs.2] at h9; simp only [Prod.mk.injEq] at h9; obtain ⟨hx1, rfl⟩ := h9
  have HO : Hid (jdO j = match atomsO x.items with | some A => if x.k = 4 ∧ ofC A = 0 then some (ofR A) else none | none => none) := by rw [← hx1]; exact jdO_set hs
  have HXR : Hid (Rt x ∧ x.sz ≤ 1048576) := by
    rw [← hx1]
    have h2 := (pairB_yes hs.1).2.1
    exact ⟨HK.out.item (it1_mem (by omega)), Nat.le_trans (J.sz_item j _ (it1_mem (by omega))) HZ.out⟩
  clear hs HQ hx1 HJ HK HZ
  have HI : Hid (Jsons W1 B ix x.items) := by
    have h9 := HB1.out.2.2.2; rw [RJ_eq] at h9; obtain ⟨k1, k2, k3, k4, e, -, -, -, -, -, hjs⟩ := h9
    simp only [List.cons.injEq, Value.slice.injEq, and_true, true_and] at e
    obtain ⟨⟨-, -⟩, rfl, -⟩ := e
    exact hjs
  have hi20 : x.items.length ≤ 1048576 := by have := HXR.out.2; have := J.sz_eq x; omega
  have x0 := cell_at (o := 0) HB1.out.2.2.1 rfl
  have x1 := cell_at (o := 1) HB1.out.2.2.1 rfl
  have x2 := cell_at (o := 2) HB1.out.2.2.1 rfl
  have x3 := cell_at (o := 3) HB1.out.2.2.1 rfl
  have x4 := cell_at (o := 4) HB1.out.2.2.1 rfl
  go_upto_region 6 with fail
  clear x0 x1 x2 x3 x4
  have HL0 : Hid (Below W1.heap.size W1 (W1.alloc (.cells #[] 31)) ∧ AN W1 W1.heap.size (W1.alloc (.cells #[] 31)) (.slice (some ⟨W1.heap.size, 0, none⟩) 0 0) []) := ⟨(Below.refl _ _).alloc (Nat.le_refl _) _, ⟨ABuf.empty W1, (Below.refl _ _).alloc (Nat.le_refl _) _, by simp, Nat.le_refl _⟩⟩
  obtain ⟨W2, hW2⟩ : ∃ W, W = (W1.alloc (.cells #[] 31)) := ⟨_, rfl⟩
  rw [← hW2] at HL0 ⊢
  clear hW2
  go_wp2_with fail
  go_loopw [8, 9] (fun v iv wr => ∃ (k : Nat) (A : List At) (vo : Value), k ≤ x.items.length ∧ iv = .int .i64 (k : Int) ∧ vo = v ∧ Hid (AN W1 W1.heap.size wr vo A ∧ AllA x.items k A ∧ vo ≠ .slice none 0 0)) (fun _ iv _ => x.items.length - (intOf iv).toNat)
  case atStart => exact ⟨0, [], _, Nat.zero_le _, rfl, rfl, HL0.out.2, AllA.nil _, by simp⟩
  case round =>
    obtain ⟨k, A, vo, hk, rfl, rfl, HM⟩ := hrel
    have x0 := cell_at (o := 0) (heap_kept2 HB1.out.2.2.1 HM.out.1.bel) rfl
    have x1 := cell_at (o := 1) (heap_kept2 HB1.out.2.2.1 HM.out.1.bel) rfl
    have x2 := cell_at (o := 2) (heap_kept2 HB1.out.2.2.1 HM.out.1.bel) rfl
    have x3 := cell_at (o := 3) (heap_kept2 HB1.out.2.2.1 HM.out.1.bel) rfl
    have x4 := cell_at (o := 4) (heap_kept2 HB1.out.2.2.1 HM.out.1.bel) rfl
    by_cases hlt : k < x.items.length
    case pos =>
      have hki : (k : Int) < (x.items.length : Int) := by omega
      have f1 : IntKind.i64.wrap ((k : Int) + 1) = ((k + 1 : Nat) : Int) := by rw [IntKind.wrap_i64]; omega
      obtain ⟨b, off, ky, kcy, iy, icy, rfl, -, c0, c1, c2, c3, c4, hr⟩ := (HI.out.later HM.out.1.bel).item k hlt
      have TA : Hid (Calls Try.prog 50 #[.agg #[.int .i64 x.items[k].k, .int .i64 x.items[k].n, .string ⟨x.items[k].t.toArray⟩, .slice ky x.items[k].keys.length kcy, .slice iy x.items[k].items.length icy]] wr (TaAns x.items[k] wr)) := toAtomS _ _ _ _ (HXR.out.1.item (List.getElem_mem hlt)) hr
      have HY : Hid (∃ y, y = x.items[k]) := ⟨_, rfl⟩
      clear hr HY
      obtain ⟨y, hy⟩ : ∃ y, y = x.items[k] := ⟨_, rfl⟩
      rw [← hy] at TA c0 c1 c2 c3 c4
      have HY := Lib.hid hy
      clear hy
      go_wp2_with fail
      refine TA.out.mono ?_
      rintro e w3 ⟨rfl, hB⟩
      have HN : Hid (AN W1 W1.heap.size w3 vo A) := HM.out.1.on hB
      clear hB TA c0 c1 c2 c3 c4 x0 x1 x2 x3 x4
      cases hp : paA y
      case none =>
        have HNO : Hid (jdO j = none) := by show _ = _; rw [HO.out, atomsO_none hlt (by rw [← HY.out]; exact hp)]
        simp only [Option.getD_none, Option.isSome_none, atZ]
        clear hp HM
        go_wp2_with fail
        go_ret2
        exact TdAns.no HNO.out (((HB1.out.1.trans (HN.out.bel.mono HB1.out.1.size)).alloc (Nat.le_trans HB1.out.1.size HN.out.bel.size) _).alloc (by have := Nat.le_trans HB1.out.1.size HN.out.bel.size; simp; omega) _) _ _
      case some a =>
        have HAL : Hid (AllA x.items (k + 1) (A ++ [a]) ∧ A.length ≤ 1048576 ∧ vo ≠ .slice none 0 0) := ⟨HM.out.2.1.push hlt (by rw [← HY.out]; exact hp), by rw [HM.out.2.1.1]; omega, HM.out.2.2⟩
        simp only [Option.getD_some, Option.isSome_some]
        clear hp HM HY
        go_upto_region 10 with fail
        obtain ⟨q3, hq3⟩ : ∃ n, n = w3.heap.size := ⟨_, rfl⟩
        have HN2 : Hid (AN W1 W1.heap.size (w3.alloc (.cells #[.int .i64 a.k, .int .i64 a.n, .string ⟨a.t.toArray⟩] 31)) vo A ∧ (w3.alloc (.cells #[.int .i64 a.k, .int .i64 a.n, .string ⟨a.t.toArray⟩] 31)).heap[q3]? = some (.cells #[.int .i64 a.k, .int .i64 a.n, .string ⟨a.t.toArray⟩] 31)) := ⟨HN.out.on ((Below.refl _ _).alloc (Nat.le_refl _) _), heap_new' _ _ hq3⟩
        rw [← hq3]
        obtain ⟨W4, hW4⟩ : ∃ W, W = (w3.alloc (.cells #[.int .i64 a.k, .int .i64 a.n, .string ⟨a.t.toArray⟩] 31)) := ⟨_, rfl⟩
        rw [← hW4] at HN2 ⊢
        clear hW4 hq3 HN
        have g0 := cell_at (o := 0) HN2.out.2 rfl
        have g1 := cell_at (o := 1) HN2.out.2 rfl
        have g2 := cell_at (o := 2) HN2.out.2 rfl
        go_wp2_with (at_builtin; refine wpList_apush rfl (.tmp 49) (.tmp 51) rfl W1.heap.size vo A [a] ⟨W4.heap.size, 0, none⟩ 1 1 rfl rfl rfl (HN2.out.1.buf.on ((Below.refl _ _).alloc (Nat.le_refl _) _)) (by have := HN2.out.1.le; simp; omega) (by have := HAL.out.2.1; simp; omega) HAL.out.2.2 (news_one _ _ _) ?_; intro v2 w5 hb2 ha2 hv2; have HV2 := Lib.hid hv2; have H5 : Hid (AN W1 W1.heap.size w5 v2 (A ++ [a])) := (HN2.out.1.on ((Below.refl _ _).alloc (Nat.le_refl _) _)).push hb2 ha2; clear hb2 ha2 hv2)
        go_roundw
        case rel => exact ⟨k + 1, A ++ [a], v2, by omega, by go_num, rfl, H5.out, HAL.out.1, HV2.out⟩
        case measure => simp [intOf]; omega
    have hkd : decide ((k : Int) < (x.items.length : Int)) = false := by simp; omega
    obtain rfl : k = x.items.length := by omega
    have HAO : Hid (atomsO x.items = some A ∧ A.length ≤ 1048576 ∧ ∀ z ∈ A, z.t.length ≤ maxLen) := ⟨HM.out.2.1.done, by rw [HM.out.2.1.1]; omega, fun z hz => by obtain ⟨y, hy, e⟩ := HM.out.2.1.mem (Nat.le_refl _) z hz; exact pa_txt (HXR.out.1.item hy) e⟩
    obtain ⟨g, vc, rfl, ho⟩ := HM.out.1.buf.some HM.out.2.2
    have HOA := Lib.hid ho
    clear ho
    go_wp2_with fail
    refine (datumOfS A g 0 vc wr.heap.size wr HAO.out.2.1 HAO.out.2.2 (Nat.le_refl _) (HOA.out.ats.same (fun _ _ => rfl) (fun b hb => hb.2))).mono ?_
    rintro e w6 ⟨pa, ca, rfl, ho6, hB6⟩
    have HF : Hid (OwnAts w6 (fun c => w.heap.size ≤ c ∧ c < w6.heap.size) pa (ofR A) ∧ Below w.heap.size w w6) := by
      have h1 := Nat.le_trans HB1.out.1.size HM.out.1.bel.size
      exact ⟨ho6.same (fun _ _ => rfl) (fun b hb => ⟨Nat.le_trans h1 hb.1, hb.2⟩), (HB1.out.1.trans (HM.out.1.bel.mono HB1.out.1.size)).trans (hB6.mono h1)⟩
    have hbx := heap_kept2 (heap_kept2 HB1.out.2.2.1 HM.out.1.bel) hB6
    clear ho6 HOA HM x0 x1 x2 x3 x4
    have x0 := cell_at (o := 0) hbx rfl
    have x1 := cell_at (o := 1) hbx rfl
    have x2 := cell_at (o := 2) hbx rfl
    have x3 := cell_at (o := 3) hbx rfl
    have x4 := cell_at (o := 4) hbx rfl
    clear hbx hB6
    obtain ⟨n, hn⟩ : ∃ n, n = ofC A := ⟨_, rfl⟩
    rw [← hn]
    have HR : Hid (jdO j = if x.k = 4 ∧ n = 0 then some (ofR A) else none) := by show _ = _; rw [HO.out, HAO.out.1, hn]
    clear hn
    generalize ofR A = R at *
    by_cases h4 : x.k = 4
    case neg =>
      have e4 : (x.k == 4) = false := by simpa using h4
      have HRR : Hid (jdO j = none) := by show _ = _; rw [HR.out, if_neg (fun h => h4 h.1)]
      clear h4
      go_wp2_with fail
      go_ret2
      exact ⟨R, pa, ca, false, rfl, HF.out.1, HRR.out, HF.out.2⟩
    have e4 : (x.k == 4) = true := by rw [h4]; rfl
    have HRR : Hid (jdO j = if (n == 0) = true then some R else none) := by show _ = _; rw [HR.out]; by_cases h0 : n = 0 <;> simp [h4, h0]
    clear h4
    go_wp2_with fail
    go_ret2
    exact ⟨R, pa, ca, n == 0, rfl, HF.out.1, HRR.out, HF.out.2⟩
end Go.Proofs.Ytkncpfhblciplaa
