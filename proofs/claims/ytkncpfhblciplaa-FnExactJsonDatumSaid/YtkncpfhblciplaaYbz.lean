import Derived.Test.YtkncpfhblciplaaYby
import Derived.Test.YtkncpfhblciplaaYbd
namespace Go.Proofs.Ytkncpfhblciplaa
open Go.RowKit
set_option linter.unusedSimpArgs false
theorem jdR_len (j : J) : (jdR j).1.length ≤ 8 := by
  unfold jdR
  split
  · cases h : jdO j with
    | none => simp
    | some A =>
      by_cases hs : isSet j
      · rw [jdO_set hs] at h
        cases h2 : atomsO (it1 j).items with
        | none => rw [h2] at h; cases h
        | some R =>
          rw [h2] at h
          simp only at h
          split at h
          · cases h; exact ofR_len R
          · cases h
      · rw [jdO_one hs] at h
        cases h2 : paA j with
        | none => rw [h2] at h; cases h
        | some a => rw [h2] at h; cases h; simp
  · simp
theorem RJ.lt {W : World} {j : J} {cs : List Value} {B : Nat → Prop} (h : RJ W B j cs) : RJ W (· < W.heap.size) j cs := RJ.same (fun _ _ => rfl) (fun _ hb => hb.2) j cs (RJ.inside j cs h)
structure MemD (w W : World) (j X : J) (A G : List At) (cs csX : List Value) (pw pg : Option Addr) (s1 s2 s3 s4 : Nat) : Prop where
  arg : RJ w (· < w.heap.size) j cs
  bel : Below w.heap.size w W
  gs : W.heap[w.heap.size]? = some (.cells cs.toArray 38)
  rw_ : Ats W (· < s1) pw A
  ox : OwnJ W X (fun b => s1 ≤ b ∧ b < s2) csX
  gx : W.heap[s2]? = some (.cells csX.toArray 28)
  og : OwnAts W (fun b => s3 ≤ b ∧ b < s4) pg G
  ord : w.heap.size < s1 ∧ s1 ≤ s2 ∧ s2 < s3 ∧ s3 ≤ s4 ∧ s4 ≤ W.heap.size
variable {w W W' : World} {j X : J} {A G : List At} {cs csX : List Value} {pw pg : Option Addr} {s1 s2 s3 s4 : Nat}
theorem MemD.now (h : MemD w W j X A G cs csX pw pg s1 s2 s3 s4) : RJ W (· < w.heap.size) j cs := h.arg.below h.bel
theorem MemD.later (h : MemD w W j X A G cs csX pw pg s1 s2 s3 s4) (hB : Below W.heap.size W W') : MemD w W' j X A G cs csX pw pg s1 s2 s3 s4 := by
  have ho := h.ord
  have hs := hB.size
  exact ⟨h.arg, h.bel.trans (hB.mono h.bel.size), heap_kept2 h.gs hB, h.rw_.same (fun b hb => hB.block b (by omega)) (fun _ h => h), OwnJ.same _ _ _ _ (fun b hb => hB.block b (by omega)) (fun _ h => h) h.ox, heap_kept2 h.gx hB, h.og.same (fun b hb => hB.block b (by omega)) (fun _ h => h), by omega⟩
theorem MemD.markx {X' : J} (h : MemD w W j X A G cs csX pw pg s1 s2 s3 s4) (hF : Frm (fun b => s1 ≤ b ∧ b < s2) W W') (hX : OwnJ W' X' (fun b => s1 ≤ b ∧ b < s2) csX) : MemD w W' j X' A G cs csX pw pg s1 s2 s3 s4 := by
  have ho := h.ord
  have hs := hF.size
  exact ⟨h.arg, h.bel.trans (hF.below h.bel.size (fun b hb => by omega)), (hF.block _ (by omega) (by omega)).trans h.gs, h.rw_.same (fun b hb => hF.block b (by omega) (by omega)) (fun _ h => h), hX, (hF.block _ (by omega) (by omega)).trans h.gx, h.og.same (fun b hb => hF.block b (by omega) (by omega)) (fun _ h => h), by omega⟩
theorem MemD.markg {G' : List At} (h : MemD w W j X A G cs csX pw pg s1 s2 s3 s4) (hF : Frm (fun b => s3 ≤ b ∧ b < s4) W W') (hG : OwnAts W' (fun b => s3 ≤ b ∧ b < s4) pg G') : MemD w W' j X A G' cs csX pw pg s1 s2 s3 s4 := by
  have ho := h.ord
  have hs := hF.size
  exact ⟨h.arg, h.bel.trans (hF.below h.bel.size (fun b hb => by omega)), (hF.block _ (by omega) (by omega)).trans h.gs, h.rw_.same (fun b hb => hF.block b (by omega) (by omega)) (fun _ h => h), OwnJ.same _ _ _ _ (fun b hb => hF.block b (by omega) (by omega)) (fun _ h => h) h.ox, (hF.block _ (by omega) (by omega)).trans h.gx, hG, by omega⟩
set_option maxRecDepth 100000 in
set_option maxHeartbeats 12800000 in
theorem lawJsonDatum (j : J) (cs : List Value) (w : World) (hr : RJ w (· < w.heap.size) j cs) :
    Calls Try.prog 6 #[.agg cs.toArray] w fun e w' => e = .returned (.bool true) ∧ Below w.heap.size w w' := by
  have HJ : Hid (RJ w (· < w.heap.size) j cs) := hr
  rw [RJ_eq] at hr
  obtain ⟨ka, kc, ia, ic, rfl, -⟩ := hr
  go_enter Try.func6, Try.ntmps6
  go_upto_region 1 with fail
  obtain ⟨W0, hW0⟩ : ∃ W, W = (w.alloc (.cells #[.int .i64 j.k, .int .i64 j.n, .string ⟨j.t.toArray⟩, .slice ka j.keys.length kc, .slice ia j.items.length ic] 38)) := ⟨_, rfl⟩
  have H0 : Hid (Below w.heap.size w W0 ∧ W0.heap[w.heap.size]? = some (.cells #[.int .i64 j.k, .int .i64 j.n, .string ⟨j.t.toArray⟩, .slice ka j.keys.length kc, .slice ia j.items.length ic] 38)) := by rw [hW0]; exact ⟨(Below.refl _ _).alloc (Nat.le_refl _) _, heap_new' _ _ rfl⟩
  rw [← hW0]
  clear hW0
  have x0 := cell_at (o := 0) H0.out.2 rfl
  have x1 := cell_at (o := 1) H0.out.2 rfl
  have x2 := cell_at (o := 2) H0.out.2 rfl
  have x3 := cell_at (o := 3) H0.out.2 rfl
  have x4 := cell_at (o := 4) H0.out.2 rfl
  go_wp2_with fail
  refine (szJson j _ 1048576 w.heap.size _ (by omega) (by omega) H0.out.1.size (HJ.out.below H0.out.1)).mono ?_
  rintro e w1 ⟨rfl, hB⟩
  have H1 : Hid (Below w.heap.size w w1 ∧ w1.heap[w.heap.size]? = some (.cells #[.int .i64 j.k, .int .i64 j.n, .string ⟨j.t.toArray⟩, .slice ka j.keys.length kc, .slice ia j.items.length ic] 38)) := ⟨H0.out.1.trans (hB.mono H0.out.1.size), heap_kept2 H0.out.2 hB⟩
  clear hB H0 x0 x1 x2 x3 x4
  by_cases hz : (1048576 : Int) - (j.sz : Int) < 0
  case pos =>
    rw [less_no hz]
    go_wp2_with fail
    go_ret
    exact ⟨rfl, H1.out.1⟩
  rw [less_yes (by omega)]
  have HZ : Hid (j.sz ≤ 1048576) := by show _ ≤ _; omega
  have x0 := cell_at (o := 0) H1.out.2 rfl
  have x1 := cell_at (o := 1) H1.out.2 rfl
  have x2 := cell_at (o := 2) H1.out.2 rfl
  have x3 := cell_at (o := 3) H1.out.2 rfl
  have x4 := cell_at (o := 4) H1.out.2 rfl
  go_wp2_with fail
  refine (toJson j _ w.heap.size _ H1.out.1.size HZ.out (HJ.out.below H1.out.1)).mono ?_
  rintro e w2 ⟨cs1, rfl, hJ, hB⟩
  have H2 : Hid (Below w.heap.size w w2 ∧ w2.heap[w.heap.size]? = some (.cells #[.int .i64 j.k, .int .i64 j.n, .string ⟨j.t.toArray⟩, .slice ka j.keys.length kc, .slice ia j.items.length ic] 38) ∧ RJ w2 (w1.heap.size ≤ ·) j cs1) := ⟨H1.out.1.trans (hB.mono H1.out.1.size), heap_kept2 H1.out.2 hB, hJ⟩
  clear hB hJ H1 x0 x1 x2 x3 x4
  go_wp2_with fail
  refine (jsonDatumS j cs1 _ _ HZ.out H2.out.2.2).mono ?_
  rintro e w3 ⟨pw, cw, rfl, ho, hB⟩
  have H3 : Hid (Below w.heap.size w w3 ∧ w3.heap[w.heap.size]? = some (.cells #[.int .i64 j.k, .int .i64 j.n, .string ⟨j.t.toArray⟩, .slice ka j.keys.length kc, .slice ia j.items.length ic] 38) ∧ Ats w3 (· < w3.heap.size) pw (jdR j).1) := ⟨H2.out.1.trans (hB.mono H2.out.1.size), heap_kept2 H2.out.2.1 hB, ho.ats.same (fun _ _ => rfl) (fun b hb => hb.2)⟩
  clear hB ho H2
  have x0 := cell_at (o := 0) H3.out.2.1 rfl
  have x1 := cell_at (o := 1) H3.out.2.1 rfl
  have x2 := cell_at (o := 2) H3.out.2.1 rfl
  have x3 := cell_at (o := 3) H3.out.2.1 rfl
  have x4 := cell_at (o := 4) H3.out.2.1 rfl
  go_wp2_with fail
  refine (toJsonO j _ w.heap.size _ H3.out.1.size HZ.out (HJ.out.below H3.out.1)).mono ?_
  rintro e w4 ⟨cs2, rfl, hO, hB⟩
  have HO := Lib.hid hO
  rw [OwnJ_eq] at hO
  obtain ⟨ka2, kc2, ia2, ic2, -, -, rfl, -⟩ := hO
  have hB5 : Below w4.heap.size w4 (w4.alloc (.cells #[.int .i64 j.k, .int .i64 j.n, .string ⟨j.t.toArray⟩, .slice ka2 j.keys.length kc2, .slice ia2 j.items.length ic2] 28)) := (Below.refl _ _).alloc (Nat.le_refl _) _
  have H5 : Hid (Below w.heap.size w (w4.alloc (.cells #[.int .i64 j.k, .int .i64 j.n, .string ⟨j.t.toArray⟩, .slice ka2 j.keys.length kc2, .slice ia2 j.items.length ic2] 28)) ∧ (w4.alloc (.cells #[.int .i64 j.k, .int .i64 j.n, .string ⟨j.t.toArray⟩, .slice ka2 j.keys.length kc2, .slice ia2 j.items.length ic2] 28)).heap[w.heap.size]? = some (.cells #[.int .i64 j.k, .int .i64 j.n, .string ⟨j.t.toArray⟩, .slice ka j.keys.length kc, .slice ia j.items.length ic] 38) ∧ Ats (w4.alloc (.cells #[.int .i64 j.k, .int .i64 j.n, .string ⟨j.t.toArray⟩, .slice ka2 j.keys.length kc2, .slice ia2 j.items.length ic2] 28)) (· < w3.heap.size) pw (jdR j).1 ∧ OwnJ (w4.alloc (.cells #[.int .i64 j.k, .int .i64 j.n, .string ⟨j.t.toArray⟩, .slice ka2 j.keys.length kc2, .slice ia2 j.items.length ic2] 28)) j (fun b => w3.heap.size ≤ b ∧ b < w4.heap.size) [.int .i64 j.k, .int .i64 j.n, .string ⟨j.t.toArray⟩, .slice ka2 j.keys.length kc2, .slice ia2 j.items.length ic2] ∧ (w4.alloc (.cells #[.int .i64 j.k, .int .i64 j.n, .string ⟨j.t.toArray⟩, .slice ka2 j.keys.length kc2, .slice ia2 j.items.length ic2] 28)).heap[w4.heap.size]? = some (.cells #[.int .i64 j.k, .int .i64 j.n, .string ⟨j.t.toArray⟩, .slice ka2 j.keys.length kc2, .slice ia2 j.items.length ic2] 28) ∧ w.heap.size < w3.heap.size ∧ w3.heap.size ≤ w4.heap.size) := ⟨(H3.out.1.trans (hB.mono H3.out.1.size)).trans (hB5.mono (Nat.le_trans H3.out.1.size hB.size)), heap_kept2 (heap_kept2 H3.out.2.1 hB) hB5, H3.out.2.2.same (fun b hb => (hB5.block b (Nat.lt_of_lt_of_le hb hB.size)).trans (hB.block b hb)) (fun _ h => h), OwnJ.same _ _ _ _ (fun b hb => hB5.block b hb.2) (fun _ h => h) HO.out, heap_new' _ _ rfl, (Array.getElem?_eq_some_iff.1 H3.out.2.1).1, hB.size⟩
  clear hB hB5 HO H3 x0 x1 x2 x3 x4
  go_upto_region 7 with fail
  obtain ⟨s1, hs1⟩ : ∃ n, n = w3.heap.size := ⟨_, rfl⟩
  obtain ⟨s2, hs2⟩ : ∃ n, n = w4.heap.size := ⟨_, rfl⟩
  rw [← hs2]
  obtain ⟨W5, hW5⟩ : ∃ W, W = (w4.alloc (.cells #[.int .i64 j.k, .int .i64 j.n, .string ⟨j.t.toArray⟩, .slice ka2 j.keys.length kc2, .slice ia2 j.items.length ic2] 28)) := ⟨_, rfl⟩
  rw [← hW5, ← hs1, ← hs2] at H5
  rw [← hW5]
  clear hW5 hs1 hs2
  have z0 := cell_at (o := 0) H5.out.2.2.2.2.1 rfl
  have z1 := cell_at (o := 1) H5.out.2.2.2.2.1 rfl
  have z2 := cell_at (o := 2) H5.out.2.2.2.2.1 rfl
  have z3 := cell_at (o := 3) H5.out.2.2.2.2.1 rfl
  have z4 := cell_at (o := 4) H5.out.2.2.2.2.1 rfl
  go_wp2_with fail
  refine (jsonDatumI j _ _ W5 HZ.out (OwnJ.rj _ _ _ H5.out.2.2.2.1)).mono ?_
  rintro e w6 ⟨pg, cg, rfl, ho, hB⟩
  have HLN := Lib.hid (jdR_len j)
  have M6 : Hid (MemD w w6 j j (jdR j).1 (jdR j).1 [.int .i64 j.k, .int .i64 j.n, .string ⟨j.t.toArray⟩, .slice ka j.keys.length kc, .slice ia j.items.length ic] [.int .i64 j.k, .int .i64 j.n, .string ⟨j.t.toArray⟩, .slice ka2 j.keys.length kc2, .slice ia2 j.items.length ic2] pw pg s1 s2 W5.heap.size w6.heap.size) := ⟨HJ.out, H5.out.1.trans (hB.mono H5.out.1.size), heap_kept2 H5.out.2.1 hB, H5.out.2.2.1.same (fun b hb => hB.block b (by have := H5.out.2.2.2.2.2.2; have := (Array.getElem?_eq_some_iff.1 H5.out.2.2.2.2.1).1; omega)) (fun _ h => h), OwnJ.same _ _ _ _ (fun b hb => hB.block b (by have := (Array.getElem?_eq_some_iff.1 H5.out.2.2.2.2.1).1; omega)) (fun _ h => h) H5.out.2.2.2.1, heap_kept2 H5.out.2.2.2.2.1 hB, ho, by have h1 := H5.out.2.2.2.2.2; have h2 := (Array.getElem?_eq_some_iff.1 H5.out.2.2.2.2.1).1; have h3 := hB.size; omega⟩
  clear ho hB H5 z0 z1 z2 z3 z4
  generalize W5.heap.size = s3 at *
  generalize w6.heap.size = s4 at *
  obtain ⟨R, hR⟩ : ∃ R, R = (jdR j).1 := ⟨_, rfl⟩
  obtain ⟨cc, hcc⟩ : ∃ c, c = (jdR j).2 := ⟨_, rfl⟩
  rw [← hR, ← hcc]
  rw [← hR] at M6 HLN
  have HRC : Hid (R = (jdR j).1 ∧ cc = (jdR j).2) := ⟨hR, hcc⟩
  clear hR hcc
  have ncc := neq_selfK cc
  have EQ : Hid (∀ (W : World) (A B : Nat → Prop) (a a' : Option Addr) (c c' : Nat), Ats W A a R → Ats W B a' R → Calls Try.prog 24 #[.slice a R.length c, .slice a' R.length c'] W fun e w' => e = .returned (.bool true) ∧ Below W.heap.size W w') := fun W A B a a' c c' h h' => eqAtoms R a a' c c' A B W (by have := HLN.out; unfold maxLen; omega) h h'
  go_wp2_with fail
  refine (EQ.out _ _ _ _ _ _ _ M6.out.og.ats M6.out.rw_).mono ?_
  rintro e w7 ⟨rfl, hB⟩
  have M7 := Lib.hid (M6.out.later hB)
  clear hB M6
  have x0 := cell_at (o := 0) M7.out.gs rfl
  have x1 := cell_at (o := 1) M7.out.gs rfl
  have x2 := cell_at (o := 2) M7.out.gs rfl
  have x3 := cell_at (o := 3) M7.out.gs rfl
  have x4 := cell_at (o := 4) M7.out.gs rfl
  have z0 := cell_at (o := 0) M7.out.gx rfl
  have z1 := cell_at (o := 1) M7.out.gx rfl
  have z2 := cell_at (o := 2) M7.out.gx rfl
  have z3 := cell_at (o := 3) M7.out.gx rfl
  have z4 := cell_at (o := 4) M7.out.gx rfl
  have M7D := Lib.hid (M7.out.later (Below.refl _ _).drew)
  go_wp2_with fail
  go_region_with (first | (go_at_call 17; refine (toJson j _ w.heap.size _ M7D.out.bel.size HZ.out M7D.out.now).mono ?_; rintro e w8 ⟨cs3, rfl, hJ3, hB8⟩; have M8 := Lib.hid (M7D.out.later hB8); have HJ3 := Lib.hid hJ3; clear hJ3 hB8; have z0 := cell_at (o := 0) M8.out.gx rfl; have z1 := cell_at (o := 1) M8.out.gx rfl; have z2 := cell_at (o := 2) M8.out.gx rfl; have z3 := cell_at (o := 3) M8.out.gx rfl; have z4 := cell_at (o := 4) M8.out.gx rfl) | (go_at_call 12; refine (eqJson j _ _ (fun _ => True) (fun _ => True) _ (OwnJ.rj _ _ _ M8.out.ox).any HJ3.out.any).mono ?_; rintro e w9 ⟨rfl, hB9⟩; have M9 := Lib.hid (M8.out.later hB9); clear hB9))
  all_goals
    clear HJ3 M8 M7D M7 x0 x1 x2 x3 x4 z0 z1 z2 z3 z4
    have z0 := cell_at (o := 0) M9.out.gx rfl
    have z1 := cell_at (o := 1) M9.out.gx rfl
    have z2 := cell_at (o := 2) M9.out.gx rfl
    have z3 := cell_at (o := 3) M9.out.gx rfl
    have z4 := cell_at (o := 4) M9.out.gx rfl
    go_wp2_with fail
    refine (markJson j _ 1 _ _ (by omega) (mnT_lt HZ.out) (fun b hb => by have := M9.out.ord; omega) M9.out.ox).mono ?_
    rintro e w10 ⟨rfl, hO, hF⟩
    have M10 := Lib.hid (M9.out.markx hF hO)
    clear hO hF M9 z0 z1 z2 z3 z4
    generalize 1 + mnT j = k9 at *
    have d9 : decide ((k9 : Int) < 0) = false := by simp
    go_wp2_with (go_at_call 24; refine (EQ.out _ _ _ _ _ _ _ M10.out.og.ats M10.out.rw_).mono ?_; rintro e w11 ⟨rfl, hB11⟩; have M11 := Lib.hid (M10.out.later hB11); clear hB11; refine Hid.out ?_)
    refine Lib.hid ?_
    go_wp2_with fail
    refine (markAtoms R _ _ 1 _ _ (by have := HLN.out; unfold maxLen; omega) (by omega) (by have := HLN.out; omega) M11.out.og).mono ?_
    rintro e w12 ⟨rfl, hO, hF⟩
    have M12 := Lib.hid (M11.out.markg hF hO)
    have HB : Hid (1 + 3 * R.length < 1000000000000) := by have := HLN.out; show _ < _; omega
    clear hO hF M11 M10
    obtain ⟨n, hn⟩ : ∃ n, n = R.length := ⟨_, rfl⟩
    have HD : Hid (∀ W (A : Nat → Prop) a c, Ats W A a (marksA n 1) → Calls Try.prog 28 #[.slice a n c, .int .i64 1] W fun e w' => e = .returned (.int .i64 (1 + 3 * n : Nat)) ∧ Below W.heap.size W w') := fun W A a c h => heldAtoms n a c 1 A W (by omega) (by have := HB.out; omega) h
    rw [← hn] at M12 EQ ⊢
    have HN : Hid (n = R.length) := hn
    clear hn
    obtain ⟨k11, hk11⟩ : ∃ k : Nat, k = 1 + 3 * n := ⟨_, rfl⟩
    rw [← hk11] at HD ⊢
    have d11 : decide ((k11 : Int) < 0) = false := by simp
    have n11 := neq_selfK (k11 : Int)
    clear hk11
    go_wp2_with fail
    refine (HD.out _ _ _ _ M12.out.og.ats).mono ?_
    rintro e w13 ⟨rfl, hB⟩
    have M13 := Lib.hid (M12.out.later hB)
    clear hB M12
    have x0 := cell_at (o := 0) M13.out.gs rfl
    have x1 := cell_at (o := 1) M13.out.gs rfl
    have x2 := cell_at (o := 2) M13.out.gs rfl
    have x3 := cell_at (o := 3) M13.out.gs rfl
    have x4 := cell_at (o := 4) M13.out.gs rfl
    go_wp2_with fail
    refine (toJson j _ w.heap.size _ M13.out.bel.size HZ.out M13.out.now).mono ?_
    rintro e w14 ⟨cs4, rfl, hJ, hB⟩
    have M14 := Lib.hid (M13.out.later hB)
    have HJ4 := Lib.hid hJ
    clear hB hJ M13 x0 x1 x2 x3 x4
    go_wp2_with fail
    refine (jsonDatumI j cs4 _ _ HZ.out HJ4.out).mono ?_
    rintro e w15 ⟨ph, ch, rfl, ho, hB⟩
    rw [← HRC.out.1, ← HRC.out.2, ← HN.out]
    rw [← HRC.out.1] at ho
    have M15 := Lib.hid (M14.out.later hB)
    have O15 := Lib.hid ho.ats
    clear ho hB M14 HJ4
    go_wp2_with (go_at_call 24; refine (EQ.out _ _ _ _ _ _ _ O15.out M15.out.rw_).mono ?_; rintro e w16 ⟨rfl, hB16⟩; have M16 := Lib.hid (M15.out.later hB16); clear hB16; refine Hid.out ?_)
    refine Lib.hid ?_
    go_wp2_with fail
    refine (HD.out _ _ _ _ M16.out.og.ats).mono ?_
    rintro e w17 ⟨rfl, hB⟩
    have M17 := Lib.hid (M16.out.later hB)
    clear hB
    go_wp2_with fail
    go_ret
    exact ⟨rfl, M17.out.bel⟩
end Go.Proofs.Ytkncpfhblciplaa
