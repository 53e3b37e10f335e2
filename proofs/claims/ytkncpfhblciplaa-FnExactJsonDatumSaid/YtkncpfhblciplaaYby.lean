import Derived.Test.YtkncpfhblciplaaYbx
import Derived.Test.YtkncpfhblciplaaYbo
namespace Go.Proofs.Ytkncpfhblciplaa
open Go.RowKit
set_option linter.unusedSimpArgs false
set_option maxRecDepth 100000 in
set_option maxHeartbeats 6400000 in
theorem readDatumI (j : J) (cs : List Value) (B : Nat → Prop) (w : World) (hj : Rt j) (hz : j.sz ≤ 1048576) (hr : RJ w B j cs) :
    Calls Try.prog 60 #[.agg cs.toArray] w (TdAns j w) := by
  have HJ : Hid (RJ w B j cs) := hr
  have HZ := Lib.hid hz
  have HK := Lib.hid hj
  rw [RJ_eq] at hr
  obtain ⟨ka, kc, ia, ic, rfl, -⟩ := hr
  clear hz hj
  go_enter Try.func60, Try.ntmps60
  go_upto_region 1 with fail
  have hb := heap_new' w (.cells #[.int .i64 j.k, .int .i64 j.n, .string ⟨j.t.toArray⟩, .slice ka j.keys.length kc, .slice ia j.items.length ic] 28) rfl
  have HB0 : Hid (Below w.heap.size w (w.alloc (.cells #[.int .i64 j.k, .int .i64 j.n, .string ⟨j.t.toArray⟩, .slice ka j.keys.length kc, .slice ia j.items.length ic] 28)) ∧ (w.alloc (.cells #[.int .i64 j.k, .int .i64 j.n, .string ⟨j.t.toArray⟩, .slice ka j.keys.length kc, .slice ia j.items.length ic] 28)).heap[w.heap.size]? = some (.cells #[.int .i64 j.k, .int .i64 j.n, .string ⟨j.t.toArray⟩, .slice ka j.keys.length kc, .slice ia j.items.length ic] 28)) := ⟨(Below.refl _ _).alloc (Nat.le_refl _) _, hb⟩
  obtain ⟨W0, hW0⟩ : ∃ W, W = (w.alloc (.cells #[.int .i64 j.k, .int .i64 j.n, .string ⟨j.t.toArray⟩, .slice ka j.keys.length kc, .slice ia j.items.length ic] 28)) := ⟨_, rfl⟩
  rw [← hW0] at HB0 ⊢
  clear hW0 hb
  have x0 := cell_at (o := 0) HB0.out.2 rfl
  have x1 := cell_at (o := 1) HB0.out.2 rfl
  have x2 := cell_at (o := 2) HB0.out.2 rfl
  have x3 := cell_at (o := 3) HB0.out.2 rfl
  have x4 := cell_at (o := 4) HB0.out.2 rfl
  go_wp2_with fail
  refine (readCellI j _ B _ HK.out HZ.out (HJ.out.later HB0.out.1)).mono ?_
  rintro e w1 ⟨A, va, vc, na, nn, nc, b, rfl, ho, hd, hB⟩
  have h0 : Below w.heap.size w w1 := HB0.out.1.trans (hB.mono HB0.out.1.size)
  have H1 : Hid (Below w.heap.size w (w1.alloc (.cells #[.string ⟨#[]⟩, .slice va A.length vc, .slice na nn nc] 118)) ∧ OwnAts (w1.alloc (.cells #[.string ⟨#[]⟩, .slice va A.length vc, .slice na nn nc] 118)) (fun c => w.heap.size ≤ c ∧ c < (w1.alloc (.cells #[.string ⟨#[]⟩, .slice va A.length vc, .slice na nn nc] 118)).heap.size) va A ∧ (w1.alloc (.cells #[.string ⟨#[]⟩, .slice va A.length vc, .slice na nn nc] 118)).heap[w1.heap.size]? = some (.cells #[.string ⟨#[]⟩, .slice va A.length vc, .slice na nn nc] 118)) := ⟨h0.alloc h0.size _, (ho.later ((Below.refl _ _).alloc (Nat.le_refl _) _)).same (fun _ _ => rfl) (fun c hc => ⟨Nat.le_trans HB0.out.1.size hc.1, by simp; omega⟩), heap_new' _ _ rfl⟩
  have HD := Lib.hid hd
  clear h0 ho hd hB HB0 HJ HK HZ x0 x1 x2 x3 x4
  go_upto_region 2 with fail
  obtain ⟨q1, hq1⟩ : ∃ n, n = w1.heap.size := ⟨_, rfl⟩
  rw [← hq1] at H1 ⊢
  obtain ⟨W1, hW1⟩ : ∃ W, W = (w1.alloc (.cells #[.string ⟨#[]⟩, .slice va A.length vc, .slice na nn nc] 118)) := ⟨_, rfl⟩
  rw [← hW1] at H1 ⊢
  clear hW1 hq1
  have g0 := cell_at (o := 0) H1.out.2.2 rfl
  have g1 := cell_at (o := 1) H1.out.2.2 rfl
  have g2 := cell_at (o := 2) H1.out.2.2 rfl
  have HF : Hid (∀ bb : Bool, bb = (b && (nn == 0)) → ∀ W, Below W1.heap.size W1 W → TdAns j w (.returned (.tuple #[.slice va A.length vc, .bool bb])) W) := fun bb hbb W hW => ⟨A, va, vc, bb, rfl, (H1.out.2.1.later hW).same (fun _ _ => rfl) (fun c hc => ⟨hc.1, Nat.lt_of_lt_of_le hc.2 hW.size⟩), by rw [hbb]; exact HD.out, H1.out.1.trans (hW.mono H1.out.1.size)⟩
  clear HD
  cases b
  case false =>
    go_quiet (fail)
    go_wp2_with fail
    go_ret2
    refine HF.out false rfl _ ?_; exact ⟨rfl, rfl, rfl, Nat.le_refl _, fun _ _ => rfl⟩
  case true =>
    by_cases hn : nn = 0
    · subst hn
      go_quiet (fail)
      go_wp2_with fail
      go_ret2
      exact HF.out true rfl _ (by first | exact ⟨rfl, rfl, rfl, Nat.le_refl _, fun _ _ => rfl⟩)
    · have hn2 : ((nn : Int) == 0) = false := beq_eq_false_iff_ne.2 (by omega)
      go_quiet (fail)
      go_wp2_with fail
      go_ret2
      exact HF.out false (by simp [hn]) _ (by first | exact ⟨rfl, rfl, rfl, Nat.le_refl _, fun _ _ => rfl⟩)
set_option maxRecDepth 100000 in
set_option maxHeartbeats 6400000 in
theorem readAsDatum (j : J) (cs : List Value) (B : Nat → Prop) (w : World) (hz : j.sz ≤ 1048576) (hr : RJ w B j cs) :
    Calls Try.prog 59 #[.agg cs.toArray, .func (.func 60) #[] #[]] w (AAns2 w (jdR j).1 (jdR j).2) := by
  have HJ : Hid (RJ w B j cs) := hr
  have HZ := Lib.hid hz
  rw [RJ_eq] at hr
  obtain ⟨ka, kc, ia, ic, rfl, -⟩ := hr
  clear hz
  go_enter Try.func59, Try.ntmps59
  go_upto_region 1 with fail
  have hb := heap_new' w (.cells #[.int .i64 j.k, .int .i64 j.n, .string ⟨j.t.toArray⟩, .slice ka j.keys.length kc, .slice ia j.items.length ic] 28) rfl
  have HB0 : Hid (Below w.heap.size w (w.alloc (.cells #[.int .i64 j.k, .int .i64 j.n, .string ⟨j.t.toArray⟩, .slice ka j.keys.length kc, .slice ia j.items.length ic] 28)) ∧ (w.alloc (.cells #[.int .i64 j.k, .int .i64 j.n, .string ⟨j.t.toArray⟩, .slice ka j.keys.length kc, .slice ia j.items.length ic] 28)).heap[w.heap.size]? = some (.cells #[.int .i64 j.k, .int .i64 j.n, .string ⟨j.t.toArray⟩, .slice ka j.keys.length kc, .slice ia j.items.length ic] 28)) := ⟨(Below.refl _ _).alloc (Nat.le_refl _) _, hb⟩
  obtain ⟨W0, hW0⟩ : ∃ W, W = (w.alloc (.cells #[.int .i64 j.k, .int .i64 j.n, .string ⟨j.t.toArray⟩, .slice ka j.keys.length kc, .slice ia j.items.length ic] 28)) := ⟨_, rfl⟩
  rw [← hW0] at HB0 ⊢
  clear hW0 hb
  have x0 := cell_at (o := 0) HB0.out.2 rfl
  have x1 := cell_at (o := 1) HB0.out.2 rfl
  have x2 := cell_at (o := 2) HB0.out.2 rfl
  have x3 := cell_at (o := 3) HB0.out.2 rfl
  have x4 := cell_at (o := 4) HB0.out.2 rfl
  go_wp2_with fail
  refine (jsonOK j _ B _ (HJ.out.later HB0.out.1)).mono ?_
  rintro e w1 ⟨rfl, hB⟩
  have HB1 : Hid (Below w.heap.size w w1 ∧ w1.heap[w.heap.size]? = some (.cells #[.int .i64 j.k, .int .i64 j.n, .string ⟨j.t.toArray⟩, .slice ka j.keys.length kc, .slice ia j.items.length ic] 28)) := ⟨HB0.out.1.trans (hB.mono HB0.out.1.size), heap_kept2 HB0.out.2 hB⟩
  clear hB HB0 x0 x1 x2 x3 x4
  have x0 := cell_at (o := 0) HB1.out.2 rfl
  have x1 := cell_at (o := 1) HB1.out.2 rfl
  have x2 := cell_at (o := 2) HB1.out.2 rfl
  have x3 := cell_at (o := 3) HB1.out.2 rfl
  have x4 := cell_at (o := 4) HB1.out.2 rfl
  cases hok : okB j
  case false =>
    have HP := Lib.hid (jdR_bad hok)
    clear hok HJ
    go_wp2_with fail
    go_ret2
    exact ans2 HP.out (.inl rfl) HB1.out.1
  have HK := Lib.hid hok
  have HP := Lib.hid (jdR_ok hok)
  clear hok
  have RD : Hid (Calls Try.prog 60 #[.agg #[.int .i64 j.k, .int .i64 j.n, .string ⟨j.t.toArray⟩, .slice ka j.keys.length kc, .slice ia j.items.length ic]] w1 (TdAns j w1)) := readDatumI j _ B _ (ok_rt HK.out) HZ.out (HJ.out.later HB1.out.1)
  go_wp2_with fail
  refine RD.out.mono ?_
  rintro e w2 ⟨A, va, vc, b, rfl, ho, hd, hB⟩
  have H2 : Hid (OwnAts w2 (fun c => w.heap.size ≤ c ∧ c < w2.heap.size) va A ∧ Below w.heap.size w w2) := ⟨ho.same (fun _ _ => rfl) (fun c hc => ⟨Nat.le_trans HB1.out.1.size hc.1, hc.2⟩), HB1.out.1.trans (hB.mono HB1.out.1.size)⟩
  have HD := Lib.hid hd
  clear ho hd hB HB1 HJ HK HZ RD x0 x1 x2 x3 x4
  cases b
  case false =>
    have HF : Hid (jdR j = ([], 3)) := by show _ = _; rw [HP.out, HD.out]; rfl
    go_wp2_with fail
    go_ret2
    exact ans2 HF.out (.inl rfl) H2.out.2
  have HF : Hid (jdR j = (A, 0)) := by show _ = _; rw [HP.out, HD.out]; rfl
  go_wp2_with fail
  go_ret2
  exact ans2 HF.out H2.out.1 H2.out.2
set_option maxRecDepth 100000 in
set_option maxHeartbeats 6400000 in
theorem jsonDatumI (j : J) (cs : List Value) (B : Nat → Prop) (w : World) (hz : j.sz ≤ 1048576) (hr : RJ w B j cs) :
    Calls Try.prog 27 #[.agg cs.toArray] w (AAns2 w (jdR j).1 (jdR j).2) := by
  have HJ : Hid (RJ w B j cs) := hr
  have HZ := Lib.hid hz
  rw [RJ_eq] at hr
  obtain ⟨ka, kc, ia, ic, rfl, -⟩ := hr
  clear hz
  go_enter Try.func27, Try.ntmps27
  go_upto_region 1 with fail
  have hb := heap_new' w (.cells #[.int .i64 j.k, .int .i64 j.n, .string ⟨j.t.toArray⟩, .slice ka j.keys.length kc, .slice ia j.items.length ic] 28) rfl
  have HB0 : Hid (Below w.heap.size w (w.alloc (.cells #[.int .i64 j.k, .int .i64 j.n, .string ⟨j.t.toArray⟩, .slice ka j.keys.length kc, .slice ia j.items.length ic] 28)) ∧ (w.alloc (.cells #[.int .i64 j.k, .int .i64 j.n, .string ⟨j.t.toArray⟩, .slice ka j.keys.length kc, .slice ia j.items.length ic] 28)).heap[w.heap.size]? = some (.cells #[.int .i64 j.k, .int .i64 j.n, .string ⟨j.t.toArray⟩, .slice ka j.keys.length kc, .slice ia j.items.length ic] 28)) := ⟨(Below.refl _ _).alloc (Nat.le_refl _) _, hb⟩
  obtain ⟨W0, hW0⟩ : ∃ W, W = (w.alloc (.cells #[.int .i64 j.k, .int .i64 j.n, .string ⟨j.t.toArray⟩, .slice ka j.keys.length kc, .slice ia j.items.length ic] 28)) := ⟨_, rfl⟩
  rw [← hW0] at HB0 ⊢
  clear hW0 hb
  have x0 := cell_at (o := 0) HB0.out.2 rfl
  have x1 := cell_at (o := 1) HB0.out.2 rfl
  have x2 := cell_at (o := 2) HB0.out.2 rfl
  have x3 := cell_at (o := 3) HB0.out.2 rfl
  have x4 := cell_at (o := 4) HB0.out.2 rfl
  go_wp2_with fail
  refine (readAsDatum j _ B _ HZ.out (HJ.out.later HB0.out.1)).mono ?_
  rintro e w1 ⟨va, vc, rfl, ho, hB⟩
  have H1 : Hid (OwnAts w1 (fun c => w.heap.size ≤ c ∧ c < w1.heap.size) va (jdR j).1 ∧ Below w.heap.size w w1) := ⟨ho.same (fun _ _ => rfl) (fun c hc => ⟨Nat.le_trans HB0.out.1.size hc.1, hc.2⟩), HB0.out.1.trans (hB.mono HB0.out.1.size)⟩
  clear ho hB HB0 HJ HZ x0 x1 x2 x3 x4
  have HP : Hid (jdR j = ((jdR j).1, (jdR j).2)) := rfl
  generalize (jdR j).1 = A at *
  generalize (jdR j).2 = n at *
  go_wp2_with fail
  go_ret2
  exact ⟨va, vc, rfl, H1.out.1, H1.out.2⟩
end Go.Proofs.Ytkncpfhblciplaa
namespace Go.Proofs.Ytkncpfhblciplaa
open Go.RowKit
set_option linter.unusedSimpArgs false
theorem RJ.any {w : World} {B : Nat → Prop} {j : J} {cs : List Value} (h : RJ w B j cs) : RJ w (fun _ => True) j cs := RJ.same (fun _ _ => rfl) (fun _ _ => trivial) j cs h
theorem mnT_lt {j : J} (h : j.sz ≤ 1048576) : 1 + mnT j < 1000000000000 := by
  have h1 := mn_le j
  rw [mn_eq] at h1
  unfold mnT
  omega
variable {w W W' : World} {j A X' G' : J} {a0 x0 g0 : Nat} {cs csA csX csG : List Value}
end Go.Proofs.Ytkncpfhblciplaa
