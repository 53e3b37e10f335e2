import Derived.Test.YtpigpidfpafcgaaZbx
import Derived.Test.YtpigpidfpafcgaaZbg
namespace Go.Proofs.Ytpigpidfpafcgaa
open Go.RowKit
set_option linter.unusedSimpArgs false
set_option maxRecDepth 100000 in
set_option maxHeartbeats 3200000 in
theorem mkDMut (x : MutV) (a2 : Option Addr) (c2 : Nat) (k : Nat) (B2 : Nat → Prop) (w : World) (l2 : (dAtomS x.val).le maxLen) (h0 : 0 < k) (h1 : k + (dAtomS x.val).wd < 100000000000) (o2 : Own w (dAtomS x.val) B2 (.slice a2 x.val.length c2)) :
    Calls Try.prog 15 #[.agg #[.string ⟨x.col.toArray⟩, .int .i64 x.fn, .slice a2 x.val.length c2], .int .i64 k] w fun e w' => e = .returned (.int .i64 (k + (dAtomS x.val).wd : Nat)) ∧ (Own w' ((dAtomS x.val).mkd (k)) B2 (.slice a2 x.val.length c2)) ∧ Frm (fun b => B2 b) w w' := by
  have hx := boxD 37 w #[.string ⟨x.col.toArray⟩, .int .i64 x.fn, .slice a2 x.val.length c2]
  have F0 : Hid (Frm (fun b => B2 b) w (w.alloc (.cells #[.string ⟨x.col.toArray⟩, .int .i64 x.fn, .slice a2 x.val.length c2] 37))) := Frm.of_below (below_allocD _ _)
  have O2 := Lib.hid (o2.later hx.2)
  have HX0 := Lib.hid hx
  have x0 := cell_at (o := 0) hx.1 rfl
  have x1 := cell_at (o := 1) hx.1 rfl
  have x2 := cell_at (o := 2) hx.1 rfl
  have L2 := Lib.hid l2
  have HB := Lib.hid (And.intro h0 h1)
  clear hx h0 h1 o2 l2
  go_enter Try.func15, Try.ntmps15
  go_wp2_with fail
  refine (mkDAtomS x.val a2 c2 (k) B2 _ L2.out (by have := HB.out; omega) (by have := HB.out; omega) O2.out).mono ?_
  rintro e v2 ⟨rfl, p2, f2⟩
  have Q2 := Lib.hid p2
  have F3 : Hid (Frm (fun b => B2 b) w v2) := F0.out.trans (f2.mono (fun b h => h))
  clear p2 f2 F0
  obtain ⟨b2, hb2⟩ : ∃ y : Nat, y = k + (dAtomS x.val).wd := ⟨_, rfl⟩
  go_wp2_with fail
  go_ret
  exact ⟨rfl, Q2.out, F3.out⟩
end Go.Proofs.Ytpigpidfpafcgaa
