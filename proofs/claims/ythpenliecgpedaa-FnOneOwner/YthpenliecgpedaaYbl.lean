import Derived.Test.YthpenliecgpedaaYbk
namespace Go.Proofs.Ythpenliecgpedaa
open Go.RowKit Go.MuLone
set_option linter.unusedSimpArgs false
set_option maxRecDepth 100000 in
set_option maxHeartbeats 3200000 in
theorem allI2 (base pb : Nat) (w W : World) (es : List LE) (v : Value) (hv : ∃ a n c, v = .slice a n c) (h : TW base pb w W 0 es v) :
    Calls Try.prog 26 #[.pointer (some ⟨pb, 0, none⟩)] W fun e w' => e = .returned v ∧ w' = (W.setCell ⟨pb, 0, none⟩ (.int .i32 1)).setCell ⟨pb, 0, none⟩ (.int .i32 0) := by
  have H1 := Lib.hid (h.st 1)
  have H2 := Lib.hid ((h.st 1).st 0)
  have h0 := h.c0
  have f0 := h.z0 0
  have x2 := H1.out.c2
  obtain ⟨va, vn, vc, rfl⟩ := hv
  go_enter_defers Try.func26, Try.ntmps26
  go_wp2_with (go_at_call 46; refine (lock_free muLib ⟨pb, 0, none⟩ _ h0 f0).mono ?_; rintro e w' ⟨rfl, rfl⟩)
  refine leaves_cons (f := 47) (args := #[.pointer (some ⟨pb, 0, none⟩)]) (by simp) (by simp [go_sem]) ?_
  refine (unlock_deferred muLib ⟨pb, 0, none⟩ .returning _ H1.out.c0 (H1.out.z0 0)).mono ?_
  rintro e u' w'' ⟨rfl, rfl, rfl⟩
  exact ⟨_, results_tmp rfl _ _ _, rfl, rfl⟩
theorem delQ_len (q : List Int) (n : Int) : (delQ q n).length ≤ q.length := by
  unfold delQ; rw [List.length_append, List.length_take, List.length_drop]; omega
end Go.Proofs.Ythpenliecgpedaa
