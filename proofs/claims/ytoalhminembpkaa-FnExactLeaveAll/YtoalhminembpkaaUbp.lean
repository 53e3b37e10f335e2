import Derived.Test.YtoalhminembpkaaUbo
namespace Go.Proofs.Ytoalhminembpkaa
open Go.RowKit Go.MuLone
set_option linter.unusedSimpArgs false
set_option maxRecDepth 100000 in
set_option maxHeartbeats 3200000 in
theorem allI2 (base pb : Nat) (w W : World) (es : List LE) (v : Value) (hv : ∃ a n c, v = .slice a n c) (h : TW base pb w W 0 es v) :
    Calls Try.prog 48 #[.pointer (some ⟨pb, 0, none⟩)] W fun e w' => e = .returned v ∧ w' = (W.setCell ⟨pb, 0, none⟩ (.int .i32 1)).setCell ⟨pb, 0, none⟩ (.int .i32 0) := by
  have H1 := Lib.hid (h.st 1)
  have H2 := Lib.hid ((h.st 1).st 0)
  have h0 := h.c0
  have f0 := h.z0 0
  have x2 := H1.out.c2
  obtain ⟨va, vn, vc, rfl⟩ := hv
  go_enter_defers Try.func48, Try.ntmps48
  go_wp2_with (go_at_call 71; refine (lock_free muLib ⟨pb, 0, none⟩ _ h0 f0).mono ?_; rintro e w' ⟨rfl, rfl⟩)
  refine leaves_cons (f := 72) (args := #[.pointer (some ⟨pb, 0, none⟩)]) (by simp) (by simp [go_sem]) ?_
  refine (unlock_deferred muLib ⟨pb, 0, none⟩ .returning _ H1.out.c0 (H1.out.z0 0)).mono ?_
  rintro e u' w'' ⟨rfl, rfl, rfl⟩
  exact ⟨_, results_tmp rfl _ _ _, rfl, rfl⟩
theorem told_le {T : List ToV} (h1 : T.length ≤ 10) (h2 : ∀ x ∈ T, (0 ≤ x.se ∧ x.se ≤ 2) ∧ x.wd.length ≤ 40 ∧ x.tn.length ≤ 40) : (dToldS T).le maxLen ∧ (dToldS T).sz ≤ 100000000 := by
  refine ⟨Ls_le.2 ⟨by omega, by unfold maxLen; omega, fun i hi j hj => ?_⟩, ?_⟩
  · have hx := h2 _ (List.getElem_mem hi)
    rcases (by omega : j = 0 ∨ j = 1 ∨ j = 2) with rfl | rfl | rfl
    · exact iOK_ses hx.1
    · show T[i].wd.length ≤ maxLen
      have := hx.2.1; unfold maxLen; omega
    · show T[i].tn.length ≤ maxLen
      have := hx.2.2; unfold maxLen; omega
  · have h3 : sumN T.length (fun i => sumN 3 (fun j => (lsF dTold T i j).sz)) ≤ sumN T.length (fun _ => 80) := sumN_bound (fun i hi => by
      show 0 + (lsF dTold T i 0).sz + (lsF dTold T i 1).sz + (lsF dTold T i 2).sz ≤ 80
      rw [lsF_at hi]
      have hx := h2 _ (List.getElem_mem hi)
      have h4 : (dTold T[i] 0).sz = 0 := rfl
      have h5 : (dTold T[i] 1).sz = T[i].wd.length := rfl
      have h6 : (dTold T[i] 2).sz = T[i].tn.length := rfl
      have := hx.2.1; have := hx.2.2
      omega)
    rw [sumN_cst] at h3
    show T.length + sumN T.length (fun i => sumN 3 (fun j => (lsF dTold T i j).sz)) ≤ 100000000
    omega
theorem delQ_mem {q : List Int} {n m : Int} (h : m ∈ delQ q n) : m ∈ q := by
  unfold delQ at h
  rcases List.mem_append.1 h with h | h
  · exact List.mem_of_mem_take h
  · exact List.mem_of_mem_drop h
theorem delQ_len (q : List Int) (n : Int) : (delQ q n).length ≤ q.length := by
  unfold delQ; rw [List.length_append, List.length_take, List.length_drop]; omega
end Go.Proofs.Ytoalhminembpkaa
