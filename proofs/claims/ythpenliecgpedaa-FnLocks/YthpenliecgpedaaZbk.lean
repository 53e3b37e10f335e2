import Derived.Test.YthpenliecgpedaaZbj
namespace Go.Proofs.Ythpenliecgpedaa
open Go.RowKit Go.MuLone
set_option linter.unusedSimpArgs false
set_option maxRecDepth 100000 in
set_option maxHeartbeats 3200000 in
theorem allI2 (base pb : Nat) (w W : World) (es : List LE) (v : Value) (hv : ∃ a n c, v = .slice a n c) (h : TW base pb w W 0 es v) :
    Calls Try.prog 26 #[.pointer (some ⟨pb, 0, none⟩)] W fun e w' => e = .returned v ∧ w' = (W.setCell ⟨pb, 0, none⟩ (.int .i32 1)).setCell ⟨pb, 0, none⟩ (.int .i32 0) := by
  have H1 := Lib.hid (h.st 1)
  have H2 := Lib.hid ((h.st 1).st 0)
  have h0 := h.c0
  have f0 := h.z0 0
  have x2 := H1.out.c2
  obtain ⟨va, vn, vc, rfl⟩ := hv
  go_enter_defers Try.func26, Try.ntmps26
  go_wp2_with (go_at_call 46; refine (lock_free muLib ⟨pb, 0, none⟩ _ h0 f0).mono ?_; rintro e w' ⟨rfl, rfl⟩)
  refine leaves_cons (f := 47) (args := #[.pointer (some ⟨pb, 0, none⟩)]) (by simp) (by simp [go_sem]) ?_
  refine (unlock_deferred muLib ⟨pb, 0, none⟩ .returning _ H1.out.c0 (H1.out.z0 0)).mono ?_
  rintro e u' w'' ⟨rfl, rfl, rfl⟩
  exact ⟨_, results_tmp rfl _ _ _, rfl, rfl⟩
theorem delQ_len (q : List Int) (n : Int) : (delQ q n).length ≤ q.length := by
  unfold delQ; rw [List.length_append, List.length_take, List.length_drop]; omega
set_option maxRecDepth 100000 in
set_option maxHeartbeats 6400000 in
theorem leaveLockI (l : List LkV) (n : Int) (s : List UInt8) (a : Option Addr) (c : Nat) (B : Nat → Prop) (w : World) (ho : (dLockS l).le maxLen) (hs : s.length ≤ maxLen) (hS : Rd w B (dLockS l) (.slice a l.length c)) :
    Calls Try.prog 12 #[.slice a l.length c, .int .i64 n, .string ⟨s.toArray⟩] w fun e w' => ∃ (ra : Option Addr) (rc : Nat) (ta : Option Addr) (tc : Nat) (G0 G1 : Nat → Prop), e = .returned (.tuple #[.slice ra (lvoR l n s).length rc, .slice ta (lvoT l n s).length tc, .int .i64 (lvoC l n s)]) ∧ Own w' (dLockS (lvoR l n s)) G0 (.slice ra (lvoR l n s).length rc) ∧ Own w' (dToldS (lvoT l n s)) G1 (.slice ta (lvoT l n s).length tc) ∧ (∀ b, G0 b ∨ G1 b → w.heap.size ≤ b ∧ b < w'.heap.size) ∧ (∀ b, G0 b → ¬ G1 b) ∧ Below w.heap.size w w' := by
  have D1 : Below w.heap.size w (w.alloc (.cells #[.string ⟨s.toArray⟩] 9)) := below_allocD _ _
  have CA : Hid (Calls Try.prog 23 #[.slice a l.length c, .int .i64 n, .slice (some ⟨w.heap.size, 0, none⟩) 1 1] (w.alloc (.cells #[.string ⟨s.toArray⟩] 9)) fun e w' => e = .returned (.int .i64 (askC l n s)) ∧ Below w.heap.size w w') := by
    have h1 := askI l n s a c (some ⟨w.heap.size, 0, none⟩) 1 1 B (w.alloc (.cells #[.string ⟨s.toArray⟩] 9)) ho hs (hS.later D1) (.inr ⟨rfl, w.heap.size, 0, rfl, cell_at (o := 0) (heap_newD _ _) rfl⟩)
    rw [ask_one] at h1
    exact h1.mono (fun e w' ⟨he, hB⟩ => ⟨he, D1.trans (hB.mono D1.size)⟩)
  by_cases h0 : askC l n s = 0
  case neg =>
    obtain ⟨r1, r2, r3⟩ := lv_no h0
    rw [r1, r2, r3]
    have hne : (askC l n s != 0) = true := by simpa using h0
    clear hS ho h0 r1 r2 r3 D1
    generalize askC l n s = r at *
    go_enter Try.func12, Try.ntmps12
    go_wp2_with (go_at_call 23; refine CA.out.mono ?_; rintro e w1 ⟨rfl, hB⟩)
    go_ret3
    exact ⟨none, 0, none, 0, fun _ => False, fun _ => False, rfl, ⟨none, 0, rfl, Nat.le_refl _, .inl rfl⟩, told_nil _ _ _ _, fun b h => h.elim False.elim False.elim, fun b h => h.elim, hB⟩
  have hp := (ask_zero h0).1
  obtain ⟨r1, r2, r3⟩ := lv_ok h0
  rw [r1, r2, r3]
  have CO : Hid (∀ W, Below w.heap.size w W → Calls Try.prog 24 #[.slice a l.length c] W fun e w' => ∃ pb es, e = .returned (.pointer (some ⟨pb, 0, none⟩)) ∧ lks es = l ∧ TW W.heap.size pb W w' 0 es (.slice (some ⟨W.heap.size, 0, none⟩) l.length l.length)) := fun W h => tabOfI l a c B W hp.len (lks_que hp) (Rd.later hS h)
  have HP := Lib.hid hp
  rw [h0] at CA
  clear hS ho h0 r1 r2 r3 hp D1
  go_enter Try.func12, Try.ntmps12
  go_wp2_with (first | (go_at_call 23; refine CA.out.mono ?_; rintro e w1 ⟨rfl, hB⟩; have HB := Lib.hid hB; clear hB) | (go_at_call 24; refine (CO.out _ HB.out).mono ?_; rintro e w2 ⟨pb, es, rfl, hes, hT⟩; have HES := Lib.hid hes; have HT := Lib.hid hT; clear hes hT))
  refine (leaveI w1.heap.size pb w1 w2 es l w1.heap.size l.length n s HES.out HP.out HT.out HT.out.bel.size (Nat.le_refl _)).mono ?_
  rintro e w3 ⟨es', a', c', ta, tc, rfl, hes', hT', hTO⟩
  have HES' := Lib.hid hes'
  have HT' := Lib.hid hT'
  have HTO := Lib.hid hTO
  clear hes' hT' hTO CO CA
  go_wp2_with fail
  refine (allI2 w1.heap.size pb w1 w3 es' (.slice a' (leaveL l n s).length c') ⟨_, _, _, rfl⟩ HT'.out).mono ?_
  rintro e w4 ⟨rfl, hw4⟩
  have HT4 : Hid (TW w1.heap.size pb w1 w4 0 es' (.slice a' (leaveL l n s).length c') ∧ w4.heap.size = w3.heap.size ∧ ∀ b, b ≠ pb → w4.heap[b]? = w3.heap[b]?) := by
    subst hw4
    exact ⟨(HT'.out.st 1).st 0, by simp [World.setCell], fun b hb => by rw [Below.heap_setCell _ ⟨pb, 0, none⟩ _ _ (by show b ≠ pb; exact hb), Below.heap_setCell _ ⟨pb, 0, none⟩ _ _ (by show b ≠ pb; exact hb)]⟩
  clear hw4
  go_wp2_with fail
  go_ret3
  obtain ⟨M, m1, m2, m3, m4, m5⟩ := HTO.out
  have hs4 := HT4.out.2.1
  have hb0 := HB.out.size
  refine ⟨a', c', ta, tc, fun b => w1.heap.size ≤ b ∧ b < M, fun b => M ≤ b ∧ b < w4.heap.size, rfl, ?_, ?_, fun b h => ?_, fun b h1 h2 => by have := h1.2; have := h2.1; omega, HB.out.trans (HT4.out.1.bel.mono HB.out.size)⟩
  · have h9 := HT4.out.1.tb.own2 m4
    rw [HES'.out] at h9
    exact h9
  · exact Own.same _ _ _ _ (fun b hb => HT4.out.2.2 b (by have := hb.1; omega)) (fun b hb => ⟨hb.1, by have := hb.2; omega⟩) m5
  · rcases h with h | h
    · have := h.1; have := h.2; omega
    · have := h.1; have := h.2; omega
end Go.Proofs.Ythpenliecgpedaa
