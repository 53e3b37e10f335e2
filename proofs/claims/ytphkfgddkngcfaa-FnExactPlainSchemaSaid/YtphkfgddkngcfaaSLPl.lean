import Derived.Test.YtphkfgddkngcfaaSPl
namespace Go.Proofs.Ytphkfgddkngcfaa
open Go.RowKit
set_option linter.unusedSimpArgs false
def plL : List Tb := [plT 0, plT 1, plT 2]
theorem plL_at (i : Nat) (h : i < plL.length) : plL[i] = plT i := by
  have h3 : i < 3 := h
  match i, h3 with
  | 0, _ => rfl
  | 1, _ => rfl
  | 2, _ => rfl
theorem plL_ok : TbsOk plL := by
  refine ⟨by unfold maxLen plL; simp, fun t ht => ?_⟩
  simp only [plL, List.mem_cons, List.not_mem_nil, or_false] at ht
  rcases ht with rfl | rfl | rfl
  all_goals
    refine ⟨by unfold maxLen plT; simp, by unfold maxLen plT; simp, fun x hx => ?_, by unfold maxLen plT; simp⟩
    simp only [plT, List.mem_cons, List.not_mem_nil, or_false] at hx
    unfold Cl.ok maxLen
    first | (rcases hx with rfl | rfl | rfl <;> simp) | (rcases hx with rfl | rfl <;> simp)
theorem Rw.of_own {w : World} {c : Nat} {a : Option Addr} {n : Nat} {f g : Nat → Value} {P : Nat → Prop} (h : OwnRw w (· = c) a n f) (hP : P c) (hf : ∀ m, m < n → f m = g m) : Rw w P a n g := by
  rcases h with h | ⟨b, off, ha, hb, hc⟩
  · exact .inl h
  · have hb' : b = c := hb
    exact .inr ⟨b, off, ha, by rw [hb']; exact hP, fun m hm => by rw [(hc m hm).1, hf m hm]⟩
theorem OwnT.tabs {w : World} {A : Nat → Ad} {a : Option Addr} {rb : Nat} {cb ub : Nat → Nat} {P : Nat → Prop} (h : OwnT w 3 plT A a rb cb ub) (hP : ∀ b, InT 3 rb cb ub b → P b) : Tabs w P a plL A := by
  refine ⟨Rw.of_own h.row (hP rb (.inl rfl)) (fun m hm => ?_), fun i hi => ?_⟩
  · have hm' : m < 12 := hm
    have hi : m / 4 < plL.length := by show m / 4 < 3; omega
    have := tbF_at (l := plL) (A := A) (i := m / 4) (j := m % 4) hi (by omega)
    rw [Nat.div_add_mod', plL_at _ hi] at this
    rw [this]
    rfl
  · rw [plL_at i hi]
    have hi' : i < 3 := hi
    exact ⟨Rw.of_own (h.cols i hi') (hP _ (.inr ⟨i, hi', .inl rfl⟩)) (fun _ _ => rfl), Rw.of_own (h.ints i hi') (hP _ (.inr ⟨i, hi', .inr rfl⟩)) (fun _ _ => rfl)⟩
theorem OwnT.keep {w w' : World} {n : Nat} {T : Nat → Tb} {A : Nat → Ad} {a : Option Addr} {rb : Nat} {cb ub : Nat → Nat} (h : OwnT w n T A a rb cb ub) (hB : Below w.heap.size w w') (hin : ∀ b, InT n rb cb ub b → b < w.heap.size) : OwnT w' n T A a rb cb ub := by
  have hF : Frm (fun b => ¬ b < w.heap.size) w w' := Frm.of_below hB
  exact ⟨OwnRw.frm h.row hF (by have := hin rb (.inl rfl); omega), fun i hi => OwnRw.frm (h.cols i hi) hF (by have := hin (cb i) (.inr ⟨i, hi, .inl rfl⟩); omega), fun i hi => OwnRw.frm (h.ints i hi) hF (by have := hin (ub i) (.inr ⟨i, hi, .inr rfl⟩); omega)⟩
/-- what the law holds in memory -/
structure PlM (w W : World) (p1 p2 r1 r2 : Nat) (A1 A2 : Nat → Ad) (cb ub : Nat → Nat) (T : Nat → Tb) : Prop where
  x1 : W.heap[p1]? = some (.cells #[.slice (some ⟨r1, 0, none⟩) 3 3] 24)
  x2 : W.heap[p2]? = some (.cells #[.slice (some ⟨r2, 0, none⟩) 3 3] 24)
  sp : Tabs W (· < p1) (some ⟨r1, 0, none⟩) plL A1
  og : OwnT W 3 T A2 (some ⟨r2, 0, none⟩) r2 cb ub
  ap : Apart 3 r2 cb ub
  lo : ∀ b, InT 3 r2 cb ub b → p1 < b ∧ b < p2
  bel : Below w.heap.size w W
  old : w.heap.size ≤ p1
theorem PlM.later {w W W' : World} {p1 p2 r1 r2 : Nat} {A1 A2 : Nat → Ad} {cb ub : Nat → Nat} {T : Nat → Tb} (h : PlM w W p1 p2 r1 r2 A1 A2 cb ub T) (hB : Below W.heap.size W W') : PlM w W' p1 p2 r1 r2 A1 A2 cb ub T := by
  have hp := (Array.getElem?_eq_some_iff.1 h.x2).1
  exact ⟨heap_keptC h.x1 hB, heap_keptC h.x2 hB, h.sp.later hB, h.og.keep hB (fun b hb => by have := h.lo b hb; omega), h.ap, h.lo, h.bel.trans (hB.mono h.bel.size), h.old⟩
set_option maxRecDepth 100000 in
set_option maxHeartbeats 6400000 in
theorem lawPlain (w : World) :
    Calls Try.prog 3 #[] w fun e w' => e = .returned (.bool true) ∧ Below w.heap.size w w' := by
  have al : ∀ (V : World) (o : Obj), Below V.heap.size V (V.alloc o) := fun V o => (Below.refl _ _).alloc (Nat.le_refl _) _
  have EQ : Hid (∀ W q q' (P : Nat → Prop) (X Y : Nat → Ad), Tabs W (fun _ => True) q plL X → Tabs W P q' plL Y → Calls Try.prog 6 #[.agg #[.slice q 3 3], .agg #[.slice q' 3 3]] W fun e w' => e = .returned (.bool true) ∧ Below W.heap.size W w') := fun W q q' P X Y h h' => eqSchema plL q q' 3 3 X Y _ _ W plL_ok h h'
  have hk : kat plT 1 3 < 100000000000 := by decide
  obtain ⟨K, hK⟩ : ∃ K, K = kat plT 1 3 := ⟨_, rfl⟩
  have MK : Hid (∀ W A a rb cb ub, Apart 3 rb cb ub → OwnT W 3 plT A a rb cb ub → (∀ b, InT 3 rb cb ub b → b < W.heap.size) → Calls Try.prog 7 #[.agg #[.slice a 3 3], .int .i64 1] W fun e w' => e = .returned (.int .i64 (K : Nat)) ∧ OwnT w' 3 (mkTs plT 1) A a rb cb ub ∧ Frm (InT 3 rb cb ub) W w') := fun W A a rb cb ub h1 h2 h3 => by rw [hK]; exact markSchema 3 plT A a 3 1 rb cb ub W (by omega) (by omega) hk h1 h2 h3
  have HD : Hid (∀ W A a, RdT W 3 (mkTs plT 1) A a → Calls Try.prog 8 #[.agg #[.slice a 3 3], .int .i64 1] W fun e w' => e = .returned (.int .i64 (K : Nat)) ∧ Below W.heap.size W w') := fun W A a h => by rw [hK]; exact heldSchema 3 plT A a 3 1 W (by omega) (by omega) hk h
  have dK : decide ((K : Int) < 0) = false := by simp
  have nK : ((K : Int) != (K : Int)) = false := by simp
  have AL := Lib.hid al
  clear hk hK al
  go_enter Try.func3, Try.ntmps3
  go_wp2_with fail
  refine (plainS w).mono ?_
  rintro e w1 ⟨A1, r1, cb1, ub1, rfl, hO1, -, hin1, hB1⟩
  have M1 : Hid ((w1.alloc (.cells #[.slice (some ⟨r1, 0, none⟩) 3 3] 24)).heap[w1.heap.size]? = some (.cells #[.slice (some ⟨r1, 0, none⟩) 3 3] 24) ∧ Tabs (w1.alloc (.cells #[.slice (some ⟨r1, 0, none⟩) 3 3] 24)) (· < w1.heap.size) (some ⟨r1, 0, none⟩) plL A1 ∧ Below w.heap.size w (w1.alloc (.cells #[.slice (some ⟨r1, 0, none⟩) 3 3] 24))) := ⟨heap_newC _ _, (hO1.tabs (fun b hb => (hin1 b hb).2)).later (AL.out _ _), hB1.trans ((AL.out _ _).mono hB1.size)⟩
  have HOLD : Hid (w.heap.size ≤ w1.heap.size) := hB1.size
  clear hO1 hin1 hB1
  go_wp2_with fail
  refine (plainI _).mono ?_
  rintro e w2 ⟨A2, r2, cb, ub, rfl, hO2, hap, hin2, hB2⟩
  have M2 : Hid (PlM w (w2.alloc (.cells #[.slice (some ⟨r2, 0, none⟩) 3 3] 24)) w1.heap.size w2.heap.size r1 r2 A1 A2 cb ub plT) := by
    have hs : (w1.alloc (.cells #[.slice (some ⟨r1, 0, none⟩) 3 3] 24)).heap.size = w1.heap.size + 1 := by simp
    have hbb := AL.out w2 (.cells #[.slice (some ⟨r2, 0, none⟩) 3 3] 24)
    have hb2 : Below w.heap.size w w2 := M1.out.2.2.trans (hB2.mono M1.out.2.2.size)
    exact ⟨heap_keptC (heap_keptC M1.out.1 hB2) hbb, heap_newC _ _, (M1.out.2.1.later hB2).later hbb, hO2.keep hbb (fun b hb => (hin2 b hb).2), hap, fun b hb => by have := hin2 b hb; omega, hb2.trans (hbb.mono hb2.size), HOLD.out⟩
  clear hO2 hap hin2 hB2 M1
  generalize w1.heap.size = p1 at *
  have y1 := cell_at (o := 0) M2.out.x1 rfl
  have y2 := cell_at (o := 0) M2.out.x2 rfl
  obtain ⟨p2, hp2⟩ : ∃ p2, p2 = w2.heap.size := ⟨_, rfl⟩
  rw [← hp2] at M2 y2
  obtain ⟨V2, hV2⟩ : ∃ V2, V2 = w2.alloc (.cells #[.slice (some ⟨r2, 0, none⟩) 3 3] 24) := ⟨_, rfl⟩
  rw [← hV2] at M2 y1 y2
  have HV2 := Lib.hid (And.intro hV2 hp2)
  clear hV2 hp2 y1 y2
  have y1 := cell_at (o := 0) (by have := M2.out.x1; rw [HV2.out.1] at this; exact this) rfl
  have y2 := cell_at (o := 0) (by have := M2.out.x2; rw [HV2.out.1] at this; exact this) rfl
  rw [HV2.out.2] at y2
  go_wp2_with fail
  rw [← HV2.out.1]
  refine (EQ.out _ _ _ _ _ _ (M2.out.og.tabs (fun _ _ => trivial)) M2.out.sp).mono ?_
  rintro e w3 ⟨rfl, hB3⟩
  have M3 := Lib.hid (M2.out.later hB3)
  rw [← HV2.out.2]
  clear hB3 M2 y1 y2 HV2
  have y1 := cell_at (o := 0) M3.out.x1 rfl
  have y2 := cell_at (o := 0) M3.out.x2 rfl
  go_wp2_with fail
  refine (MK.out _ _ _ _ _ _ M3.out.ap M3.out.og (fun b hb => by have h1 := M3.out.lo b hb; have h2 := (Array.getElem?_eq_some_iff.1 M3.out.x2).1; omega)).mono ?_
  rintro e w4 ⟨rfl, hO4, hF4⟩
  have M4 : Hid (PlM w w4 p1 p2 r1 r2 A1 A2 cb ub (mkTs plT 1)) := by
    have h := M3.out
    have l1 := (Array.getElem?_eq_some_iff.1 h.x1).1
    have l2 := (Array.getElem?_eq_some_iff.1 h.x2).1
    have hp : p1 < p2 := by have := h.lo r2 (.inl rfl); omega
    refine ⟨by rw [hF4.block p1 l1 (fun hb => by have := h.lo _ hb; omega)]; exact h.x1, by rw [hF4.block p2 l2 (fun hb => by have := h.lo _ hb; omega)]; exact h.x2, h.sp.same (fun b hb => hF4.block b (by omega) (fun hb' => by have := h.lo _ hb'; omega)) (fun _ h => h), hO4, h.ap, h.lo, ?_, h.old⟩
    exact h.bel.trans (hF4.below h.bel.size (fun b hb hb' => by have h1 := h.lo _ hb'; have h2 := h.old; omega))
  clear hO4 hF4 M3 y1 y2 MK
  have y2 := cell_at (o := 0) M4.out.x2 rfl
  go_wp2_with fail
  refine (HD.out _ _ _ M4.out.og.rd).mono ?_
  rintro e w5 ⟨rfl, hB5⟩
  have M5 := Lib.hid (M4.out.later hB5)
  clear hB5 M4 y2
  go_wp2_with fail
  refine (plainI w5).mono ?_
  rintro e w6 ⟨A3, r3, cb3, ub3, rfl, hO6, -, -, hB6⟩
  have M6 : Hid (PlM w (w6.alloc (.cells #[.slice (some ⟨r3, 0, none⟩) 3 3] 24)) p1 p2 r1 r2 A1 A2 cb ub (mkTs plT 1) ∧ Tabs (w6.alloc (.cells #[.slice (some ⟨r3, 0, none⟩) 3 3] 24)) (fun _ => True) (some ⟨r3, 0, none⟩) plL A3) := ⟨(M5.out.later hB6).later (AL.out _ _), (hO6.tabs (fun _ _ => trivial)).later (AL.out _ _)⟩
  clear hO6 hB6 M5
  have y1 := cell_at (o := 0) M6.out.1.x1 rfl
  go_wp2_with fail
  refine (EQ.out _ _ _ _ _ _ M6.out.2 M6.out.1.sp).mono ?_
  rintro e w7 ⟨rfl, hB7⟩
  have M7 := Lib.hid (M6.out.1.later hB7)
  clear hB7 M6 y1
  have y2 := cell_at (o := 0) M7.out.x2 rfl
  go_wp2_with fail
  refine (HD.out _ _ _ M7.out.og.rd).mono ?_
  rintro e w8 ⟨rfl, hB8⟩
  have M8 := Lib.hid (M7.out.later hB8)
  clear hB8 M7 y2
  go_wp2_with fail
  go_ret
  exact ⟨rfl, M8.out.bel⟩
end Go.Proofs.Ytphkfgddkngcfaa
